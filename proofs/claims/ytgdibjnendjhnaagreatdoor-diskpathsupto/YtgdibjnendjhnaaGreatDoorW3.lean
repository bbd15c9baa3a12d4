import Derived.Test.YtgdibjnendjhnaaGreatDoorProg
import Derived.Test.YtgdibjnendjhnaaGreatDoorPlain
import Derived.Test.YtgdibjnendjhnaaGreatDoorFrame
import Derived.WalkKit
import Derived.WalkSpells
import Derived.WalkLawsBesides
import Derived.MapKept
import Derived.Maps.Keyed
namespace Go.Proofs.YtgdibjnendjhnaaGreatDoor
open Go.RowKit
def nbI (b : Int) : Bool := (decide (97 ≤ b) && decide (b ≤ 122)) || (decide (48 ≤ b) && decide (b ≤ 57)) || b == 45 || b == 95 || b == 46
theorem ret_bool {a b : Bool} (h : a = b) : Ending.returned (.bool a) = .returned (.bool b) := by rw [h]
set_option maxHeartbeats 400000 in
theorem nameByte (b : Int) (w : World) (h0 : 0 ≤ b) (h1 : b < 256) :
    Calls Tryz.prog 115 #[.int .u8 b] w fun e w' => e = .returned (.bool (nbI b)) ∧ w' = w := by
  go_enter Tryz.func115, Tryz.ntmps115
  go_wp2
  all_goals
    go_ret
    refine ⟨ret_bool ?_, rfl⟩
    rw [Bool.eq_iff_iff]
    simp [nbI]
    try omega
set_option maxHeartbeats 400000 in
set_option maxRecDepth 100000 in
theorem none_no (b : Nat) (m : Nat) (w : World) (h : w.cell? ⟨b, 14, none⟩ = some (.map (some m))) :
    Calls Tryz.prog 53 #[.pointer (some ⟨b, 0, none⟩)] w fun e w' => e = .returned (.bool false) ∧ w' = w := by
  have hn := fun w r => run_eql_map_nil (P := Tryz.prog) w 83 _ _ r Tryz.underlying83
  go_enter Tryz.func53, Tryz.ntmps53
  go_wp2
  go_ret
  exact ⟨rfl, rfl⟩
set_option maxHeartbeats 400000 in
set_option maxRecDepth 100000 in
theorem ready_ok (b : Nat) (m : Nat) (w : World) (h : w.cell? ⟨b, 14, none⟩ = some (.map (some m))) (h5 : w.cell? ⟨b, 5, none⟩ = some (.bool false)) :
    Calls Tryz.prog 63 #[.pointer (some ⟨b, 0, none⟩)] w fun e w' => e = .returned (.int .i64 0) ∧ w' = w := by
  go_enter Tryz.func63, Tryz.ntmps63
  go_wp2_with (go_at_call 53; refine (none_no b m _ h).mono ?_; rintro e w' ⟨rfl, rfl⟩)
  go_ret
  exact ⟨rfl, rfl⟩
theorem check_place' (w : World) (e : Bool) (d : Int) (s : ByteArray) (n : Nat) : (Instr.checkKey e (n + 2) 105 (.agg #[.int .i64 d, .string s])).run Tryz.prog w = .ok () w := by
  have p0 : (part 3 #[Value.int .i64 d, Value.string s] 0).run Tryz.prog w = .ok (Value.int .i64 d) w := by kernel_rfl
  have p1 : (part 9 #[Value.int .i64 d, Value.string s] 1).run Tryz.prog w = .ok (Value.string s) w := by kernel_rfl
  have c0 := MapKept.run_checkKey (w := w) Tryz.underlying3 (k := .int .i64 d) (by simp [MapKept.IsKey]) e n
  have c1 := MapKept.run_checkKey (w := w) Tryz.underlying9 (k := .string s) (by simp [MapKept.IsKey]) e n
  rw [Instr.checkKey]
  simp [run_underlying Tryz.underlying105, p0, p1, c0, c1, Result.andThen]
theorem check_place (w : World) (e : Bool) (d : Int) (s : ByteArray) : (Instr.checkKey e 10000 105 (.agg #[.int .i64 d, .string s])).run Tryz.prog w = .ok () w := check_place' w e d s 9998
theorem zero103 (w : World) : (zeroValue 103).run Tryz.prog w = .ok (.agg #[.int .i64 0, .int .i64 0]) w := by kernel_rfl
/-- a look-up in an empty map whose keys are places -/
theorem look_empty (w : World) (m clock : Nat) (d : Int) (s : ByteArray) (h : w.heap[m]? = some (.map #[] clock)) :
    (Instr.lookup 78 (.map (some m)) (.agg #[.int .i64 d, .string s]) false).run Tryz.prog w = .ok (.agg #[.int .i64 0, .int .i64 0]) w := by
  simp [Instr.lookup, run_underlying Tryz.underlying78, MapKept.run_getObj_map h, check_place, Instr.findKey, run_underlying Tryz.underlying105, Instr.findNow, Result.andThen]
set_option maxHeartbeats 400000 in
set_option maxRecDepth 100000 in
theorem get_empty (m n clock : Nat) (d : Int) (s : ByteArray) (w : World) (hm : w.heap[m]? = some (.map #[] clock)) :
    Calls Tryz.prog 76 #[.agg #[.map (some m), .map (some n)], .int .i64 d, .string s] w fun e w' => e = .returned (.agg #[.int .i64 0, .int .i64 0]) ∧ Below w.heap.size w w' := by
  have hlt : m < w.heap.size := by
    rcases Nat.lt_or_ge m w.heap.size with h | h
    · exact h
    · rw [Array.getElem?_eq_none h] at hm; simp at hm
  have hl : ∀ o1 o2, (Instr.lookup 78 (.map (some m)) (.agg #[.int .i64 d, .string s]) false).run Tryz.prog ((w.alloc o1).alloc o2) = .ok (.agg #[.int .i64 0, .int .i64 0]) ((w.alloc o1).alloc o2) := fun o1 o2 =>
    look_empty _ m clock d s (by rw [Below.heap_alloc _ _ _ (by simp; omega), Below.heap_alloc _ _ _ hlt]; exact hm)
  clear hm
  go_enter Tryz.func76, Tryz.ntmps76
  go_wp2
  exact bodyPost_ret (v := .agg #[.int .i64 0, .int .i64 0]) (by simp [results, Tryz.results76, go_sem]) rfl ⟨rfl, ((Below.refl _ _).alloc (Nat.le_refl _) _).alloc (by simp) _⟩

theorem nbU (b : UInt8) : nb b = nbI b.toNat := by
  unfold nb nbI
  rw [Bool.eq_iff_iff]
  simp [UInt8.le_iff_toNat_le, ← UInt8.toNat_inj]
  omega
theorem nm_iff (l : List UInt8) (h1 : l ≠ []) (h2 : l.length ≤ 40) (h3 : l ≠ [46]) (h4 : l ≠ [46, 46]) : nm l = l.all nb := by
  unfold nm
  simp [h1, h2, h3, h4]
def allN (s : ByteArray) : Bool := s.data.toList.all nb
theorem take_snocB (s : ByteArray) (k : Nat) (h : k < s.size) : s.data.toList.take (k + 1) = s.data.toList.take k ++ [s[k]] := by
  rw [List.take_succ_eq_append_getElem (by simpa using h)]; rfl
theorem nb_bad (s : ByteArray) (k : Nat) (h : k < s.size) (hb : (!nbI (s[k].toNat : Int)) = true) : false = allN s := by
  unfold allN
  symm
  rw [List.all_eq_false]
  refine ⟨s[k], ?_, by rw [nbU]; simpa using hb⟩
  have : s[k] ∈ s.data.toList.take (k + 1) := by rw [take_snocB s k h]; simp
  exact List.mem_of_mem_take this
theorem nb_good (s : ByteArray) (k : Nat) (h : k < s.size) (ha : (s.data.toList.take k).all nb = true) (hb : (!nbI (s[k].toNat : Int)) = false) : (s.data.toList.take (k + 1)).all nb = true := by
  rw [take_snocB s k h, List.all_append, ha]
  simp [nbU]
  simpa using hb
set_option maxHeartbeats 1000000 in
set_option maxRecDepth 100000 in
theorem isName_loop (s : ByteArray) (w : World) (h1 : s.toList.isEmpty = false) (h2 : s.size ≤ 40) (h3 : (s.toList == [46]) = false) (h4 : (s.toList == [46, 46]) = false) :
    Calls Tryz.prog 88 #[.string s] w fun e w' => e = .returned (.bool (allN s)) ∧ w' = w := by
  go_enter Tryz.func88, Tryz.ntmps88
  go_wp2
  clear h1 h3 h4
  go_loop [21] (fun i => ∃ k : Nat, k ≤ s.size ∧ i = .int .i64 k ∧ (s.data.toList.take k).all nb = true) (fun i => s.size - (intOf i).toNat)
  case atStart => exact ⟨0, Nat.zero_le _, rfl, rfl⟩
  case round =>
    obtain ⟨k, hk, rfl, hall⟩ := hrel
    have HA : Hid ((s.data.toList.take k).all nb = true) := hall
    clear hall
    by_cases hlt : k < s.size
    · have hb : (s[k].toNat : Int) < 256 := by have := s[k].toNat_lt; omega
      have hb0 : (0 : Int) ≤ s[k].toNat := by omega
      go_wp2_with (go_at_call 115; refine (nameByte _ _ (by assumption) (by assumption)).mono ?_; rintro e w' ⟨rfl, rfl⟩)
      · go_ret
        exact ⟨ret_bool (nb_bad s k hlt (by assumption)), rfl⟩
      · exact ⟨⟨k + 1, by omega, by go_num, nb_good s k hlt HA.out (by assumption)⟩, by simp [intOf]; omega⟩
    · go_wp2
      go_ret
      exact ⟨ret_bool (by have := HA.out; rw [List.take_of_length_le (by simp; omega)] at this; unfold allN; exact this.symm), rfl⟩
set_option maxHeartbeats 1000000 in
set_option maxRecDepth 100000 in
theorem isName_empty (w : World) :
    Calls Tryz.prog 88 #[.string ⟨#[]⟩] w fun e w' => e = .returned (.bool false) ∧ w' = w := by
  have h1 : (ByteArray.mk #[]).toList.isEmpty = true := by decide +kernel
  go_enter Tryz.func88, Tryz.ntmps88
  go_wp2
  go_ret
  exact ⟨rfl, rfl⟩
set_option maxHeartbeats 1000000 in
set_option maxRecDepth 100000 in
theorem isName_long (s : ByteArray) (w : World) (h1 : s.toList.isEmpty = false) (h2 : 40 < s.size) :
    Calls Tryz.prog 88 #[.string s] w fun e w' => e = .returned (.bool false) ∧ w' = w := by
  go_enter Tryz.func88, Tryz.ntmps88
  go_wp2
  go_ret
  exact ⟨rfl, rfl⟩
set_option maxHeartbeats 1000000 in
set_option maxRecDepth 100000 in
theorem isName_dot (s : ByteArray) (w : World) (h1 : s.toList.isEmpty = false) (h2 : s.size ≤ 40) (h3 : (s.toList == [46]) = true) :
    Calls Tryz.prog 88 #[.string s] w fun e w' => e = .returned (.bool false) ∧ w' = w := by
  go_enter Tryz.func88, Tryz.ntmps88
  go_wp2
  go_ret
  exact ⟨rfl, rfl⟩
set_option maxHeartbeats 1000000 in
set_option maxRecDepth 100000 in
theorem isName_dots (s : ByteArray) (w : World) (h1 : s.toList.isEmpty = false) (h2 : s.size ≤ 40) (h3 : (s.toList == [46]) = false) (h4 : (s.toList == [46, 46]) = true) :
    Calls Tryz.prog 88 #[.string s] w fun e w' => e = .returned (.bool false) ∧ w' = w := by
  go_enter Tryz.func88, Tryz.ntmps88
  go_wp2
  go_ret
  exact ⟨rfl, rfl⟩
/-- isName, whole -/
theorem isName_any (s : ByteArray) (w : World) :
    Calls Tryz.prog 88 #[.string s] w fun e w' => e = .returned (.bool (nm s.data.toList)) ∧ w' = w := by
  have e0 := ByteArray.toList_eq s
  have hsz : s.size = s.data.toList.length := by simp
  by_cases h1 : s.data.toList = []
  · have : s = ⟨#[]⟩ := by
      cases s with
      | mk d => cases d with
        | mk l => simp at h1; subst h1; rfl
    subst this
    refine (isName_empty w).mono ?_
    rintro e w' ⟨rfl, rfl⟩
    exact ⟨ret_bool (by simp [nm]), rfl⟩
  · have g1 : s.toList.isEmpty = false := by rw [e0]; simpa using h1
    by_cases h2 : s.size ≤ 40
    · by_cases h3 : s.data.toList = [46]
      · refine (isName_dot s w g1 h2 (by rw [e0, h3]; rfl)).mono ?_
        rintro e w' ⟨rfl, rfl⟩
        exact ⟨ret_bool (by simp [nm, h3]), rfl⟩
      · have g3 : (s.toList == [46]) = false := by rw [e0]; simpa using h3
        by_cases h4 : s.data.toList = [46, 46]
        · refine (isName_dots s w g1 h2 g3 (by rw [e0, h4]; rfl)).mono ?_
          rintro e w' ⟨rfl, rfl⟩
          exact ⟨ret_bool (by simp [nm, h4]), rfl⟩
        · have g4 : (s.toList == [46, 46]) = false := by rw [e0]; simpa using h4
          rw [nm_iff _ h1 (by omega) h3 h4]
          exact isName_loop s w g1 h2 g3 g4
    · refine (isName_long s w g1 (by omega)).mono ?_
      rintro e w' ⟨rfl, rfl⟩
      refine ⟨ret_bool ?_, rfl⟩
      unfold nm
      rw [show decide (s.data.toList.length ≤ 40) = false by simp; omega]
      simp
end Go.Proofs.YtgdibjnendjhnaaGreatDoor
