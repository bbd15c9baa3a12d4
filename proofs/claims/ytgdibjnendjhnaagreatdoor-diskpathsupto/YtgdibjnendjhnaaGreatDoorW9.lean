import Derived.Test.YtgdibjnendjhnaaGreatDoorW5
namespace Go.Proofs.YtgdibjnendjhnaaGreatDoor
open Go.RowKit
set_option maxHeartbeats 2000000 in
set_option maxRecDepth 100000 in
theorem named_loop (s : ByteArray) (w : World) (h1 : 1 ≤ s.size) (h2 : s.size ≤ 40) (h3 : (s.toList == [46]) = false) (h4 : (s.toList == [46, 46]) = false) :
    Calls Tryz.prog 93 #[.string s] w fun e w' => e = .returned (.bool (allN s)) ∧ w' = w := by
  go_enter Tryz.func93, Tryz.ntmps93
  go_wp2
  clear h3 h4
  go_loop [3] (fun i => ∃ k : Nat, k ≤ s.size ∧ i = .int .i64 k ∧ (s.data.toList.take k).all nb = true) (fun i => s.size - (intOf i).toNat)
  case atStart => exact ⟨0, Nat.zero_le _, rfl, rfl⟩
  case round =>
    obtain ⟨k, hk, rfl, hall⟩ := hrel
    have HA : Hid ((s.data.toList.take k).all nb = true) := hall
    clear hall
    by_cases hlt : k < s.size
    · have hb : (s[k].toNat : Int) < 256 := by have := s[k].toNat_lt; omega
      have hb0 : (0 : Int) ≤ s[k].toNat := by omega
      by_cases h46 : (s[k].toNat : Int) = 46
      · have b1 : 46 ≤ (s[k].toNat : Int) := by omega
        have b2 : (s[k].toNat : Int) ≤ 46 := by omega
        have b3 : ((s[k].toNat : Int) == 46) = true := by rw [beq_iff_eq]; omega
        have b4 : ((s[k].toNat : Int) == 45) = false := by rw [beq_eq_false_iff_ne]; omega
        have b5 : ((s[k].toNat : Int) == 95) = false := by rw [beq_eq_false_iff_ne]; omega
        clear h46
        go_wp2
        exact ⟨⟨k + 1, by omega, by go_num, nb_good s k hlt HA.out (by simp [nbI]; omega)⟩, by simp [intOf]; omega⟩
      · have b3 : ((s[k].toNat : Int) == 46) = false := by rw [beq_eq_false_iff_ne]; omega
        have H46 := hide h46
        clear h46
        go_wp2
        all_goals first
          | (go_ret; refine ⟨ret_bool (nb_bad s k hlt ?_), rfl⟩; have := H46.out; simp [nbI]; omega)
          | (refine ⟨⟨k + 1, by omega, by go_num, nb_good s k hlt HA.out ?_⟩, by simp [intOf]; omega⟩; simp [nbI]; omega)
          | (exfalso; rename_i hh; have := H46.out; simp at hh; omega)
    · go_wp2
      go_ret
      exact ⟨ret_bool (by have := HA.out; rw [List.take_of_length_le (by simp; omega)] at this; unfold allN; exact this.symm), rfl⟩
set_option maxHeartbeats 400000 in
set_option maxRecDepth 100000 in
theorem named_empty (s : ByteArray) (w : World) (h1 : s.size = 0) :
    Calls Tryz.prog 93 #[.string s] w fun e w' => e = .returned (.bool false) ∧ w' = w := by
  go_enter Tryz.func93, Tryz.ntmps93
  go_wp2
  go_ret
  exact ⟨rfl, rfl⟩
set_option maxHeartbeats 400000 in
set_option maxRecDepth 100000 in
theorem named_long (s : ByteArray) (w : World) (h2 : 40 < s.size) (h3 : s.size ≤ 9223372036854775807) :
    Calls Tryz.prog 93 #[.string s] w fun e w' => e = .returned (.bool false) ∧ w' = w := by
  go_enter Tryz.func93, Tryz.ntmps93
  go_wp2
  go_ret
  exact ⟨rfl, rfl⟩
set_option maxHeartbeats 400000 in
set_option maxRecDepth 100000 in
theorem named_dot (s : ByteArray) (w : World) (h1 : 1 ≤ s.size) (h2 : s.size ≤ 40) (h3 : (s.toList == [46]) = true) :
    Calls Tryz.prog 93 #[.string s] w fun e w' => e = .returned (.bool false) ∧ w' = w := by
  go_enter Tryz.func93, Tryz.ntmps93
  go_wp2
  go_ret
  exact ⟨rfl, rfl⟩
set_option maxHeartbeats 400000 in
set_option maxRecDepth 100000 in
theorem named_dots (s : ByteArray) (w : World) (h1 : 1 ≤ s.size) (h2 : s.size ≤ 40) (h3 : (s.toList == [46]) = false) (h4 : (s.toList == [46, 46]) = true) :
    Calls Tryz.prog 93 #[.string s] w fun e w' => e = .returned (.bool false) ∧ w' = w := by
  go_enter Tryz.func93, Tryz.ntmps93
  go_wp2
  go_ret
  exact ⟨rfl, rfl⟩
/-- named, whole -/
theorem named_any (s : ByteArray) (w : World) (h63 : s.size ≤ 9223372036854775807) :
    Calls Tryz.prog 93 #[.string s] w fun e w' => e = .returned (.bool (nm s.data.toList)) ∧ w' = w := by
  have e0 := ByteArray.toList_eq s
  have hsz : s.size = s.data.toList.length := by simp
  by_cases h1 : s.data.toList = []
  · refine (named_empty s w (by rw [hsz, h1]; rfl)).mono ?_
    rintro e w' ⟨rfl, rfl⟩
    exact ⟨ret_bool (by simp [nm, h1]), rfl⟩
  · have g1 : 1 ≤ s.size := by
      rw [hsz]
      cases hl : s.data.toList with
      | nil => exact absurd hl h1
      | cons a t => simp
    by_cases h2 : s.size ≤ 40
    · by_cases h3 : s.data.toList = [46]
      · refine (named_dot s w g1 h2 (by rw [e0, h3]; rfl)).mono ?_
        rintro e w' ⟨rfl, rfl⟩
        exact ⟨ret_bool (by simp [nm, h3]), rfl⟩
      · have g3 : (s.toList == [46]) = false := by rw [e0]; simpa using h3
        by_cases h4 : s.data.toList = [46, 46]
        · refine (named_dots s w g1 h2 g3 (by rw [e0, h4]; rfl)).mono ?_
          rintro e w' ⟨rfl, rfl⟩
          exact ⟨ret_bool (by simp [nm, h4]), rfl⟩
        · have g4 : (s.toList == [46, 46]) = false := by rw [e0]; simpa using h4
          rw [nm_iff _ h1 (by omega) h3 h4]
          exact named_loop s w g1 h2 g3 g4
    · refine (named_long s w (by omega) h63).mono ?_
      rintro e w' ⟨rfl, rfl⟩
      refine ⟨ret_bool ?_, rfl⟩
      unfold nm
      rw [show decide (s.data.toList.length ≤ 40) = false by simp; omega]
      simp
set_option maxHeartbeats 400000 in
set_option maxRecDepth 100000 in
/-- find, in no entries -/
theorem find_none (a : Option Addr) (c : Nat) (x : ByteArray) (w : World) :
    Calls Tryz.prog 89 #[.slice a 0 c, .string x] w fun e w' => e = .returned (.int .i64 (-1)) ∧ w' = w := by
  go_enter Tryz.func89, Tryz.ntmps89
  go_wp2
  refine wp_loop_rounds 1 ?_
  rw [rounds_succ]
  go_wp2
  go_ret
  exact ⟨rfl, rfl⟩
end Go.Proofs.YtgdibjnendjhnaaGreatDoor
