import Derived.Test.YtaclbffacnoddaaGreatDoorPaRdr
namespace Go.Proofs.YtaclbffacnoddaaGreatDoor
open Go.RowKit Go.Shelf
def isDig (c : UInt8) : Bool := decide (48 ≤ c.toNat) && decide (c.toNat ≤ 57)
def valD (l : List UInt8) : Nat := l.foldl (fun n c => 10 * n + (c.toNat - 48)) 0
def zeroHd (l : List UInt8) : Bool := l.head? == some 48 && !(l == [48])
def numOk (l : List UInt8) : Bool := !l.isEmpty && decide (l.length ≤ 16) && !zeroHd l && l.all isDig
def numV (l : List UInt8) : Nat := if numOk l then valD l else 0
theorem valD_snoc (l : List UInt8) (c : UInt8) : valD (l ++ [c]) = 10 * valD l + (c.toNat - 48) := by unfold valD; rw [List.foldl_append]; rfl
theorem valD_lt (s : List UInt8) : ∀ k, k ≤ s.length → (s.take k).all isDig = true → valD (s.take k) < 10 ^ k
  | 0, _, _ => by simp [valD]
  | k + 1, hk, h => by
    rw [List.take_succ_eq_append_getElem (by omega), List.all_append, Bool.and_eq_true] at h
    have := valD_lt s k (by omega) h.1
    have hc : isDig s[k] = true := by simpa using h.2
    unfold isDig at hc
    simp at hc
    rw [List.take_succ_eq_append_getElem (by omega), valD_snoc, Nat.pow_succ]
    omega
theorem numOk_false_dig {s : ByteArray} {k : Nat} (h : k < s.size) (hd : isDig s[k] = false) : numOk s.data.toList = false := by
  unfold numOk
  have : s.data.toList.all isDig = false := by
    rw [List.all_eq_false]
    exact ⟨s[k], by have : s[k] = s.data.toList[k]'(by simpa using h) := rfl; rw [this]; exact List.getElem_mem _, by rw [hd]; simp⟩
  rw [this, Bool.and_false]
theorem ret_tup {a b : Int} {c d : Bool} (h1 : a = b) (h2 : c = d) : Ending.returned (.tuple #[.int .i64 a, .bool c]) = .returned (.tuple #[.int .i64 b, .bool d]) := by rw [h1, h2]
theorem numOk_bad {l : List UInt8} (h : numOk l = false) : Ending.returned (.tuple #[.int .i64 0, .bool false]) = .returned (.tuple #[.int .i64 (numV l : Int), .bool (numOk l)]) := by
  unfold numV; rw [h]; rfl
theorem toList_data (s : ByteArray) : s.toList = s.data.toList := ByteArray.toList_eq s
set_option maxHeartbeats 4000000 in
set_option maxRecDepth 100000 in
theorem readNumber_any (s : ByteArray) (w : World) (hs : s.size < 9223372036854775808) :
    Calls Tryz.prog 105 #[.string s] w fun e w' => e = .returned (.tuple #[.int .i64 (numV s.data.toList : Int), .bool (numOk s.data.toList)]) ∧ Below w.heap.size w w' := by
  by_cases h0 : s.size = 0
  · have e0 : s.data.toList = [] := List.length_eq_zero_iff.1 (by rw [size_data]; exact h0)
    have HB := hide (numOk_bad (l := s.data.toList) (by rw [e0]; rfl))
    have e1 : s.toList.isEmpty = true := by rw [toList_data, e0]; rfl
    clear e0
    go_enter Tryz.func105, Tryz.ntmps105
    go_wp2_with fail
    go_ret2
    exact ⟨HB.out, Below.refl _ _⟩
  have e1 : s.toList.isEmpty = false := by
    rw [toList_data, List.isEmpty_eq_false_iff]
    intro h; apply h0; rw [← size_data, h]; rfl
  by_cases h16 : 16 < s.size
  · have HB := hide (numOk_bad (l := s.data.toList) (by unfold numOk; rw [decide_eq_false (by rw [size_data]; omega)]; simp))
    have e2 : (16 : Int) < (s.size : Int) := by omega
    go_enter Tryz.func105, Tryz.ntmps105
    go_wp2_with fail
    go_ret2
    exact ⟨HB.out, Below.refl _ _⟩
  have e2 : ¬ (16 : Int) < (s.size : Int) := by omega
  have hp : 0 < s.size := by omega
  have hx0 : ∀ w', (Instr.index 9 (.string s) (.int .i64 0)).run Tryz.prog w' = .ok (.int .u8 ((s[0]'hp).toNat : Int)) w' := fun w' => ix_str w' s 0 hp
  have hhd : s.data.toList.head? = some (s[0]'hp) := by
    rw [List.head?_eq_getElem?]; exact Lib.data_getElem? s 0 hp
  have hd48 : ((s[0]'hp) = 48 ↔ (((s[0]'hp).toNat : Int) = 48)) := by
    constructor
    · intro h; rw [h]; rfl
    · intro h; rw [← UInt8.toNat_inj]; show _ = 48; omega
  generalize hc0 : (s[0]'hp) = c0 at *
  by_cases hz : zeroHd s.data.toList = true
  · have HB := hide (numOk_bad (l := s.data.toList) (by unfold numOk; rw [hz]; simp))
    unfold zeroHd at hz
    rw [hhd, Bool.and_eq_true] at hz
    have e3 : (c0.toNat : Int) = 48 := hd48.1 (by simpa using hz.1)
    have e4 : (s.toList == [48]) = false := by rw [toList_data]; simpa using hz.2
    clear hz hhd hd48
    go_enter Tryz.func105, Tryz.ntmps105
    go_wp2_with fail
    go_ret2
    exact ⟨HB.out, Below.refl _ _⟩
  have hz' : ((c0.toNat : Int) == 48) = false ∨ ((c0.toNat : Int) = 48 ∧ (s.toList == [48]) = true) := by
    unfold zeroHd at hz
    rw [hhd] at hz
    by_cases q : c0 = 48
    · refine .inr ⟨hd48.1 q, ?_⟩
      rw [toList_data]
      simpa [q] using hz
    · refine .inl ?_
      rw [beq_eq_false_iff_ne]
      exact fun e => q (hd48.2 e)
  have OK : Hid (s.data.toList.all isDig = true → numOk s.data.toList = true) := fun h => by
    unfold numOk
    rw [h, decide_eq_true (by rw [size_data]; omega)]
    rw [toList_data] at e1
    simp only [Bool.not_eq_true] at hz
    rw [e1, hz]; rfl
  clear hhd hd48 hz
  rcases hz' with e3 | ⟨e3, e4⟩
  all_goals
    go_enter Tryz.func105, Tryz.ntmps105
    go_wp2_with fail
    go_loopw [4, 5, 24] (fun n _ v wr => ∃ k : Nat, k ≤ s.size ∧ v = .int .i64 k ∧ n = .int .i64 (valD (s.data.toList.take k) : Int) ∧ Hid ((s.data.toList.take k).all isDig = true ∧ Below w.heap.size w wr)) (fun _ _ v _ => s.size - (intOf v).toNat)
    case atStart => exact ⟨0, Nat.zero_le _, rfl, rfl, rfl, Below.refl _ _⟩
    case round =>
      obtain ⟨k, hk, rfl, rfl, H⟩ := hrel
      have hV := valD_lt s.data.toList k (by rw [size_data]; exact hk) H.out.1
      have hV2 : valD (s.data.toList.take k) < 10000000000000000 := Nat.lt_of_lt_of_le hV (Nat.le_trans (Nat.pow_le_pow_right (by omega) (show k ≤ 16 by omega)) (by decide))
      by_cases hlt : k < s.size
      · have hxs : ∀ w', (Instr.index 9 (.string s) (.int .i64 (k : Int))).run Tryz.prog w' = .ok (.int .u8 (s[k].toNat : Int)) w' := fun w' => ix_str w' s k hlt
        have hsn : valD (s.data.toList.take (k + 1)) = 10 * valD (s.data.toList.take k) + (s[k].toNat - 48) := by
          rw [List.take_succ_eq_append_getElem (by simpa using hlt), valD_snoc]; rfl
        have hal : (s.data.toList.take (k + 1)).all isDig = ((s.data.toList.take k).all isDig && isDig s[k]) := by
          rw [List.take_succ_eq_append_getElem (by simpa using hlt), List.all_append]; simp; rfl
        have HB : Hid (isDig s[k] = false → _) := fun h => numOk_bad (numOk_false_dig hlt h)
        have hdg : isDig s[k] = (decide (48 ≤ s[k].toNat) && decide (s[k].toNat ≤ 57)) := rfl
        have HSN := hide hsn
        have HAL := hide hal
        have HDG := hide hdg
        clear hsn hal hdg hV
        generalize s[k] = c at *
        generalize valD (s.data.toList.take k) = V at *
        by_cases hd1 : c.toNat < 48
        · have e5 : (c.toNat : Int) < 48 := by omega
          have E5 := hide (HB.out (by rw [HDG.out, decide_eq_false (by omega)]; rfl))
          clear HB
          go_wp2_with fail
          go_ret2
          exact ⟨E5.out, H.out.2⟩
        · by_cases hd2 : 57 < c.toNat
          · have e5 : ¬ (c.toNat : Int) < 48 := by omega
            have e6 : (57 : Int) < (c.toNat : Int) := by omega
            have E5 := hide (HB.out (by rw [HDG.out, decide_eq_false (p := c.toNat ≤ 57) (by omega), Bool.and_false]))
            clear HB
            go_wp2_with fail
            go_ret2
            exact ⟨E5.out, H.out.2⟩
          · have e5 : ¬ (c.toNat : Int) < 48 := by omega
            have e6 : ¬ (57 : Int) < (c.toNat : Int) := by omega
            go_wp2_with fail
            refine ⟨⟨k + 1, by omega, by go_num, ?_, ?_, H.out.2⟩, by simp [intOf]; omega⟩
            · rw [HSN.out]; congr 1; omega
            · rw [HAL.out, H.out.1, HDG.out, decide_eq_true (by omega), decide_eq_true (by omega)]; rfl
      · obtain rfl : k = s.size := by omega
        have H1 := H.out.1
        rw [List.take_of_length_le (by simp)] at H1 ⊢
        have E5 : Hid (numOk s.data.toList = true ∧ numV s.data.toList = valD s.data.toList) := ⟨OK.out H1, by unfold numV; rw [OK.out H1]; rfl⟩
        clear H1 hV hV2
        go_wp2_with fail
        go_ret2
        exact ⟨ret_tup (by rw [E5.out.2]) E5.out.1.symm, H.out.2⟩
end Go.Proofs.YtaclbffacnoddaaGreatDoor
