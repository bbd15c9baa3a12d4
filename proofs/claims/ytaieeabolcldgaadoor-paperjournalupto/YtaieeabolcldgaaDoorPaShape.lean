import Derived.Test.YtaieeabolcldgaaDoorPart3
namespace Go.Proofs.YtaieeabolcldgaaDoor
open Go.RowKit Go.Shelf
def allOf (t : List UInt8) (these : ByteArray) : Bool := t.all fun c => these.data.toList.contains c
theorem allOf_snoc (t : ByteArray) (these : ByteArray) (k : Nat) (h : k < t.size) : allOf (t.data.toList.take (k + 1)) these = (allOf (t.data.toList.take k) these && these.data.toList.contains t[k]) := by
  unfold allOf
  rw [List.take_succ_eq_append_getElem (by simpa using h), List.all_append]
  simp
  rfl
theorem allOf_false (t : ByteArray) (these : ByteArray) (k : Nat) (h : k < t.size) (hc : these.data.toList.contains t[k] = false) : allOf t.data.toList these = false := by
  unfold allOf
  rw [List.all_eq_false]
  exact ⟨t[k], by have : t[k] = t.data.toList[k]'(by simpa using h) := rfl; rw [this]; exact List.getElem_mem _, by rw [hc]; simp⟩
set_option maxHeartbeats 1000000 in
set_option maxRecDepth 100000 in
/-- isOf -/
theorem isOf_any (t these : ByteArray) (w : World) (hs : t.size ≤ 9223372036854775807) :
    Calls Tryd.prog 85 #[.string t, .string these] w fun e w' => e = .returned (.bool (allOf t.data.toList these)) ∧ w = w' := by
  go_enter Tryd.func85, Tryd.ntmps85
  go_wp2
  go_loop [8] (fun v => ∃ k : Nat, k ≤ t.size ∧ v = .int .i64 k ∧ Hid (allOf (t.data.toList.take k) these = true)) (fun v => t.size - (intOf v).toNat)
  case atStart => exact ⟨0, Nat.zero_le _, rfl, rfl⟩
  case round =>
    obtain ⟨k, hk, rfl, hA⟩ := hrel
    by_cases hlt : k < t.size
    · have hxs : ∀ w', (Instr.index 9 (.string t) (.int .i64 (k : Int))).run Tryd.prog w' = .ok (.int .u8 (t[k].toNat : Int)) w' := fun w' => ix_str w' t k hlt
      have C := hide (Tryd.strings_IndexByte these t[k].toNat w)
      rw [show ((t[k].toNat : Int)).toNat.toUInt8 = t[k] by simp] at C
      have HC := hide (Lib.contains_iff_indexByte these.data.toList t[k])
      have HS := hide (allOf_snoc t these k hlt)
      have HF := hide (allOf_false t these k hlt)
      generalize t[k] = c at *
      by_cases hi : (0 : Int) ≤ Lib.indexByte these.data.toList c
      · have hi' : ¬ Lib.indexByte these.data.toList c < 0 := by omega
        go_wp2_with (go_at_call 98; refine Calls.mono C.out ?_; rintro e w' ⟨rfl, rfl⟩)
        go_round
        case rel => exact ⟨k + 1, by omega, by go_num, by rw [HS.out, hA.out, HC.out, decide_eq_true hi]; rfl⟩
        case measure => simp [intOf]; omega
      · have hi' : Lib.indexByte these.data.toList c < 0 := by omega
        go_wp2_with (go_at_call 98; refine Calls.mono C.out ?_; rintro e w' ⟨rfl, rfl⟩)
        go_ret
        exact ⟨ret_bool (HF.out (by rw [HC.out]; exact decide_eq_false (by omega))).symm, rfl⟩
    · obtain rfl : k = t.size := by omega
      have hA' := hA.out
      rw [List.take_of_length_le (by simp)] at hA'
      have HA := hide hA'
      clear hA' hA
      go_wp2
      go_ret
      exact ⟨ret_bool HA.out.symm, rfl⟩
set_option maxHeartbeats 1000000 in
set_option maxRecDepth 100000 in
theorem isNumeric_any (s : Int) (w : World) :
    Calls Tryd.prog 69 #[.int .i64 s] w fun e w' => e = .returned (.bool (s == 0 || s == 1)) ∧ w = w' := by
  by_cases h : s = 0
  · subst h
    go_enter Tryd.func69, Tryd.ntmps69
    go_wp2
    go_ret
    exact ⟨rfl, rfl⟩
  · go_enter Tryd.func69, Tryd.ntmps69
    go_wp2
    go_ret
    exact ⟨rfl, rfl⟩
def nmL : ByteArray := ⟨#[97, 98, 99, 100, 101, 102, 103, 104, 105, 106, 107, 108, 109, 110, 111, 112, 113, 114, 115, 116, 117, 118, 119, 120, 121, 122, 48, 49, 50, 51, 52, 53, 54, 55, 56, 57, 45, 95, 46]⟩
def stL : ByteArray := ⟨#[97, 98, 99, 100, 101, 102, 103, 104, 105, 106, 107, 108, 109, 110, 111, 112, 113, 114, 115, 116, 117, 118, 119, 120, 121, 122, 48, 49, 50, 51, 52, 53, 54, 55, 56, 57, 45]⟩
def ltL : ByteArray := ⟨#[97, 98, 99, 100, 101, 102, 103, 104, 105, 106, 107, 108, 109, 110, 111, 112, 113, 114, 115, 116, 117, 118, 119, 120, 121, 122]⟩
def isNm (t : List UInt8) : Bool := allOf t nmL && !(t == [46]) && !(t == [46, 46])
def isSt (t : List UInt8) : Bool := !t.isEmpty && allOf (t.take 1) ltL && allOf t stL
/-- a value in its range, of numbers and sums -/
def inR (n lo hi : Int) : Bool := decide (lo ≤ n) && decide (n ≤ hi)
set_option maxHeartbeats 1000000 in
set_option maxRecDepth 100000 in
theorem allows_num (s : Int) (hs : s = 0 ∨ s = 1) (n lo hi : Int) (t : ByteArray) (w : World) :
    Calls Tryd.prog 45 #[.int .i64 s, .agg #[.int .i64 n, .string t], .int .i64 lo, .int .i64 hi] w fun e w' => e = .returned (.bool (inR n lo hi)) ∧ Below w.heap.size w w' := by
  have hb : Below w.heap.size w (w.alloc (.cells #[.int .i64 n, .string t] 69)) := (Below.refl _ _).alloc (Nat.le_refl _) _
  by_cases h1 : n < lo
  · have e1 : inR n lo hi = false := by unfold inR; rw [decide_eq_false (by omega)]; rfl
    rw [e1]
    rcases hs with rfl | rfl <;>
    · go_enter Tryd.func45, Tryd.ntmps45
      go_wp2_with (go_at_call 69; refine Calls.mono (isNumeric_any _ _) ?_; rintro e w' ⟨rfl, rfl⟩)
      go_ret
      exact ⟨rfl, hb⟩
  · by_cases h2 : hi < n
    · have e1 : inR n lo hi = false := by unfold inR; rw [decide_eq_false (p := n ≤ hi) (by omega), Bool.and_false]
      rw [e1]
      rcases hs with rfl | rfl <;>
      · go_enter Tryd.func45, Tryd.ntmps45
        go_wp2_with (go_at_call 69; refine Calls.mono (isNumeric_any _ _) ?_; rintro e w' ⟨rfl, rfl⟩)
        go_ret
        exact ⟨rfl, hb⟩
    · have e1 : inR n lo hi = true := by unfold inR; rw [decide_eq_true (by omega), decide_eq_true (by omega)]; rfl
      rw [e1]
      rcases hs with rfl | rfl <;>
      · go_enter Tryd.func45, Tryd.ntmps45
        go_wp2_with (go_at_call 69; refine Calls.mono (isNumeric_any _ _) ?_; rintro e w' ⟨rfl, rfl⟩)
        go_ret
        exact ⟨rfl, hb⟩
end Go.Proofs.YtaieeabolcldgaaDoor
