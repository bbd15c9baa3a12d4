import Derived.Test.YtaclbffacnoddaaGreatDoorPart2
import Derived.Laws.Bits64b
import Derived.Test.YtaclbffacnoddaaGreatDoorProg
namespace Go.Proofs.YtaclbffacnoddaaGreatDoor
open Go.RowKit
theorem ofInt32 (a : Nat) (ha : a < 4294967296) : (BitVec.ofInt 32 (a : Int)).toNat = a := by
  rw [BitVec.ofInt_natCast, BitVec.toNat_ofNat]; exact Nat.mod_eq_of_lt (by omega)
theorem bxor32 (a b : Nat) (ha : a < 4294967296) (hb : b < 4294967296) : bits .xor .u32 (a : Int) (b : Int) = ((a ^^^ b : Nat) : Int) := by
  have hx : a ^^^ b < 2 ^ 32 := Nat.xor_lt_two_pow (by omega) (by omega)
  show IntKind.u32.wrap ((BitVec.ofInt 32 (a : Int) ^^^ BitVec.ofInt 32 (b : Int)).toNat : Int) = _
  rw [BitVec.toNat_xor, ofInt32 a ha, ofInt32 b hb]
  exact u32_in (by omega) (by omega)
theorem band32 (a b : Nat) (ha : a < 4294967296) (hb : b < 4294967296) : bits .and .u32 (a : Int) (b : Int) = ((a &&& b : Nat) : Int) := by
  have hx : a &&& b < 2 ^ 32 := Nat.and_lt_two_pow _ (by omega)
  show IntKind.u32.wrap ((BitVec.ofInt 32 (a : Int) &&& BitVec.ofInt 32 (b : Int)).toNat : Int) = _
  rw [BitVec.toNat_and, ofInt32 a ha, ofInt32 b hb]
  exact u32_in (by omega) (by omega)
theorem bor32 (a b : Nat) (ha : a < 4294967296) (hb : b < 4294967296) : bits .or .u32 (a : Int) (b : Int) = ((a ||| b : Nat) : Int) := by
  have hx : a ||| b < 2 ^ 32 := Nat.or_lt_two_pow (by omega) (by omega)
  show IntKind.u32.wrap ((BitVec.ofInt 32 (a : Int) ||| BitVec.ofInt 32 (b : Int)).toNat : Int) = _
  rw [BitVec.toNat_or, ofInt32 a ha, ofInt32 b hb]
  exact u32_in (by omega) (by omega)
theorem xor32_lt {a b : Nat} (ha : a < 4294967296) (hb : b < 4294967296) : a ^^^ b < 4294967296 := Nat.xor_lt_two_pow (n := 32) ha hb
theorem bnot32 (a : Nat) (ha : a < 4294967296) : bits .xor .u32 IntKind.u32.max (a : Int) = ((4294967295 ^^^ a : Nat) : Int) := by
  have := bxor32 4294967295 a (by omega) ha
  exact this
/-- a step -/
def stp (w : Nat) : Nat := if w % 2 = 0 then w / 2 else (w / 2) ^^^ 3988292384
def T4 : List Int := [0, 498536548, 997073096, 651767980, 1994146192, 1802195444, 1303535960, 1342533948, 3988292384, 4027552580, 3604390888, 3412177804, 2607071920, 2262029012, 2685067896, 3183342108]
def t4 (n : Nat) : Nat := (T4.getD n 0).toNat
theorem t4_lt (n : Nat) (h : n < 16) : t4 n < 4294967296 := by
  have : ∀ m : Fin 16, t4 m.1 < 4294967296 := by decide
  exact this ⟨n, h⟩
theorem t4_int (n : Nat) (h : n < 16) : T4.getD n 0 = (t4 n : Int) := by
  have : ∀ m : Fin 16, T4.getD m.1 0 = (t4 m.1 : Int) := by decide
  exact this ⟨n, h⟩
/-- half a byte's steps -/
def nib (w : Nat) : Nat := (w / 16) ^^^ t4 (w % 16)
def crcB (w b : Nat) : Nat := nib (nib (w ^^^ b))
def crcW (w : Nat) (l : List UInt8) : Nat := l.foldl (fun w b => crcB w b.toNat) w
def crcN (sum : Nat) (l : List UInt8) : Nat := 4294967295 ^^^ crcW (4294967295 ^^^ sum) l
theorem nib_lt {w : Nat} (h : w < 4294967296) : nib w < 4294967296 := xor32_lt (by omega) (t4_lt _ (by omega))
theorem crcB_lt {w b : Nat} (h : w < 4294967296) (hb : b < 256) : crcB w b < 4294967296 := nib_lt (nib_lt (xor32_lt h (by omega)))
theorem crcW_lt {w : Nat} (l : List UInt8) (h : w < 4294967296) : crcW w l < 4294967296 := by
  induction l generalizing w with
  | nil => exact h
  | cons b r ih => exact ih (crcB_lt h b.toNat_lt)
theorem crcN_lt {w : Nat} (l : List UInt8) (h : w < 4294967296) : crcN w l < 4294967296 := xor32_lt (by omega) (crcW_lt l (xor32_lt (by omega) h))
theorem crcW_append (w : Nat) (a b : List UInt8) : crcW w (a ++ b) = crcW (crcW w a) b := by unfold crcW; rw [List.foldl_append]
theorem not_not32 (w : Nat) : 4294967295 ^^^ (4294967295 ^^^ w) = w := by rw [← Nat.xor_assoc, Nat.xor_self, Nat.zero_xor]
theorem crcN_append (w : Nat) (a b : List UInt8) : crcN w (a ++ b) = crcN (crcN w a) b := by
  unfold crcN; rw [crcW_append, not_not32]
theorem crcN_nil (w : Nat) : crcN w [] = w := not_not32 w
/-- the table lies in memory -/
def Tab4 (g : Nat) (w : World) : Prop := ∀ j, j < 16 → w.cell? ⟨g, j, none⟩ = some (.int .u32 (t4 j : Int))
theorem Tab4.below {g : Nat} {w w' : World} {B : Nat} (h : Tab4 g w) (hb : Below B w w') (hg : g < B) : Tab4 g w' := fun j hj => (hb.cell (p := ⟨g, j, none⟩) hg).trans (h j hj)
end Go.Proofs.YtaclbffacnoddaaGreatDoor
namespace Go.Proofs.YtaclbffacnoddaaGreatDoor
open Go.RowKit
theorem ix_str (w : World) (s : ByteArray) (k : Nat) (hk : k < s.size) : (Instr.index 9 (.string s) (.int .i64 (k : Int))).run Tryz.prog w = .ok (.int .u8 (s[k].toNat : Int)) w := by
  rw [run_index_string w 9 s .i64 k Tryz.underlying9, dif_pos ⟨by omega, by omega⟩]
  simp
theorem crcW_snoc (w : Nat) (l : List UInt8) (k : Nat) (h : k < l.length) : crcW w (l.take (k + 1)) = crcB (crcW w (l.take k)) l[k].toNat := by
  rw [List.take_succ_eq_append_getElem h, crcW_append]
  rfl
theorem bnib (Y : Nat) (h : Y < 4294967296) : bits .xor .u32 ((Y : Int) / 16) (t4 (Y % 16) : Int) = (nib Y : Int) := by
  have := bxor32 (Y / 16) (t4 (Y % 16)) (by omega) (t4_lt _ (by omega))
  rwa [show ((Y / 16 : Nat) : Int) = (Y : Int) / 16 by omega] at this
set_option maxHeartbeats 1000000 in
set_option maxRecDepth 100000 in
/-- lengthen -/
theorem lengthen_any (a : Nat) (s : ByteArray) (hn : a < 4294967296) (hs : s.size ≤ 9223372036854775807) (w : World) (hT : Tab4 0 w) :
    Calls Tryz.prog 95 #[.int .u32 (a : Int), .string s] w fun e w' => e = .returned (.int .u32 (crcN a s.data.toList : Int)) ∧ w = w' := by
  have hnot := bnot32 a hn
  have HT := hide hT
  clear hT
  generalize hA : 4294967295 ^^^ a = A at hnot
  have hA4 : A < 4294967296 := by rw [← hA]; exact xor32_lt (by omega) hn
  have HF : Hid (crcN a s.data.toList = 4294967295 ^^^ crcW A s.data.toList) := by show crcN a s.data.toList = 4294967295 ^^^ crcW A s.data.toList; rw [← hA]; rfl
  clear hA
  go_enter Tryz.func95, Tryz.ntmps95
  go_wp2
  go_loop [5, 11] (fun v i => ∃ k : Nat, k ≤ s.size ∧ i = .int .i64 k ∧ v = .int .u32 (crcW A (s.data.toList.take k) : Int)) (fun _ i => s.size - (intOf i).toNat)
  case atStart => exact ⟨0, Nat.zero_le _, rfl, rfl⟩
  case round =>
    obtain ⟨k, hk, rfl, rfl⟩ := hrel
    have hW4 : crcW A (s.data.toList.take k) < 4294967296 := crcW_lt _ hA4
    by_cases hlt : k < s.size
    · have hS := crcW_snoc A s.data.toList k (by rw [size_data]; exact hlt)
      have hxs := fun w' => ix_str w' s k hlt
      rw [show s.data.toList[k]'(by rw [size_data]; exact hlt) = s[k] from rfl] at hS
      have hX0 : s[k].toNat < 256 := s[k].toNat_lt
      generalize s[k].toNat = X at *
      generalize hW : crcW A (s.data.toList.take k) = W at *
      have HW := hide hW
      have HS := hide hS
      clear hW hS
      have h1 := bxor32 W X hW4 (by omega)
      have h1l : W ^^^ X < 4294967296 := xor32_lt hW4 (by omega)
      have HB : Hid (crcB W X = nib (nib (W ^^^ X))) := rfl
      generalize W ^^^ X = Y at *
      have h2 := bnib Y h1l
      have h2c := HT.out (Y % 16) (by omega)
      have h2l : nib Y < 4294967296 := nib_lt h1l
      generalize nib Y = Z at *
      have h3 := bnib Z h2l
      have h3c := HT.out (Z % 16) (by omega)
      generalize nib Z = V at *
      go_wp2
      go_round
      case rel => exact ⟨k + 1, by omega, by go_num, by rw [HS.out, HB.out]⟩
      case measure => simp [intOf]; omega
    · obtain rfl : k = s.size := by omega
      have hfin : s.data.toList.take s.size = s.data.toList := List.take_of_length_le (by simp)
      rw [hfin] at hW4 ⊢
      have h9 := bnot32 (crcW A s.data.toList) hW4
      rw [← HF.out] at h9
      clear hfin
      go_wp2
      go_ret
      exact ⟨rfl, rfl⟩
end Go.Proofs.YtaclbffacnoddaaGreatDoor
namespace Go.Proofs.YtaclbffacnoddaaGreatDoor
open Go.RowKit Go.Shelf
def allOf (t : List UInt8) (these : ByteArray) : Bool := t.all fun c => these.data.toList.contains c
theorem allOf_snoc (t : ByteArray) (these : ByteArray) (k : Nat) (h : k < t.size) : allOf (t.data.toList.take (k + 1)) these = (allOf (t.data.toList.take k) these && these.data.toList.contains t[k]) := by
  unfold allOf
  rw [List.take_succ_eq_append_getElem (by simpa using h), List.all_append]
  simp
  rfl
theorem allOf_false (t : ByteArray) (these : ByteArray) (k : Nat) (h : k < t.size) (hc : these.data.toList.contains t[k] = false) : allOf t.data.toList these = false := by
  unfold allOf
  rw [List.all_eq_false]
  exact ⟨t[k], by have : t[k] = t.data.toList[k]'(by simpa using h) := rfl; rw [this]; exact List.getElem_mem _, by rw [hc]; simp⟩
set_option maxHeartbeats 1000000 in
set_option maxRecDepth 100000 in
/-- isOf -/
theorem isOf_any (t these : ByteArray) (w : World) (hs : t.size ≤ 9223372036854775807) :
    Calls Tryz.prog 109 #[.string t, .string these] w fun e w' => e = .returned (.bool (allOf t.data.toList these)) ∧ w = w' := by
  go_enter Tryz.func109, Tryz.ntmps109
  go_wp2
  go_loop [8] (fun v => ∃ k : Nat, k ≤ t.size ∧ v = .int .i64 k ∧ Hid (allOf (t.data.toList.take k) these = true)) (fun v => t.size - (intOf v).toNat)
  case atStart => exact ⟨0, Nat.zero_le _, rfl, rfl⟩
  case round =>
    obtain ⟨k, hk, rfl, hA⟩ := hrel
    by_cases hlt : k < t.size
    · have hxs : ∀ w', (Instr.index 9 (.string t) (.int .i64 (k : Int))).run Tryz.prog w' = .ok (.int .u8 (t[k].toNat : Int)) w' := fun w' => ix_str w' t k hlt
      have C := hide (Tryz.strings_IndexByte these t[k].toNat w)
      rw [show ((t[k].toNat : Int)).toNat.toUInt8 = t[k] by simp] at C
      have HC := hide (Lib.contains_iff_indexByte these.data.toList t[k])
      have HS := hide (allOf_snoc t these k hlt)
      have HF := hide (allOf_false t these k hlt)
      generalize t[k] = c at *
      by_cases hi : (0 : Int) ≤ Lib.indexByte these.data.toList c
      · have hi' : ¬ Lib.indexByte these.data.toList c < 0 := by omega
        go_wp2_with (go_at_call 121; refine Calls.mono C.out ?_; rintro e w' ⟨rfl, rfl⟩)
        go_round
        case rel => exact ⟨k + 1, by omega, by go_num, by rw [HS.out, hA.out, HC.out, decide_eq_true hi]; rfl⟩
        case measure => simp [intOf]; omega
      · have hi' : Lib.indexByte these.data.toList c < 0 := by omega
        go_wp2_with (go_at_call 121; refine Calls.mono C.out ?_; rintro e w' ⟨rfl, rfl⟩)
        go_ret
        exact ⟨ret_bool (HF.out (by rw [HC.out]; exact decide_eq_false (by omega))).symm, rfl⟩
    · obtain rfl : k = t.size := by omega
      have hA' := hA.out
      rw [List.take_of_length_le (by simp)] at hA'
      have HA := hide hA'
      clear hA' hA
      go_wp2
      go_ret
      exact ⟨ret_bool HA.out.symm, rfl⟩
set_option maxHeartbeats 1000000 in
set_option maxRecDepth 100000 in
theorem isNumeric_any (s : Int) (w : World) :
    Calls Tryz.prog 92 #[.int .i64 s] w fun e w' => e = .returned (.bool (s == 0 || s == 1)) ∧ w = w' := by
  by_cases h : s = 0
  · subst h
    go_enter Tryz.func92, Tryz.ntmps92
    go_wp2
    go_ret
    exact ⟨rfl, rfl⟩
  · go_enter Tryz.func92, Tryz.ntmps92
    go_wp2
    go_ret
    exact ⟨rfl, rfl⟩
def nmL : ByteArray := ⟨#[97, 98, 99, 100, 101, 102, 103, 104, 105, 106, 107, 108, 109, 110, 111, 112, 113, 114, 115, 116, 117, 118, 119, 120, 121, 122, 48, 49, 50, 51, 52, 53, 54, 55, 56, 57, 45, 95, 46]⟩
def stL : ByteArray := ⟨#[97, 98, 99, 100, 101, 102, 103, 104, 105, 106, 107, 108, 109, 110, 111, 112, 113, 114, 115, 116, 117, 118, 119, 120, 121, 122, 48, 49, 50, 51, 52, 53, 54, 55, 56, 57, 45]⟩
def ltL : ByteArray := ⟨#[97, 98, 99, 100, 101, 102, 103, 104, 105, 106, 107, 108, 109, 110, 111, 112, 113, 114, 115, 116, 117, 118, 119, 120, 121, 122]⟩
def isNm (t : List UInt8) : Bool := allOf t nmL && !(t == [46]) && !(t == [46, 46])
def isSt (t : List UInt8) : Bool := !t.isEmpty && allOf (t.take 1) ltL && allOf t stL
/-- a value in its range, of numbers and sums -/
def inR (n lo hi : Int) : Bool := decide (lo ≤ n) && decide (n ≤ hi)
set_option maxHeartbeats 1000000 in
set_option maxRecDepth 100000 in
theorem allows_num (s : Int) (hs : s = 0 ∨ s = 1) (n lo hi : Int) (t : ByteArray) (w : World) :
    Calls Tryz.prog 70 #[.int .i64 s, .agg #[.int .i64 n, .string t], .int .i64 lo, .int .i64 hi] w fun e w' => e = .returned (.bool (inR n lo hi)) ∧ Below w.heap.size w w' := by
  have hb : Below w.heap.size w (w.alloc (.cells #[.int .i64 n, .string t] 72)) := (Below.refl _ _).alloc (Nat.le_refl _) _
  by_cases h1 : n < lo
  · have e1 : inR n lo hi = false := by unfold inR; rw [decide_eq_false (by omega)]; rfl
    rw [e1]
    rcases hs with rfl | rfl <;>
    · go_enter Tryz.func70, Tryz.ntmps70
      go_wp2_with (go_at_call 92; refine Calls.mono (isNumeric_any _ _) ?_; rintro e w' ⟨rfl, rfl⟩)
      go_ret
      exact ⟨rfl, hb⟩
  · by_cases h2 : hi < n
    · have e1 : inR n lo hi = false := by unfold inR; rw [decide_eq_false (p := n ≤ hi) (by omega), Bool.and_false]
      rw [e1]
      rcases hs with rfl | rfl <;>
      · go_enter Tryz.func70, Tryz.ntmps70
        go_wp2_with (go_at_call 92; refine Calls.mono (isNumeric_any _ _) ?_; rintro e w' ⟨rfl, rfl⟩)
        go_ret
        exact ⟨rfl, hb⟩
    · have e1 : inR n lo hi = true := by unfold inR; rw [decide_eq_true (by omega), decide_eq_true (by omega)]; rfl
      rw [e1]
      rcases hs with rfl | rfl <;>
      · go_enter Tryz.func70, Tryz.ntmps70
        go_wp2_with (go_at_call 92; refine Calls.mono (isNumeric_any _ _) ?_; rintro e w' ⟨rfl, rfl⟩)
        go_ret
        exact ⟨rfl, hb⟩
end Go.Proofs.YtaclbffacnoddaaGreatDoor
