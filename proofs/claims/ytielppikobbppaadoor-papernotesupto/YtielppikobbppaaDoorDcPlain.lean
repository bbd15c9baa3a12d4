import Derived.Test.YtielppikobbppaaDoorDgPlain
import Derived.Laws.Bits64b
namespace Go.Proofs.YtielppikobbppaaDoor
open Go.RowKit
theorem ofInt32 (a : Nat) (ha : a < 4294967296) : (BitVec.ofInt 32 (a : Int)).toNat = a := by
  rw [BitVec.ofInt_natCast, BitVec.toNat_ofNat]; exact Nat.mod_eq_of_lt (by omega)
theorem bxor32 (a b : Nat) (ha : a < 4294967296) (hb : b < 4294967296) : bits .xor .u32 (a : Int) (b : Int) = ((a ^^^ b : Nat) : Int) := by
  have hx : a ^^^ b < 2 ^ 32 := Nat.xor_lt_two_pow (by omega) (by omega)
  show IntKind.u32.wrap ((BitVec.ofInt 32 (a : Int) ^^^ BitVec.ofInt 32 (b : Int)).toNat : Int) = _
  rw [BitVec.toNat_xor, ofInt32 a ha, ofInt32 b hb]
  exact u32_in (by omega) (by omega)
theorem band32 (a b : Nat) (ha : a < 4294967296) (hb : b < 4294967296) : bits .and .u32 (a : Int) (b : Int) = ((a &&& b : Nat) : Int) := by
  have hx : a &&& b < 2 ^ 32 := Nat.and_lt_two_pow _ (by omega)
  show IntKind.u32.wrap ((BitVec.ofInt 32 (a : Int) &&& BitVec.ofInt 32 (b : Int)).toNat : Int) = _
  rw [BitVec.toNat_and, ofInt32 a ha, ofInt32 b hb]
  exact u32_in (by omega) (by omega)
theorem bor32 (a b : Nat) (ha : a < 4294967296) (hb : b < 4294967296) : bits .or .u32 (a : Int) (b : Int) = ((a ||| b : Nat) : Int) := by
  have hx : a ||| b < 2 ^ 32 := Nat.or_lt_two_pow (by omega) (by omega)
  show IntKind.u32.wrap ((BitVec.ofInt 32 (a : Int) ||| BitVec.ofInt 32 (b : Int)).toNat : Int) = _
  rw [BitVec.toNat_or, ofInt32 a ha, ofInt32 b hb]
  exact u32_in (by omega) (by omega)
theorem xor32_lt {a b : Nat} (ha : a < 4294967296) (hb : b < 4294967296) : a ^^^ b < 4294967296 := Nat.xor_lt_two_pow (n := 32) ha hb
theorem bnot32 (a : Nat) (ha : a < 4294967296) : bits .xor .u32 IntKind.u32.max (a : Int) = ((4294967295 ^^^ a : Nat) : Int) := by
  have := bxor32 4294967295 a (by omega) ha
  exact this
/-- a step -/
def stp (w : Nat) : Nat := if w % 2 = 0 then w / 2 else (w / 2) ^^^ 3988292384
def T4 : List Int := [0, 498536548, 997073096, 651767980, 1994146192, 1802195444, 1303535960, 1342533948, 3988292384, 4027552580, 3604390888, 3412177804, 2607071920, 2262029012, 2685067896, 3183342108]
def t4 (n : Nat) : Nat := (T4.getD n 0).toNat
theorem t4_lt (n : Nat) (h : n < 16) : t4 n < 4294967296 := by
  have : ∀ m : Fin 16, t4 m.1 < 4294967296 := by decide
  exact this ⟨n, h⟩
theorem t4_int (n : Nat) (h : n < 16) : T4.getD n 0 = (t4 n : Int) := by
  have : ∀ m : Fin 16, T4.getD m.1 0 = (t4 m.1 : Int) := by decide
  exact this ⟨n, h⟩
/-- half a byte's steps -/
def nib (w : Nat) : Nat := (w / 16) ^^^ t4 (w % 16)
def crcB (w b : Nat) : Nat := nib (nib (w ^^^ b))
def crcW (w : Nat) (l : List UInt8) : Nat := l.foldl (fun w b => crcB w b.toNat) w
def crcN (sum : Nat) (l : List UInt8) : Nat := 4294967295 ^^^ crcW (4294967295 ^^^ sum) l
theorem nib_lt {w : Nat} (h : w < 4294967296) : nib w < 4294967296 := xor32_lt (by omega) (t4_lt _ (by omega))
theorem crcB_lt {w b : Nat} (h : w < 4294967296) (hb : b < 256) : crcB w b < 4294967296 := nib_lt (nib_lt (xor32_lt h (by omega)))
theorem crcW_lt {w : Nat} (l : List UInt8) (h : w < 4294967296) : crcW w l < 4294967296 := by
  induction l generalizing w with
  | nil => exact h
  | cons b r ih => exact ih (crcB_lt h b.toNat_lt)
theorem crcN_lt {w : Nat} (l : List UInt8) (h : w < 4294967296) : crcN w l < 4294967296 := xor32_lt (by omega) (crcW_lt l (xor32_lt (by omega) h))
theorem crcW_append (w : Nat) (a b : List UInt8) : crcW w (a ++ b) = crcW (crcW w a) b := by unfold crcW; rw [List.foldl_append]
theorem not_not32 (w : Nat) : 4294967295 ^^^ (4294967295 ^^^ w) = w := by rw [← Nat.xor_assoc, Nat.xor_self, Nat.zero_xor]
theorem crcN_append (w : Nat) (a b : List UInt8) : crcN w (a ++ b) = crcN (crcN w a) b := by
  unfold crcN; rw [crcW_append, not_not32]
theorem crcN_nil (w : Nat) : crcN w [] = w := not_not32 w
/-- the table lies in memory -/
def Tab4 (g : Nat) (w : World) : Prop := ∀ j, j < 16 → w.cell? ⟨g, j, none⟩ = some (.int .u32 (t4 j : Int))
theorem Tab4.below {g : Nat} {w w' : World} {B : Nat} (h : Tab4 g w) (hb : Below B w w') (hg : g < B) : Tab4 g w' := fun j hj => (hb.cell (p := ⟨g, j, none⟩) hg).trans (h j hj)
end Go.Proofs.YtielppikobbppaaDoor
