import Derived.Test.YtioiphonajinmaaGreatDoorGDgPlain
namespace Go.Proofs.YtioiphonajinmaaGreatDoor
open Go.RowKit
abbrev Q := Nat × Nat × Nat × Nat
def SN : List Int := [3614090360, 3905402710, 606105819, 3250441966, 4118548399, 1200080426, 2821735955, 4249261313, 1770035416, 2336552879, 4294925233, 2304563134, 1804603682, 4254626195, 2792965006, 1236535329, 4129170786, 3225465664, 643717713, 3921069994, 3593408605, 38016083, 3634488961, 3889429448, 568446438, 3275163606, 4107603335, 1163531501, 2850285829, 4243563512, 1735328473, 2368359562, 4294588738, 2272392833, 1839030562, 4259657740, 2763975236, 1272893353, 4139469664, 3200236656, 681279174, 3936430074, 3572445317, 76029189, 3654602809, 3873151461, 530742520, 3299628645, 4096336452, 1126891415, 2878612391, 4237533241, 1700485571, 2399980690, 4293915773, 2240044497, 1873313359, 4264355552, 2734768916, 1309151649, 4149444226, 3174756917, 718787259, 3951481745]
def TN : List Int := [7, 12, 17, 22, 5, 9, 14, 20, 4, 11, 16, 23, 6, 10, 15, 21]
def sin (i : Nat) : Nat := (SN.getD i 0).toNat
def trn (i : Nat) : Nat := (TN.getD i 0).toNat
theorem sin_lt (n : Nat) (h : n < 64) : sin n < 4294967296 := by
  have : ∀ m : Fin 64, sin m.1 < 4294967296 := by decide +kernel
  exact this ⟨n, h⟩
theorem trn_lt (n : Nat) (h : n < 16) : 0 < trn n ∧ trn n < 32 := by
  have : ∀ m : Fin 16, 0 < trn m.1 ∧ trn m.1 < 32 := by decide
  exact this ⟨n, h⟩
def TabS (g : Nat) (w : World) : Prop := ∀ j, j < 64 → w.cell? ⟨g, j, none⟩ = some (.int .u32 (sin j : Int))
def TabT (g : Nat) (w : World) : Prop := ∀ j, j < 16 → w.cell? ⟨g, j, none⟩ = some (.int .i64 (trn j : Int))
theorem TabS.below {g : Nat} {w w' : World} {B : Nat} (h : TabS g w) (hb : Below B w w') (hg : g < B) : TabS g w' := fun j hj => (hb.cell (p := ⟨g, j, none⟩) hg).trans (h j hj)
theorem TabT.below {g : Nat} {w w' : World} {B : Nat} (h : TabT g w) (hb : Below B w w') (hg : g < B) : TabT g w' := fun j hj => (hb.cell (p := ⟨g, j, none⟩) hg).trans (h j hj)
/-- the mixing of a step -/
def fN (i b c d : Nat) : Nat :=
  if i / 16 = 0 then (b &&& c) ||| ((4294967295 ^^^ b) &&& d)
  else if i / 16 = 1 then (d &&& b) ||| ((4294967295 ^^^ d) &&& c)
  else if i / 16 = 2 then (b ^^^ c) ^^^ d
  else c ^^^ (b ||| (4294967295 ^^^ d))
def gN (i : Nat) : Nat := if i / 16 = 0 then i else if i / 16 = 1 then 5 * i + 1 else if i / 16 = 2 then 3 * i + 5 else 7 * i
def rnd (m : Nat → Nat) (i : Nat) (q : Q) : Q :=
  (q.2.2.2, (q.2.1 + rotN ((q.1 + fN i q.2.1 q.2.2.1 q.2.2.2 + sin i + m (gN i % 16)) % 4294967296) (trn (4 * (i / 16) + i % 4))) % 4294967296, q.2.1, q.2.2.1)
def rounds (m : Nat → Nat) (q : Q) : Nat → Q
  | 0 => q
  | k + 1 => rnd m k (rounds m q k)
def addQ (p q : Q) : Q := ((p.1 + q.1) % 4294967296, (p.2.1 + q.2.1) % 4294967296, (p.2.2.1 + q.2.2.1) % 4294967296, (p.2.2.2 + q.2.2.2) % 4294967296)
def mixN (q : Q) (l : List UInt8) : Q := addQ q (rounds (fun j => le4 l (4 * j)) q 64)
def Q4 (q : Q) : Prop := q.1 < 4294967296 ∧ q.2.1 < 4294967296 ∧ q.2.2.1 < 4294967296 ∧ q.2.2.2 < 4294967296
theorem rnd_lt (m : Nat → Nat) (i : Nat) (q : Q) (h : Q4 q) : Q4 (rnd m i q) := ⟨h.2.2.2, Nat.mod_lt _ (by omega), h.2.1, h.2.2.1⟩
theorem rounds_lt (m : Nat → Nat) (q : Q) (h : Q4 q) (k : Nat) : Q4 (rounds m q k) := by
  induction k with
  | zero => exact h
  | succ k ih => exact rnd_lt m k _ ih
theorem addQ_lt (p q : Q) : Q4 (addQ p q) := ⟨Nat.mod_lt _ (by omega), Nat.mod_lt _ (by omega), Nat.mod_lt _ (by omega), Nat.mod_lt _ (by omega)⟩
theorem mixN_lt (q : Q) (l : List UInt8) : Q4 (mixN q l) := addQ_lt _ _
def qV (q : Q) : Value := .agg #[.int .u32 (q.1 : Int), .int .u32 (q.2.1 : Int), .int .u32 (q.2.2.1 : Int), .int .u32 (q.2.2.2 : Int)]
def qL (q : Q) : List Value := [.int .u32 (q.1 : Int), .int .u32 (q.2.1 : Int), .int .u32 (q.2.2.1 : Int), .int .u32 (q.2.2.2 : Int)]
theorem rnd_eq (M : Nat → Nat) (k A B C D : Nat) : rnd M k (A, B, C, D) = (D, (B + rotN ((((A + fN k B C D) % 4294967296 + sin k) % 4294967296 + M (gN k % 16)) % 4294967296) (trn (4 * (k / 16) + k % 4))) % 4294967296, B, C) := by
  unfold rnd
  simp only
  rw [show (((A + fN k B C D) % 4294967296 + sin k) % 4294967296 + M (gN k % 16)) % 4294967296 = (A + fN k B C D + sin k + M (gN k % 16)) % 4294967296 by omega]
end Go.Proofs.YtioiphonajinmaaGreatDoor
