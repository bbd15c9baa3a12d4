import Derived.Test.YtnphdbmacccblabMbBn
namespace Go.Proofs.Ytnphdbmacccblab
open Go.RowKit
def opV (k a n m : Int) (s : ByteArray) : Value := .agg #[.int .i64 k, .int .i64 a, .int .i64 n, .int .i64 m, .string s]
def OpAt (w : World) (I : Nat) (k a n m : Int) (s : ByteArray) : Prop := w.heap[I]? = some (.cells #[.int .i64 k, .int .i64 a, .int .i64 n, .int .i64 m, .string s] 34)
theorem OpAt.c0 {w : World} {I : Nat} {k a n m : Int} {s : ByteArray} (h : OpAt w I k a n m s) : w.cell? ⟨I, 0, none⟩ = some (.int .i64 k) := by unfold World.cell?; rw [h]; rfl
theorem OpAt.c1 {w : World} {I : Nat} {k a n m : Int} {s : ByteArray} (h : OpAt w I k a n m s) : w.cell? ⟨I, 1, none⟩ = some (.int .i64 a) := by unfold World.cell?; rw [h]; rfl
theorem OpAt.c2 {w : World} {I : Nat} {k a n m : Int} {s : ByteArray} (h : OpAt w I k a n m s) : w.cell? ⟨I, 2, none⟩ = some (.int .i64 n) := by unfold World.cell?; rw [h]; rfl
theorem OpAt.c3 {w : World} {I : Nat} {k a n m : Int} {s : ByteArray} (h : OpAt w I k a n m s) : w.cell? ⟨I, 3, none⟩ = some (.int .i64 m) := by unfold World.cell?; rw [h]; rfl
theorem OpAt.c4 {w : World} {I : Nat} {k a n m : Int} {s : ByteArray} (h : OpAt w I k a n m s) : w.cell? ⟨I, 4, none⟩ = some (.string s) := by unfold World.cell?; rw [h]; rfl
theorem OpAt.kp {w w' : World} {I : Nat} {S : Nat → Prop} {k a n m : Int} {s : ByteArray} (h : OpAt w I k a n m s) (hk : Kp w w' S) (hs : ¬ S I) : OpAt w' I k a n m s := (hk.block _ (blk_lt h) hs).trans h
structure OpFit (a n : Int) (s : ByteArray) : Prop where
  a1 : -9223372036854775808 ≤ a
  a2 : a < 9223372036854775808
  n2 : n < 9223372036854775808
  s1 : s.size ≤ 281474976710656
/-- what one step leaves -/
def Stp (w : World) (b0 : Nat → Prop) (B m : Nat) (e : Ending) (w' : World) : Prop := e = .returned (.bool true) ∧ Bn w' b0 B (m + 1) ∧ Fr b0 w w'
theorem kp3 {w W w3 w4 : World} {S S3 S4 : Nat → Prop} (k0 : Kp w W S) (k3 : Kp W w3 S) (n3 : Nr W S S3) (k4 : Kp w3 w4 S3) (n4 : Nr w3 S3 S4) : Kp w w4 S ∧ Nr w S S4 :=
  ⟨(k0.trans k3 (fun k e => Or.inl e)).trans k4 (fun k e => by rcases n3 k e with a | a; exact Or.inl a; exact Or.inr (Nat.le_trans k0.size a)), fun k e => by
    rcases n4 k e with a | a
    · rcases n3 k a with b | b
      · exact Or.inl b
      · exact Or.inr (Nat.le_trans k0.size b)
    · exact Or.inr (Nat.le_trans (Nat.le_trans k0.size k3.size) a)⟩
end Go.Proofs.Ytnphdbmacccblab
