import Derived.Test.YtkfiaahgcljljaaTbPlain
namespace Go.Proofs.Ytkfiaahgcljljaa
open Go.RowKit
/-- a step of a script -/
structure TO where
  kind : Int
  pl : Int
  n : Int
  nd : Int
  fl : Int
/-- a script that is handed in, as it lies there -/
structure OpsAt (w : World) (ao : Option Addr) (b o : Nat) (ys : List TO) : Prop where
  at0 : 0 < ys.length → ao = some ⟨b, o, none⟩
  lt : 0 < ys.length → b < w.heap.size
  c0 : ∀ (q : Nat) (h : q < ys.length), w.cell? ⟨b, o + q * 5, none⟩ = some (.int .i64 ys[q].kind)
  c1 : ∀ (q : Nat) (h : q < ys.length), w.cell? ⟨b, o + q * 5 + 1, none⟩ = some (.int .i64 ys[q].pl)
  c2 : ∀ (q : Nat) (h : q < ys.length), w.cell? ⟨b, o + q * 5 + 2, none⟩ = some (.int .i64 ys[q].n)
  c3 : ∀ (q : Nat) (h : q < ys.length), w.cell? ⟨b, o + q * 5 + 3, none⟩ = some (.int .i64 ys[q].nd)
  c4 : ∀ (q : Nat) (h : q < ys.length), w.cell? ⟨b, o + q * 5 + 4, none⟩ = some (.int .i64 ys[q].fl)
  len : ys.length ≤ maxLen
/-- an op in a block of its own -/
def OpAt (X : World) (O : Nat) (y : TO) : Prop := X.heap[O]? = some (.cells #[.int .i64 y.kind, .int .i64 y.pl, .int .i64 y.n, .int .i64 y.nd, .int .i64 y.fl] 43)
theorem OpAt.c0 {w : World} {O : Nat} {y : TO} (h : OpAt w O y) : w.cell? ⟨O, 0, none⟩ = some (.int .i64 y.kind) := by unfold World.cell?; rw [h]; rfl
theorem OpAt.c1 {w : World} {O : Nat} {y : TO} (h : OpAt w O y) : w.cell? ⟨O, 1, none⟩ = some (.int .i64 y.pl) := by unfold World.cell?; rw [h]; rfl
theorem OpAt.c3 {w : World} {O : Nat} {y : TO} (h : OpAt w O y) : w.cell? ⟨O, 3, none⟩ = some (.int .i64 y.nd) := by unfold World.cell?; rw [h]; rfl
theorem OpAt.c4 {w : World} {O : Nat} {y : TO} (h : OpAt w O y) : w.cell? ⟨O, 4, none⟩ = some (.int .i64 y.fl) := by unfold World.cell?; rw [h]; rfl
theorem OpAt.c2 {w : World} {O : Nat} {y : TO} (h : OpAt w O y) : w.cell? ⟨O, 2, none⟩ = some (.int .i64 y.n) := by unfold World.cell?; rw [h]; rfl
theorem OpAt.other {w w' : World} {O R : Nat} {y : TO} {r' p' c' k' : Int} (h : OpAt w O y) (hR : BkAt w R r' p' c' k') (hg : w.grownBy w' (some R)) : OpAt w' O y := by
  refine (hg.block _ (blk_lt h) (fun e => ?_)).trans h
  obtain rfl : O = R := by cases e; rfl
  have := (show w.heap[O]? = _ from h).symm.trans hR
  simp at this
end Go.Proofs.Ytkfiaahgcljljaa
