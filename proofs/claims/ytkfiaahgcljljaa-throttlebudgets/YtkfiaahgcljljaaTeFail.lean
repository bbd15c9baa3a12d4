import Derived.Test.YtkfiaahgcljljaaTeRef2
namespace Go.Proofs.Ytkfiaahgcljljaa
open Go.RowKit
/-- all blocks but the budget's and its list's are as they were -/
structure Gr2 (X X' : World) (Q : Nat) (v : Value) : Prop where
  os : X'.os = X.os
  tape : X'.tape = X.tape
  output : X'.output = X.output
  size : X.heap.size ≤ X'.heap.size
  block : ∀ i, i < X.heap.size → i ≠ Q → some i ≠ v.ownBlock → X'.heap[i]? = X.heap[i]?
theorem Gr2.of_below {X X' : World} (Q : Nat) (v : Value) (hb : Below X.heap.size X X') : Gr2 X X' Q v := ⟨hb.os, hb.tape, hb.output, hb.size, fun i hi _ _ => hb.block i hi⟩
theorem Gr2.below {X X' X'' : World} {Q : Nat} {v : Value} (h : Gr2 X X' Q v) (hb : Below X'.heap.size X' X'') : Gr2 X X'' Q v := ⟨hb.os.trans h.os, hb.tape.trans h.tape, hb.output.trans h.output, Nat.le_trans h.size hb.size, fun i hi h1 h2 => (hb.block i (Nat.lt_of_lt_of_le hi h.size)).trans (h.block i hi h1 h2)⟩
theorem Gr2.own {X X' X'' : World} {Q : Nat} {v : Value} (h : Gr2 X X' Q v) (hg : X'.grownBy X'' v.ownBlock) : Gr2 X X'' Q v := ⟨hg.os.trans h.os, hg.tape.trans h.tape, hg.output.trans h.output, Nat.le_trans h.size hg.size, fun i hi h1 h2 => (hg.block i (Nat.lt_of_lt_of_le hi h.size) h2).trans (h.block i hi h1 h2)⟩
theorem Gr2.set {X X' : World} {Q j : Nat} {v : Value} (h : Gr2 X X' Q v) (u : Value) : Gr2 X (X'.setCell ⟨Q, j, none⟩ u) Q v := ⟨h.os, h.tape, h.output, by rw [World.size_setCell]; exact h.size, fun i hi h1 h2 => (Below.heap_setCell _ _ _ i (fun e => h1 (by simp at e; exact e))).trans (h.block i hi h1 h2)⟩
set_option maxHeartbeats 8000000 in
set_option maxRecDepth 100000 in
set_option linter.unusedSimpArgs false in
set_option linter.unusedVariables false in
theorem rbfail_nil (X : World) (a b now : Int) : Calls Try.prog 35 #[.pointer none, .agg #[.int .i64 a, .int .i64 b], .int .i64 now] X fun e X' => e = .returned (.tuple #[.int .i64 0, .int .i64 2]) ∧ Below X.heap.size X X' := by
  go_enter Try.func35, Try.ntmps35
  go_wp2_with fail
  go_ret2
  exact ⟨rfl, (Below.refl _ _).alloc (Nat.le_refl _) _⟩
set_option maxHeartbeats 8000000 in
set_option maxRecDepth 100000 in
set_option linter.unusedSimpArgs false in
set_option linter.unusedVariables false in
theorem rbfail_neg (X : World) (Q : Nat) (a b now : Int) (hw : now < 0) : Calls Try.prog 35 #[.pointer (some ⟨Q, 0, none⟩), .agg #[.int .i64 a, .int .i64 b], .int .i64 now] X fun e X' => e = .returned (.tuple #[.int .i64 0, .int .i64 1]) ∧ Below X.heap.size X X' := by
  go_enter Try.func35, Try.ntmps35
  go_wp2_with fail
  go_ret2
  exact ⟨rfl, (Below.refl _ _).alloc (Nat.le_refl _) _⟩
set_option maxHeartbeats 8000000 in
set_option maxRecDepth 100000 in
set_option linter.unusedSimpArgs false in
set_option linter.unusedVariables false in
theorem rbfail_late (X : World) (Q : Nat) (a b now : Int) (hw : 9007199254740992 < now) : Calls Try.prog 35 #[.pointer (some ⟨Q, 0, none⟩), .agg #[.int .i64 a, .int .i64 b], .int .i64 now] X fun e X' => e = .returned (.tuple #[.int .i64 0, .int .i64 1]) ∧ Below X.heap.size X X' := by
  have hw0 : ¬ now < 0 := by omega
  go_enter Try.func35, Try.ntmps35
  go_wp2_with fail
  go_ret2
  exact ⟨rfl, (Below.refl _ _).alloc (Nat.le_refl _) _⟩
set_option maxHeartbeats 8000000 in
set_option maxRecDepth 100000 in
set_option linter.unusedSimpArgs false in
set_option linter.unusedVariables false in
theorem rbfail_spent (X : World) (base Q : Nat) (t s m a b now : Int) (v : Value) (L : List (Int × Int)) (h : RbAt X base Q t s m v L) (hf : BFits t s m) (hL : L.length ≤ maxLen) (hw0 : 0 ≤ now) (hw1 : now ≤ 9007199254740992) (hc : (cnt a b L : Int) = t) :
    Calls Try.prog 35 #[.pointer (some ⟨Q, 0, none⟩), .agg #[.int .i64 a, .int .i64 b], .int .i64 now] X fun e X' => e = .returned (.tuple #[.int .i64 0, .int .i64 100]) ∧ RbAt X' base Q t s m v L ∧ Below X.heap.size X X' := by
  obtain ⟨WI, hWI⟩ : ∃ WI, WI = X.alloc (.cells #[.int .i64 a, .int .i64 b] 25) := ⟨_, rfl⟩
  obtain ⟨I, hI⟩ : ∃ I, I = X.heap.size := ⟨_, rfl⟩
  have II : Hid (ItAt WI I a b) := by subst hWI; subst hI; exact heap_last _ _
  have bI : Below X.heap.size X WI := by subst hWI; exact (Below.refl _ _).alloc (Nat.le_refl _) _
  have HR := hide (h.below bI)
  have BI := hide bI
  clear bI h
  have TI := times_any WI base Q t s m a b v L HR.out hL
  rw [hc] at TI
  have TI := hide TI
  have i0 := II.out.c0
  have i1 := II.out.c1
  have n0 : ¬ now < 0 := by omega
  have n1 : ¬ 9007199254740992 < now := by omega
  go_enter Try.func35, Try.ntmps35
  go_wp2_with fail
  rw [← hWI, ← hI]
  clear hWI hI
  refine Calls.mono TI.out ?_
  rintro e w1 ⟨rfl, b1⟩
  have HR1 := hide (HR.out.below b1)
  have B1 := hide (BI.out.trans (b1.mono BI.out.size))
  clear b1 TI i0 i1
  have c0 := HR1.out.c0
  go_wp2_with fail
  go_ret2
  exact ⟨rfl, HR1.out, B1.out⟩
end Go.Proofs.Ytkfiaahgcljljaa
