import Derived.Test.YtkfiaahgcljljabTcRef
import Derived.Test.YtkfiaahgcljljabTbTo
namespace Go.Proofs.Ytkfiaahgcljljab
open Go.RowKit
set_option maxHeartbeats 8000000 in
set_option maxRecDepth 100000 in
set_option linter.unusedSimpArgs false in
set_option linter.unusedVariables false in
theorem num10_any (e : Int) (w : World) : Calls Try.prog 8 #[.int .i64 e] w fun v w' => v = .returned (.int .i64 e) ∧ w = w' := by
  go_enter Try.func8, Try.ntmps8
  go_wp2_with fail
  go_ret
  exact ⟨rfl, rfl⟩
/-- which of the two a number means -/
def plJ (n : Int) : Int := Int.tmod (Int.tmod n 2 + 2) 2
theorem plJ_two (n : Int) : plJ n = 0 ∨ plJ n = 1 := by
  unfold plJ
  have h1 : -2 < Int.tmod n 2 := by have := Int.lt_tmod_of_pos n (show (0 : Int) < 2 by omega); omega
  rw [Int.tmod_eq_emod_of_nonneg (by omega)]
  omega
set_option maxHeartbeats 8000000 in
set_option maxRecDepth 100000 in
set_option linter.unusedSimpArgs false in
set_option linter.unusedVariables false in
theorem place_any (n : Int) (w : World) : Calls Try.prog 9 #[.int .i64 n] w fun v w' => v = .returned (.int .i64 (plJ n)) ∧ w' = w := by
  have h1 : -2 < Int.tmod n 2 := by have := Int.lt_tmod_of_pos n (show (0 : Int) < 2 by omega); omega
  have h2 : Int.tmod n 2 < 2 := Int.tmod_lt_of_pos n (by omega)
  have x1 := wrap_in (x := Int.tmod n 2) (by omega) (by omega)
  have x2 := wrap_in (x := Int.tmod n 2 + 2) (by omega) (by omega)
  have h3 := plJ_two n
  have x3 := wrap_in (x := plJ n) (by omega) (by omega)
  unfold plJ at x3 ⊢
  go_enter Try.func9, Try.ntmps9
  go_wp2_with fail
  go_ret
  exact ⟨by simp [x1, x2, x3]; rw [Int.tmod_eq_emod_of_nonneg (show 0 ≤ Int.tmod n 2 + 2 by omega)]; omega, rfl⟩
theorem fits_tickQ {r p c k : Int} (h : Fits r p c k) (n : Int) : Fits r p c (tickQ r p c k n) := by
  unfold tickQ
  split
  · rename_i hn
    exact h.tick hn.1
  · exact h
/-- a bucket at one place -/
structure SB where
  r : Int
  p : Int
  c : Int
  k : Int
def pv (R : Nat) : Option SB → Value
  | none => .pointer none
  | some _ => .pointer (some ⟨R, 0, none⟩)
/-- both, the program's and the document's, are there and hold the same -/
def Sl (n₀ : Nat) (X : World) (R Q : Nat) : Option SB → Prop
  | none => True
  | some s => BkAt X R s.r s.p s.c s.k ∧ RfAt X Q s.r s.p s.c s.k ∧ Fits s.r s.p s.c s.k ∧ n₀ ≤ R ∧ n₀ ≤ Q
/-- the two places -/
structure PlAt (n₀ : Nat) (w X : World) (G R0 R1 Q0 Q1 : Nat) (s0 s1 : Option SB) : Prop where
  g : X.heap[G]? = some (.cells #[pv R0 s0, pv R1 s1, pv Q0 s0, pv Q1 s1] 31)
  a : Sl n₀ X R0 Q0 s0
  b : Sl n₀ X R1 Q1 s1
  ne : s0.isSome = true → s1.isSome = true → R0 ≠ R1 ∧ Q0 ≠ Q1
  ga : n₀ ≤ G
  bel : Below n₀ w X
  le : n₀ ≤ w.heap.size
theorem Sl.below {n₀ : Nat} {X X' : World} {R Q : Nat} {s : Option SB} (h : Sl n₀ X R Q s) (hb : Below X.heap.size X X') : Sl n₀ X' R Q s := by
  cases s with
  | none => trivial
  | some s => exact ⟨h.1.below hb, h.2.1.below hb, h.2.2⟩
theorem bk_ne_rf {X : World} {R Q : Nat} {r p c k r' p' c' k' : Int} (h : BkAt X R r p c k) (f : RfAt X Q r' p' c' k') : R ≠ Q := by
  rintro rfl
  have := (show X.heap[R]? = _ from h).symm.trans f
  simp at this
theorem Sl.bk {n₀ : Nat} {X X' : World} {R Q : Nat} {s : Option SB} (h : Sl n₀ X R Q s) {A : Nat} {r p c k : Int} (hA : BkAt X A r p c k) (hg : X.grownBy X' (some A)) (hne : s.isSome = true → R ≠ A) : Sl n₀ X' R Q s := by
  cases s with
  | none => trivial
  | some s => exact ⟨h.1.other hg (hne rfl), h.2.1.other hg (bk_ne_rf hA h.2.1).symm, h.2.2⟩
theorem Sl.rf {n₀ : Nat} {X X' : World} {R Q : Nat} {s : Option SB} (h : Sl n₀ X R Q s) {A : Nat} {r p c k : Int} (hA : RfAt X A r p c k) (hg : X.grownBy X' (some A)) (hne : s.isSome = true → Q ≠ A) : Sl n₀ X' R Q s := by
  cases s with
  | none => trivial
  | some s => exact ⟨h.1.other hg (bk_ne_rf h.1 hA), h.2.1.other hg (hne rfl), h.2.2⟩
theorem pl_bk {X X' : World} {G A : Nat} {u : Array Value} {r p c k : Int} (h : X.heap[G]? = some (.cells u 31)) (hA : BkAt X A r p c k) (hg : X.grownBy X' (some A)) : X'.heap[G]? = some (.cells u 31) := by
  refine (hg.block _ (blk_lt h) (fun e => ?_)).trans h
  obtain rfl : G = A := by cases e; rfl
  have := h.symm.trans hA
  simp at this
theorem pl_rf {X X' : World} {G A : Nat} {u : Array Value} {r p c k : Int} (h : X.heap[G]? = some (.cells u 31)) (hA : RfAt X A r p c k) (hg : X.grownBy X' (some A)) : X'.heap[G]? = some (.cells u 31) := by
  refine (hg.block _ (blk_lt h) (fun e => ?_)).trans h
  obtain rfl : G = A := by cases e; rfl
  have := h.symm.trans hA
  simp at this
theorem PlAt.below {n₀ : Nat} {w X X' : World} {G R0 R1 Q0 Q1 : Nat} {s0 s1 : Option SB} (h : PlAt n₀ w X G R0 R1 Q0 Q1 s0 s1) (hb : Below X.heap.size X X') : PlAt n₀ w X' G R0 R1 Q0 Q1 s0 s1 :=
  ⟨(hb.block _ (blk_lt h.g)).trans h.g, h.a.below hb, h.b.below hb, h.ne, h.ga, h.bel.trans (hb.mono (Nat.le_trans h.le h.bel.size)), h.le⟩
theorem PlAt.drewN {n₀ : Nat} {w X : World} {G R0 R1 Q0 Q1 : Nat} {s0 s1 : Option SB} (h : PlAt n₀ w X G R0 R1 Q0 Q1 s0 s1) (n : Nat) : PlAt n₀ w (X.drewN n) G R0 R1 Q0 Q1 s0 s1 := h.below ⟨rfl, rfl, rfl, Nat.le_refl _, fun _ _ => rfl⟩
theorem OpAt.drewN {X : World} {O : Nat} {y : TO} (h : OpAt X O y) (n : Nat) : OpAt (X.drewN n) O y := h
theorem OpAt.rf {w w' : World} {O R : Nat} {y : TO} {r' p' c' k' : Int} (h : OpAt w O y) (hR : RfAt w R r' p' c' k') (hg : w.grownBy w' (some R)) : OpAt w' O y := by
  refine (hg.block _ (blk_lt h) (fun e => ?_)).trans h
  obtain rfl : O = R := by cases e; rfl
  have := (show w.heap[O]? = _ from h).symm.trans hR
  simp at this
/-- place 0 was asked, both of it -/
theorem PlAt.step0 {n₀ : Nat} {w X X1 X2 : World} {G R0 R1 Q0 Q1 : Nat} {s : SB} {s1 : Option SB} {k' : Int} (h : PlAt n₀ w X G R0 R1 Q0 Q1 (some s) s1) (b1 : BkAt X1 R0 s.r s.p s.c k') (g1 : X.grownBy X1 (some R0)) (f2 : RfAt X2 Q0 s.r s.p s.c k') (g2 : X1.grownBy X2 (some Q0)) (hf : Fits s.r s.p s.c k') :
    PlAt n₀ w X2 G R0 R1 Q0 Q1 (some ⟨s.r, s.p, s.c, k'⟩) s1 := by
  obtain ⟨a1, a2, a3, a4, a5⟩ := h.a
  have f1 := a2.other g1 (bk_ne_rf a1 a2).symm
  exact ⟨pl_rf (pl_bk h.g a1 g1) f1 g2, ⟨b1.other g2 (bk_ne_rf b1 f1), f2, hf, a4, a5⟩, (h.b.bk a1 g1 (fun e => (h.ne rfl e).1.symm)).rf f1 g2 (fun e => (h.ne rfl e).2.symm), fun _ e => h.ne rfl e, h.ga, (h.bel.trans (grown_n0 g1 a4 (blk_lt a1))).trans (grown_n0 g2 a5 (blk_lt f1)), h.le⟩
/-- place 1 was asked, both of it -/
theorem PlAt.step1 {n₀ : Nat} {w X X1 X2 : World} {G R0 R1 Q0 Q1 : Nat} {s : SB} {s0 : Option SB} {k' : Int} (h : PlAt n₀ w X G R0 R1 Q0 Q1 s0 (some s)) (b1 : BkAt X1 R1 s.r s.p s.c k') (g1 : X.grownBy X1 (some R1)) (f2 : RfAt X2 Q1 s.r s.p s.c k') (g2 : X1.grownBy X2 (some Q1)) (hf : Fits s.r s.p s.c k') :
    PlAt n₀ w X2 G R0 R1 Q0 Q1 s0 (some ⟨s.r, s.p, s.c, k'⟩) := by
  obtain ⟨a1, a2, a3, a4, a5⟩ := h.b
  have f1 := a2.other g1 (bk_ne_rf a1 a2).symm
  exact ⟨pl_rf (pl_bk h.g a1 g1) f1 g2, (h.a.bk a1 g1 (fun e => (h.ne e rfl).1)).rf f1 g2 (fun e => (h.ne e rfl).2), ⟨b1.other g2 (bk_ne_rf b1 f1), f2, hf, a4, a5⟩, fun e _ => h.ne e rfl, h.ga, (h.bel.trans (grown_n0 g1 a4 (blk_lt a1))).trans (grown_n0 g2 a5 (blk_lt f1)), h.le⟩
set_option maxHeartbeats 8000000 in
set_option maxRecDepth 100000 in
set_option linter.unusedSimpArgs false in
set_option linter.unusedVariables false in
theorem plays_0none (n₀ : Nat) (w X : World) (G R0 R1 Q0 Q1 : Nat) (s1 : Option SB) (y : TO) (hj : plJ y.pl = 0) (h : PlAt n₀ w X G R0 R1 Q0 Q1 none s1) :
    Calls Try.prog 5 #[.pointer (some ⟨G, 0, none⟩), .agg #[.int .i64 y.kind, .int .i64 y.pl, .int .i64 y.n, .int .i64 y.nd, .int .i64 y.fl]] X fun v X' => v = .returned (.bool true) ∧ ∃ s0' s1', PlAt n₀ w X' G R0 R1 Q0 Q1 s0' s1' := by
  obtain ⟨yk, yp, n, yd, yf⟩ := y
  dsimp only at hj ⊢
  obtain ⟨WX, hWX⟩ : ∃ WX, WX = X.alloc (.cells #[.int .i64 yk, .int .i64 yp, .int .i64 n, .int .i64 yd, .int .i64 yf] 37) := ⟨_, rfl⟩
  obtain ⟨O, hO⟩ : ∃ O, O = X.heap.size := ⟨_, rfl⟩
  have OX : Hid (OpAt WX O ⟨yk, yp, n, yd, yf⟩) := by subst hWX; subst hO; exact heap_last _ _
  have TX : Hid (PlAt n₀ w WX G R0 R1 Q0 Q1 none s1) := by subst hWX; exact h.below ((Below.refl _ _).alloc (Nat.le_refl _) _)
  have PL : Hid (∀ W, Calls Try.prog 9 #[.int .i64 yp] W fun v w' => v = .returned (.int .i64 0) ∧ w' = W) := fun W => by rw [← hj]; exact place_any yp W
  clear hj h
  go_enter Try.func5, Try.ntmps5
  go_wp2_with fail
  rw [← hWX, ← hO]
  clear hWX hO
  have o1 := OX.out.c1
  have q0 : WX.cell? ⟨G, 0, none⟩ = some (.pointer none) := by unfold World.cell?; rw [TX.out.g]; rfl
  have q1 : WX.cell? ⟨G, 2, none⟩ = some (.pointer none) := by unfold World.cell?; rw [TX.out.g]; rfl
  dsimp only at o1
  go_quiet (first | (go_at_call 9; refine Calls.quiet_of_same (PL.out _)))
  replace OX : Hid (OpAt (WX.drewN nq) O ⟨yk, yp, n, yd, yf⟩) := OX.out.drewN _
  replace TX : Hid (PlAt n₀ w (WX.drewN nq) G R0 R1 Q0 Q1 none s1) := TX.out.drewN _
  clear o1 q0 q1
  generalize WX.drewN nq = W1 at *
  have o1 := OX.out.c1
  have q1 : W1.cell? ⟨G, 2, none⟩ = some (.pointer none) := by unfold World.cell?; rw [TX.out.g]; rfl
  dsimp only at o1
  go_wp2_with fail
  go_quiet (first | (go_at_call 9; refine Calls.quiet_of_same (PL.out _)))
  replace OX : Hid (OpAt (W1.drewN nq) O ⟨yk, yp, n, yd, yf⟩) := OX.out.drewN _
  replace TX : Hid (PlAt n₀ w (W1.drewN nq) G R0 R1 Q0 Q1 none s1) := TX.out.drewN _
  clear o1 q1
  generalize W1.drewN nq = W2 at *
  have o0 := OX.out.c0
  have o2 := OX.out.c2
  dsimp only at o0 o2
  by_cases hk1 : yk = 1
  case pos =>
    subst hk1
    have C1 := hide (tick_nil n W2)
    go_wp2_with fail
    refine Calls.mono C1.out ?_
    rintro e u1 ⟨rfl, rfl⟩
    clear C1
    have C2 := hide (rtick_nil n W2)
    go_wp2_with fail
    refine Calls.mono C2.out ?_
    rintro e u2 ⟨rfl, rfl⟩
    clear C2
    go_wp2_with (go_at_call 8; refine Calls.mono (num10_any _ _) ?_; rintro e wn ⟨rfl, rfl⟩)
    go_ret
    exact ⟨rfl, _, _, TX.out⟩
  by_cases hk2 : yk = 2
  case pos =>
    subst hk2
    have C1 := hide (take_nil n W2)
    go_wp2_with fail
    refine Calls.mono C1.out ?_
    rintro e u1 ⟨rfl, rfl⟩
    clear C1
    have C2 := hide (rtake_nil n W2)
    go_wp2_with fail
    refine Calls.mono C2.out ?_
    rintro e u2 ⟨rfl, rfl⟩
    clear C2
    go_wp2_with (go_at_call 8; refine Calls.mono (num10_any _ _) ?_; rintro e wn ⟨rfl, rfl⟩)
    go_ret
    exact ⟨rfl, _, _, TX.out⟩
  by_cases hk3 : yk = 3
  case pos =>
    subst hk3
    have C1 := hide (wait_nil n W2)
    go_wp2_with fail
    refine Calls.mono C1.out ?_
    rintro e u1 ⟨rfl, rfl⟩
    clear C1
    have C2 := hide (rwait_nil n W2)
    go_wp2_with fail
    refine Calls.mono C2.out ?_
    rintro e u2 ⟨rfl, rfl⟩
    clear C2
    go_wp2_with (go_at_call 8; refine Calls.mono (num10_any _ _) ?_; rintro e wn ⟨rfl, rfl⟩)
    go_ret
    exact ⟨rfl, _, _, TX.out⟩
  by_cases hk4 : yk = 4
  case pos =>
    subst hk4
    have C1 := hide (level_nil W2)
    go_wp2_with fail
    refine Calls.mono C1.out ?_
    rintro e u1 ⟨rfl, rfl⟩
    clear C1
    have C2 := hide (rlevel_nil W2)
    go_wp2_with fail
    refine Calls.mono C2.out ?_
    rintro e u2 ⟨rfl, rfl⟩
    clear C2
    go_wp2_with (go_at_call 8; refine Calls.mono (num10_any _ _) ?_; rintro e wn ⟨rfl, rfl⟩)
    go_ret
    exact ⟨rfl, _, _, TX.out⟩
  go_wp2_with fail
  go_ret
  exact ⟨rfl, _, _, TX.out⟩
set_option maxHeartbeats 8000000 in
set_option maxRecDepth 100000 in
set_option linter.unusedSimpArgs false in
set_option linter.unusedVariables false in
theorem plays_0some (n₀ : Nat) (w X : World) (G R0 R1 Q0 Q1 : Nat) (s1 : Option SB) (s : SB) (y : TO) (hj : plJ y.pl = 0) (h : PlAt n₀ w X G R0 R1 Q0 Q1 (some s) s1) :
    Calls Try.prog 5 #[.pointer (some ⟨G, 0, none⟩), .agg #[.int .i64 y.kind, .int .i64 y.pl, .int .i64 y.n, .int .i64 y.nd, .int .i64 y.fl]] X fun v X' => v = .returned (.bool true) ∧ ∃ s0' s1', PlAt n₀ w X' G R0 R1 Q0 Q1 s0' s1' := by
  obtain ⟨yk, yp, n, yd, yf⟩ := y
  dsimp only at hj ⊢
  obtain ⟨WX, hWX⟩ : ∃ WX, WX = X.alloc (.cells #[.int .i64 yk, .int .i64 yp, .int .i64 n, .int .i64 yd, .int .i64 yf] 37) := ⟨_, rfl⟩
  obtain ⟨O, hO⟩ : ∃ O, O = X.heap.size := ⟨_, rfl⟩
  have OX : Hid (OpAt WX O ⟨yk, yp, n, yd, yf⟩) := by subst hWX; subst hO; exact heap_last _ _
  have TX : Hid (PlAt n₀ w WX G R0 R1 Q0 Q1 (some s) s1) := by subst hWX; exact h.below ((Below.refl _ _).alloc (Nat.le_refl _) _)
  have PL : Hid (∀ W, Calls Try.prog 9 #[.int .i64 yp] W fun v w' => v = .returned (.int .i64 0) ∧ w' = W) := fun W => by rw [← hj]; exact place_any yp W
  clear hj h
  go_enter Try.func5, Try.ntmps5
  go_wp2_with fail
  rw [← hWX, ← hO]
  clear hWX hO
  have o1 := OX.out.c1
  have q0 : WX.cell? ⟨G, 0, none⟩ = some (.pointer (some ⟨R0, 0, none⟩)) := by unfold World.cell?; rw [TX.out.g]; rfl
  have q1 : WX.cell? ⟨G, 2, none⟩ = some (.pointer (some ⟨Q0, 0, none⟩)) := by unfold World.cell?; rw [TX.out.g]; rfl
  dsimp only at o1
  go_quiet (first | (go_at_call 9; refine Calls.quiet_of_same (PL.out _)))
  replace OX : Hid (OpAt (WX.drewN nq) O ⟨yk, yp, n, yd, yf⟩) := OX.out.drewN _
  replace TX : Hid (PlAt n₀ w (WX.drewN nq) G R0 R1 Q0 Q1 (some s) s1) := TX.out.drewN _
  clear o1 q0 q1
  generalize WX.drewN nq = W1 at *
  have o1 := OX.out.c1
  have q1 : W1.cell? ⟨G, 2, none⟩ = some (.pointer (some ⟨Q0, 0, none⟩)) := by unfold World.cell?; rw [TX.out.g]; rfl
  dsimp only at o1
  go_wp2_with fail
  go_quiet (first | (go_at_call 9; refine Calls.quiet_of_same (PL.out _)))
  replace OX : Hid (OpAt (W1.drewN nq) O ⟨yk, yp, n, yd, yf⟩) := OX.out.drewN _
  replace TX : Hid (PlAt n₀ w (W1.drewN nq) G R0 R1 Q0 Q1 (some s) s1) := TX.out.drewN _
  clear o1 q1
  generalize W1.drewN nq = W2 at *
  have o0 := OX.out.c0
  have o2 := OX.out.c2
  dsimp only at o0 o2
  by_cases hk1 : yk = 1
  case pos =>
    subst hk1
    obtain ⟨a1, a2, a3, a4, a5⟩ := TX.out.a
    have HF := hide a3
    have C1 := hide (tick_all W2 R0 s.r s.p s.c s.k n a1 a3)
    have C2G := hide (fun u f => rtick_all u Q0 s.r s.p s.c s.k n f a3)
    have A2 := hide a2
    have A1 := hide a1
    clear a1 a2 a3 a4 a5
    generalize tickE n = ee at *
    go_wp2_with fail
    refine Calls.mono C1.out ?_
    rintro e u1 ⟨rfl, b1, g1⟩
    have O1 := OX.out.other A1.out g1
    have o2' := O1.c2
    dsimp only at o2'
    have f1 := A2.out.other g1 (bk_ne_rf A1.out A2.out).symm
    have C2 := C2G.out u1 f1
    have B1 := hide b1
    have G1 := hide g1
    clear C1 C2G b1 g1 o0 o2 O1 f1
    have C2 := hide C2
    go_wp2_with fail
    refine Calls.mono C2.out ?_
    rintro e u2 ⟨rfl, b2, g2⟩
    have T2 := hide (TX.out.step0 B1.out G1.out b2 g2 (fits_tickQ HF.out n))
    clear C2 b2 g2 o2'
    go_wp2_with (go_at_call 8; refine Calls.mono (num10_any _ _) ?_; rintro e wn ⟨rfl, rfl⟩)
    go_ret
    exact ⟨by simp, _, _, T2.out⟩
  by_cases hk2 : yk = 2
  case pos =>
    subst hk2
    obtain ⟨a1, a2, a3, a4, a5⟩ := TX.out.a
    have HF := hide a3
    have C1 := hide (take_any W2 R0 s.r s.p s.c s.k n a1 a3)
    have C2G := hide (fun u f => rtake_any u Q0 s.r s.p s.c s.k n f a3)
    have A2 := hide a2
    have A1 := hide a1
    clear a1 a2 a3 a4 a5
    generalize tookP s.p s.c s.k n = tk at *
    generalize askE s.c n = ee at *
    go_wp2_with fail
    refine Calls.mono C1.out ?_
    rintro e u1 ⟨rfl, b1, g1⟩
    have O1 := OX.out.other A1.out g1
    have o2' := O1.c2
    dsimp only at o2'
    have f1 := A2.out.other g1 (bk_ne_rf A1.out A2.out).symm
    have C2 := C2G.out u1 f1
    have B1 := hide b1
    have G1 := hide g1
    clear C1 C2G b1 g1 o0 o2 O1 f1
    have C2 := hide C2
    go_wp2_with fail
    refine Calls.mono C2.out ?_
    rintro e u2 ⟨rfl, b2, g2⟩
    have T2 := hide (TX.out.step0 B1.out G1.out b2 g2 (HF.out.take n))
    clear C2 b2 g2 o2'
    go_wp2_with (go_at_call 8; refine Calls.mono (num10_any _ _) ?_; rintro e wn ⟨rfl, rfl⟩)
    go_ret
    exact ⟨by simp, _, _, T2.out⟩
  by_cases hk3 : yk = 3
  case pos =>
    subst hk3
    obtain ⟨a1, a2, a3, a4, a5⟩ := TX.out.a
    have HF := hide a3
    have C1 := hide (wait_any W2 R0 s.r s.p s.c s.k n a1 a3)
    have C2G := hide (fun u f => rwait_any u Q0 s.r s.p s.c s.k n f a3)
    have A2 := hide a2
    have A1 := hide a1
    clear a1 a2 a3 a4 a5
    generalize waitP s.r s.p s.c s.k n = wz at *
    generalize askE s.c n = ee at *
    go_wp2_with fail
    refine Calls.mono C1.out ?_
    rintro e u1 ⟨rfl, b1, g1⟩
    have O1 := OX.out.other A1.out g1
    have o2' := O1.c2
    dsimp only at o2'
    have f1 := A2.out.other g1 (bk_ne_rf A1.out A2.out).symm
    have C2 := C2G.out u1 f1
    have B1 := hide b1
    have G1 := hide g1
    clear C1 C2G b1 g1 o0 o2 O1 f1
    have C2 := hide C2
    go_wp2_with fail
    refine Calls.mono C2.out ?_
    rintro e u2 ⟨rfl, b2, g2⟩
    have T2 := hide (TX.out.step0 B1.out G1.out b2 g2 HF.out)
    clear C2 b2 g2 o2'
    go_wp2_with (go_at_call 8; refine Calls.mono (num10_any _ _) ?_; rintro e wn ⟨rfl, rfl⟩)
    go_ret
    exact ⟨by simp, _, _, T2.out⟩
  by_cases hk4 : yk = 4
  case pos =>
    subst hk4
    obtain ⟨a1, a2, a3, a4, a5⟩ := TX.out.a
    have HF := hide a3
    have C1 := hide (level_any W2 R0 s.r s.p s.c s.k a1 a3)
    have C2G := hide (fun u f => rlevel_any u Q0 s.r s.p s.c s.k f a3)
    have A2 := hide a2
    have A1 := hide a1
    clear a1 a2 a3 a4 a5
    generalize s.k / s.p = lv at *
    go_wp2_with fail
    refine Calls.mono C1.out ?_
    rintro e u1 ⟨rfl, b1, g1⟩
    have O1 := OX.out.other A1.out g1
    have o2' := O1.c2
    dsimp only at o2'
    have f1 := A2.out.other g1 (bk_ne_rf A1.out A2.out).symm
    have C2 := C2G.out u1 f1
    have B1 := hide b1
    have G1 := hide g1
    clear C1 C2G b1 g1 o0 o2 O1 f1
    have C2 := hide C2
    go_wp2_with fail
    refine Calls.mono C2.out ?_
    rintro e u2 ⟨rfl, b2, g2⟩
    have T2 := hide (TX.out.step0 B1.out G1.out b2 g2 HF.out)
    clear C2 b2 g2 o2'
    go_wp2_with (go_at_call 8; refine Calls.mono (num10_any _ _) ?_; rintro e wn ⟨rfl, rfl⟩)
    go_ret
    exact ⟨by simp, _, _, T2.out⟩
  go_wp2_with fail
  go_ret
  exact ⟨rfl, _, _, TX.out⟩
set_option maxHeartbeats 8000000 in
set_option maxRecDepth 100000 in
set_option linter.unusedSimpArgs false in
set_option linter.unusedVariables false in
theorem plays_1none (n₀ : Nat) (w X : World) (G R0 R1 Q0 Q1 : Nat) (s0 : Option SB) (y : TO) (hj : plJ y.pl = 1) (h : PlAt n₀ w X G R0 R1 Q0 Q1 s0 none) :
    Calls Try.prog 5 #[.pointer (some ⟨G, 0, none⟩), .agg #[.int .i64 y.kind, .int .i64 y.pl, .int .i64 y.n, .int .i64 y.nd, .int .i64 y.fl]] X fun v X' => v = .returned (.bool true) ∧ ∃ s0' s1', PlAt n₀ w X' G R0 R1 Q0 Q1 s0' s1' := by
  obtain ⟨yk, yp, n, yd, yf⟩ := y
  dsimp only at hj ⊢
  obtain ⟨WX, hWX⟩ : ∃ WX, WX = X.alloc (.cells #[.int .i64 yk, .int .i64 yp, .int .i64 n, .int .i64 yd, .int .i64 yf] 37) := ⟨_, rfl⟩
  obtain ⟨O, hO⟩ : ∃ O, O = X.heap.size := ⟨_, rfl⟩
  have OX : Hid (OpAt WX O ⟨yk, yp, n, yd, yf⟩) := by subst hWX; subst hO; exact heap_last _ _
  have TX : Hid (PlAt n₀ w WX G R0 R1 Q0 Q1 s0 none) := by subst hWX; exact h.below ((Below.refl _ _).alloc (Nat.le_refl _) _)
  have PL : Hid (∀ W, Calls Try.prog 9 #[.int .i64 yp] W fun v w' => v = .returned (.int .i64 1) ∧ w' = W) := fun W => by rw [← hj]; exact place_any yp W
  clear hj h
  go_enter Try.func5, Try.ntmps5
  go_wp2_with fail
  rw [← hWX, ← hO]
  clear hWX hO
  have o1 := OX.out.c1
  have q0 : WX.cell? ⟨G, 1, none⟩ = some (.pointer none) := by unfold World.cell?; rw [TX.out.g]; rfl
  have q1 : WX.cell? ⟨G, 3, none⟩ = some (.pointer none) := by unfold World.cell?; rw [TX.out.g]; rfl
  dsimp only at o1
  go_quiet (first | (go_at_call 9; refine Calls.quiet_of_same (PL.out _)))
  replace OX : Hid (OpAt (WX.drewN nq) O ⟨yk, yp, n, yd, yf⟩) := OX.out.drewN _
  replace TX : Hid (PlAt n₀ w (WX.drewN nq) G R0 R1 Q0 Q1 s0 none) := TX.out.drewN _
  clear o1 q0 q1
  generalize WX.drewN nq = W1 at *
  have o1 := OX.out.c1
  have q1 : W1.cell? ⟨G, 3, none⟩ = some (.pointer none) := by unfold World.cell?; rw [TX.out.g]; rfl
  dsimp only at o1
  go_wp2_with fail
  go_quiet (first | (go_at_call 9; refine Calls.quiet_of_same (PL.out _)))
  replace OX : Hid (OpAt (W1.drewN nq) O ⟨yk, yp, n, yd, yf⟩) := OX.out.drewN _
  replace TX : Hid (PlAt n₀ w (W1.drewN nq) G R0 R1 Q0 Q1 s0 none) := TX.out.drewN _
  clear o1 q1
  generalize W1.drewN nq = W2 at *
  have o0 := OX.out.c0
  have o2 := OX.out.c2
  dsimp only at o0 o2
  by_cases hk1 : yk = 1
  case pos =>
    subst hk1
    have C1 := hide (tick_nil n W2)
    go_wp2_with fail
    refine Calls.mono C1.out ?_
    rintro e u1 ⟨rfl, rfl⟩
    clear C1
    have C2 := hide (rtick_nil n W2)
    go_wp2_with fail
    refine Calls.mono C2.out ?_
    rintro e u2 ⟨rfl, rfl⟩
    clear C2
    go_wp2_with (go_at_call 8; refine Calls.mono (num10_any _ _) ?_; rintro e wn ⟨rfl, rfl⟩)
    go_ret
    exact ⟨rfl, _, _, TX.out⟩
  by_cases hk2 : yk = 2
  case pos =>
    subst hk2
    have C1 := hide (take_nil n W2)
    go_wp2_with fail
    refine Calls.mono C1.out ?_
    rintro e u1 ⟨rfl, rfl⟩
    clear C1
    have C2 := hide (rtake_nil n W2)
    go_wp2_with fail
    refine Calls.mono C2.out ?_
    rintro e u2 ⟨rfl, rfl⟩
    clear C2
    go_wp2_with (go_at_call 8; refine Calls.mono (num10_any _ _) ?_; rintro e wn ⟨rfl, rfl⟩)
    go_ret
    exact ⟨rfl, _, _, TX.out⟩
  by_cases hk3 : yk = 3
  case pos =>
    subst hk3
    have C1 := hide (wait_nil n W2)
    go_wp2_with fail
    refine Calls.mono C1.out ?_
    rintro e u1 ⟨rfl, rfl⟩
    clear C1
    have C2 := hide (rwait_nil n W2)
    go_wp2_with fail
    refine Calls.mono C2.out ?_
    rintro e u2 ⟨rfl, rfl⟩
    clear C2
    go_wp2_with (go_at_call 8; refine Calls.mono (num10_any _ _) ?_; rintro e wn ⟨rfl, rfl⟩)
    go_ret
    exact ⟨rfl, _, _, TX.out⟩
  by_cases hk4 : yk = 4
  case pos =>
    subst hk4
    have C1 := hide (level_nil W2)
    go_wp2_with fail
    refine Calls.mono C1.out ?_
    rintro e u1 ⟨rfl, rfl⟩
    clear C1
    have C2 := hide (rlevel_nil W2)
    go_wp2_with fail
    refine Calls.mono C2.out ?_
    rintro e u2 ⟨rfl, rfl⟩
    clear C2
    go_wp2_with (go_at_call 8; refine Calls.mono (num10_any _ _) ?_; rintro e wn ⟨rfl, rfl⟩)
    go_ret
    exact ⟨rfl, _, _, TX.out⟩
  go_wp2_with fail
  go_ret
  exact ⟨rfl, _, _, TX.out⟩
set_option maxHeartbeats 8000000 in
set_option maxRecDepth 100000 in
set_option linter.unusedSimpArgs false in
set_option linter.unusedVariables false in
theorem plays_1some (n₀ : Nat) (w X : World) (G R0 R1 Q0 Q1 : Nat) (s0 : Option SB) (s : SB) (y : TO) (hj : plJ y.pl = 1) (h : PlAt n₀ w X G R0 R1 Q0 Q1 s0 (some s)) :
    Calls Try.prog 5 #[.pointer (some ⟨G, 0, none⟩), .agg #[.int .i64 y.kind, .int .i64 y.pl, .int .i64 y.n, .int .i64 y.nd, .int .i64 y.fl]] X fun v X' => v = .returned (.bool true) ∧ ∃ s0' s1', PlAt n₀ w X' G R0 R1 Q0 Q1 s0' s1' := by
  obtain ⟨yk, yp, n, yd, yf⟩ := y
  dsimp only at hj ⊢
  obtain ⟨WX, hWX⟩ : ∃ WX, WX = X.alloc (.cells #[.int .i64 yk, .int .i64 yp, .int .i64 n, .int .i64 yd, .int .i64 yf] 37) := ⟨_, rfl⟩
  obtain ⟨O, hO⟩ : ∃ O, O = X.heap.size := ⟨_, rfl⟩
  have OX : Hid (OpAt WX O ⟨yk, yp, n, yd, yf⟩) := by subst hWX; subst hO; exact heap_last _ _
  have TX : Hid (PlAt n₀ w WX G R0 R1 Q0 Q1 s0 (some s)) := by subst hWX; exact h.below ((Below.refl _ _).alloc (Nat.le_refl _) _)
  have PL : Hid (∀ W, Calls Try.prog 9 #[.int .i64 yp] W fun v w' => v = .returned (.int .i64 1) ∧ w' = W) := fun W => by rw [← hj]; exact place_any yp W
  clear hj h
  go_enter Try.func5, Try.ntmps5
  go_wp2_with fail
  rw [← hWX, ← hO]
  clear hWX hO
  have o1 := OX.out.c1
  have q0 : WX.cell? ⟨G, 1, none⟩ = some (.pointer (some ⟨R1, 0, none⟩)) := by unfold World.cell?; rw [TX.out.g]; rfl
  have q1 : WX.cell? ⟨G, 3, none⟩ = some (.pointer (some ⟨Q1, 0, none⟩)) := by unfold World.cell?; rw [TX.out.g]; rfl
  dsimp only at o1
  go_quiet (first | (go_at_call 9; refine Calls.quiet_of_same (PL.out _)))
  replace OX : Hid (OpAt (WX.drewN nq) O ⟨yk, yp, n, yd, yf⟩) := OX.out.drewN _
  replace TX : Hid (PlAt n₀ w (WX.drewN nq) G R0 R1 Q0 Q1 s0 (some s)) := TX.out.drewN _
  clear o1 q0 q1
  generalize WX.drewN nq = W1 at *
  have o1 := OX.out.c1
  have q1 : W1.cell? ⟨G, 3, none⟩ = some (.pointer (some ⟨Q1, 0, none⟩)) := by unfold World.cell?; rw [TX.out.g]; rfl
  dsimp only at o1
  go_wp2_with fail
  go_quiet (first | (go_at_call 9; refine Calls.quiet_of_same (PL.out _)))
  replace OX : Hid (OpAt (W1.drewN nq) O ⟨yk, yp, n, yd, yf⟩) := OX.out.drewN _
  replace TX : Hid (PlAt n₀ w (W1.drewN nq) G R0 R1 Q0 Q1 s0 (some s)) := TX.out.drewN _
  clear o1 q1
  generalize W1.drewN nq = W2 at *
  have o0 := OX.out.c0
  have o2 := OX.out.c2
  dsimp only at o0 o2
  by_cases hk1 : yk = 1
  case pos =>
    subst hk1
    obtain ⟨a1, a2, a3, a4, a5⟩ := TX.out.b
    have HF := hide a3
    have C1 := hide (tick_all W2 R1 s.r s.p s.c s.k n a1 a3)
    have C2G := hide (fun u f => rtick_all u Q1 s.r s.p s.c s.k n f a3)
    have A2 := hide a2
    have A1 := hide a1
    clear a1 a2 a3 a4 a5
    generalize tickE n = ee at *
    go_wp2_with fail
    refine Calls.mono C1.out ?_
    rintro e u1 ⟨rfl, b1, g1⟩
    have O1 := OX.out.other A1.out g1
    have o2' := O1.c2
    dsimp only at o2'
    have f1 := A2.out.other g1 (bk_ne_rf A1.out A2.out).symm
    have C2 := C2G.out u1 f1
    have B1 := hide b1
    have G1 := hide g1
    clear C1 C2G b1 g1 o0 o2 O1 f1
    have C2 := hide C2
    go_wp2_with fail
    refine Calls.mono C2.out ?_
    rintro e u2 ⟨rfl, b2, g2⟩
    have T2 := hide (TX.out.step1 B1.out G1.out b2 g2 (fits_tickQ HF.out n))
    clear C2 b2 g2 o2'
    go_wp2_with (go_at_call 8; refine Calls.mono (num10_any _ _) ?_; rintro e wn ⟨rfl, rfl⟩)
    go_ret
    exact ⟨by simp, _, _, T2.out⟩
  by_cases hk2 : yk = 2
  case pos =>
    subst hk2
    obtain ⟨a1, a2, a3, a4, a5⟩ := TX.out.b
    have HF := hide a3
    have C1 := hide (take_any W2 R1 s.r s.p s.c s.k n a1 a3)
    have C2G := hide (fun u f => rtake_any u Q1 s.r s.p s.c s.k n f a3)
    have A2 := hide a2
    have A1 := hide a1
    clear a1 a2 a3 a4 a5
    generalize tookP s.p s.c s.k n = tk at *
    generalize askE s.c n = ee at *
    go_wp2_with fail
    refine Calls.mono C1.out ?_
    rintro e u1 ⟨rfl, b1, g1⟩
    have O1 := OX.out.other A1.out g1
    have o2' := O1.c2
    dsimp only at o2'
    have f1 := A2.out.other g1 (bk_ne_rf A1.out A2.out).symm
    have C2 := C2G.out u1 f1
    have B1 := hide b1
    have G1 := hide g1
    clear C1 C2G b1 g1 o0 o2 O1 f1
    have C2 := hide C2
    go_wp2_with fail
    refine Calls.mono C2.out ?_
    rintro e u2 ⟨rfl, b2, g2⟩
    have T2 := hide (TX.out.step1 B1.out G1.out b2 g2 (HF.out.take n))
    clear C2 b2 g2 o2'
    go_wp2_with (go_at_call 8; refine Calls.mono (num10_any _ _) ?_; rintro e wn ⟨rfl, rfl⟩)
    go_ret
    exact ⟨by simp, _, _, T2.out⟩
  by_cases hk3 : yk = 3
  case pos =>
    subst hk3
    obtain ⟨a1, a2, a3, a4, a5⟩ := TX.out.b
    have HF := hide a3
    have C1 := hide (wait_any W2 R1 s.r s.p s.c s.k n a1 a3)
    have C2G := hide (fun u f => rwait_any u Q1 s.r s.p s.c s.k n f a3)
    have A2 := hide a2
    have A1 := hide a1
    clear a1 a2 a3 a4 a5
    generalize waitP s.r s.p s.c s.k n = wz at *
    generalize askE s.c n = ee at *
    go_wp2_with fail
    refine Calls.mono C1.out ?_
    rintro e u1 ⟨rfl, b1, g1⟩
    have O1 := OX.out.other A1.out g1
    have o2' := O1.c2
    dsimp only at o2'
    have f1 := A2.out.other g1 (bk_ne_rf A1.out A2.out).symm
    have C2 := C2G.out u1 f1
    have B1 := hide b1
    have G1 := hide g1
    clear C1 C2G b1 g1 o0 o2 O1 f1
    have C2 := hide C2
    go_wp2_with fail
    refine Calls.mono C2.out ?_
    rintro e u2 ⟨rfl, b2, g2⟩
    have T2 := hide (TX.out.step1 B1.out G1.out b2 g2 HF.out)
    clear C2 b2 g2 o2'
    go_wp2_with (go_at_call 8; refine Calls.mono (num10_any _ _) ?_; rintro e wn ⟨rfl, rfl⟩)
    go_ret
    exact ⟨by simp, _, _, T2.out⟩
  by_cases hk4 : yk = 4
  case pos =>
    subst hk4
    obtain ⟨a1, a2, a3, a4, a5⟩ := TX.out.b
    have HF := hide a3
    have C1 := hide (level_any W2 R1 s.r s.p s.c s.k a1 a3)
    have C2G := hide (fun u f => rlevel_any u Q1 s.r s.p s.c s.k f a3)
    have A2 := hide a2
    have A1 := hide a1
    clear a1 a2 a3 a4 a5
    generalize s.k / s.p = lv at *
    go_wp2_with fail
    refine Calls.mono C1.out ?_
    rintro e u1 ⟨rfl, b1, g1⟩
    have O1 := OX.out.other A1.out g1
    have o2' := O1.c2
    dsimp only at o2'
    have f1 := A2.out.other g1 (bk_ne_rf A1.out A2.out).symm
    have C2 := C2G.out u1 f1
    have B1 := hide b1
    have G1 := hide g1
    clear C1 C2G b1 g1 o0 o2 O1 f1
    have C2 := hide C2
    go_wp2_with fail
    refine Calls.mono C2.out ?_
    rintro e u2 ⟨rfl, b2, g2⟩
    have T2 := hide (TX.out.step1 B1.out G1.out b2 g2 HF.out)
    clear C2 b2 g2 o2'
    go_wp2_with (go_at_call 8; refine Calls.mono (num10_any _ _) ?_; rintro e wn ⟨rfl, rfl⟩)
    go_ret
    exact ⟨by simp, _, _, T2.out⟩
  go_wp2_with fail
  go_ret
  exact ⟨rfl, _, _, TX.out⟩
end Go.Proofs.Ytkfiaahgcljljab
