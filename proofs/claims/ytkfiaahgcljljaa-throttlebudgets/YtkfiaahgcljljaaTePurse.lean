import Derived.Test.YtkfiaahgcljljaaTeAll
import Derived.Test.YtkfiaahgcljljaaTbTo
namespace Go.Proofs.Ytkfiaahgcljljaa
open Go.RowKit
set_option maxHeartbeats 8000000 in
set_option maxRecDepth 100000 in
set_option linter.unusedSimpArgs false in
set_option linter.unusedVariables false in
theorem num10_any (e : Int) (w : World) : Calls Try.prog 11 #[.int .i64 e] w fun v w' => v = .returned (.int .i64 e) ∧ w = w' := by
  go_enter Try.func11, Try.ntmps11
  go_wp2_with fail
  go_ret
  exact ⟨rfl, rfl⟩
/-- which of the two a number means -/
def plJ (n : Int) : Int := Int.tmod (Int.tmod n 2 + 2) 2
theorem plJ_two (n : Int) : plJ n = 0 ∨ plJ n = 1 := by
  unfold plJ
  have h1 : -2 < Int.tmod n 2 := by have := Int.lt_tmod_of_pos n (show (0 : Int) < 2 by omega); omega
  rw [Int.tmod_eq_emod_of_nonneg (by omega)]
  omega
set_option maxHeartbeats 8000000 in
set_option maxRecDepth 100000 in
set_option linter.unusedSimpArgs false in
set_option linter.unusedVariables false in
theorem place_any (n : Int) (w : World) : Calls Try.prog 34 #[.int .i64 n] w fun v w' => v = .returned (.int .i64 (plJ n)) ∧ w' = w := by
  have h1 : -2 < Int.tmod n 2 := by have := Int.lt_tmod_of_pos n (show (0 : Int) < 2 by omega); omega
  have h2 : Int.tmod n 2 < 2 := Int.tmod_lt_of_pos n (by omega)
  have x1 := wrap_in (x := Int.tmod n 2) (by omega) (by omega)
  have x2 := wrap_in (x := Int.tmod n 2 + 2) (by omega) (by omega)
  have h3 := plJ_two n
  have x3 := wrap_in (x := plJ n) (by omega) (by omega)
  unfold plJ at x3 ⊢
  go_enter Try.func34, Try.ntmps34
  go_wp2_with fail
  go_ret
  exact ⟨by simp [x1, x2, x3]; rw [Int.tmod_eq_emod_of_nonneg (show 0 ≤ Int.tmod n 2 + 2 by omega)]; omega, rfl⟩
/-- a budget at one place -/
structure SP where
  t : Int
  s : Int
  m : Int
  M : Nat
  n : Nat
  v : Value
  L : List (Int × Int)
def pvP (R : Nat) : Option SP → Value
  | none => .pointer none
  | some _ => .pointer (some ⟨R, 0, none⟩)
def cnF (L : List (Int × Int)) : Int → Int → Int := fun x y => (cnt x y L : Int)
/-- both, the program's and the document's, are there and hold the same -/
structure Pu (n₀ K : Nat) (X : World) (B Q : Nat) (s : SP) : Prop where
  bg : BgAt X B s.M s.n s.t s.s s.m (cnF s.L)
  rb : RbAt X n₀ Q s.t s.s s.m s.v s.L
  fit : BFits s.t s.s s.m
  few : ∀ x y, cnF s.L x y ≤ s.t
  nB : n₀ ≤ B
  nQ : n₀ ≤ Q
  nM : n₀ ≤ s.M
  kn : s.n ≤ K
  kl : s.L.length ≤ K
def Sp (n₀ K : Nat) (X : World) (B Q : Nat) : Option SP → Prop
  | none => True
  | some s => Pu n₀ K X B Q s
def Ap (B0 B1 Q0 Q1 : Nat) : Option SP → Option SP → Prop
  | some s, some s' => B0 ≠ B1 ∧ Q0 ≠ Q1 ∧ s.M ≠ s'.M ∧ ∀ g, s.v.ownBlock = some g → s'.v.ownBlock ≠ some g
  | _, _ => True
/-- the two places -/
structure PpAt (n₀ K : Nat) (w X : World) (G B0 B1 Q0 Q1 : Nat) (s0 s1 : Option SP) : Prop where
  g : X.heap[G]? = some (.cells #[pvP B0 s0, pvP B1 s1, pvP Q0 s0, pvP Q1 s1] 62)
  a : Sp n₀ K X B0 Q0 s0
  b : Sp n₀ K X B1 Q1 s1
  ap : Ap B0 B1 Q0 Q1 s0 s1
  ga : n₀ ≤ G
  bel : Below n₀ w X
  le : n₀ ≤ w.heap.size
theorem own_keep {X X' : World} {base e sz n : Nat} {v : Value} {xs : List Value} (h : X.ownsRow base e sz v n xs) (hk : ∀ g, v.ownBlock = some g → X'.heap[g]? = X.heap[g]?) : X'.ownsRow base e sz v n xs := by
  refine ⟨h.1, ?_⟩
  rcases h.2 with e | ⟨g, cap, cur, rfl, hb, hg, hr⟩
  · exact Or.inl e
  · exact Or.inr ⟨g, cap, cur, rfl, hb, (hk g (by simp [Value.ownBlock])).trans hg, hr⟩
theorem own_blk {X : World} {base sz n g : Nat} {e : TypeId} {v : Value} {xs : List Value} (h : X.ownsRow base e sz v n xs) (hg : v.ownBlock = some g) : base ≤ g ∧ g < X.heap.size ∧ ∃ cur, X.heap[g]? = some (.cells cur e) := by
  rcases h.2 with ⟨rfl, _⟩ | ⟨g', cap, cur, rfl, hb, hg', hr⟩
  · simp [Value.ownBlock] at hg
  · simp [Value.ownBlock] at hg
    subst hg
    exact ⟨hb, blk_lt hg', _, hg'⟩
theorem map_cells {X : World} {M n : Nat} {F : Int → Int → Int} {b : Nat} {u : Array Value} {t : TypeId} (h : MpAt X M n F) (hb : X.heap[b]? = some (.cells u t)) : b ≠ M := by
  rintro rfl
  obtain ⟨D, ⟨es, clock, hm, _⟩, _⟩ := h
  have := hb.symm.trans hm
  simp at this
theorem cells_ne {X : World} {a b : Nat} {u u' : Array Value} {t t' : TypeId} (h : X.heap[a]? = some (.cells u t)) (h' : X.heap[b]? = some (.cells u' t')) (ht : t ≠ t') : a ≠ b := by
  rintro rfl
  have := h.symm.trans h'
  simp only [Option.some.injEq, Obj.cells.injEq] at this
  exact ht this.2.1
theorem Pu.keep {n₀ K K' : Nat} {X X' : World} {B Q : Nat} {s : SP} (h : Pu n₀ K X B Q s) (hK : K ≤ K') (hB : X'.heap[B]? = X.heap[B]?) (hQ : X'.heap[Q]? = X.heap[Q]?) (hM : X'.heap[s.M]? = X.heap[s.M]?) (hv : ∀ g, s.v.ownBlock = some g → X'.heap[g]? = X.heap[g]?) : Pu n₀ K' X' B Q s :=
  ⟨⟨hB.trans h.bg.blk, h.bg.map.same hM⟩, ⟨hQ.trans h.rb.blk, own_keep h.rb.row hv⟩, h.fit, h.few, h.nB, h.nQ, h.nM, Nat.le_trans h.kn hK, Nat.le_trans h.kl hK⟩
theorem Pu.below {n₀ K : Nat} {X X' : World} {B Q : Nat} {s : SP} (h : Pu n₀ K X B Q s) (hb : Below X.heap.size X X') : Pu n₀ K X' B Q s :=
  h.keep (Nat.le_refl _) (hb.block _ (blk_lt h.bg.blk)) (hb.block _ (blk_lt h.rb.blk)) (hb.block _ h.bg.map.lt) (fun _ hg => hb.block _ (own_blk h.rb.row hg).2.1)
theorem Pu.more {n₀ K K' : Nat} {X : World} {B Q : Nat} {s : SP} (h : Pu n₀ K X B Q s) (hK : K ≤ K') : Pu n₀ K' X B Q s := h.keep hK rfl rfl rfl (fun _ _ => rfl)
theorem Sp.below {n₀ K : Nat} {X X' : World} {B Q : Nat} {s : Option SP} (h : Sp n₀ K X B Q s) (hb : Below X.heap.size X X') : Sp n₀ K X' B Q s := by
  cases s with
  | none => trivial
  | some s => exact Pu.below h hb
theorem Sp.more {n₀ K K' : Nat} {X : World} {B Q : Nat} {s : Option SP} (h : Sp n₀ K X B Q s) (hK : K ≤ K') : Sp n₀ K' X B Q s := by
  cases s with
  | none => trivial
  | some s => exact Pu.more h hK
theorem PpAt.below {n₀ K : Nat} {w X X' : World} {G B0 B1 Q0 Q1 : Nat} {s0 s1 : Option SP} (h : PpAt n₀ K w X G B0 B1 Q0 Q1 s0 s1) (hb : Below X.heap.size X X') : PpAt n₀ K w X' G B0 B1 Q0 Q1 s0 s1 :=
  ⟨(hb.block _ (blk_lt h.g)).trans h.g, h.a.below hb, h.b.below hb, h.ap, h.ga, h.bel.trans (hb.mono (Nat.le_trans h.le h.bel.size)), h.le⟩
theorem PpAt.more {n₀ K K' : Nat} {w X : World} {G B0 B1 Q0 Q1 : Nat} {s0 s1 : Option SP} (h : PpAt n₀ K w X G B0 B1 Q0 Q1 s0 s1) (hK : K ≤ K') : PpAt n₀ K' w X G B0 B1 Q0 Q1 s0 s1 :=
  ⟨h.g, h.a.more hK, h.b.more hK, h.ap, h.ga, h.bel, h.le⟩
theorem PpAt.drewN {n₀ K : Nat} {w X : World} {G B0 B1 Q0 Q1 : Nat} {s0 s1 : Option SP} (h : PpAt n₀ K w X G B0 B1 Q0 Q1 s0 s1) (n : Nat) : PpAt n₀ K w (X.drewN n) G B0 B1 Q0 Q1 s0 s1 := h.below ⟨rfl, rfl, rfl, Nat.le_refl _, fun _ _ => rfl⟩
theorem OpAt.drewN {X : World} {O : Nat} {y : TO} (h : OpAt X O y) (n : Nat) : OpAt (X.drewN n) O y := h
theorem OpAt.below {X X' : World} {O : Nat} {y : TO} (h : OpAt X O y) (hb : Below X.heap.size X X') : OpAt X' O y := (hb.block _ (blk_lt h)).trans h
theorem OpAt.mp {w w' : World} {O M n : Nat} {y : TO} {F : Int → Int → Int} (h : OpAt w O y) (hR : MpAt w M n F) (hg : w.grownBy w' (some M)) : OpAt w' O y :=
  (hg.block _ (blk_lt h) (fun e => map_cells hR h (by cases e; rfl))).trans h
/-- the program's half was asked: the map alone is another -/
theorem Pu.mp {n₀ K : Nat} {X X' : World} {B Q M n : Nat} {F : Int → Int → Int} {s : SP} (h : Pu n₀ K X B Q s) (hM : MpAt X M n F) (hg : X.grownBy X' (some M)) (hne : s.M ≠ M) : Pu n₀ K X' B Q s :=
  h.keep (Nat.le_refl _) (hg.block _ (blk_lt h.bg.blk) (fun e => map_cells hM h.bg.blk (by cases e; rfl))) (hg.block _ (blk_lt h.rb.blk) (fun e => map_cells hM h.rb.blk (by cases e; rfl))) (hg.block _ h.bg.map.lt (fun e => hne (by cases e; rfl)))
    (fun g hw => by
      obtain ⟨_, hl, cur, hc⟩ := own_blk h.rb.row hw
      exact hg.block _ hl (fun e => map_cells hM hc (by cases e; rfl)))
theorem rb_mp {n₀ : Nat} {X X' : World} {Q M n : Nat} {t s m : Int} {v : Value} {L : List (Int × Int)} {F : Int → Int → Int} (h : RbAt X n₀ Q t s m v L) (hM : MpAt X M n F) (hg : X.grownBy X' (some M)) : RbAt X' n₀ Q t s m v L :=
  ⟨(hg.block _ (blk_lt h.blk) (fun e => map_cells hM h.blk (by cases e; rfl))).trans h.blk, own_keep h.row (fun _ hw => by
      obtain ⟨_, hl, cur, hc⟩ := own_blk h.row hw
      exact hg.block _ hl (fun e => map_cells hM hc (by cases e; rfl)))⟩
/-- the document's half was asked -/
theorem Pu.rf {n₀ K : Nat} {X X' : World} {B Q Q' : Nat} {t' s' m' : Int} {v' : Value} {L' : List (Int × Int)} {s : SP} (h : Pu n₀ K X B Q s) (hR : RbAt X n₀ Q' t' s' m' v' L') (hg : Gr2 X X' Q' v') (hq : Q ≠ Q') (hv : ∀ g, s.v.ownBlock = some g → v'.ownBlock ≠ some g) : Pu n₀ K X' B Q s :=
  h.keep (Nat.le_refl _) (hg.block _ (blk_lt h.bg.blk) (cells_ne h.bg.blk hR.blk (by decide)) (fun e => by
      obtain ⟨_, _, cur, hc⟩ := own_blk hR.row e.symm
      exact cells_ne h.bg.blk hc (by decide) rfl))
    (hg.block _ (blk_lt h.rb.blk) hq (fun e => by
      obtain ⟨_, _, cur, hc⟩ := own_blk hR.row e.symm
      exact cells_ne h.rb.blk hc (by decide) rfl))
    (hg.block _ h.bg.map.lt (fun e => map_cells h.bg.map hR.blk e.symm) (fun e => by
      obtain ⟨_, _, cur, hc⟩ := own_blk hR.row e.symm
      exact map_cells h.bg.map hc rfl))
    (fun g hw => by
      obtain ⟨_, hl, cur, hc⟩ := own_blk h.rb.row hw
      exact hg.block _ hl (fun e => cells_ne hc hR.blk (by decide) e) (fun e => hv g hw e.symm))
theorem bg_rf {n₀ : Nat} {X X' : World} {B M n Q' : Nat} {t s m t' s' m' : Int} {F : Int → Int → Int} {v' : Value} {L' : List (Int × Int)} (h : BgAt X B M n t s m F) (hR : RbAt X n₀ Q' t' s' m' v' L') (hg : Gr2 X X' Q' v') : BgAt X' B M n t s m F :=
  ⟨(hg.block _ (blk_lt h.blk) (cells_ne h.blk hR.blk (by decide)) (fun e => by
      obtain ⟨_, _, cur, hc⟩ := own_blk hR.row e.symm
      exact cells_ne h.blk hc (by decide) rfl)).trans h.blk,
   h.map.same (hg.block _ h.map.lt (fun e => map_cells h.map hR.blk e.symm) (fun e => by
      obtain ⟨_, _, cur, hc⟩ := own_blk hR.row e.symm
      exact map_cells h.map hc rfl))⟩
theorem gr2_n0 {n₀ : Nat} {X X' : World} {Q : Nat} {t s m : Int} {v : Value} {L : List (Int × Int)} (hR : RbAt X n₀ Q t s m v L) (hg : Gr2 X X' Q v) (hQ : n₀ ≤ Q) : Below n₀ X X' :=
  ⟨hg.os, hg.tape, hg.output, hg.size, fun i hi => hg.block i (Nat.lt_of_lt_of_le hi (Nat.le_trans hQ (Nat.le_of_lt (blk_lt hR.blk)))) (by omega) (fun e => by
    obtain ⟨hb, _⟩ := own_blk hR.row e.symm
    omega)⟩
/-- place 0 was asked, both of it -/
theorem PpAt.step0 {n₀ K : Nat} {w X X1 X2 : World} {G B0 B1 Q0 Q1 : Nat} {s : SP} {s1 : Option SP} {n' : Nat} {v' : Value} {L' : List (Int × Int)} (h : PpAt n₀ K w X G B0 B1 Q0 Q1 (some s) s1) (b1 : BgAt X1 B0 s.M n' s.t s.s s.m (cnF L')) (g1 : X.grownBy X1 (some s.M)) (f2 : RbAt X2 n₀ Q0 s.t s.s s.m v' L') (g2 : Gr2 X1 X2 Q0 s.v) (nr : Near X1 s.v v') (few : ∀ x y, cnF L' x y ≤ s.t) (kn : n' ≤ K + 1) (kl : L'.length ≤ K + 1) :
    PpAt n₀ (K + 1) w X2 G B0 B1 Q0 Q1 (some ⟨s.t, s.s, s.m, s.M, n', v', L'⟩) s1 := by
  have p : Pu n₀ K X B0 Q0 s := h.a
  have r1 : RbAt X1 n₀ Q0 s.t s.s s.m s.v s.L := rb_mp p.rb p.bg.map g1
  have hg1 := (g1.block _ (blk_lt h.g) (fun e => map_cells p.bg.map h.g (by cases e; rfl))).trans h.g
  have hg2 := (g2.block _ (blk_lt hg1) (cells_ne hg1 r1.blk (by decide)) (fun e => by
      obtain ⟨_, _, cur, hc⟩ := own_blk r1.row e.symm
      exact cells_ne hg1 hc (by decide) rfl)).trans hg1
  have pu : Pu n₀ (K + 1) X2 B0 Q0 ⟨s.t, s.s, s.m, s.M, n', v', L'⟩ := ⟨bg_rf b1 r1 g2, f2, p.fit, few, p.nB, p.nQ, p.nM, kn, kl⟩
  have bel : Below n₀ w X2 := (h.bel.trans (grown_n0 g1 p.nM p.bg.map.lt)).trans (gr2_n0 r1 g2 p.nQ)
  cases s1 with
  | none => exact ⟨hg2, pu, trivial, trivial, h.ga, bel, h.le⟩
  | some s' =>
    have q : Pu n₀ K X B1 Q1 s' := h.b
    obtain ⟨a1, a2, a3, a4⟩ := h.ap
    have q1 := q.mp p.bg.map g1 a3.symm
    have q2 := q1.rf r1 g2 a2.symm (fun g hg e => a4 g e hg)
    have e4 : ∀ g, v'.ownBlock = some g → s'.v.ownBlock ≠ some g := fun g hg e => by
      rcases nr g hg with k | k
      · exact a4 g k e
      · have := (own_blk q1.rb.row e).2.1
        omega
    exact ⟨hg2, pu, q2.more (by omega), ⟨a1, a2, a3, e4⟩, h.ga, bel, h.le⟩
/-- place 1 was asked, both of it -/
theorem PpAt.step1 {n₀ K : Nat} {w X X1 X2 : World} {G B0 B1 Q0 Q1 : Nat} {s : SP} {s0 : Option SP} {n' : Nat} {v' : Value} {L' : List (Int × Int)} (h : PpAt n₀ K w X G B0 B1 Q0 Q1 s0 (some s)) (b1 : BgAt X1 B1 s.M n' s.t s.s s.m (cnF L')) (g1 : X.grownBy X1 (some s.M)) (f2 : RbAt X2 n₀ Q1 s.t s.s s.m v' L') (g2 : Gr2 X1 X2 Q1 s.v) (nr : Near X1 s.v v') (few : ∀ x y, cnF L' x y ≤ s.t) (kn : n' ≤ K + 1) (kl : L'.length ≤ K + 1) :
    PpAt n₀ (K + 1) w X2 G B0 B1 Q0 Q1 s0 (some ⟨s.t, s.s, s.m, s.M, n', v', L'⟩) := by
  have p : Pu n₀ K X B1 Q1 s := h.b
  have r1 : RbAt X1 n₀ Q1 s.t s.s s.m s.v s.L := rb_mp p.rb p.bg.map g1
  have hg1 := (g1.block _ (blk_lt h.g) (fun e => map_cells p.bg.map h.g (by cases e; rfl))).trans h.g
  have hg2 := (g2.block _ (blk_lt hg1) (cells_ne hg1 r1.blk (by decide)) (fun e => by
      obtain ⟨_, _, cur, hc⟩ := own_blk r1.row e.symm
      exact cells_ne hg1 hc (by decide) rfl)).trans hg1
  have pu : Pu n₀ (K + 1) X2 B1 Q1 ⟨s.t, s.s, s.m, s.M, n', v', L'⟩ := ⟨bg_rf b1 r1 g2, f2, p.fit, few, p.nB, p.nQ, p.nM, kn, kl⟩
  have bel : Below n₀ w X2 := (h.bel.trans (grown_n0 g1 p.nM p.bg.map.lt)).trans (gr2_n0 r1 g2 p.nQ)
  cases s0 with
  | none => exact ⟨hg2, trivial, pu, trivial, h.ga, bel, h.le⟩
  | some s' =>
    have q : Pu n₀ K X B0 Q0 s' := h.a
    obtain ⟨a1, a2, a3, a4⟩ := h.ap
    have q1 := q.mp p.bg.map g1 a3
    have q2 := q1.rf r1 g2 a2 (fun g hg e => a4 g hg e)
    have e4 : ∀ g, v'.ownBlock = some g → s'.v.ownBlock ≠ some g := fun g hg e => by
      rcases nr g hg with k | k
      · exact a4 g e k
      · have := (own_blk q1.rb.row e).2.1
        omega
    exact ⟨hg2, q2.more (by omega), pu, ⟨a1, a2, a3, fun g hg e => e4 g e hg⟩, h.ga, bel, h.le⟩
theorem cnF_add (a b : Int) (L : List (Int × Int)) : upd (cnF L) a b (cnF L a b + 1) = cnF (L ++ [(a, b)]) := by
  funext x y
  unfold upd cnF
  rw [cnt_append]
  by_cases e : x = a ∧ y = b
  · obtain ⟨rfl, rfl⟩ := e
    simp [cnt]
  · have e' : ¬ (a = x ∧ b = y) := fun z => e ⟨z.1.symm, z.2.symm⟩
    rw [if_neg e]
    simp [cnt, if_neg e']
theorem cnF_del (a b : Int) (L : List (Int × Int)) : upd (cnF L) a b 0 = cnF (flt a b L) := by
  funext x y
  unfold upd cnF
  by_cases e : x = a ∧ y = b
  · obtain ⟨rfl, rfl⟩ := e
    rw [if_pos ⟨rfl, rfl⟩, cnt_flt_self]
    rfl
  · rw [if_neg e, cnt_flt_other e]
theorem cnF_if (a b t now : Int) (L : List (Int × Int)) : (if flA t (cnF L a b) now then upd (cnF L) a b (cnF L a b + 1) else cnF L) = cnF (if flA t (cnF L a b) now then L ++ [(a, b)] else L) := by
  split
  · exact cnF_add a b L
  · rfl
theorem few_if {a b t now : Int} {L : List (Int × Int)} (h : ∀ x y, cnF L x y ≤ t) : ∀ x y, cnF (if flA t (cnF L a b) now then L ++ [(a, b)] else L) x y ≤ t := by
  intro x y
  split
  · rename_i hA
    rw [← cnF_add]
    unfold upd
    split
    · have := hA.2
      omega
    · exact h x y
  · exact h x y
theorem few_del {a b t : Int} {L : List (Int × Int)} (ht : 1 ≤ t) (h : ∀ x y, cnF L x y ≤ t) : ∀ x y, cnF (flt a b L) x y ≤ t := by
  intro x y
  rw [← cnF_del]
  unfold upd
  split
  · omega
  · exact h x y
theorem len_if {t a b now : Int} {L : List (Int × Int)} {K : Nat} (h : L.length ≤ K) : (if flA t (cnF L a b) now then L ++ [(a, b)] else L).length ≤ K + 1 := by
  split
  · simp; omega
  · omega
set_option maxHeartbeats 8000000 in
set_option maxRecDepth 100000 in
set_option linter.unusedSimpArgs false in
set_option linter.unusedVariables false in
theorem bplays_0none (n₀ K : Nat) (w X : World) (G B0 B1 Q0 Q1 : Nat) (s1 : Option SP) (y : TO) (wd : (Lit.int .i64 y.nd).wf = true) (wf : (Lit.int .i64 y.fl).wf = true) (hK : K + 1 ≤ 8000000000000) (hj : plJ y.pl = 0) (h : PpAt n₀ K w X G B0 B1 Q0 Q1 none s1) :
    Calls Try.prog 25 #[.pointer (some ⟨G, 0, none⟩), .agg #[.int .i64 y.kind, .int .i64 y.pl, .int .i64 y.n, .int .i64 y.nd, .int .i64 y.fl]] X fun v X' => v = .returned (.bool true) ∧ ∃ s0' s1', PpAt n₀ (K + 1) w X' G B0 B1 Q0 Q1 s0' s1' := by
  obtain ⟨yk, yp, n, yd, yf⟩ := y
  dsimp only at hj wd wf ⊢
  obtain ⟨WX, hWX⟩ : ∃ WX, WX = X.alloc (.cells #[.int .i64 yk, .int .i64 yp, .int .i64 n, .int .i64 yd, .int .i64 yf] 43) := ⟨_, rfl⟩
  obtain ⟨O, hO⟩ : ∃ O, O = X.heap.size := ⟨_, rfl⟩
  have OX : Hid (OpAt WX O ⟨yk, yp, n, yd, yf⟩) := by subst hWX; subst hO; exact heap_last _ _
  have TX : Hid (PpAt n₀ K w WX G B0 B1 Q0 Q1 none s1) := by subst hWX; exact h.below ((Below.refl _ _).alloc (Nat.le_refl _) _)
  have PL : Hid (∀ W, Calls Try.prog 34 #[.int .i64 yp] W fun v w' => v = .returned (.int .i64 0) ∧ w' = W) := fun W => by rw [← hj]; exact place_any yp W
  clear hj h
  go_enter Try.func25, Try.ntmps25
  go_wp2_with fail
  rw [← hWX, ← hO]
  clear hWX hO
  have o1 := OX.out.c1
  have q0 : WX.cell? ⟨G, 0, none⟩ = some (.pointer none) := by unfold World.cell?; rw [TX.out.g]; rfl
  dsimp only at o1
  go_quiet (first | (go_at_call 34; refine Calls.quiet_of_same (PL.out _)))
  replace OX : Hid (OpAt (WX.drewN nq) O ⟨yk, yp, n, yd, yf⟩) := OX.out.drewN _
  replace TX : Hid (PpAt n₀ K w (WX.drewN nq) G B0 B1 Q0 Q1 none s1) := TX.out.drewN _
  clear o1 q0
  generalize WX.drewN nq = W1 at *
  have o1 := OX.out.c1
  have q1 : W1.cell? ⟨G, 2, none⟩ = some (.pointer none) := by unfold World.cell?; rw [TX.out.g]; rfl
  dsimp only at o1
  go_wp2_with fail
  go_quiet (first | (go_at_call 34; refine Calls.quiet_of_same (PL.out _)))
  replace OX : Hid (OpAt (W1.drewN nq) O ⟨yk, yp, n, yd, yf⟩) := OX.out.drewN _
  replace TX : Hid (PpAt n₀ K w (W1.drewN nq) G B0 B1 Q0 Q1 none s1) := TX.out.drewN _
  clear o1 q1
  generalize W1.drewN nq = W2 at *
  have o0 := OX.out.c0
  have o2 := OX.out.c2
  have o3 := OX.out.c3
  have o4 := OX.out.c4
  dsimp only at o0 o2 o3 o4
  by_cases hk5 : yk = 5
  case pos =>
    subst hk5
    have C1 := hide (fail_nil W2 yd yf n)
    go_wp2_with fail
    refine Calls.mono C1.out ?_
    rintro e u1 ⟨rfl, bb⟩
    have O1 := hide (OX.out.below bb)
    have T1 := hide (TX.out.below bb)
    clear C1 bb o0 o2 o3 o4 OX TX
    have o2 := O1.out.c2
    have o3 := O1.out.c3
    have o4 := O1.out.c4
    dsimp only at o2 o3 o4
    have C2 := hide (rbfail_nil u1 yd yf n)
    go_wp2_with fail
    refine Calls.mono C2.out ?_
    rintro e u2 ⟨rfl, bb⟩
    have T2 := hide ((T1.out.below bb).more (Nat.le_succ _))
    clear C2 bb o2 o3 o4 O1 T1
    go_wp2_with (go_at_call 11; refine Calls.mono (num10_any _ _) ?_; rintro e wn ⟨rfl, rfl⟩)
    go_ret
    exact ⟨rfl, _, _, T2.out⟩
  by_cases hk7 : yk = 7
  case pos =>
    subst hk7
    have C1 := hide (clear_nil W2 yd yf)
    go_wp2_with fail
    refine Calls.mono C1.out ?_
    rintro e u1 ⟨rfl, bb⟩
    have O1 := hide (OX.out.below bb)
    have T1 := hide (TX.out.below bb)
    clear C1 bb o0 o2 o3 o4 OX TX
    have o2 := O1.out.c2
    have o3 := O1.out.c3
    have o4 := O1.out.c4
    dsimp only at o2 o3 o4
    have C2 := hide (rbclear_nil u1 yd yf)
    go_wp2_with fail
    refine Calls.mono C2.out ?_
    rintro e u2 ⟨rfl, bb⟩
    have T2 := hide ((T1.out.below bb).more (Nat.le_succ _))
    clear C2 bb o2 o3 o4 O1 T1
    go_wp2_with (go_at_call 11; refine Calls.mono (num10_any _ _) ?_; rintro e wn ⟨rfl, rfl⟩)
    go_ret
    exact ⟨rfl, _, _, T2.out⟩
  by_cases hk6 : yk = 6
  case pos =>
    subst hk6
    have C1 := hide (left_nil W2.drew yd yf)
    have C2G : Hid (∀ u, Below W2.heap.size W2 u → Calls Try.prog 36 #[.pointer none, .agg #[.int .i64 yd, .int .i64 yf]] u fun e X' => e = .returned (.int .i64 0) ∧ Below u.heap.size u X') := fun u _ => rbleft_nil u yd yf
    have CC : Hid (∀ Y, Below W2.heap.size W2 Y → Y.cell? ⟨O, 3, none⟩ = some (.int .i64 yd) ∧ Y.cell? ⟨O, 4, none⟩ = some (.int .i64 yf)) := fun Y hY => ⟨(OX.out.below hY).c3, (OX.out.below hY).c4⟩
    clear o2 o3 o4
    go_wp2_with fail
    refine wp_region_held_drew (S := fun Y => Below W2.heap.size W2 Y) (by kernel_rfl) ((Below.refl _ _).drew) (fun hHeld => ?_)
    refine wpAnyH_take (i := 0) (v := (.pointer none)) rfl (by kernel_rfl) (by kernel_rfl) (by kernel_rfl) (fun _ _ _ h => h) (Or.inl ⟨by rfl, ?_⟩) (by assumption) ?_
    · intro w' hSw
      (try dsimp only at hSw)
      go_simp
    (try simp only [Act.put, List.setIfInBounds_toArray, List.set_cons_zero, List.set_cons_succ])
    refine wpAnyH_take (i := 1) (v := (.pointer (some ⟨O, 3, none⟩))) rfl (by kernel_rfl) (by kernel_rfl) (by kernel_rfl) (fun _ _ _ h => h) (Or.inl ⟨by rfl, ?_⟩) (by assumption) ?_
    · intro w' hSw
      (try dsimp only at hSw)
      go_simp
    (try simp only [Act.put, List.setIfInBounds_toArray, List.set_cons_zero, List.set_cons_succ])
    refine wpAnyH_take (i := 2) (v := (.agg #[.int .i64 yd, .int .i64 yf])) rfl (by kernel_rfl) (by kernel_rfl) (by kernel_rfl) (fun _ _ _ h => h) (Or.inl ⟨by rfl, ?_⟩) (by assumption) ?_
    · intro w' hSw
      (try dsimp only at hSw)
      (obtain ⟨y1, y2⟩ := CC.out _ hSw; go_simp)
    (try simp only [Act.put, List.setIfInBounds_toArray, List.set_cons_zero, List.set_cons_succ])
    refine wpAnyH_take (i := 4) (v := (.pointer none)) rfl (by kernel_rfl) (by kernel_rfl) (by kernel_rfl) (fun _ _ _ h => h) (Or.inl ⟨by rfl, ?_⟩) (by assumption) ?_
    · intro w' hSw
      (try dsimp only at hSw)
      go_simp
    (try simp only [Act.put, List.setIfInBounds_toArray, List.set_cons_zero, List.set_cons_succ])
    refine wpAnyH_take (i := 5) (v := (.pointer (some ⟨O, 3, none⟩))) rfl (by kernel_rfl) (by kernel_rfl) (by kernel_rfl) (fun _ _ _ h => h) (Or.inl ⟨by rfl, ?_⟩) (by assumption) ?_
    · intro w' hSw
      (try dsimp only at hSw)
      go_simp
    (try simp only [Act.put, List.setIfInBounds_toArray, List.set_cons_zero, List.set_cons_succ])
    refine wpAnyH_take (i := 6) (v := (.agg #[.int .i64 yd, .int .i64 yf])) rfl (by kernel_rfl) (by kernel_rfl) (by kernel_rfl) (fun _ _ _ h => h) (Or.inl ⟨by rfl, ?_⟩) (by assumption) ?_
    · intro w' hSw
      (try dsimp only at hSw)
      (obtain ⟨y1, y2⟩ := CC.out _ hSw; go_simp)
    (try simp only [Act.put, List.setIfInBounds_toArray, List.set_cons_zero, List.set_cons_succ])
    refine wpAnyH_ready (rs := [3]) (by kernel_rfl) (by simp) ?_
    refine AllReadyH.cons rfl (fun K hK => ?_) AllReadyH.nil
    go_simp
    refine Calls.mono C1.out ?_
    rintro e u1 ⟨rfl, b1⟩
    have BB1 : Hid (Below W2.heap.size W2 u1) := ⟨b1.os, b1.tape, b1.output, b1.size, b1.block⟩
    clear b1 C1
    refine hK.out _ _ (BB1.out) (fun hHeld => ?_)
    clear hK
    (try simp only [Act.put, List.setIfInBounds_toArray, List.set_cons_zero, List.set_cons_succ])
    refine wpAnyH_ready (rs := [7]) (by kernel_rfl) (by simp) ?_
    refine AllReadyH.cons rfl (fun K hK => ?_) AllReadyH.nil
    go_simp
    refine Calls.mono (C2G.out u1 BB1.out) ?_
    rintro e u2 ⟨rfl, b2⟩
    have BB2 : Hid (Below W2.heap.size W2 u2) := BB1.out.trans (b2.mono BB1.out.size)
    clear b2 C2G
    refine hK.out _ _ (BB2.out) (fun hHeld => ?_)
    clear hK
    (try simp only [Act.put, List.setIfInBounds_toArray, List.set_cons_zero, List.set_cons_succ])
    refine wpAnyH_take (i := 8) (v := (.bool true)) rfl (by kernel_rfl) (by kernel_rfl) (by kernel_rfl) (fun _ _ _ h => h) (Or.inl ⟨by rfl, ?_⟩) (by assumption) ?_
    · intro w' hSw
      (try dsimp only at hSw)
      go_simp
    (try simp only [Act.put, List.setIfInBounds_toArray, List.set_cons_zero, List.set_cons_succ])
    refine wpAnyH_ready (rs := [9]) (by kernel_rfl) (by simp) ?_
    refine AllReadyH.cons rfl (fun K hK => ?_) AllReadyH.nil
    go_simp
    refine hK.out _ _ (BB2.out) (fun hHeld => ?_)
    clear hK
    (try simp only [Act.put, List.setIfInBounds_toArray, List.set_cons_zero, List.set_cons_succ])
    refine wpAnyH_done (by kernel_rfl) ?_ _
    clear hHeld
    have T2 := hide ((TX.out.below BB2.out).more (Nat.le_succ _))
    clear TX OX CC BB1 BB2
    go_wp2_with fail
    go_ret
    exact ⟨rfl, _, _, T2.out⟩
  go_wp2_with fail
  go_ret
  exact ⟨rfl, _, _, TX.out.more (Nat.le_succ _)⟩
set_option maxHeartbeats 8000000 in
set_option maxRecDepth 100000 in
set_option linter.unusedSimpArgs false in
set_option linter.unusedVariables false in
theorem bplays_0some (n₀ K : Nat) (w X : World) (G B0 B1 Q0 Q1 : Nat) (s1 : Option SP) (s : SP) (y : TO) (wd : (Lit.int .i64 y.nd).wf = true) (wf : (Lit.int .i64 y.fl).wf = true) (hK : K + 1 ≤ 8000000000000) (hj : plJ y.pl = 0) (h : PpAt n₀ K w X G B0 B1 Q0 Q1 (some s) s1) :
    Calls Try.prog 25 #[.pointer (some ⟨G, 0, none⟩), .agg #[.int .i64 y.kind, .int .i64 y.pl, .int .i64 y.n, .int .i64 y.nd, .int .i64 y.fl]] X fun v X' => v = .returned (.bool true) ∧ ∃ s0' s1', PpAt n₀ (K + 1) w X' G B0 B1 Q0 Q1 s0' s1' := by
  obtain ⟨yk, yp, n, yd, yf⟩ := y
  dsimp only at hj wd wf ⊢
  obtain ⟨WX, hWX⟩ : ∃ WX, WX = X.alloc (.cells #[.int .i64 yk, .int .i64 yp, .int .i64 n, .int .i64 yd, .int .i64 yf] 43) := ⟨_, rfl⟩
  obtain ⟨O, hO⟩ : ∃ O, O = X.heap.size := ⟨_, rfl⟩
  have OX : Hid (OpAt WX O ⟨yk, yp, n, yd, yf⟩) := by subst hWX; subst hO; exact heap_last _ _
  have TX : Hid (PpAt n₀ K w WX G B0 B1 Q0 Q1 (some s) s1) := by subst hWX; exact h.below ((Below.refl _ _).alloc (Nat.le_refl _) _)
  have PL : Hid (∀ W, Calls Try.prog 34 #[.int .i64 yp] W fun v w' => v = .returned (.int .i64 0) ∧ w' = W) := fun W => by rw [← hj]; exact place_any yp W
  clear hj h
  go_enter Try.func25, Try.ntmps25
  go_wp2_with fail
  rw [← hWX, ← hO]
  clear hWX hO
  have o1 := OX.out.c1
  have q0 : WX.cell? ⟨G, 0, none⟩ = some (.pointer (some ⟨B0, 0, none⟩)) := by unfold World.cell?; rw [TX.out.g]; rfl
  dsimp only at o1
  go_quiet (first | (go_at_call 34; refine Calls.quiet_of_same (PL.out _)))
  replace OX : Hid (OpAt (WX.drewN nq) O ⟨yk, yp, n, yd, yf⟩) := OX.out.drewN _
  replace TX : Hid (PpAt n₀ K w (WX.drewN nq) G B0 B1 Q0 Q1 (some s) s1) := TX.out.drewN _
  clear o1 q0
  generalize WX.drewN nq = W1 at *
  have o1 := OX.out.c1
  have q1 : W1.cell? ⟨G, 2, none⟩ = some (.pointer (some ⟨Q0, 0, none⟩)) := by unfold World.cell?; rw [TX.out.g]; rfl
  dsimp only at o1
  go_wp2_with fail
  go_quiet (first | (go_at_call 34; refine Calls.quiet_of_same (PL.out _)))
  replace OX : Hid (OpAt (W1.drewN nq) O ⟨yk, yp, n, yd, yf⟩) := OX.out.drewN _
  replace TX : Hid (PpAt n₀ K w (W1.drewN nq) G B0 B1 Q0 Q1 (some s) s1) := TX.out.drewN _
  clear o1 q1
  generalize W1.drewN nq = W2 at *
  have o0 := OX.out.c0
  have o2 := OX.out.c2
  have o3 := OX.out.c3
  have o4 := OX.out.c4
  dsimp only at o0 o2 o3 o4
  by_cases hk5 : yk = 5
  case pos =>
    subst hk5
    have p : Pu n₀ K W2 B0 Q0 s := TX.out.a
    have C1 := fail_all W2 B0 s.M s.n s.t s.s s.m yd yf n (cnF s.L) p.bg p.fit wd wf (by have := p.kn; unfold maxLen; omega) (by unfold cnF; omega) (p.few yd yf)
    have C2G : ∀ u, RbAt u n₀ Q0 s.t s.s s.m s.v s.L → n₀ ≤ u.heap.size → _ := fun u f hb => rbfail_all u n₀ Q0 s.t s.s s.m yd yf n s.v s.L f p.fit (by have := p.kl; omega) hb (p.few yd yf)
    have PP := hide p
    change ∀ u, RbAt u n₀ Q0 s.t s.s s.m s.v s.L → n₀ ≤ u.heap.size → Calls Try.prog 35 #[.pointer (some ⟨Q0, 0, none⟩), .agg #[.int .i64 yd, .int .i64 yf], .int .i64 n] u fun e X' => ∃ v', e = .returned (.tuple #[.int .i64 (flV s.t s.s s.m (cnF s.L yd yf) n), .int .i64 (flE s.t (cnF s.L yd yf) n)]) ∧ RbAt X' n₀ Q0 s.t s.s s.m v' (if flA s.t (cnF s.L yd yf) n then s.L ++ [(yd, yf)] else s.L) ∧ Gr2 u X' Q0 s.v ∧ Near u s.v v' at C2G
    clear p
    generalize hz1 : flV s.t s.s s.m (cnF s.L yd yf) n = zv at *
    generalize hz2 : flE s.t (cnF s.L yd yf) n = ze at *
    clear hz1 hz2
    have C1 := hide C1
    have C2G := hide C2G
    go_wp2_with fail
    refine Calls.mono C1.out ?_
    rintro e u1 ⟨rfl, ⟨n1, hn1, b1⟩, g1⟩
    have O1 := hide (OX.out.mp PP.out.bg.map g1)
    have f1 := rb_mp PP.out.rb PP.out.bg.map g1
    have C2 := hide (C2G.out u1 f1 (Nat.le_trans (Nat.le_trans TX.out.le TX.out.bel.size) g1.size))
    rw [cnF_if] at b1
    have B1 := hide b1
    have G1 := hide g1
    have HN := hide hn1
    clear C1 C2G b1 g1 o0 o2 o3 o4 OX f1 hn1
    have o2 := O1.out.c2
    have o3 := O1.out.c3
    have o4 := O1.out.c4
    dsimp only at o2 o3 o4
    go_wp2_with fail
    refine Calls.mono C2.out ?_
    rintro e u2 ⟨v2, rfl, f2, g2, nr⟩
    have T2 := hide (TX.out.step0 B1.out G1.out f2 g2 nr (few_if PP.out.few) (by have := PP.out.kn; have := HN.out; omega) (len_if PP.out.kl))
    clear C2 f2 g2 nr o2 o3 o4 O1 TX B1 G1
    go_wp2_with (go_at_call 11; refine Calls.mono (num10_any _ _) ?_; rintro e wn ⟨rfl, rfl⟩)
    go_ret
    exact ⟨by simp, _, _, T2.out⟩
  by_cases hk7 : yk = 7
  case pos =>
    subst hk7
    have p : Pu n₀ K W2 B0 Q0 s := TX.out.a
    have C1 := clear_any W2 B0 s.M s.n s.t s.s s.m yd yf (cnF s.L) p.bg p.fit wd wf
    have C2G : ∀ u, RbAt u n₀ Q0 s.t s.s s.m s.v s.L → n₀ ≤ u.heap.size → _ := fun u f hb => rbclear_any u n₀ Q0 s.t s.s s.m yd yf s.v s.L f (by have := p.kl; omega) hb
    have PP := hide p
    skip
    clear p
    have C1 := hide C1
    have C2G := hide C2G
    go_wp2_with fail
    refine Calls.mono C1.out ?_
    rintro e u1 ⟨rfl, b1, g1⟩
    have O1 := hide (OX.out.mp PP.out.bg.map g1)
    have f1 := rb_mp PP.out.rb PP.out.bg.map g1
    have C2 := hide (C2G.out u1 f1 (Nat.le_trans (Nat.le_trans TX.out.le TX.out.bel.size) g1.size))
    rw [cnF_del] at b1
    have B1 := hide b1
    have G1 := hide g1
    skip
    clear C1 C2G b1 g1 o0 o2 o3 o4 OX f1
    have o2 := O1.out.c2
    have o3 := O1.out.c3
    have o4 := O1.out.c4
    dsimp only at o2 o3 o4
    go_wp2_with fail
    refine Calls.mono C2.out ?_
    rintro e u2 ⟨v2, rfl, f2, g2, nr⟩
    have T2 := hide (TX.out.step0 B1.out G1.out f2 g2 nr (few_del PP.out.fit.t1 PP.out.few) (by have := PP.out.kn; omega) (by have := PP.out.kl; have := flt_len yd yf s.L; omega))
    clear C2 f2 g2 nr o2 o3 o4 O1 TX B1 G1
    go_wp2_with (go_at_call 11; refine Calls.mono (num10_any _ _) ?_; rintro e wn ⟨rfl, rfl⟩)
    go_ret
    exact ⟨by simp, _, _, T2.out⟩
  by_cases hk6 : yk = 6
  case pos =>
    subst hk6
    have p : Pu n₀ K W2 B0 Q0 s := TX.out.a
    have C1 : Hid (Calls Try.prog 13 #[.pointer (some ⟨B0, 0, none⟩), .agg #[.int .i64 yd, .int .i64 yf]] W2.drew fun e X' => e = .returned (.int .i64 (s.t - cnF s.L yd yf)) ∧ Below W2.drew.heap.size W2.drew X') := (left_any W2.drew B0 s.M s.n s.t s.s s.m yd yf (cnF s.L) (p.bg.drewN 1) p.fit wd wf ⟨by unfold cnF; omega, p.few yd yf⟩).mono fun e X' ⟨x, _, z⟩ => ⟨x, z⟩
    have C2G : Hid (∀ u, Below W2.heap.size W2 u → Calls Try.prog 36 #[.pointer (some ⟨Q0, 0, none⟩), .agg #[.int .i64 yd, .int .i64 yf]] u fun e X' => e = .returned (.int .i64 (s.t - cnF s.L yd yf)) ∧ Below u.heap.size u X') := fun u hu => rbleft_any u n₀ Q0 s.t s.s s.m yd yf s.v s.L (p.below hu).rb (by have := p.kl; omega) p.fit (p.few yd yf)
    clear p
    generalize s.t - cnF s.L yd yf = lv at *
    have CC : Hid (∀ Y, Below W2.heap.size W2 Y → Y.cell? ⟨O, 3, none⟩ = some (.int .i64 yd) ∧ Y.cell? ⟨O, 4, none⟩ = some (.int .i64 yf)) := fun Y hY => ⟨(OX.out.below hY).c3, (OX.out.below hY).c4⟩
    clear o2 o3 o4
    go_wp2_with fail
    refine wp_region_held_drew (S := fun Y => Below W2.heap.size W2 Y) (by kernel_rfl) ((Below.refl _ _).drew) (fun hHeld => ?_)
    refine wpAnyH_take (i := 0) (v := (.pointer (some ⟨B0, 0, none⟩))) rfl (by kernel_rfl) (by kernel_rfl) (by kernel_rfl) (fun _ _ _ h => h) (Or.inl ⟨by rfl, ?_⟩) (by assumption) ?_
    · intro w' hSw
      (try dsimp only at hSw)
      go_simp
    (try simp only [Act.put, List.setIfInBounds_toArray, List.set_cons_zero, List.set_cons_succ])
    refine wpAnyH_take (i := 1) (v := (.pointer (some ⟨O, 3, none⟩))) rfl (by kernel_rfl) (by kernel_rfl) (by kernel_rfl) (fun _ _ _ h => h) (Or.inl ⟨by rfl, ?_⟩) (by assumption) ?_
    · intro w' hSw
      (try dsimp only at hSw)
      go_simp
    (try simp only [Act.put, List.setIfInBounds_toArray, List.set_cons_zero, List.set_cons_succ])
    refine wpAnyH_take (i := 2) (v := (.agg #[.int .i64 yd, .int .i64 yf])) rfl (by kernel_rfl) (by kernel_rfl) (by kernel_rfl) (fun _ _ _ h => h) (Or.inl ⟨by rfl, ?_⟩) (by assumption) ?_
    · intro w' hSw
      (try dsimp only at hSw)
      (obtain ⟨y1, y2⟩ := CC.out _ hSw; go_simp)
    (try simp only [Act.put, List.setIfInBounds_toArray, List.set_cons_zero, List.set_cons_succ])
    refine wpAnyH_take (i := 4) (v := (.pointer (some ⟨Q0, 0, none⟩))) rfl (by kernel_rfl) (by kernel_rfl) (by kernel_rfl) (fun _ _ _ h => h) (Or.inl ⟨by rfl, ?_⟩) (by assumption) ?_
    · intro w' hSw
      (try dsimp only at hSw)
      go_simp
    (try simp only [Act.put, List.setIfInBounds_toArray, List.set_cons_zero, List.set_cons_succ])
    refine wpAnyH_take (i := 5) (v := (.pointer (some ⟨O, 3, none⟩))) rfl (by kernel_rfl) (by kernel_rfl) (by kernel_rfl) (fun _ _ _ h => h) (Or.inl ⟨by rfl, ?_⟩) (by assumption) ?_
    · intro w' hSw
      (try dsimp only at hSw)
      go_simp
    (try simp only [Act.put, List.setIfInBounds_toArray, List.set_cons_zero, List.set_cons_succ])
    refine wpAnyH_take (i := 6) (v := (.agg #[.int .i64 yd, .int .i64 yf])) rfl (by kernel_rfl) (by kernel_rfl) (by kernel_rfl) (fun _ _ _ h => h) (Or.inl ⟨by rfl, ?_⟩) (by assumption) ?_
    · intro w' hSw
      (try dsimp only at hSw)
      (obtain ⟨y1, y2⟩ := CC.out _ hSw; go_simp)
    (try simp only [Act.put, List.setIfInBounds_toArray, List.set_cons_zero, List.set_cons_succ])
    refine wpAnyH_ready (rs := [3]) (by kernel_rfl) (by simp) ?_
    refine AllReadyH.cons rfl (fun K hK => ?_) AllReadyH.nil
    go_simp
    refine Calls.mono C1.out ?_
    rintro e u1 ⟨rfl, b1⟩
    have BB1 : Hid (Below W2.heap.size W2 u1) := ⟨b1.os, b1.tape, b1.output, b1.size, b1.block⟩
    clear b1 C1
    refine hK.out _ _ (BB1.out) (fun hHeld => ?_)
    clear hK
    (try simp only [Act.put, List.setIfInBounds_toArray, List.set_cons_zero, List.set_cons_succ])
    refine wpAnyH_ready (rs := [7]) (by kernel_rfl) (by simp) ?_
    refine AllReadyH.cons rfl (fun K hK => ?_) AllReadyH.nil
    go_simp
    refine Calls.mono (C2G.out u1 BB1.out) ?_
    rintro e u2 ⟨rfl, b2⟩
    have BB2 : Hid (Below W2.heap.size W2 u2) := BB1.out.trans (b2.mono BB1.out.size)
    clear b2 C2G
    refine hK.out _ _ (BB2.out) (fun hHeld => ?_)
    clear hK
    (try simp only [Act.put, List.setIfInBounds_toArray, List.set_cons_zero, List.set_cons_succ])
    refine wpAnyH_take (i := 8) (v := (.bool true)) rfl (by kernel_rfl) (by kernel_rfl) (by kernel_rfl) (fun _ _ _ h => h) (Or.inl ⟨by rfl, ?_⟩) (by assumption) ?_
    · intro w' hSw
      (try dsimp only at hSw)
      go_simp
    (try simp only [Act.put, List.setIfInBounds_toArray, List.set_cons_zero, List.set_cons_succ])
    refine wpAnyH_ready (rs := [9]) (by kernel_rfl) (by simp) ?_
    refine AllReadyH.cons rfl (fun K hK => ?_) AllReadyH.nil
    go_simp
    refine hK.out _ _ (BB2.out) (fun hHeld => ?_)
    clear hK
    (try simp only [Act.put, List.setIfInBounds_toArray, List.set_cons_zero, List.set_cons_succ])
    refine wpAnyH_done (by kernel_rfl) ?_ _
    clear hHeld
    have T2 := hide ((TX.out.below BB2.out).more (Nat.le_succ _))
    clear TX OX CC BB1 BB2
    go_wp2_with fail
    go_ret
    exact ⟨rfl, _, _, T2.out⟩
  go_wp2_with fail
  go_ret
  exact ⟨rfl, _, _, TX.out.more (Nat.le_succ _)⟩
set_option maxHeartbeats 8000000 in
set_option maxRecDepth 100000 in
set_option linter.unusedSimpArgs false in
set_option linter.unusedVariables false in
theorem bplays_1none (n₀ K : Nat) (w X : World) (G B0 B1 Q0 Q1 : Nat) (s0 : Option SP) (y : TO) (wd : (Lit.int .i64 y.nd).wf = true) (wf : (Lit.int .i64 y.fl).wf = true) (hK : K + 1 ≤ 8000000000000) (hj : plJ y.pl = 1) (h : PpAt n₀ K w X G B0 B1 Q0 Q1 s0 none) :
    Calls Try.prog 25 #[.pointer (some ⟨G, 0, none⟩), .agg #[.int .i64 y.kind, .int .i64 y.pl, .int .i64 y.n, .int .i64 y.nd, .int .i64 y.fl]] X fun v X' => v = .returned (.bool true) ∧ ∃ s0' s1', PpAt n₀ (K + 1) w X' G B0 B1 Q0 Q1 s0' s1' := by
  obtain ⟨yk, yp, n, yd, yf⟩ := y
  dsimp only at hj wd wf ⊢
  obtain ⟨WX, hWX⟩ : ∃ WX, WX = X.alloc (.cells #[.int .i64 yk, .int .i64 yp, .int .i64 n, .int .i64 yd, .int .i64 yf] 43) := ⟨_, rfl⟩
  obtain ⟨O, hO⟩ : ∃ O, O = X.heap.size := ⟨_, rfl⟩
  have OX : Hid (OpAt WX O ⟨yk, yp, n, yd, yf⟩) := by subst hWX; subst hO; exact heap_last _ _
  have TX : Hid (PpAt n₀ K w WX G B0 B1 Q0 Q1 s0 none) := by subst hWX; exact h.below ((Below.refl _ _).alloc (Nat.le_refl _) _)
  have PL : Hid (∀ W, Calls Try.prog 34 #[.int .i64 yp] W fun v w' => v = .returned (.int .i64 1) ∧ w' = W) := fun W => by rw [← hj]; exact place_any yp W
  clear hj h
  go_enter Try.func25, Try.ntmps25
  go_wp2_with fail
  rw [← hWX, ← hO]
  clear hWX hO
  have o1 := OX.out.c1
  have q0 : WX.cell? ⟨G, 1, none⟩ = some (.pointer none) := by unfold World.cell?; rw [TX.out.g]; rfl
  dsimp only at o1
  go_quiet (first | (go_at_call 34; refine Calls.quiet_of_same (PL.out _)))
  replace OX : Hid (OpAt (WX.drewN nq) O ⟨yk, yp, n, yd, yf⟩) := OX.out.drewN _
  replace TX : Hid (PpAt n₀ K w (WX.drewN nq) G B0 B1 Q0 Q1 s0 none) := TX.out.drewN _
  clear o1 q0
  generalize WX.drewN nq = W1 at *
  have o1 := OX.out.c1
  have q1 : W1.cell? ⟨G, 3, none⟩ = some (.pointer none) := by unfold World.cell?; rw [TX.out.g]; rfl
  dsimp only at o1
  go_wp2_with fail
  go_quiet (first | (go_at_call 34; refine Calls.quiet_of_same (PL.out _)))
  replace OX : Hid (OpAt (W1.drewN nq) O ⟨yk, yp, n, yd, yf⟩) := OX.out.drewN _
  replace TX : Hid (PpAt n₀ K w (W1.drewN nq) G B0 B1 Q0 Q1 s0 none) := TX.out.drewN _
  clear o1 q1
  generalize W1.drewN nq = W2 at *
  have o0 := OX.out.c0
  have o2 := OX.out.c2
  have o3 := OX.out.c3
  have o4 := OX.out.c4
  dsimp only at o0 o2 o3 o4
  by_cases hk5 : yk = 5
  case pos =>
    subst hk5
    have C1 := hide (fail_nil W2 yd yf n)
    go_wp2_with fail
    refine Calls.mono C1.out ?_
    rintro e u1 ⟨rfl, bb⟩
    have O1 := hide (OX.out.below bb)
    have T1 := hide (TX.out.below bb)
    clear C1 bb o0 o2 o3 o4 OX TX
    have o2 := O1.out.c2
    have o3 := O1.out.c3
    have o4 := O1.out.c4
    dsimp only at o2 o3 o4
    have C2 := hide (rbfail_nil u1 yd yf n)
    go_wp2_with fail
    refine Calls.mono C2.out ?_
    rintro e u2 ⟨rfl, bb⟩
    have T2 := hide ((T1.out.below bb).more (Nat.le_succ _))
    clear C2 bb o2 o3 o4 O1 T1
    go_wp2_with (go_at_call 11; refine Calls.mono (num10_any _ _) ?_; rintro e wn ⟨rfl, rfl⟩)
    go_ret
    exact ⟨rfl, _, _, T2.out⟩
  by_cases hk7 : yk = 7
  case pos =>
    subst hk7
    have C1 := hide (clear_nil W2 yd yf)
    go_wp2_with fail
    refine Calls.mono C1.out ?_
    rintro e u1 ⟨rfl, bb⟩
    have O1 := hide (OX.out.below bb)
    have T1 := hide (TX.out.below bb)
    clear C1 bb o0 o2 o3 o4 OX TX
    have o2 := O1.out.c2
    have o3 := O1.out.c3
    have o4 := O1.out.c4
    dsimp only at o2 o3 o4
    have C2 := hide (rbclear_nil u1 yd yf)
    go_wp2_with fail
    refine Calls.mono C2.out ?_
    rintro e u2 ⟨rfl, bb⟩
    have T2 := hide ((T1.out.below bb).more (Nat.le_succ _))
    clear C2 bb o2 o3 o4 O1 T1
    go_wp2_with (go_at_call 11; refine Calls.mono (num10_any _ _) ?_; rintro e wn ⟨rfl, rfl⟩)
    go_ret
    exact ⟨rfl, _, _, T2.out⟩
  by_cases hk6 : yk = 6
  case pos =>
    subst hk6
    have C1 := hide (left_nil W2.drew yd yf)
    have C2G : Hid (∀ u, Below W2.heap.size W2 u → Calls Try.prog 36 #[.pointer none, .agg #[.int .i64 yd, .int .i64 yf]] u fun e X' => e = .returned (.int .i64 0) ∧ Below u.heap.size u X') := fun u _ => rbleft_nil u yd yf
    have CC : Hid (∀ Y, Below W2.heap.size W2 Y → Y.cell? ⟨O, 3, none⟩ = some (.int .i64 yd) ∧ Y.cell? ⟨O, 4, none⟩ = some (.int .i64 yf)) := fun Y hY => ⟨(OX.out.below hY).c3, (OX.out.below hY).c4⟩
    clear o2 o3 o4
    go_wp2_with fail
    refine wp_region_held_drew (S := fun Y => Below W2.heap.size W2 Y) (by kernel_rfl) ((Below.refl _ _).drew) (fun hHeld => ?_)
    refine wpAnyH_take (i := 0) (v := (.pointer none)) rfl (by kernel_rfl) (by kernel_rfl) (by kernel_rfl) (fun _ _ _ h => h) (Or.inl ⟨by rfl, ?_⟩) (by assumption) ?_
    · intro w' hSw
      (try dsimp only at hSw)
      go_simp
    (try simp only [Act.put, List.setIfInBounds_toArray, List.set_cons_zero, List.set_cons_succ])
    refine wpAnyH_take (i := 1) (v := (.pointer (some ⟨O, 3, none⟩))) rfl (by kernel_rfl) (by kernel_rfl) (by kernel_rfl) (fun _ _ _ h => h) (Or.inl ⟨by rfl, ?_⟩) (by assumption) ?_
    · intro w' hSw
      (try dsimp only at hSw)
      go_simp
    (try simp only [Act.put, List.setIfInBounds_toArray, List.set_cons_zero, List.set_cons_succ])
    refine wpAnyH_take (i := 2) (v := (.agg #[.int .i64 yd, .int .i64 yf])) rfl (by kernel_rfl) (by kernel_rfl) (by kernel_rfl) (fun _ _ _ h => h) (Or.inl ⟨by rfl, ?_⟩) (by assumption) ?_
    · intro w' hSw
      (try dsimp only at hSw)
      (obtain ⟨y1, y2⟩ := CC.out _ hSw; go_simp)
    (try simp only [Act.put, List.setIfInBounds_toArray, List.set_cons_zero, List.set_cons_succ])
    refine wpAnyH_take (i := 4) (v := (.pointer none)) rfl (by kernel_rfl) (by kernel_rfl) (by kernel_rfl) (fun _ _ _ h => h) (Or.inl ⟨by rfl, ?_⟩) (by assumption) ?_
    · intro w' hSw
      (try dsimp only at hSw)
      go_simp
    (try simp only [Act.put, List.setIfInBounds_toArray, List.set_cons_zero, List.set_cons_succ])
    refine wpAnyH_take (i := 5) (v := (.pointer (some ⟨O, 3, none⟩))) rfl (by kernel_rfl) (by kernel_rfl) (by kernel_rfl) (fun _ _ _ h => h) (Or.inl ⟨by rfl, ?_⟩) (by assumption) ?_
    · intro w' hSw
      (try dsimp only at hSw)
      go_simp
    (try simp only [Act.put, List.setIfInBounds_toArray, List.set_cons_zero, List.set_cons_succ])
    refine wpAnyH_take (i := 6) (v := (.agg #[.int .i64 yd, .int .i64 yf])) rfl (by kernel_rfl) (by kernel_rfl) (by kernel_rfl) (fun _ _ _ h => h) (Or.inl ⟨by rfl, ?_⟩) (by assumption) ?_
    · intro w' hSw
      (try dsimp only at hSw)
      (obtain ⟨y1, y2⟩ := CC.out _ hSw; go_simp)
    (try simp only [Act.put, List.setIfInBounds_toArray, List.set_cons_zero, List.set_cons_succ])
    refine wpAnyH_ready (rs := [3]) (by kernel_rfl) (by simp) ?_
    refine AllReadyH.cons rfl (fun K hK => ?_) AllReadyH.nil
    go_simp
    refine Calls.mono C1.out ?_
    rintro e u1 ⟨rfl, b1⟩
    have BB1 : Hid (Below W2.heap.size W2 u1) := ⟨b1.os, b1.tape, b1.output, b1.size, b1.block⟩
    clear b1 C1
    refine hK.out _ _ (BB1.out) (fun hHeld => ?_)
    clear hK
    (try simp only [Act.put, List.setIfInBounds_toArray, List.set_cons_zero, List.set_cons_succ])
    refine wpAnyH_ready (rs := [7]) (by kernel_rfl) (by simp) ?_
    refine AllReadyH.cons rfl (fun K hK => ?_) AllReadyH.nil
    go_simp
    refine Calls.mono (C2G.out u1 BB1.out) ?_
    rintro e u2 ⟨rfl, b2⟩
    have BB2 : Hid (Below W2.heap.size W2 u2) := BB1.out.trans (b2.mono BB1.out.size)
    clear b2 C2G
    refine hK.out _ _ (BB2.out) (fun hHeld => ?_)
    clear hK
    (try simp only [Act.put, List.setIfInBounds_toArray, List.set_cons_zero, List.set_cons_succ])
    refine wpAnyH_take (i := 8) (v := (.bool true)) rfl (by kernel_rfl) (by kernel_rfl) (by kernel_rfl) (fun _ _ _ h => h) (Or.inl ⟨by rfl, ?_⟩) (by assumption) ?_
    · intro w' hSw
      (try dsimp only at hSw)
      go_simp
    (try simp only [Act.put, List.setIfInBounds_toArray, List.set_cons_zero, List.set_cons_succ])
    refine wpAnyH_ready (rs := [9]) (by kernel_rfl) (by simp) ?_
    refine AllReadyH.cons rfl (fun K hK => ?_) AllReadyH.nil
    go_simp
    refine hK.out _ _ (BB2.out) (fun hHeld => ?_)
    clear hK
    (try simp only [Act.put, List.setIfInBounds_toArray, List.set_cons_zero, List.set_cons_succ])
    refine wpAnyH_done (by kernel_rfl) ?_ _
    clear hHeld
    have T2 := hide ((TX.out.below BB2.out).more (Nat.le_succ _))
    clear TX OX CC BB1 BB2
    go_wp2_with fail
    go_ret
    exact ⟨rfl, _, _, T2.out⟩
  go_wp2_with fail
  go_ret
  exact ⟨rfl, _, _, TX.out.more (Nat.le_succ _)⟩
set_option maxHeartbeats 8000000 in
set_option maxRecDepth 100000 in
set_option linter.unusedSimpArgs false in
set_option linter.unusedVariables false in
theorem bplays_1some (n₀ K : Nat) (w X : World) (G B0 B1 Q0 Q1 : Nat) (s0 : Option SP) (s : SP) (y : TO) (wd : (Lit.int .i64 y.nd).wf = true) (wf : (Lit.int .i64 y.fl).wf = true) (hK : K + 1 ≤ 8000000000000) (hj : plJ y.pl = 1) (h : PpAt n₀ K w X G B0 B1 Q0 Q1 s0 (some s)) :
    Calls Try.prog 25 #[.pointer (some ⟨G, 0, none⟩), .agg #[.int .i64 y.kind, .int .i64 y.pl, .int .i64 y.n, .int .i64 y.nd, .int .i64 y.fl]] X fun v X' => v = .returned (.bool true) ∧ ∃ s0' s1', PpAt n₀ (K + 1) w X' G B0 B1 Q0 Q1 s0' s1' := by
  obtain ⟨yk, yp, n, yd, yf⟩ := y
  dsimp only at hj wd wf ⊢
  obtain ⟨WX, hWX⟩ : ∃ WX, WX = X.alloc (.cells #[.int .i64 yk, .int .i64 yp, .int .i64 n, .int .i64 yd, .int .i64 yf] 43) := ⟨_, rfl⟩
  obtain ⟨O, hO⟩ : ∃ O, O = X.heap.size := ⟨_, rfl⟩
  have OX : Hid (OpAt WX O ⟨yk, yp, n, yd, yf⟩) := by subst hWX; subst hO; exact heap_last _ _
  have TX : Hid (PpAt n₀ K w WX G B0 B1 Q0 Q1 s0 (some s)) := by subst hWX; exact h.below ((Below.refl _ _).alloc (Nat.le_refl _) _)
  have PL : Hid (∀ W, Calls Try.prog 34 #[.int .i64 yp] W fun v w' => v = .returned (.int .i64 1) ∧ w' = W) := fun W => by rw [← hj]; exact place_any yp W
  clear hj h
  go_enter Try.func25, Try.ntmps25
  go_wp2_with fail
  rw [← hWX, ← hO]
  clear hWX hO
  have o1 := OX.out.c1
  have q0 : WX.cell? ⟨G, 1, none⟩ = some (.pointer (some ⟨B1, 0, none⟩)) := by unfold World.cell?; rw [TX.out.g]; rfl
  dsimp only at o1
  go_quiet (first | (go_at_call 34; refine Calls.quiet_of_same (PL.out _)))
  replace OX : Hid (OpAt (WX.drewN nq) O ⟨yk, yp, n, yd, yf⟩) := OX.out.drewN _
  replace TX : Hid (PpAt n₀ K w (WX.drewN nq) G B0 B1 Q0 Q1 s0 (some s)) := TX.out.drewN _
  clear o1 q0
  generalize WX.drewN nq = W1 at *
  have o1 := OX.out.c1
  have q1 : W1.cell? ⟨G, 3, none⟩ = some (.pointer (some ⟨Q1, 0, none⟩)) := by unfold World.cell?; rw [TX.out.g]; rfl
  dsimp only at o1
  go_wp2_with fail
  go_quiet (first | (go_at_call 34; refine Calls.quiet_of_same (PL.out _)))
  replace OX : Hid (OpAt (W1.drewN nq) O ⟨yk, yp, n, yd, yf⟩) := OX.out.drewN _
  replace TX : Hid (PpAt n₀ K w (W1.drewN nq) G B0 B1 Q0 Q1 s0 (some s)) := TX.out.drewN _
  clear o1 q1
  generalize W1.drewN nq = W2 at *
  have o0 := OX.out.c0
  have o2 := OX.out.c2
  have o3 := OX.out.c3
  have o4 := OX.out.c4
  dsimp only at o0 o2 o3 o4
  by_cases hk5 : yk = 5
  case pos =>
    subst hk5
    have p : Pu n₀ K W2 B1 Q1 s := TX.out.b
    have C1 := fail_all W2 B1 s.M s.n s.t s.s s.m yd yf n (cnF s.L) p.bg p.fit wd wf (by have := p.kn; unfold maxLen; omega) (by unfold cnF; omega) (p.few yd yf)
    have C2G : ∀ u, RbAt u n₀ Q1 s.t s.s s.m s.v s.L → n₀ ≤ u.heap.size → _ := fun u f hb => rbfail_all u n₀ Q1 s.t s.s s.m yd yf n s.v s.L f p.fit (by have := p.kl; omega) hb (p.few yd yf)
    have PP := hide p
    change ∀ u, RbAt u n₀ Q1 s.t s.s s.m s.v s.L → n₀ ≤ u.heap.size → Calls Try.prog 35 #[.pointer (some ⟨Q1, 0, none⟩), .agg #[.int .i64 yd, .int .i64 yf], .int .i64 n] u fun e X' => ∃ v', e = .returned (.tuple #[.int .i64 (flV s.t s.s s.m (cnF s.L yd yf) n), .int .i64 (flE s.t (cnF s.L yd yf) n)]) ∧ RbAt X' n₀ Q1 s.t s.s s.m v' (if flA s.t (cnF s.L yd yf) n then s.L ++ [(yd, yf)] else s.L) ∧ Gr2 u X' Q1 s.v ∧ Near u s.v v' at C2G
    clear p
    generalize hz1 : flV s.t s.s s.m (cnF s.L yd yf) n = zv at *
    generalize hz2 : flE s.t (cnF s.L yd yf) n = ze at *
    clear hz1 hz2
    have C1 := hide C1
    have C2G := hide C2G
    go_wp2_with fail
    refine Calls.mono C1.out ?_
    rintro e u1 ⟨rfl, ⟨n1, hn1, b1⟩, g1⟩
    have O1 := hide (OX.out.mp PP.out.bg.map g1)
    have f1 := rb_mp PP.out.rb PP.out.bg.map g1
    have C2 := hide (C2G.out u1 f1 (Nat.le_trans (Nat.le_trans TX.out.le TX.out.bel.size) g1.size))
    rw [cnF_if] at b1
    have B1 := hide b1
    have G1 := hide g1
    have HN := hide hn1
    clear C1 C2G b1 g1 o0 o2 o3 o4 OX f1 hn1
    have o2 := O1.out.c2
    have o3 := O1.out.c3
    have o4 := O1.out.c4
    dsimp only at o2 o3 o4
    go_wp2_with fail
    refine Calls.mono C2.out ?_
    rintro e u2 ⟨v2, rfl, f2, g2, nr⟩
    have T2 := hide (TX.out.step1 B1.out G1.out f2 g2 nr (few_if PP.out.few) (by have := PP.out.kn; have := HN.out; omega) (len_if PP.out.kl))
    clear C2 f2 g2 nr o2 o3 o4 O1 TX B1 G1
    go_wp2_with (go_at_call 11; refine Calls.mono (num10_any _ _) ?_; rintro e wn ⟨rfl, rfl⟩)
    go_ret
    exact ⟨by simp, _, _, T2.out⟩
  by_cases hk7 : yk = 7
  case pos =>
    subst hk7
    have p : Pu n₀ K W2 B1 Q1 s := TX.out.b
    have C1 := clear_any W2 B1 s.M s.n s.t s.s s.m yd yf (cnF s.L) p.bg p.fit wd wf
    have C2G : ∀ u, RbAt u n₀ Q1 s.t s.s s.m s.v s.L → n₀ ≤ u.heap.size → _ := fun u f hb => rbclear_any u n₀ Q1 s.t s.s s.m yd yf s.v s.L f (by have := p.kl; omega) hb
    have PP := hide p
    skip
    clear p
    have C1 := hide C1
    have C2G := hide C2G
    go_wp2_with fail
    refine Calls.mono C1.out ?_
    rintro e u1 ⟨rfl, b1, g1⟩
    have O1 := hide (OX.out.mp PP.out.bg.map g1)
    have f1 := rb_mp PP.out.rb PP.out.bg.map g1
    have C2 := hide (C2G.out u1 f1 (Nat.le_trans (Nat.le_trans TX.out.le TX.out.bel.size) g1.size))
    rw [cnF_del] at b1
    have B1 := hide b1
    have G1 := hide g1
    skip
    clear C1 C2G b1 g1 o0 o2 o3 o4 OX f1
    have o2 := O1.out.c2
    have o3 := O1.out.c3
    have o4 := O1.out.c4
    dsimp only at o2 o3 o4
    go_wp2_with fail
    refine Calls.mono C2.out ?_
    rintro e u2 ⟨v2, rfl, f2, g2, nr⟩
    have T2 := hide (TX.out.step1 B1.out G1.out f2 g2 nr (few_del PP.out.fit.t1 PP.out.few) (by have := PP.out.kn; omega) (by have := PP.out.kl; have := flt_len yd yf s.L; omega))
    clear C2 f2 g2 nr o2 o3 o4 O1 TX B1 G1
    go_wp2_with (go_at_call 11; refine Calls.mono (num10_any _ _) ?_; rintro e wn ⟨rfl, rfl⟩)
    go_ret
    exact ⟨by simp, _, _, T2.out⟩
  by_cases hk6 : yk = 6
  case pos =>
    subst hk6
    have p : Pu n₀ K W2 B1 Q1 s := TX.out.b
    have C1 : Hid (Calls Try.prog 13 #[.pointer (some ⟨B1, 0, none⟩), .agg #[.int .i64 yd, .int .i64 yf]] W2.drew fun e X' => e = .returned (.int .i64 (s.t - cnF s.L yd yf)) ∧ Below W2.drew.heap.size W2.drew X') := (left_any W2.drew B1 s.M s.n s.t s.s s.m yd yf (cnF s.L) (p.bg.drewN 1) p.fit wd wf ⟨by unfold cnF; omega, p.few yd yf⟩).mono fun e X' ⟨x, _, z⟩ => ⟨x, z⟩
    have C2G : Hid (∀ u, Below W2.heap.size W2 u → Calls Try.prog 36 #[.pointer (some ⟨Q1, 0, none⟩), .agg #[.int .i64 yd, .int .i64 yf]] u fun e X' => e = .returned (.int .i64 (s.t - cnF s.L yd yf)) ∧ Below u.heap.size u X') := fun u hu => rbleft_any u n₀ Q1 s.t s.s s.m yd yf s.v s.L (p.below hu).rb (by have := p.kl; omega) p.fit (p.few yd yf)
    clear p
    generalize s.t - cnF s.L yd yf = lv at *
    have CC : Hid (∀ Y, Below W2.heap.size W2 Y → Y.cell? ⟨O, 3, none⟩ = some (.int .i64 yd) ∧ Y.cell? ⟨O, 4, none⟩ = some (.int .i64 yf)) := fun Y hY => ⟨(OX.out.below hY).c3, (OX.out.below hY).c4⟩
    clear o2 o3 o4
    go_wp2_with fail
    refine wp_region_held_drew (S := fun Y => Below W2.heap.size W2 Y) (by kernel_rfl) ((Below.refl _ _).drew) (fun hHeld => ?_)
    refine wpAnyH_take (i := 0) (v := (.pointer (some ⟨B1, 0, none⟩))) rfl (by kernel_rfl) (by kernel_rfl) (by kernel_rfl) (fun _ _ _ h => h) (Or.inl ⟨by rfl, ?_⟩) (by assumption) ?_
    · intro w' hSw
      (try dsimp only at hSw)
      go_simp
    (try simp only [Act.put, List.setIfInBounds_toArray, List.set_cons_zero, List.set_cons_succ])
    refine wpAnyH_take (i := 1) (v := (.pointer (some ⟨O, 3, none⟩))) rfl (by kernel_rfl) (by kernel_rfl) (by kernel_rfl) (fun _ _ _ h => h) (Or.inl ⟨by rfl, ?_⟩) (by assumption) ?_
    · intro w' hSw
      (try dsimp only at hSw)
      go_simp
    (try simp only [Act.put, List.setIfInBounds_toArray, List.set_cons_zero, List.set_cons_succ])
    refine wpAnyH_take (i := 2) (v := (.agg #[.int .i64 yd, .int .i64 yf])) rfl (by kernel_rfl) (by kernel_rfl) (by kernel_rfl) (fun _ _ _ h => h) (Or.inl ⟨by rfl, ?_⟩) (by assumption) ?_
    · intro w' hSw
      (try dsimp only at hSw)
      (obtain ⟨y1, y2⟩ := CC.out _ hSw; go_simp)
    (try simp only [Act.put, List.setIfInBounds_toArray, List.set_cons_zero, List.set_cons_succ])
    refine wpAnyH_take (i := 4) (v := (.pointer (some ⟨Q1, 0, none⟩))) rfl (by kernel_rfl) (by kernel_rfl) (by kernel_rfl) (fun _ _ _ h => h) (Or.inl ⟨by rfl, ?_⟩) (by assumption) ?_
    · intro w' hSw
      (try dsimp only at hSw)
      go_simp
    (try simp only [Act.put, List.setIfInBounds_toArray, List.set_cons_zero, List.set_cons_succ])
    refine wpAnyH_take (i := 5) (v := (.pointer (some ⟨O, 3, none⟩))) rfl (by kernel_rfl) (by kernel_rfl) (by kernel_rfl) (fun _ _ _ h => h) (Or.inl ⟨by rfl, ?_⟩) (by assumption) ?_
    · intro w' hSw
      (try dsimp only at hSw)
      go_simp
    (try simp only [Act.put, List.setIfInBounds_toArray, List.set_cons_zero, List.set_cons_succ])
    refine wpAnyH_take (i := 6) (v := (.agg #[.int .i64 yd, .int .i64 yf])) rfl (by kernel_rfl) (by kernel_rfl) (by kernel_rfl) (fun _ _ _ h => h) (Or.inl ⟨by rfl, ?_⟩) (by assumption) ?_
    · intro w' hSw
      (try dsimp only at hSw)
      (obtain ⟨y1, y2⟩ := CC.out _ hSw; go_simp)
    (try simp only [Act.put, List.setIfInBounds_toArray, List.set_cons_zero, List.set_cons_succ])
    refine wpAnyH_ready (rs := [3]) (by kernel_rfl) (by simp) ?_
    refine AllReadyH.cons rfl (fun K hK => ?_) AllReadyH.nil
    go_simp
    refine Calls.mono C1.out ?_
    rintro e u1 ⟨rfl, b1⟩
    have BB1 : Hid (Below W2.heap.size W2 u1) := ⟨b1.os, b1.tape, b1.output, b1.size, b1.block⟩
    clear b1 C1
    refine hK.out _ _ (BB1.out) (fun hHeld => ?_)
    clear hK
    (try simp only [Act.put, List.setIfInBounds_toArray, List.set_cons_zero, List.set_cons_succ])
    refine wpAnyH_ready (rs := [7]) (by kernel_rfl) (by simp) ?_
    refine AllReadyH.cons rfl (fun K hK => ?_) AllReadyH.nil
    go_simp
    refine Calls.mono (C2G.out u1 BB1.out) ?_
    rintro e u2 ⟨rfl, b2⟩
    have BB2 : Hid (Below W2.heap.size W2 u2) := BB1.out.trans (b2.mono BB1.out.size)
    clear b2 C2G
    refine hK.out _ _ (BB2.out) (fun hHeld => ?_)
    clear hK
    (try simp only [Act.put, List.setIfInBounds_toArray, List.set_cons_zero, List.set_cons_succ])
    refine wpAnyH_take (i := 8) (v := (.bool true)) rfl (by kernel_rfl) (by kernel_rfl) (by kernel_rfl) (fun _ _ _ h => h) (Or.inl ⟨by rfl, ?_⟩) (by assumption) ?_
    · intro w' hSw
      (try dsimp only at hSw)
      go_simp
    (try simp only [Act.put, List.setIfInBounds_toArray, List.set_cons_zero, List.set_cons_succ])
    refine wpAnyH_ready (rs := [9]) (by kernel_rfl) (by simp) ?_
    refine AllReadyH.cons rfl (fun K hK => ?_) AllReadyH.nil
    go_simp
    refine hK.out _ _ (BB2.out) (fun hHeld => ?_)
    clear hK
    (try simp only [Act.put, List.setIfInBounds_toArray, List.set_cons_zero, List.set_cons_succ])
    refine wpAnyH_done (by kernel_rfl) ?_ _
    clear hHeld
    have T2 := hide ((TX.out.below BB2.out).more (Nat.le_succ _))
    clear TX OX CC BB1 BB2
    go_wp2_with fail
    go_ret
    exact ⟨rfl, _, _, T2.out⟩
  go_wp2_with fail
  go_ret
  exact ⟨rfl, _, _, TX.out.more (Nat.le_succ _)⟩
end Go.Proofs.Ytkfiaahgcljljaa
