import Derived.Test.YtkfiaahgcljljabTcPails
namespace Go.Proofs.Ytkfiaahgcljljab
open Go.RowKit
theorem plays_any (n₀ : Nat) (w X : World) (G R0 R1 Q0 Q1 : Nat) (s0 s1 : Option SB) (y : TO) (h : PlAt n₀ w X G R0 R1 Q0 Q1 s0 s1) :
    Calls Try.prog 5 #[.pointer (some ⟨G, 0, none⟩), .agg #[.int .i64 y.kind, .int .i64 y.pl, .int .i64 y.n, .int .i64 y.nd, .int .i64 y.fl]] X fun v X' => v = .returned (.bool true) ∧ ∃ s0' s1', PlAt n₀ w X' G R0 R1 Q0 Q1 s0' s1' := by
  rcases plJ_two y.pl with hj | hj
  · cases s0 with
    | none => exact plays_0none n₀ w X G R0 R1 Q0 Q1 s1 y hj h
    | some s => exact plays_0some n₀ w X G R0 R1 Q0 Q1 s1 s y hj h
  · cases s1 with
    | none => exact plays_1none n₀ w X G R0 R1 Q0 Q1 s0 y hj h
    | some s => exact plays_1some n₀ w X G R0 R1 Q0 Q1 s0 s y hj h
/-- the two shapes, as an array -/
def LAt (X : World) (L : Nat) (a0 a1 a2 b0 b1 b2 : Int) : Prop := X.heap[L]? = some (.cells #[.int .i64 a0, .int .i64 a1, .int .i64 a2, .int .i64 b0, .int .i64 b1, .int .i64 b2] 39)
theorem LAt.c0 {X : World} {L : Nat} {a0 a1 a2 b0 b1 b2 : Int} (h : LAt X L a0 a1 a2 b0 b1 b2) : X.cell? ⟨L, 0, none⟩ = some (.int .i64 a0) := by unfold World.cell?; rw [h]; rfl
theorem LAt.c1 {X : World} {L : Nat} {a0 a1 a2 b0 b1 b2 : Int} (h : LAt X L a0 a1 a2 b0 b1 b2) : X.cell? ⟨L, 1, none⟩ = some (.int .i64 a1) := by unfold World.cell?; rw [h]; rfl
theorem LAt.c2 {X : World} {L : Nat} {a0 a1 a2 b0 b1 b2 : Int} (h : LAt X L a0 a1 a2 b0 b1 b2) : X.cell? ⟨L, 2, none⟩ = some (.int .i64 a2) := by unfold World.cell?; rw [h]; rfl
theorem LAt.c3 {X : World} {L : Nat} {a0 a1 a2 b0 b1 b2 : Int} (h : LAt X L a0 a1 a2 b0 b1 b2) : X.cell? ⟨L, 3, none⟩ = some (.int .i64 b0) := by unfold World.cell?; rw [h]; rfl
theorem LAt.c4 {X : World} {L : Nat} {a0 a1 a2 b0 b1 b2 : Int} (h : LAt X L a0 a1 a2 b0 b1 b2) : X.cell? ⟨L, 4, none⟩ = some (.int .i64 b1) := by unfold World.cell?; rw [h]; rfl
theorem LAt.c5 {X : World} {L : Nat} {a0 a1 a2 b0 b1 b2 : Int} (h : LAt X L a0 a1 a2 b0 b1 b2) : X.cell? ⟨L, 5, none⟩ = some (.int .i64 b2) := by unfold World.cell?; rw [h]; rfl
theorem LAt.below {X X' : World} {L : Nat} {a0 a1 a2 b0 b1 b2 : Int} (h : LAt X L a0 a1 a2 b0 b1 b2) (hb : Below X.heap.size X X') : LAt X' L a0 a1 a2 b0 b1 b2 := (hb.block _ (blk_lt h)).trans h
/-- what made has so far -/
structure Mk (n₀ : Nat) (w X : World) (G L : Nat) (a0 a1 a2 b0 b1 b2 : Int) : Prop where
  p : ∃ R0 R1 Q0 Q1 s0 s1, PlAt n₀ w X G R0 R1 Q0 Q1 s0 s1
  l : LAt X L a0 a1 a2 b0 b1 b2
theorem Mk.below {n₀ : Nat} {w X X' : World} {G L : Nat} {a0 a1 a2 b0 b1 b2 : Int} (h : Mk n₀ w X G L a0 a1 a2 b0 b1 b2) (hb : Below X.heap.size X X') : Mk n₀ w X' G L a0 a1 a2 b0 b1 b2 := by
  obtain ⟨R0, R1, Q0, Q1, s0, s1, hp⟩ := h.p
  exact ⟨⟨R0, R1, Q0, Q1, s0, s1, hp.below hb⟩, h.l.below hb⟩
theorem set_g {X : World} {G j : Nat} {u : Array Value} {v : Value} (h : X.heap[G]? = some (.cells u 31)) : (X.setCell ⟨G, j, none⟩ v).heap[G]? = some (.cells (u.setIfInBounds j v) 31) := heap_setCell _ _ _ _ _ _ _ h
theorem set_o {X : World} {G A j : Nat} {v : Value} {o : Obj} (h : X.heap[A]? = some o) (hne : A ≠ G) : (X.setCell ⟨G, j, none⟩ v).heap[A]? = some o := (Below.heap_setCell _ _ _ A (fun e => hne (by rw [e]))).trans h
theorem g_ne {X : World} {G A : Nat} {u u' : Array Value} {t : TypeId} (h : X.heap[G]? = some (.cells u 31)) (h' : X.heap[A]? = some (.cells u' t)) (ht : t ≠ 31) : A ≠ G := by
  rintro rfl
  have := h.symm.trans h'
  simp only [Option.some.injEq, Obj.cells.injEq] at this
  exact ht this.2.1.symm
/-- pointers are laid at a place -/
theorem Sl.set {n₀ : Nat} {X : World} {R Q G j : Nat} {s : Option SB} {u : Array Value} {v : Value} (h : Sl n₀ X R Q s) (hg : X.heap[G]? = some (.cells u 31)) : Sl n₀ (X.setCell ⟨G, j, none⟩ v) R Q s := by
  cases s with
  | none => trivial
  | some s => exact ⟨set_o h.1 (g_ne hg h.1 (by decide)), set_o h.2.1 (g_ne hg h.2.1 (by decide)), h.2.2⟩
theorem below_set {n₀ : Nat} {w X : World} {G j : Nat} {v : Value} (h : Below n₀ w X) (hG : n₀ ≤ G) : Below n₀ w (X.setCell ⟨G, j, none⟩ v) := ⟨h.os, h.tape, h.output, by rw [World.size_setCell]; exact h.size, fun i hi => (Below.heap_setCell _ _ _ i (fun e => by simp at e; omega)).trans (h.block i hi)⟩
/-- place 0 is laid -/
theorem PlAt.lay0 {n₀ : Nat} {w X : World} {G R0 R1 Q0 Q1 : Nat} {s0 s1 : Option SB} (h : PlAt n₀ w X G R0 R1 Q0 Q1 s0 s1) (R Q : Nat) (s : Option SB) (hs : Sl n₀ X R Q s) (hne : s.isSome = true → s1.isSome = true → R ≠ R1 ∧ Q ≠ Q1) :
    PlAt n₀ w ((X.setCell ⟨G, 0, none⟩ (pv R s)).setCell ⟨G, 2, none⟩ (pv Q s)) G R R1 Q Q1 s s1 :=
  ⟨set_g (set_g h.g), (hs.set h.g).set (set_g h.g), (h.b.set h.g).set (set_g h.g), hne, h.ga, below_set (below_set h.bel h.ga) h.ga, h.le⟩
/-- place 1 is laid -/
theorem PlAt.lay1 {n₀ : Nat} {w X : World} {G R0 R1 Q0 Q1 : Nat} {s0 s1 : Option SB} (h : PlAt n₀ w X G R0 R1 Q0 Q1 s0 s1) (R Q : Nat) (s : Option SB) (hs : Sl n₀ X R Q s) (hne : s0.isSome = true → s.isSome = true → R0 ≠ R ∧ Q0 ≠ Q) :
    PlAt n₀ w ((X.setCell ⟨G, 1, none⟩ (pv R s)).setCell ⟨G, 3, none⟩ (pv Q s)) G R0 R Q0 Q s0 s :=
  ⟨set_g (set_g h.g), (h.a.set h.g).set (set_g h.g), (hs.set h.g).set (set_g h.g), hne, h.ga, below_set (below_set h.bel h.ga) h.ga, h.le⟩
theorem LAt.set {X : World} {L G j : Nat} {a0 a1 a2 b0 b1 b2 : Int} {u : Array Value} {v : Value} (h : LAt X L a0 a1 a2 b0 b1 b2) (hg : X.heap[G]? = some (.cells u 31)) : LAt (X.setCell ⟨G, j, none⟩ v) L a0 a1 a2 b0 b1 b2 := set_o h (g_ne hg h (by decide))
/-- what is made of a shape -/
def sOf (r p c : Int) : Option SB := if 1 ≤ r ∧ r ≤ 65536 ∧ 1 ≤ p ∧ p ≤ 1024 ∧ 1 ≤ c ∧ c ≤ 65536 then some ⟨r, p, c, c * p⟩ else none
def eOf (s : Option SB) : Int := match s with | none => 1 | some _ => 0
def bkOf (X : World) (R : Nat) : Option SB → Prop
  | none => True
  | some s => BkAt X R s.r s.p s.c s.k ∧ Fits s.r s.p s.c s.k
def rfOf (X : World) (R : Nat) : Option SB → Prop
  | none => True
  | some s => RfAt X R s.r s.p s.c s.k
theorem new_both (r p c : Int) (w : World) : Calls Try.prog 6 #[.int .i64 r, .int .i64 p, .int .i64 c] w fun e w' => e = .returned (.tuple #[pv w.heap.size (sOf r p c), .int .i64 (eOf (sOf r p c))]) ∧ bkOf w' w.heap.size (sOf r p c) ∧ Below w.heap.size w w' := by
  unfold sOf
  split
  · rename_i hsh
    have hok : Fits r p c (c * p) := Fits.full hsh.1 hsh.2.1 hsh.2.2.1 hsh.2.2.2.1 hsh.2.2.2.2.1 hsh.2.2.2.2.2
    exact (newBucket_any r p c w hok).mono fun e w' ⟨a, b, g⟩ => ⟨a, ⟨b, hok⟩, g⟩
  · rename_i hsh
    exact (newBucket_bad r p c w hsh).mono fun e w' ⟨a, b⟩ => ⟨a, trivial, by subst b; exact Below.refl _ _⟩
theorem rnew_both (r p c : Int) (w : World) : Calls Try.prog 7 #[.int .i64 r, .int .i64 p, .int .i64 c] w fun e w' => e = .returned (.tuple #[pv w.heap.size (sOf r p c), .int .i64 (eOf (sOf r p c))]) ∧ rfOf w' w.heap.size (sOf r p c) ∧ Below w.heap.size w w' := by
  unfold sOf
  split
  · rename_i hsh
    have hok : Fits r p c (c * p) := Fits.full hsh.1 hsh.2.1 hsh.2.2.1 hsh.2.2.2.1 hsh.2.2.2.2.1 hsh.2.2.2.2.2
    exact (rnew_any r p c w hok).mono fun e w' ⟨a, b, g⟩ => ⟨a, b, g⟩
  · rename_i hsh
    exact (rnew_bad r p c w hsh).mono fun e w' ⟨a, b⟩ => ⟨a, trivial, by subst b; exact Below.refl _ _⟩
/-- a shape's cells -/
def Cq (X : World) (L q : Nat) (x y z : Int) : Prop := X.cell? ⟨L, q * 3, none⟩ = some (.int .i64 x) ∧ X.cell? ⟨L, q * 3 + 1, none⟩ = some (.int .i64 y) ∧ X.cell? ⟨L, q * 3 + 2, none⟩ = some (.int .i64 z)
theorem LAt.cq {L : Nat} {a0 a1 a2 b0 b1 b2 : Int} (q : Nat) (hq : q < 2) : ∃ x y z, ∀ X, LAt X L a0 a1 a2 b0 b1 b2 → Cq X L q x y z := by
  have : q = 0 ∨ q = 1 := by omega
  rcases this with rfl | rfl
  · exact ⟨a0, a1, a2, fun X h => ⟨h.c0, h.c1, h.c2⟩⟩
  · exact ⟨b0, b1, b2, fun X h => ⟨h.c3, h.c4, h.c5⟩⟩
/-- a place is laid -/
theorem Mk.lay {n₀ : Nat} {w X u1 u2 : World} {G L q : Nat} {a0 a1 a2 b0 b1 b2 : Int} (hq : q < 2) (h : Mk n₀ w X G L a0 a1 a2 b0 b1 b2) (s : Option SB) (b1' : bkOf u1 X.heap.size s) (g1 : Below X.heap.size X u1) (f2 : rfOf u2 u1.heap.size s) (g2 : Below u1.heap.size u1 u2) :
    (u2.cell? ⟨G, q, none⟩).isSome = true ∧ (u2.cell? ⟨G, 2 + q, none⟩).isSome = true ∧ (∀ j, u2.frozen? ⟨G, j, none⟩ = false) ∧ Mk n₀ w ((u2.setCell ⟨G, q, none⟩ (pv X.heap.size s)).setCell ⟨G, 2 + q, none⟩ (pv u1.heap.size s)) G L a0 a1 a2 b0 b1 b2 := by
  obtain ⟨R0, R1, Q0, Q1, s0, s1, hp⟩ := h.p
  have hp2 := (hp.below g1).below g2
  have hl2 := (h.l.below g1).below g2
  have e1 := Nat.le_trans hp.le hp.bel.size
  have hs : Sl n₀ u2 X.heap.size u1.heap.size s := by
    cases s with
    | none => trivial
    | some s => exact ⟨b1'.1.below g2, f2, b1'.2, e1, Nat.le_trans e1 g1.size⟩
  have n0 : s0.isSome = true → R0 < X.heap.size ∧ Q0 < X.heap.size := by
    have := hp.a
    cases s0 with
    | none => intro e; cases e
    | some sx => intro _; exact ⟨blk_lt this.1, blk_lt this.2.1⟩
  have n1 : s1.isSome = true → R1 < X.heap.size ∧ Q1 < X.heap.size := by
    have := hp.b
    cases s1 with
    | none => intro e; cases e
    | some sx => intro _; exact ⟨blk_lt this.1, blk_lt this.2.1⟩
  have sz := g1.size
  have z0 : ∀ j, u2.frozen? ⟨G, j, none⟩ = false := fun j => by unfold World.frozen?; rw [hp2.g]; simp
  have : q = 0 ∨ q = 1 := by omega
  rcases this with rfl | rfl
  · refine ⟨by unfold World.cell?; rw [hp2.g]; rfl, by unfold World.cell?; rw [hp2.g]; rfl, z0, ⟨_, _, _, _, _, _, hp2.lay0 X.heap.size u1.heap.size s hs (fun _ e => by have := n1 e; omega)⟩, (hl2.set hp2.g).set (set_g hp2.g)⟩
  · refine ⟨by unfold World.cell?; rw [hp2.g]; rfl, by unfold World.cell?; rw [hp2.g]; rfl, z0, ⟨_, _, _, _, _, _, hp2.lay1 X.heap.size u1.heap.size s hs (fun e _ => by have := n0 e; omega)⟩, (hl2.set hp2.g).set (set_g hp2.g)⟩
set_option maxHeartbeats 8000000 in
set_option maxRecDepth 100000 in
set_option linter.unusedSimpArgs false in
set_option linter.unusedVariables false in
theorem made_any (n₀ : Nat) (w X : World) (G : Nat) (a0 a1 a2 b0 b1 b2 : Int) (hg : X.heap[G]? = some (.cells #[.pointer none, .pointer none, .pointer none, .pointer none] 31)) (hG : n₀ ≤ G) (hb : Below n₀ w X) (hle : n₀ ≤ w.heap.size) :
    Calls Try.prog 4 #[.pointer (some ⟨G, 0, none⟩), .agg #[.int .i64 a0, .int .i64 a1, .int .i64 a2], .agg #[.int .i64 b0, .int .i64 b1, .int .i64 b2]] X fun v X' => v = .returned (.bool true) ∧ ∃ R0 R1 Q0 Q1 s0 s1, PlAt n₀ w X' G R0 R1 Q0 Q1 s0 s1 := by
  have P0 : Hid (PlAt n₀ w X G 0 0 0 0 none none) := ⟨hg, trivial, trivial, (fun e => by cases e), hG, hb, hle⟩
  clear hg hb
  go_enter Try.func4, Try.ntmps4
  go_wp2_with fail
  obtain ⟨WL, hWL⟩ : ∃ WL, WL = ((X.alloc (.cells #[.int .i64 a0, .int .i64 a1, .int .i64 a2] 23)).alloc (.cells #[.int .i64 b0, .int .i64 b1, .int .i64 b2] 23)).alloc (.cells #[.int .i64 a0, .int .i64 a1, .int .i64 a2, .int .i64 b0, .int .i64 b1, .int .i64 b2] 39) := ⟨_, rfl⟩
  have M0 : Hid (Mk n₀ w WL G (X.heap.size + 1 + 1) a0 a1 a2 b0 b1 b2) := by
    subst hWL
    refine ⟨⟨0, 0, 0, 0, none, none, P0.out.below ((((Below.refl _ _).alloc (Nat.le_refl _) _).alloc (by simp only [World.size_alloc]; omega) _).alloc (by simp only [World.size_alloc]; omega) _)⟩, ?_⟩
    have := heap_last ((X.alloc (.cells #[.int .i64 a0, .int .i64 a1, .int .i64 a2] 23)).alloc (.cells #[.int .i64 b0, .int .i64 b1, .int .i64 b2] 23)) (.cells #[.int .i64 a0, .int .i64 a1, .int .i64 a2, .int .i64 b0, .int .i64 b1, .int .i64 b2] 39)
    simp only [World.size_alloc] at this
    exact this
  rw [← hWL]
  clear hWL P0
  generalize X.heap.size + 1 + 1 = L at *
  go_loopw [8] (fun vi wr => ∃ (q : Nat), q ≤ 2 ∧ vi = .int .i64 (q : Int) ∧ Mk n₀ w wr G L a0 a1 a2 b0 b1 b2) (fun vi _ => 2 - (intOf vi).toNat)
  case atStart => exact ⟨0, by omega, rfl, M0.out⟩
  case round =>
    clear M0
    obtain ⟨q, hq, rfl, hM⟩ := hrel
    have M0 := hide hM
    clear hM
    by_cases hq2 : q < 2
    case pos =>
      obtain ⟨x, y, z, hC⟩ := LAt.cq (L := L) (a0 := a0) (a1 := a1) (a2 := a2) (b0 := b0) (b1 := b1) (b2 := b2) q hq2
      have HC := hide hC
      clear hC
      have LL0 := hide M0.out.l
      have hqi : (q : Int) < 2 := by omega
      have NB := hide (new_both x y z wr.drew)
      have RB := hide (fun u => rnew_both x y z u)
      generalize hs : sOf x y z = s at *
      clear hs
      go_wp2_with fail
      refine wp_region_held_drew (S := fun X => LAt X L a0 a1 a2 b0 b1 b2 ∧ Below wr.heap.size wr X) (by kernel_rfl) ⟨LL0.out, (Below.refl _ _).drew⟩ (fun hHeld => ?_)
      refine wpAnyH_take (i := 0) (v := (.int .i64 (q : Int))) rfl (by kernel_rfl) (by kernel_rfl) (by kernel_rfl) (fun _ _ _ h => h) (Or.inl ⟨by rfl, ?_⟩) (by assumption) ?_
      · intro w' hSw
        (try dsimp only at hSw)
        go_simp
      (try simp only [Act.put, List.setIfInBounds_toArray, List.set_cons_zero, List.set_cons_succ])
      refine wpAnyH_take (i := 1) (v := (.pointer (some ⟨L, q * 3, none⟩))) rfl (by kernel_rfl) (by kernel_rfl) (by kernel_rfl) (fun _ _ _ h => h) (Or.inl ⟨by rfl, ?_⟩) (by assumption) ?_
      · intro w' hSw
        (try dsimp only at hSw)
        go_simp
      (try simp only [Act.put, List.setIfInBounds_toArray, List.set_cons_zero, List.set_cons_succ])
      refine wpAnyH_take (i := 2) (v := (.pointer (some ⟨L, q * 3, none⟩))) rfl (by kernel_rfl) (by kernel_rfl) (by kernel_rfl) (fun _ _ _ h => h) (Or.inl ⟨by rfl, ?_⟩) (by assumption) ?_
      · intro w' hSw
        (try dsimp only at hSw)
        go_simp
      (try simp only [Act.put, List.setIfInBounds_toArray, List.set_cons_zero, List.set_cons_succ])
      refine wpAnyH_take (i := 3) (v := (.int .i64 x)) rfl (by kernel_rfl) (by kernel_rfl) (by kernel_rfl) (fun _ _ _ h => h) (Or.inl ⟨by rfl, ?_⟩) (by assumption) ?_
      · intro w' hSw
        (try dsimp only at hSw)
        (obtain ⟨c0, c1, c2⟩ := HC.out _ hSw.1; go_simp)
      (try simp only [Act.put, List.setIfInBounds_toArray, List.set_cons_zero, List.set_cons_succ])
      refine wpAnyH_take (i := 4) (v := (.int .i64 (q : Int))) rfl (by kernel_rfl) (by kernel_rfl) (by kernel_rfl) (fun _ _ _ h => h) (Or.inl ⟨by rfl, ?_⟩) (by assumption) ?_
      · intro w' hSw
        (try dsimp only at hSw)
        go_simp
      (try simp only [Act.put, List.setIfInBounds_toArray, List.set_cons_zero, List.set_cons_succ])
      refine wpAnyH_take (i := 5) (v := (.pointer (some ⟨L, q * 3, none⟩))) rfl (by kernel_rfl) (by kernel_rfl) (by kernel_rfl) (fun _ _ _ h => h) (Or.inl ⟨by rfl, ?_⟩) (by assumption) ?_
      · intro w' hSw
        (try dsimp only at hSw)
        go_simp
      (try simp only [Act.put, List.setIfInBounds_toArray, List.set_cons_zero, List.set_cons_succ])
      refine wpAnyH_take (i := 6) (v := (.pointer (some ⟨L, q * 3 + 1, none⟩))) rfl (by kernel_rfl) (by kernel_rfl) (by kernel_rfl) (fun _ _ _ h => h) (Or.inl ⟨by rfl, ?_⟩) (by assumption) ?_
      · intro w' hSw
        (try dsimp only at hSw)
        go_simp
      (try simp only [Act.put, List.setIfInBounds_toArray, List.set_cons_zero, List.set_cons_succ])
      refine wpAnyH_take (i := 7) (v := (.int .i64 y)) rfl (by kernel_rfl) (by kernel_rfl) (by kernel_rfl) (fun _ _ _ h => h) (Or.inl ⟨by rfl, ?_⟩) (by assumption) ?_
      · intro w' hSw
        (try dsimp only at hSw)
        (obtain ⟨c0, c1, c2⟩ := HC.out _ hSw.1; go_simp)
      (try simp only [Act.put, List.setIfInBounds_toArray, List.set_cons_zero, List.set_cons_succ])
      refine wpAnyH_take (i := 8) (v := (.int .i64 (q : Int))) rfl (by kernel_rfl) (by kernel_rfl) (by kernel_rfl) (fun _ _ _ h => h) (Or.inl ⟨by rfl, ?_⟩) (by assumption) ?_
      · intro w' hSw
        (try dsimp only at hSw)
        go_simp
      (try simp only [Act.put, List.setIfInBounds_toArray, List.set_cons_zero, List.set_cons_succ])
      refine wpAnyH_take (i := 9) (v := (.pointer (some ⟨L, q * 3, none⟩))) rfl (by kernel_rfl) (by kernel_rfl) (by kernel_rfl) (fun _ _ _ h => h) (Or.inl ⟨by rfl, ?_⟩) (by assumption) ?_
      · intro w' hSw
        (try dsimp only at hSw)
        go_simp
      (try simp only [Act.put, List.setIfInBounds_toArray, List.set_cons_zero, List.set_cons_succ])
      refine wpAnyH_take (i := 10) (v := (.pointer (some ⟨L, q * 3 + 2, none⟩))) rfl (by kernel_rfl) (by kernel_rfl) (by kernel_rfl) (fun _ _ _ h => h) (Or.inl ⟨by rfl, ?_⟩) (by assumption) ?_
      · intro w' hSw
        (try dsimp only at hSw)
        go_simp
      (try simp only [Act.put, List.setIfInBounds_toArray, List.set_cons_zero, List.set_cons_succ])
      refine wpAnyH_take (i := 11) (v := (.int .i64 z)) rfl (by kernel_rfl) (by kernel_rfl) (by kernel_rfl) (fun _ _ _ h => h) (Or.inl ⟨by rfl, ?_⟩) (by assumption) ?_
      · intro w' hSw
        (try dsimp only at hSw)
        (obtain ⟨c0, c1, c2⟩ := HC.out _ hSw.1; go_simp)
      (try simp only [Act.put, List.setIfInBounds_toArray, List.set_cons_zero, List.set_cons_succ])
      refine wpAnyH_ready (rs := [12]) (by kernel_rfl) (by simp) ?_
      refine AllReadyH.cons rfl (fun K hK => ?_) AllReadyH.nil
      go_simp
      refine Calls.mono (NB.out) ?_
      rintro e u1 ⟨rfl, bb, gg⟩
      have BBu1 := hide bb
      have GGu1 : Hid (Below wr.heap.size wr u1) := ⟨gg.os, gg.tape, gg.output, gg.size, gg.block⟩
      have Lu1 := hide ((LL0.out).below GGu1.out)
      clear bb gg
      refine hK.out _ _ (⟨Lu1.out, GGu1.out⟩) (fun hHeld => ?_)
      clear hK
      (try simp only [Act.put, List.setIfInBounds_toArray, List.set_cons_zero, List.set_cons_succ])
      refine wpAnyH_take (i := 13) (v := (.tuple #[pv wr.heap.size s, .int .i64 (eOf s)])) rfl (by kernel_rfl) (by kernel_rfl) (by kernel_rfl) (fun _ _ _ h => h) (Or.inl ⟨by rfl, ?_⟩) (by assumption) ?_
      · intro w' hSw
        (try dsimp only at hSw)
        go_simp
      (try simp only [Act.put, List.setIfInBounds_toArray, List.set_cons_zero, List.set_cons_succ])
      refine wpAnyH_take (i := 14) (v := (pv wr.heap.size s)) rfl (by kernel_rfl) (by kernel_rfl) (by kernel_rfl) (fun _ _ _ h => h) (Or.inl ⟨by rfl, ?_⟩) (by assumption) ?_
      · intro w' hSw
        (try dsimp only at hSw)
        go_simp
      (try simp only [Act.put, List.setIfInBounds_toArray, List.set_cons_zero, List.set_cons_succ])
      refine wpAnyH_take (i := 15) (v := (.int .i64 (eOf s))) rfl (by kernel_rfl) (by kernel_rfl) (by kernel_rfl) (fun _ _ _ h => h) (Or.inl ⟨by rfl, ?_⟩) (by assumption) ?_
      · intro w' hSw
        (try dsimp only at hSw)
        go_simp
      (try simp only [Act.put, List.setIfInBounds_toArray, List.set_cons_zero, List.set_cons_succ])
      refine wpAnyH_ready (rs := [16]) (by kernel_rfl) (by simp) ?_
      refine AllReadyH.cons rfl (fun K hK => ?_) AllReadyH.nil
      go_simp
      refine hK.out _ _ (⟨Lu1.out, GGu1.out⟩) (fun hHeld => ?_)
      clear hK
      (try simp only [Act.put, List.setIfInBounds_toArray, List.set_cons_zero, List.set_cons_succ])
      refine wpAnyH_ready (rs := [17]) (by kernel_rfl) (by simp) ?_
      refine AllReadyH.cons rfl (fun K hK => ?_) AllReadyH.nil
      go_simp
      refine hK.out _ _ (⟨Lu1.out, GGu1.out⟩) (fun hHeld => ?_)
      clear hK
      (try simp only [Act.put, List.setIfInBounds_toArray, List.set_cons_zero, List.set_cons_succ])
      refine wpAnyH_done (by kernel_rfl) ?_ _
      clear hHeld
      go_wp2_with fail
      (try simp only [Act.put, List.getElem_toArray, List.getElem_cons_zero, List.getElem_cons_succ, List.setIfInBounds_toArray, List.set_cons_zero, List.set_cons_succ])
      refine wp_region_held_drew (S := fun X => LAt X L a0 a1 a2 b0 b1 b2 ∧ Below u1.heap.size u1 X) (by kernel_rfl) ⟨Lu1.out, (Below.refl _ _).drew⟩ (fun hHeld => ?_)
      refine wpAnyH_take (i := 0) (v := (.int .i64 (q : Int))) rfl (by kernel_rfl) (by kernel_rfl) (by kernel_rfl) (fun _ _ _ h => h) (Or.inl ⟨by rfl, ?_⟩) (by assumption) ?_
      · intro w' hSw
        (try dsimp only at hSw)
        go_simp
      (try simp only [Act.put, List.setIfInBounds_toArray, List.set_cons_zero, List.set_cons_succ])
      refine wpAnyH_take (i := 1) (v := (.pointer (some ⟨L, q * 3, none⟩))) rfl (by kernel_rfl) (by kernel_rfl) (by kernel_rfl) (fun _ _ _ h => h) (Or.inl ⟨by rfl, ?_⟩) (by assumption) ?_
      · intro w' hSw
        (try dsimp only at hSw)
        go_simp
      (try simp only [Act.put, List.setIfInBounds_toArray, List.set_cons_zero, List.set_cons_succ])
      refine wpAnyH_take (i := 2) (v := (.pointer (some ⟨L, q * 3, none⟩))) rfl (by kernel_rfl) (by kernel_rfl) (by kernel_rfl) (fun _ _ _ h => h) (Or.inl ⟨by rfl, ?_⟩) (by assumption) ?_
      · intro w' hSw
        (try dsimp only at hSw)
        go_simp
      (try simp only [Act.put, List.setIfInBounds_toArray, List.set_cons_zero, List.set_cons_succ])
      refine wpAnyH_take (i := 3) (v := (.int .i64 x)) rfl (by kernel_rfl) (by kernel_rfl) (by kernel_rfl) (fun _ _ _ h => h) (Or.inl ⟨by rfl, ?_⟩) (by assumption) ?_
      · intro w' hSw
        (try dsimp only at hSw)
        (obtain ⟨c0, c1, c2⟩ := HC.out _ hSw.1; go_simp)
      (try simp only [Act.put, List.setIfInBounds_toArray, List.set_cons_zero, List.set_cons_succ])
      refine wpAnyH_take (i := 4) (v := (.int .i64 (q : Int))) rfl (by kernel_rfl) (by kernel_rfl) (by kernel_rfl) (fun _ _ _ h => h) (Or.inl ⟨by rfl, ?_⟩) (by assumption) ?_
      · intro w' hSw
        (try dsimp only at hSw)
        go_simp
      (try simp only [Act.put, List.setIfInBounds_toArray, List.set_cons_zero, List.set_cons_succ])
      refine wpAnyH_take (i := 5) (v := (.pointer (some ⟨L, q * 3, none⟩))) rfl (by kernel_rfl) (by kernel_rfl) (by kernel_rfl) (fun _ _ _ h => h) (Or.inl ⟨by rfl, ?_⟩) (by assumption) ?_
      · intro w' hSw
        (try dsimp only at hSw)
        go_simp
      (try simp only [Act.put, List.setIfInBounds_toArray, List.set_cons_zero, List.set_cons_succ])
      refine wpAnyH_take (i := 6) (v := (.pointer (some ⟨L, q * 3 + 1, none⟩))) rfl (by kernel_rfl) (by kernel_rfl) (by kernel_rfl) (fun _ _ _ h => h) (Or.inl ⟨by rfl, ?_⟩) (by assumption) ?_
      · intro w' hSw
        (try dsimp only at hSw)
        go_simp
      (try simp only [Act.put, List.setIfInBounds_toArray, List.set_cons_zero, List.set_cons_succ])
      refine wpAnyH_take (i := 7) (v := (.int .i64 y)) rfl (by kernel_rfl) (by kernel_rfl) (by kernel_rfl) (fun _ _ _ h => h) (Or.inl ⟨by rfl, ?_⟩) (by assumption) ?_
      · intro w' hSw
        (try dsimp only at hSw)
        (obtain ⟨c0, c1, c2⟩ := HC.out _ hSw.1; go_simp)
      (try simp only [Act.put, List.setIfInBounds_toArray, List.set_cons_zero, List.set_cons_succ])
      refine wpAnyH_take (i := 8) (v := (.int .i64 (q : Int))) rfl (by kernel_rfl) (by kernel_rfl) (by kernel_rfl) (fun _ _ _ h => h) (Or.inl ⟨by rfl, ?_⟩) (by assumption) ?_
      · intro w' hSw
        (try dsimp only at hSw)
        go_simp
      (try simp only [Act.put, List.setIfInBounds_toArray, List.set_cons_zero, List.set_cons_succ])
      refine wpAnyH_take (i := 9) (v := (.pointer (some ⟨L, q * 3, none⟩))) rfl (by kernel_rfl) (by kernel_rfl) (by kernel_rfl) (fun _ _ _ h => h) (Or.inl ⟨by rfl, ?_⟩) (by assumption) ?_
      · intro w' hSw
        (try dsimp only at hSw)
        go_simp
      (try simp only [Act.put, List.setIfInBounds_toArray, List.set_cons_zero, List.set_cons_succ])
      refine wpAnyH_take (i := 10) (v := (.pointer (some ⟨L, q * 3 + 2, none⟩))) rfl (by kernel_rfl) (by kernel_rfl) (by kernel_rfl) (fun _ _ _ h => h) (Or.inl ⟨by rfl, ?_⟩) (by assumption) ?_
      · intro w' hSw
        (try dsimp only at hSw)
        go_simp
      (try simp only [Act.put, List.setIfInBounds_toArray, List.set_cons_zero, List.set_cons_succ])
      refine wpAnyH_take (i := 11) (v := (.int .i64 z)) rfl (by kernel_rfl) (by kernel_rfl) (by kernel_rfl) (fun _ _ _ h => h) (Or.inl ⟨by rfl, ?_⟩) (by assumption) ?_
      · intro w' hSw
        (try dsimp only at hSw)
        (obtain ⟨c0, c1, c2⟩ := HC.out _ hSw.1; go_simp)
      (try simp only [Act.put, List.setIfInBounds_toArray, List.set_cons_zero, List.set_cons_succ])
      refine wpAnyH_ready (rs := [12]) (by kernel_rfl) (by simp) ?_
      refine AllReadyH.cons rfl (fun K hK => ?_) AllReadyH.nil
      go_simp
      refine Calls.mono (RB.out u1.drew) ?_
      rintro e u2 ⟨rfl, bb, gg⟩
      have BBu2 := hide bb
      have GGu2 : Hid (Below u1.heap.size u1 u2) := ⟨gg.os, gg.tape, gg.output, gg.size, gg.block⟩
      have Lu2 := hide ((Lu1.out).below GGu2.out)
      clear bb gg
      refine hK.out _ _ (⟨Lu2.out, GGu2.out⟩) (fun hHeld => ?_)
      clear hK
      (try simp only [Act.put, List.setIfInBounds_toArray, List.set_cons_zero, List.set_cons_succ])
      refine wpAnyH_take (i := 13) (v := (.tuple #[pv u1.heap.size s, .int .i64 (eOf s)])) rfl (by kernel_rfl) (by kernel_rfl) (by kernel_rfl) (fun _ _ _ h => h) (Or.inl ⟨by rfl, ?_⟩) (by assumption) ?_
      · intro w' hSw
        (try dsimp only at hSw)
        go_simp
      (try simp only [Act.put, List.setIfInBounds_toArray, List.set_cons_zero, List.set_cons_succ])
      refine wpAnyH_take (i := 14) (v := (pv u1.heap.size s)) rfl (by kernel_rfl) (by kernel_rfl) (by kernel_rfl) (fun _ _ _ h => h) (Or.inl ⟨by rfl, ?_⟩) (by assumption) ?_
      · intro w' hSw
        (try dsimp only at hSw)
        go_simp
      (try simp only [Act.put, List.setIfInBounds_toArray, List.set_cons_zero, List.set_cons_succ])
      refine wpAnyH_take (i := 15) (v := (.int .i64 (eOf s))) rfl (by kernel_rfl) (by kernel_rfl) (by kernel_rfl) (fun _ _ _ h => h) (Or.inl ⟨by rfl, ?_⟩) (by assumption) ?_
      · intro w' hSw
        (try dsimp only at hSw)
        go_simp
      (try simp only [Act.put, List.setIfInBounds_toArray, List.set_cons_zero, List.set_cons_succ])
      refine wpAnyH_ready (rs := [16]) (by kernel_rfl) (by simp) ?_
      refine AllReadyH.cons rfl (fun K hK => ?_) AllReadyH.nil
      go_simp
      refine hK.out _ _ (⟨Lu2.out, GGu2.out⟩) (fun hHeld => ?_)
      clear hK
      (try simp only [Act.put, List.setIfInBounds_toArray, List.set_cons_zero, List.set_cons_succ])
      refine wpAnyH_ready (rs := [17]) (by kernel_rfl) (by simp) ?_
      refine AllReadyH.cons rfl (fun K hK => ?_) AllReadyH.nil
      go_simp
      refine hK.out _ _ (⟨Lu2.out, GGu2.out⟩) (fun hHeld => ?_)
      clear hK
      (try simp only [Act.put, List.setIfInBounds_toArray, List.set_cons_zero, List.set_cons_succ])
      refine wpAnyH_done (by kernel_rfl) ?_ _
      clear hHeld
      obtain ⟨w0, w1, z0, hN⟩ := M0.out.lay hq2 s BBu1.out GGu1.out BBu2.out GGu2.out
      obtain ⟨v0, w0⟩ := Option.isSome_iff_exists.1 w0
      obtain ⟨v1, w1⟩ := Option.isSome_iff_exists.1 w1
      have z1 := z0 q
      have z2 := z0 (2 + q)
      have MN := hide hN
      clear z0 hN BBu1 BBu2 GGu1 GGu2 Lu1 Lu2
      cases s with
      | none =>
        dsimp only [pv, eOf] at *
        go_wp2_with (go_at_call 8; refine Calls.mono (num10_any _ _) ?_; rintro e wn ⟨rfl, rfl⟩)
        go_roundw
        case rel => exact ⟨q + 1, by omega, by go_num, MN.out⟩
        case measure => simp [intOf]; omega
      | some s =>
        dsimp only [pv, eOf] at *
        go_wp2_with (go_at_call 8; refine Calls.mono (num10_any _ _) ?_; rintro e wn ⟨rfl, rfl⟩)
        go_roundw
        case rel => exact ⟨q + 1, by omega, by go_num, MN.out⟩
        case measure => simp [intOf]; omega
    case neg =>
      obtain rfl : q = 2 := by omega
      obtain ⟨R0, R1, Q0, Q1, s0, s1, hp⟩ := M0.out.p
      cases s0 with
      | some s =>
        have w1 : wr.cell? ⟨G, 2, none⟩ = some (.pointer (some ⟨Q0, 0, none⟩)) := by unfold World.cell?; rw [hp.g]; rfl
        have HP := hide hp
        clear hp
        go_wp2_with fail
        go_ret
        exact ⟨rfl, _, _, _, _, _, _, HP.out⟩
      | none =>
        have w1 : wr.cell? ⟨G, 2, none⟩ = some (.pointer none) := by unfold World.cell?; rw [hp.g]; rfl
        have HP := hide hp
        clear hp
        have hok : Fits 10 4 64 (64 * 4) := Fits.full (by omega) (by omega) (by omega) (by omega) (by omega) (by omega)
        go_wp2_with fail
        refine Calls.mono (newBucket_any 10 4 64 wr hok) ?_
        rintro e u1 ⟨rfl, bb, gg⟩
        have BB := hide bb
        have GG := hide gg
        clear bb gg w1
        go_wp2_with fail
        refine Calls.mono (rnew_any 10 4 64 u1 hok) ?_
        rintro e u2 ⟨rfl, b2, g2⟩
        have hp2 := (HP.out.below GG.out).below g2
        have hs : Sl n₀ u2 wr.heap.size u1.heap.size (some ⟨10, 4, 64, 64 * 4⟩) := ⟨BB.out.below g2, b2, hok, Nat.le_trans HP.out.le HP.out.bel.size, Nat.le_trans HP.out.le (Nat.le_trans HP.out.bel.size GG.out.size)⟩
        have hne : s1.isSome = true → R1 < wr.heap.size ∧ Q1 < wr.heap.size := by
          have := HP.out.b
          cases s1 with
          | none => intro e; cases e
          | some sx => intro _; exact ⟨blk_lt this.1, blk_lt this.2.1⟩
        have sz := GG.out.size
        have PN := hide (hp2.lay0 wr.heap.size u1.heap.size _ hs (fun _ e => by have := hne e; omega))
        have w0 : u2.cell? ⟨G, 0, none⟩ = some (pv R0 none) := by unfold World.cell?; rw [hp2.g]; rfl
        have w1 : u2.cell? ⟨G, 2, none⟩ = some (pv Q0 none) := by unfold World.cell?; rw [hp2.g]; rfl
        have z0 : ∀ j, u2.frozen? ⟨G, j, none⟩ = false := fun j => by unfold World.frozen?; rw [hp2.g]; simp
        have z1 := z0 0
        have z2 := z0 2
        clear z0 hs hne hp2 b2 g2 BB GG
        dsimp only [pv] at PN
        go_wp2_with (go_at_call 8; refine Calls.mono (num10_any _ _) ?_; rintro e wn ⟨rfl, rfl⟩)
        go_ret
        exact ⟨rfl, _, _, _, _, _, _, PN.out⟩
end Go.Proofs.Ytkfiaahgcljljab
