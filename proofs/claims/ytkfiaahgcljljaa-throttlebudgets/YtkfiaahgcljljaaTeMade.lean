import Derived.Test.YtkfiaahgcljljaaTePurse
namespace Go.Proofs.Ytkfiaahgcljljaa
open Go.RowKit
theorem bplays_any (n₀ K : Nat) (w X : World) (G B0 B1 Q0 Q1 : Nat) (s0 s1 : Option SP) (y : TO) (wd : (Lit.int .i64 y.nd).wf = true) (wf : (Lit.int .i64 y.fl).wf = true) (hK : K + 1 ≤ 8000000000000) (h : PpAt n₀ K w X G B0 B1 Q0 Q1 s0 s1) :
    Calls Try.prog 25 #[.pointer (some ⟨G, 0, none⟩), .agg #[.int .i64 y.kind, .int .i64 y.pl, .int .i64 y.n, .int .i64 y.nd, .int .i64 y.fl]] X fun v X' => v = .returned (.bool true) ∧ ∃ s0' s1', PpAt n₀ (K + 1) w X' G B0 B1 Q0 Q1 s0' s1' := by
  rcases plJ_two y.pl with hj | hj
  · cases s0 with
    | none => exact bplays_0none n₀ K w X G B0 B1 Q0 Q1 s1 y wd wf hK hj h
    | some s => exact bplays_0some n₀ K w X G B0 B1 Q0 Q1 s1 s y wd wf hK hj h
  · cases s1 with
    | none => exact bplays_1none n₀ K w X G B0 B1 Q0 Q1 s0 y wd wf hK hj h
    | some s => exact bplays_1some n₀ K w X G B0 B1 Q0 Q1 s0 s y wd wf hK hj h
/-- the two shapes, as an array -/
def LAt (X : World) (L : Nat) (a0 a1 a2 b0 b1 b2 : Int) : Prop := X.heap[L]? = some (.cells #[.int .i64 a0, .int .i64 a1, .int .i64 a2, .int .i64 b0, .int .i64 b1, .int .i64 b2] 81)
theorem LAt.c0 {X : World} {L : Nat} {a0 a1 a2 b0 b1 b2 : Int} (h : LAt X L a0 a1 a2 b0 b1 b2) : X.cell? ⟨L, 0, none⟩ = some (.int .i64 a0) := by unfold World.cell?; rw [h]; rfl
theorem LAt.c1 {X : World} {L : Nat} {a0 a1 a2 b0 b1 b2 : Int} (h : LAt X L a0 a1 a2 b0 b1 b2) : X.cell? ⟨L, 1, none⟩ = some (.int .i64 a1) := by unfold World.cell?; rw [h]; rfl
theorem LAt.c2 {X : World} {L : Nat} {a0 a1 a2 b0 b1 b2 : Int} (h : LAt X L a0 a1 a2 b0 b1 b2) : X.cell? ⟨L, 2, none⟩ = some (.int .i64 a2) := by unfold World.cell?; rw [h]; rfl
theorem LAt.c3 {X : World} {L : Nat} {a0 a1 a2 b0 b1 b2 : Int} (h : LAt X L a0 a1 a2 b0 b1 b2) : X.cell? ⟨L, 3, none⟩ = some (.int .i64 b0) := by unfold World.cell?; rw [h]; rfl
theorem LAt.c4 {X : World} {L : Nat} {a0 a1 a2 b0 b1 b2 : Int} (h : LAt X L a0 a1 a2 b0 b1 b2) : X.cell? ⟨L, 4, none⟩ = some (.int .i64 b1) := by unfold World.cell?; rw [h]; rfl
theorem LAt.c5 {X : World} {L : Nat} {a0 a1 a2 b0 b1 b2 : Int} (h : LAt X L a0 a1 a2 b0 b1 b2) : X.cell? ⟨L, 5, none⟩ = some (.int .i64 b2) := by unfold World.cell?; rw [h]; rfl
theorem LAt.below {X X' : World} {L : Nat} {a0 a1 a2 b0 b1 b2 : Int} (h : LAt X L a0 a1 a2 b0 b1 b2) (hb : Below X.heap.size X X') : LAt X' L a0 a1 a2 b0 b1 b2 := (hb.block _ (blk_lt h)).trans h
/-- what made has so far -/
structure Mk (n₀ : Nat) (w X : World) (G L : Nat) (a0 a1 a2 b0 b1 b2 : Int) : Prop where
  p : ∃ B0 B1 Q0 Q1 s0 s1, PpAt n₀ 0 w X G B0 B1 Q0 Q1 s0 s1
  l : LAt X L a0 a1 a2 b0 b1 b2
theorem set_g {X : World} {G j : Nat} {u : Array Value} {v : Value} (h : X.heap[G]? = some (.cells u 62)) : (X.setCell ⟨G, j, none⟩ v).heap[G]? = some (.cells (u.setIfInBounds j v) 62) := heap_setCell _ _ _ _ _ _ _ h
theorem set_o {X : World} {G A j : Nat} {v : Value} (hne : A ≠ G) : (X.setCell ⟨G, j, none⟩ v).heap[A]? = X.heap[A]? := Below.heap_setCell _ _ _ A (fun e => hne (by rw [e]))
/-- pointers are laid at a place -/
theorem Sp.set {n₀ K : Nat} {X : World} {B Q G j : Nat} {s : Option SP} {u : Array Value} {v : Value} (h : Sp n₀ K X B Q s) (hg : X.heap[G]? = some (.cells u 62)) : Sp n₀ K (X.setCell ⟨G, j, none⟩ v) B Q s := by
  cases s with
  | none => trivial
  | some s =>
    have p : Pu n₀ K X B Q s := h
    exact p.keep (Nat.le_refl _) (set_o (cells_ne p.bg.blk hg (by decide))) (set_o (cells_ne p.rb.blk hg (by decide))) (set_o (map_cells p.bg.map hg).symm) (fun g hw => by
      obtain ⟨_, _, cur, hc⟩ := own_blk p.rb.row hw
      exact set_o (cells_ne hc hg (by decide)))
theorem below_set {n₀ : Nat} {w X : World} {G j : Nat} {v : Value} (h : Below n₀ w X) (hG : n₀ ≤ G) : Below n₀ w (X.setCell ⟨G, j, none⟩ v) := ⟨h.os, h.tape, h.output, by rw [World.size_setCell]; exact h.size, fun i hi => (Below.heap_setCell _ _ _ i (fun e => by simp at e; omega)).trans (h.block i hi)⟩
/-- place 0 is laid -/
theorem PpAt.lay0 {n₀ K : Nat} {w X : World} {G B0 B1 Q0 Q1 : Nat} {s0 s1 : Option SP} (h : PpAt n₀ K w X G B0 B1 Q0 Q1 s0 s1) (B Q : Nat) (s : Option SP) (hs : Sp n₀ K X B Q s) (hne : Ap B B1 Q Q1 s s1) :
    PpAt n₀ K w ((X.setCell ⟨G, 0, none⟩ (pvP B s)).setCell ⟨G, 2, none⟩ (pvP Q s)) G B B1 Q Q1 s s1 :=
  ⟨set_g (set_g h.g), (hs.set h.g).set (set_g h.g), (h.b.set h.g).set (set_g h.g), hne, h.ga, below_set (below_set h.bel h.ga) h.ga, h.le⟩
/-- place 1 is laid -/
theorem PpAt.lay1 {n₀ K : Nat} {w X : World} {G B0 B1 Q0 Q1 : Nat} {s0 s1 : Option SP} (h : PpAt n₀ K w X G B0 B1 Q0 Q1 s0 s1) (B Q : Nat) (s : Option SP) (hs : Sp n₀ K X B Q s) (hne : Ap B0 B Q0 Q s0 s) :
    PpAt n₀ K w ((X.setCell ⟨G, 1, none⟩ (pvP B s)).setCell ⟨G, 3, none⟩ (pvP Q s)) G B0 B Q0 Q s0 s :=
  ⟨set_g (set_g h.g), (h.a.set h.g).set (set_g h.g), (hs.set h.g).set (set_g h.g), hne, h.ga, below_set (below_set h.bel h.ga) h.ga, h.le⟩
theorem LAt.set {X : World} {L G j : Nat} {a0 a1 a2 b0 b1 b2 : Int} {u : Array Value} {v : Value} (h : LAt X L a0 a1 a2 b0 b1 b2) (hg : X.heap[G]? = some (.cells u 62)) : LAt (X.setCell ⟨G, j, none⟩ v) L a0 a1 a2 b0 b1 b2 := (set_o (cells_ne h hg (by decide))).trans h
/-- what is made of a shape -/
def sOfP (t s m : Int) (M : Nat) : Option SP := if 1 ≤ t ∧ t ≤ 64 ∧ 1 ≤ s ∧ s ≤ 1024 ∧ s ≤ m ∧ m ≤ 1024 then some ⟨t, s, m, M, 0, .slice none 0 0, []⟩ else none
def eOfP (s : Option SP) : Int := match s with | none => 1 | some _ => 0
def bgOf (X : World) (M : Nat) : Option SP → Prop
  | none => True
  | some s => BgAt X (M + 1) s.M s.n s.t s.s s.m (cnF s.L) ∧ BFits s.t s.s s.m ∧ s.M = M ∧ s.n = 0 ∧ s.v = .slice none 0 0 ∧ s.L = []
def rbOf (X : World) (Q : Nat) : Option SP → Prop
  | none => True
  | some s => X.heap[Q]? = some (.cells #[.int .i64 s.t, .int .i64 s.s, .int .i64 s.m, .slice none 0 0] 88)
theorem bnew_both (r p c : Int) (w : World) : Calls Try.prog 9 #[.int .i64 r, .int .i64 p, .int .i64 c] w fun e w' => e = .returned (.tuple #[pvP (w.heap.size + 1) (sOfP r p c w.heap.size), .int .i64 (eOfP (sOfP r p c w.heap.size))]) ∧ bgOf w' w.heap.size (sOfP r p c w.heap.size) ∧ Below w.heap.size w w' := by
  unfold sOfP
  split
  · rename_i hsh
    have hok : BFits r p c := ⟨hsh.1, hsh.2.1, hsh.2.2.1, hsh.2.2.2.2.1, hsh.2.2.2.2.2⟩
    exact (newBudget_any r p c w hok).mono fun e w' ⟨a, b, g⟩ => ⟨a, ⟨b, hok, rfl, rfl, rfl, rfl⟩, g⟩
  · rename_i hsh
    exact (newBudget_bad r p c w hsh).mono fun e w' ⟨a, b⟩ => ⟨a, trivial, by subst b; exact Below.refl _ _⟩
theorem rbnew_both (r p c : Int) (M : Nat) (w : World) : Calls Try.prog 33 #[.int .i64 r, .int .i64 p, .int .i64 c] w fun e w' => e = .returned (.tuple #[pvP w.heap.size (sOfP r p c M), .int .i64 (eOfP (sOfP r p c M))]) ∧ rbOf w' w.heap.size (sOfP r p c M) ∧ Below w.heap.size w w' := by
  unfold sOfP
  split
  · rename_i hsh
    have hok : BFits r p c := ⟨hsh.1, hsh.2.1, hsh.2.2.1, hsh.2.2.2.2.1, hsh.2.2.2.2.2⟩
    exact (rbnew_any r p c w hok).mono fun e w' ⟨a, b, g⟩ => ⟨a, b.blk, g⟩
  · rename_i hsh
    exact (rbnew_bad r p c w hsh).mono fun e w' ⟨a, b⟩ => ⟨a, trivial, by subst b; exact Below.refl _ _⟩
/-- a shape's cells -/
def Cq (X : World) (L q : Nat) (x y z : Int) : Prop := X.cell? ⟨L, q * 3, none⟩ = some (.int .i64 x) ∧ X.cell? ⟨L, q * 3 + 1, none⟩ = some (.int .i64 y) ∧ X.cell? ⟨L, q * 3 + 2, none⟩ = some (.int .i64 z)
theorem LAt.cq {L : Nat} {a0 a1 a2 b0 b1 b2 : Int} (q : Nat) (hq : q < 2) : ∃ x y z, ∀ X, LAt X L a0 a1 a2 b0 b1 b2 → Cq X L q x y z := by
  have : q = 0 ∨ q = 1 := by omega
  rcases this with rfl | rfl
  · exact ⟨a0, a1, a2, fun X h => ⟨h.c0, h.c1, h.c2⟩⟩
  · exact ⟨b0, b1, b2, fun X h => ⟨h.c3, h.c4, h.c5⟩⟩
theorem new_sp {n₀ : Nat} {X u1 u2 : World} (le : n₀ ≤ X.heap.size) (s : Option SP) (b1' : bgOf u1 X.heap.size s) (g1 : Below X.heap.size X u1) (f2 : rbOf u2 u1.heap.size s) (g2 : Below u1.heap.size u1 u2) : Sp n₀ 0 u2 (X.heap.size + 1) u1.heap.size s := by
  cases s with
  | none => trivial
  | some s =>
    obtain ⟨hb, hf, e1, e2, e3, e4⟩ := b1'
    obtain ⟨t, s, m, M, n, v, L⟩ := s
    dsimp only at e1 e2 e3 e4 hb hf
    subst e1 e2 e3 e4
    refine ⟨hb.below g2, ⟨f2, World.ownsRow_nil _ _ _ _⟩, hf, ?_, by omega, Nat.le_trans le g1.size, le, Nat.le_refl _, Nat.le_refl _⟩
    intro x y
    have := hf.t1
    show ((0 : Nat) : Int) ≤ t
    omega
theorem ap_new {n₀ K : Nat} {X u1 : World} {B1 Q1 : Nat} (s s1 : Option SP) (b1' : bgOf u1 X.heap.size s) (g1 : X.heap.size ≤ u1.heap.size) (h : Sp n₀ K X B1 Q1 s1) : Ap (X.heap.size + 1) B1 u1.heap.size Q1 s s1 ∧ Ap B1 (X.heap.size + 1) Q1 u1.heap.size s1 s := by
  cases s with
  | none => exact ⟨trivial, by cases s1 <;> trivial⟩
  | some s =>
    cases s1 with
    | none => exact ⟨trivial, trivial⟩
    | some s' =>
      have p : Pu n₀ K X B1 Q1 s' := h
      obtain ⟨_, _, e1, _, e3, _⟩ := b1'
      have x1 := blk_lt p.bg.blk
      have x2 := blk_lt p.rb.blk
      have x3 := p.bg.map.lt
      refine ⟨⟨by omega, by omega, by omega, fun g hg => ?_⟩, ⟨by omega, by omega, by omega, fun g hg e => ?_⟩⟩
      · rw [e3] at hg
        simp [Value.ownBlock] at hg
      · rw [e3] at e
        simp [Value.ownBlock] at e
/-- a place is laid -/
theorem Mk.lay {n₀ : Nat} {w X u1 u2 : World} {G L q : Nat} {a0 a1 a2 b0 b1 b2 : Int} (hq : q < 2) (h : Mk n₀ w X G L a0 a1 a2 b0 b1 b2) (s : Option SP) (b1' : bgOf u1 X.heap.size s) (g1 : Below X.heap.size X u1) (f2 : rbOf u2 u1.heap.size s) (g2 : Below u1.heap.size u1 u2) :
    (u2.cell? ⟨G, q, none⟩).isSome = true ∧ (u2.cell? ⟨G, 2 + q, none⟩).isSome = true ∧ (∀ j, u2.frozen? ⟨G, j, none⟩ = false) ∧ Mk n₀ w ((u2.setCell ⟨G, q, none⟩ (pvP (X.heap.size + 1) s)).setCell ⟨G, 2 + q, none⟩ (pvP u1.heap.size s)) G L a0 a1 a2 b0 b1 b2 := by
  obtain ⟨B0, B1, Q0, Q1, s0, s1, hp⟩ := h.p
  have hp2 := (hp.below g1).below g2
  have hl2 := (h.l.below g1).below g2
  have e1 := Nat.le_trans hp.le hp.bel.size
  have hs := new_sp e1 s b1' g1 f2 g2
  have z0 : ∀ j, u2.frozen? ⟨G, j, none⟩ = false := fun j => by unfold World.frozen?; rw [hp2.g]; simp
  have : q = 0 ∨ q = 1 := by omega
  rcases this with rfl | rfl
  · refine ⟨by unfold World.cell?; rw [hp2.g]; rfl, by unfold World.cell?; rw [hp2.g]; rfl, z0, ⟨_, _, _, _, _, _, hp2.lay0 (X.heap.size + 1) u1.heap.size s hs (ap_new s s1 b1' g1.size hp.b).1⟩, (hl2.set hp2.g).set (set_g hp2.g)⟩
  · refine ⟨by unfold World.cell?; rw [hp2.g]; rfl, by unfold World.cell?; rw [hp2.g]; rfl, z0, ⟨_, _, _, _, _, _, hp2.lay1 (X.heap.size + 1) u1.heap.size s hs (ap_new s s0 b1' g1.size hp.a).2⟩, (hl2.set hp2.g).set (set_g hp2.g)⟩
set_option maxHeartbeats 8000000 in
set_option maxRecDepth 100000 in
set_option linter.unusedSimpArgs false in
set_option linter.unusedVariables false in
theorem bmade_any (n₀ : Nat) (w X : World) (G : Nat) (a0 a1 a2 b0 b1 b2 : Int) (hg : X.heap[G]? = some (.cells #[.pointer none, .pointer none, .pointer none, .pointer none] 62)) (hG : n₀ ≤ G) (hb : Below n₀ w X) (hle : n₀ ≤ w.heap.size) :
    Calls Try.prog 24 #[.pointer (some ⟨G, 0, none⟩), .agg #[.int .i64 a0, .int .i64 a1, .int .i64 a2], .agg #[.int .i64 b0, .int .i64 b1, .int .i64 b2]] X fun v X' => v = .returned (.bool true) ∧ ∃ B0 B1 Q0 Q1 s0 s1, PpAt n₀ 0 w X' G B0 B1 Q0 Q1 s0 s1 := by
  have P0 : Hid (PpAt n₀ 0 w X G 0 0 0 0 none none) := ⟨hg, trivial, trivial, trivial, hG, hb, hle⟩
  clear hg hb
  go_enter Try.func24, Try.ntmps24
  go_wp2_with fail
  obtain ⟨WL, hWL⟩ : ∃ WL, WL = ((X.alloc (.cells #[.int .i64 a0, .int .i64 a1, .int .i64 a2] 23)).alloc (.cells #[.int .i64 b0, .int .i64 b1, .int .i64 b2] 23)).alloc (.cells #[.int .i64 a0, .int .i64 a1, .int .i64 a2, .int .i64 b0, .int .i64 b1, .int .i64 b2] 81) := ⟨_, rfl⟩
  have M0 : Hid (Mk n₀ w WL G (X.heap.size + 1 + 1) a0 a1 a2 b0 b1 b2) := by
    subst hWL
    refine ⟨⟨0, 0, 0, 0, none, none, P0.out.below ((((Below.refl _ _).alloc (Nat.le_refl _) _).alloc (by simp only [World.size_alloc]; omega) _).alloc (by simp only [World.size_alloc]; omega) _)⟩, ?_⟩
    have := heap_last ((X.alloc (.cells #[.int .i64 a0, .int .i64 a1, .int .i64 a2] 23)).alloc (.cells #[.int .i64 b0, .int .i64 b1, .int .i64 b2] 23)) (.cells #[.int .i64 a0, .int .i64 a1, .int .i64 a2, .int .i64 b0, .int .i64 b1, .int .i64 b2] 81)
    simp only [World.size_alloc] at this
    exact this
  rw [← hWL]
  clear hWL P0
  generalize X.heap.size + 1 + 1 = L at *
  go_loopw [8] (fun vi wr => ∃ (q : Nat), q ≤ 2 ∧ vi = .int .i64 (q : Int) ∧ Mk n₀ w wr G L a0 a1 a2 b0 b1 b2) (fun vi _ => 2 - (intOf vi).toNat)
  case atStart => exact ⟨0, by omega, rfl, M0.out⟩
  case round =>
    clear M0
    obtain ⟨q, hq, rfl, hM⟩ := hrel
    have M0 := hide hM
    clear hM
    by_cases hq2 : q < 2
    case pos =>
      obtain ⟨x, y, z, hC⟩ := LAt.cq (L := L) (a0 := a0) (a1 := a1) (a2 := a2) (b0 := b0) (b1 := b1) (b2 := b2) q hq2
      have HC := hide hC
      clear hC
      have LL0 := hide M0.out.l
      have hqi : (q : Int) < 2 := by omega
      have NB : Hid (Calls Try.prog 9 #[.int .i64 x, .int .i64 y, .int .i64 z] wr.drew fun e w' => e = .returned (.tuple #[pvP (wr.heap.size + 1) (sOfP x y z wr.heap.size), .int .i64 (eOfP (sOfP x y z wr.heap.size))]) ∧ bgOf w' wr.heap.size (sOfP x y z wr.heap.size) ∧ Below wr.drew.heap.size wr.drew w') := bnew_both x y z wr.drew
      have RB := hide (fun u => rbnew_both x y z wr.heap.size u)
      generalize hs : sOfP x y z wr.heap.size = s at *
      clear hs
      go_wp2_with fail
      refine wp_region_held_drew (S := fun X => LAt X L a0 a1 a2 b0 b1 b2 ∧ Below wr.heap.size wr X) (by kernel_rfl) ⟨LL0.out, (Below.refl _ _).drew⟩ (fun hHeld => ?_)
      refine wpAnyH_take (i := 0) (v := (.int .i64 (q : Int))) rfl (by kernel_rfl) (by kernel_rfl) (by kernel_rfl) (fun _ _ _ h => h) (Or.inl ⟨by rfl, ?_⟩) (by assumption) ?_
      · intro w' hSw
        (try dsimp only at hSw)
        go_simp
      (try simp only [Act.put, List.setIfInBounds_toArray, List.set_cons_zero, List.set_cons_succ])
      refine wpAnyH_take (i := 1) (v := (.pointer (some ⟨L, q * 3, none⟩))) rfl (by kernel_rfl) (by kernel_rfl) (by kernel_rfl) (fun _ _ _ h => h) (Or.inl ⟨by rfl, ?_⟩) (by assumption) ?_
      · intro w' hSw
        (try dsimp only at hSw)
        go_simp
      (try simp only [Act.put, List.setIfInBounds_toArray, List.set_cons_zero, List.set_cons_succ])
      refine wpAnyH_take (i := 2) (v := (.pointer (some ⟨L, q * 3, none⟩))) rfl (by kernel_rfl) (by kernel_rfl) (by kernel_rfl) (fun _ _ _ h => h) (Or.inl ⟨by rfl, ?_⟩) (by assumption) ?_
      · intro w' hSw
        (try dsimp only at hSw)
        go_simp
      (try simp only [Act.put, List.setIfInBounds_toArray, List.set_cons_zero, List.set_cons_succ])
      refine wpAnyH_take (i := 3) (v := (.int .i64 x)) rfl (by kernel_rfl) (by kernel_rfl) (by kernel_rfl) (fun _ _ _ h => h) (Or.inl ⟨by rfl, ?_⟩) (by assumption) ?_
      · intro w' hSw
        (try dsimp only at hSw)
        (obtain ⟨c0, c1, c2⟩ := HC.out _ hSw.1; go_simp)
      (try simp only [Act.put, List.setIfInBounds_toArray, List.set_cons_zero, List.set_cons_succ])
      refine wpAnyH_take (i := 4) (v := (.int .i64 (q : Int))) rfl (by kernel_rfl) (by kernel_rfl) (by kernel_rfl) (fun _ _ _ h => h) (Or.inl ⟨by rfl, ?_⟩) (by assumption) ?_
      · intro w' hSw
        (try dsimp only at hSw)
        go_simp
      (try simp only [Act.put, List.setIfInBounds_toArray, List.set_cons_zero, List.set_cons_succ])
      refine wpAnyH_take (i := 5) (v := (.pointer (some ⟨L, q * 3, none⟩))) rfl (by kernel_rfl) (by kernel_rfl) (by kernel_rfl) (fun _ _ _ h => h) (Or.inl ⟨by rfl, ?_⟩) (by assumption) ?_
      · intro w' hSw
        (try dsimp only at hSw)
        go_simp
      (try simp only [Act.put, List.setIfInBounds_toArray, List.set_cons_zero, List.set_cons_succ])
      refine wpAnyH_take (i := 6) (v := (.pointer (some ⟨L, q * 3 + 1, none⟩))) rfl (by kernel_rfl) (by kernel_rfl) (by kernel_rfl) (fun _ _ _ h => h) (Or.inl ⟨by rfl, ?_⟩) (by assumption) ?_
      · intro w' hSw
        (try dsimp only at hSw)
        go_simp
      (try simp only [Act.put, List.setIfInBounds_toArray, List.set_cons_zero, List.set_cons_succ])
      refine wpAnyH_take (i := 7) (v := (.int .i64 y)) rfl (by kernel_rfl) (by kernel_rfl) (by kernel_rfl) (fun _ _ _ h => h) (Or.inl ⟨by rfl, ?_⟩) (by assumption) ?_
      · intro w' hSw
        (try dsimp only at hSw)
        (obtain ⟨c0, c1, c2⟩ := HC.out _ hSw.1; go_simp)
      (try simp only [Act.put, List.setIfInBounds_toArray, List.set_cons_zero, List.set_cons_succ])
      refine wpAnyH_take (i := 8) (v := (.int .i64 (q : Int))) rfl (by kernel_rfl) (by kernel_rfl) (by kernel_rfl) (fun _ _ _ h => h) (Or.inl ⟨by rfl, ?_⟩) (by assumption) ?_
      · intro w' hSw
        (try dsimp only at hSw)
        go_simp
      (try simp only [Act.put, List.setIfInBounds_toArray, List.set_cons_zero, List.set_cons_succ])
      refine wpAnyH_take (i := 9) (v := (.pointer (some ⟨L, q * 3, none⟩))) rfl (by kernel_rfl) (by kernel_rfl) (by kernel_rfl) (fun _ _ _ h => h) (Or.inl ⟨by rfl, ?_⟩) (by assumption) ?_
      · intro w' hSw
        (try dsimp only at hSw)
        go_simp
      (try simp only [Act.put, List.setIfInBounds_toArray, List.set_cons_zero, List.set_cons_succ])
      refine wpAnyH_take (i := 10) (v := (.pointer (some ⟨L, q * 3 + 2, none⟩))) rfl (by kernel_rfl) (by kernel_rfl) (by kernel_rfl) (fun _ _ _ h => h) (Or.inl ⟨by rfl, ?_⟩) (by assumption) ?_
      · intro w' hSw
        (try dsimp only at hSw)
        go_simp
      (try simp only [Act.put, List.setIfInBounds_toArray, List.set_cons_zero, List.set_cons_succ])
      refine wpAnyH_take (i := 11) (v := (.int .i64 z)) rfl (by kernel_rfl) (by kernel_rfl) (by kernel_rfl) (fun _ _ _ h => h) (Or.inl ⟨by rfl, ?_⟩) (by assumption) ?_
      · intro w' hSw
        (try dsimp only at hSw)
        (obtain ⟨c0, c1, c2⟩ := HC.out _ hSw.1; go_simp)
      (try simp only [Act.put, List.setIfInBounds_toArray, List.set_cons_zero, List.set_cons_succ])
      refine wpAnyH_ready (rs := [12]) (by kernel_rfl) (by simp) ?_
      refine AllReadyH.cons rfl (fun K hK => ?_) AllReadyH.nil
      go_simp
      refine Calls.mono (NB.out) ?_
      rintro e u1 ⟨rfl, bb, gg⟩
      have BBu1 := hide bb
      have GGu1 : Hid (Below wr.heap.size wr u1) := ⟨gg.os, gg.tape, gg.output, gg.size, gg.block⟩
      have Lu1 := hide ((LL0.out).below GGu1.out)
      clear bb gg
      refine hK.out _ _ (⟨Lu1.out, GGu1.out⟩) (fun hHeld => ?_)
      clear hK
      (try simp only [Act.put, List.setIfInBounds_toArray, List.set_cons_zero, List.set_cons_succ])
      refine wpAnyH_take (i := 13) (v := (.tuple #[pvP (wr.heap.size + 1) s, .int .i64 (eOfP s)])) rfl (by kernel_rfl) (by kernel_rfl) (by kernel_rfl) (fun _ _ _ h => h) (Or.inl ⟨by rfl, ?_⟩) (by assumption) ?_
      · intro w' hSw
        (try dsimp only at hSw)
        go_simp
      (try simp only [Act.put, List.setIfInBounds_toArray, List.set_cons_zero, List.set_cons_succ])
      refine wpAnyH_take (i := 14) (v := (pvP (wr.heap.size + 1) s)) rfl (by kernel_rfl) (by kernel_rfl) (by kernel_rfl) (fun _ _ _ h => h) (Or.inl ⟨by rfl, ?_⟩) (by assumption) ?_
      · intro w' hSw
        (try dsimp only at hSw)
        go_simp
      (try simp only [Act.put, List.setIfInBounds_toArray, List.set_cons_zero, List.set_cons_succ])
      refine wpAnyH_take (i := 15) (v := (.int .i64 (eOfP s))) rfl (by kernel_rfl) (by kernel_rfl) (by kernel_rfl) (fun _ _ _ h => h) (Or.inl ⟨by rfl, ?_⟩) (by assumption) ?_
      · intro w' hSw
        (try dsimp only at hSw)
        go_simp
      (try simp only [Act.put, List.setIfInBounds_toArray, List.set_cons_zero, List.set_cons_succ])
      refine wpAnyH_ready (rs := [16]) (by kernel_rfl) (by simp) ?_
      refine AllReadyH.cons rfl (fun K hK => ?_) AllReadyH.nil
      go_simp
      refine hK.out _ _ (⟨Lu1.out, GGu1.out⟩) (fun hHeld => ?_)
      clear hK
      (try simp only [Act.put, List.setIfInBounds_toArray, List.set_cons_zero, List.set_cons_succ])
      refine wpAnyH_ready (rs := [17]) (by kernel_rfl) (by simp) ?_
      refine AllReadyH.cons rfl (fun K hK => ?_) AllReadyH.nil
      go_simp
      refine hK.out _ _ (⟨Lu1.out, GGu1.out⟩) (fun hHeld => ?_)
      clear hK
      (try simp only [Act.put, List.setIfInBounds_toArray, List.set_cons_zero, List.set_cons_succ])
      refine wpAnyH_done (by kernel_rfl) ?_ _
      clear hHeld
      go_wp2_with fail
      (try simp only [Act.put, List.getElem_toArray, List.getElem_cons_zero, List.getElem_cons_succ, List.setIfInBounds_toArray, List.set_cons_zero, List.set_cons_succ])
      refine wp_region_held_drew (S := fun X => LAt X L a0 a1 a2 b0 b1 b2 ∧ Below u1.heap.size u1 X) (by kernel_rfl) ⟨Lu1.out, (Below.refl _ _).drew⟩ (fun hHeld => ?_)
      refine wpAnyH_take (i := 0) (v := (.int .i64 (q : Int))) rfl (by kernel_rfl) (by kernel_rfl) (by kernel_rfl) (fun _ _ _ h => h) (Or.inl ⟨by rfl, ?_⟩) (by assumption) ?_
      · intro w' hSw
        (try dsimp only at hSw)
        go_simp
      (try simp only [Act.put, List.setIfInBounds_toArray, List.set_cons_zero, List.set_cons_succ])
      refine wpAnyH_take (i := 1) (v := (.pointer (some ⟨L, q * 3, none⟩))) rfl (by kernel_rfl) (by kernel_rfl) (by kernel_rfl) (fun _ _ _ h => h) (Or.inl ⟨by rfl, ?_⟩) (by assumption) ?_
      · intro w' hSw
        (try dsimp only at hSw)
        go_simp
      (try simp only [Act.put, List.setIfInBounds_toArray, List.set_cons_zero, List.set_cons_succ])
      refine wpAnyH_take (i := 2) (v := (.pointer (some ⟨L, q * 3, none⟩))) rfl (by kernel_rfl) (by kernel_rfl) (by kernel_rfl) (fun _ _ _ h => h) (Or.inl ⟨by rfl, ?_⟩) (by assumption) ?_
      · intro w' hSw
        (try dsimp only at hSw)
        go_simp
      (try simp only [Act.put, List.setIfInBounds_toArray, List.set_cons_zero, List.set_cons_succ])
      refine wpAnyH_take (i := 3) (v := (.int .i64 x)) rfl (by kernel_rfl) (by kernel_rfl) (by kernel_rfl) (fun _ _ _ h => h) (Or.inl ⟨by rfl, ?_⟩) (by assumption) ?_
      · intro w' hSw
        (try dsimp only at hSw)
        (obtain ⟨c0, c1, c2⟩ := HC.out _ hSw.1; go_simp)
      (try simp only [Act.put, List.setIfInBounds_toArray, List.set_cons_zero, List.set_cons_succ])
      refine wpAnyH_take (i := 4) (v := (.int .i64 (q : Int))) rfl (by kernel_rfl) (by kernel_rfl) (by kernel_rfl) (fun _ _ _ h => h) (Or.inl ⟨by rfl, ?_⟩) (by assumption) ?_
      · intro w' hSw
        (try dsimp only at hSw)
        go_simp
      (try simp only [Act.put, List.setIfInBounds_toArray, List.set_cons_zero, List.set_cons_succ])
      refine wpAnyH_take (i := 5) (v := (.pointer (some ⟨L, q * 3, none⟩))) rfl (by kernel_rfl) (by kernel_rfl) (by kernel_rfl) (fun _ _ _ h => h) (Or.inl ⟨by rfl, ?_⟩) (by assumption) ?_
      · intro w' hSw
        (try dsimp only at hSw)
        go_simp
      (try simp only [Act.put, List.setIfInBounds_toArray, List.set_cons_zero, List.set_cons_succ])
      refine wpAnyH_take (i := 6) (v := (.pointer (some ⟨L, q * 3 + 1, none⟩))) rfl (by kernel_rfl) (by kernel_rfl) (by kernel_rfl) (fun _ _ _ h => h) (Or.inl ⟨by rfl, ?_⟩) (by assumption) ?_
      · intro w' hSw
        (try dsimp only at hSw)
        go_simp
      (try simp only [Act.put, List.setIfInBounds_toArray, List.set_cons_zero, List.set_cons_succ])
      refine wpAnyH_take (i := 7) (v := (.int .i64 y)) rfl (by kernel_rfl) (by kernel_rfl) (by kernel_rfl) (fun _ _ _ h => h) (Or.inl ⟨by rfl, ?_⟩) (by assumption) ?_
      · intro w' hSw
        (try dsimp only at hSw)
        (obtain ⟨c0, c1, c2⟩ := HC.out _ hSw.1; go_simp)
      (try simp only [Act.put, List.setIfInBounds_toArray, List.set_cons_zero, List.set_cons_succ])
      refine wpAnyH_take (i := 8) (v := (.int .i64 (q : Int))) rfl (by kernel_rfl) (by kernel_rfl) (by kernel_rfl) (fun _ _ _ h => h) (Or.inl ⟨by rfl, ?_⟩) (by assumption) ?_
      · intro w' hSw
        (try dsimp only at hSw)
        go_simp
      (try simp only [Act.put, List.setIfInBounds_toArray, List.set_cons_zero, List.set_cons_succ])
      refine wpAnyH_take (i := 9) (v := (.pointer (some ⟨L, q * 3, none⟩))) rfl (by kernel_rfl) (by kernel_rfl) (by kernel_rfl) (fun _ _ _ h => h) (Or.inl ⟨by rfl, ?_⟩) (by assumption) ?_
      · intro w' hSw
        (try dsimp only at hSw)
        go_simp
      (try simp only [Act.put, List.setIfInBounds_toArray, List.set_cons_zero, List.set_cons_succ])
      refine wpAnyH_take (i := 10) (v := (.pointer (some ⟨L, q * 3 + 2, none⟩))) rfl (by kernel_rfl) (by kernel_rfl) (by kernel_rfl) (fun _ _ _ h => h) (Or.inl ⟨by rfl, ?_⟩) (by assumption) ?_
      · intro w' hSw
        (try dsimp only at hSw)
        go_simp
      (try simp only [Act.put, List.setIfInBounds_toArray, List.set_cons_zero, List.set_cons_succ])
      refine wpAnyH_take (i := 11) (v := (.int .i64 z)) rfl (by kernel_rfl) (by kernel_rfl) (by kernel_rfl) (fun _ _ _ h => h) (Or.inl ⟨by rfl, ?_⟩) (by assumption) ?_
      · intro w' hSw
        (try dsimp only at hSw)
        (obtain ⟨c0, c1, c2⟩ := HC.out _ hSw.1; go_simp)
      (try simp only [Act.put, List.setIfInBounds_toArray, List.set_cons_zero, List.set_cons_succ])
      refine wpAnyH_ready (rs := [12]) (by kernel_rfl) (by simp) ?_
      refine AllReadyH.cons rfl (fun K hK => ?_) AllReadyH.nil
      go_simp
      refine Calls.mono (RB.out u1.drew) ?_
      rintro e u2 ⟨rfl, bb, gg⟩
      have BBu2 := hide bb
      have GGu2 : Hid (Below u1.heap.size u1 u2) := ⟨gg.os, gg.tape, gg.output, gg.size, gg.block⟩
      have Lu2 := hide ((Lu1.out).below GGu2.out)
      clear bb gg
      refine hK.out _ _ (⟨Lu2.out, GGu2.out⟩) (fun hHeld => ?_)
      clear hK
      (try simp only [Act.put, List.setIfInBounds_toArray, List.set_cons_zero, List.set_cons_succ])
      refine wpAnyH_take (i := 13) (v := (.tuple #[pvP u1.heap.size s, .int .i64 (eOfP s)])) rfl (by kernel_rfl) (by kernel_rfl) (by kernel_rfl) (fun _ _ _ h => h) (Or.inl ⟨by rfl, ?_⟩) (by assumption) ?_
      · intro w' hSw
        (try dsimp only at hSw)
        go_simp
      (try simp only [Act.put, List.setIfInBounds_toArray, List.set_cons_zero, List.set_cons_succ])
      refine wpAnyH_take (i := 14) (v := (pvP u1.heap.size s)) rfl (by kernel_rfl) (by kernel_rfl) (by kernel_rfl) (fun _ _ _ h => h) (Or.inl ⟨by rfl, ?_⟩) (by assumption) ?_
      · intro w' hSw
        (try dsimp only at hSw)
        go_simp
      (try simp only [Act.put, List.setIfInBounds_toArray, List.set_cons_zero, List.set_cons_succ])
      refine wpAnyH_take (i := 15) (v := (.int .i64 (eOfP s))) rfl (by kernel_rfl) (by kernel_rfl) (by kernel_rfl) (fun _ _ _ h => h) (Or.inl ⟨by rfl, ?_⟩) (by assumption) ?_
      · intro w' hSw
        (try dsimp only at hSw)
        go_simp
      (try simp only [Act.put, List.setIfInBounds_toArray, List.set_cons_zero, List.set_cons_succ])
      refine wpAnyH_ready (rs := [16]) (by kernel_rfl) (by simp) ?_
      refine AllReadyH.cons rfl (fun K hK => ?_) AllReadyH.nil
      go_simp
      refine hK.out _ _ (⟨Lu2.out, GGu2.out⟩) (fun hHeld => ?_)
      clear hK
      (try simp only [Act.put, List.setIfInBounds_toArray, List.set_cons_zero, List.set_cons_succ])
      refine wpAnyH_ready (rs := [17]) (by kernel_rfl) (by simp) ?_
      refine AllReadyH.cons rfl (fun K hK => ?_) AllReadyH.nil
      go_simp
      refine hK.out _ _ (⟨Lu2.out, GGu2.out⟩) (fun hHeld => ?_)
      clear hK
      (try simp only [Act.put, List.setIfInBounds_toArray, List.set_cons_zero, List.set_cons_succ])
      refine wpAnyH_done (by kernel_rfl) ?_ _
      clear hHeld
      obtain ⟨w0, w1, z0, hN⟩ := M0.out.lay hq2 s BBu1.out GGu1.out BBu2.out GGu2.out
      obtain ⟨v0, w0⟩ := Option.isSome_iff_exists.1 w0
      obtain ⟨v1, w1⟩ := Option.isSome_iff_exists.1 w1
      have z1 := z0 q
      have z2 := z0 (2 + q)
      have MN := hide hN
      clear z0 hN BBu1 BBu2 GGu1 GGu2 Lu1 Lu2
      cases s with
      | none =>
        dsimp only [pvP, eOfP] at *
        go_wp2_with (go_at_call 11; refine Calls.mono (num10_any _ _) ?_; rintro e wn ⟨rfl, rfl⟩)
        go_roundw
        case rel => exact ⟨q + 1, by omega, by go_num, MN.out⟩
        case measure => simp [intOf]; omega
      | some s =>
        dsimp only [pvP, eOfP] at *
        go_wp2_with (go_at_call 11; refine Calls.mono (num10_any _ _) ?_; rintro e wn ⟨rfl, rfl⟩)
        go_roundw
        case rel => exact ⟨q + 1, by omega, by go_num, MN.out⟩
        case measure => simp [intOf]; omega
    case neg =>
      obtain rfl : q = 2 := by omega
      obtain ⟨B0, B1, Q0, Q1, s0, s1, hp⟩ := M0.out.p
      cases s0 with
      | some s =>
        have w1 : wr.cell? ⟨G, 2, none⟩ = some (.pointer (some ⟨Q0, 0, none⟩)) := by unfold World.cell?; rw [hp.g]; rfl
        have HP := hide hp
        clear hp
        go_wp2_with fail
        go_ret
        exact ⟨rfl, _, _, _, _, _, _, HP.out⟩
      | none =>
        have w1 : wr.cell? ⟨G, 2, none⟩ = some (.pointer none) := by unfold World.cell?; rw [hp.g]; rfl
        have HP := hide hp
        clear hp
        have hok : BFits 4 3 8 := ⟨by omega, by omega, by omega, by omega, by omega⟩
        go_wp2_with fail
        refine Calls.mono (newBudget_any 4 3 8 wr hok) ?_
        rintro e u1 ⟨rfl, bb, gg⟩
        have BB : Hid (bgOf u1 wr.heap.size (some ⟨4, 3, 8, wr.heap.size, 0, .slice none 0 0, []⟩)) := ⟨bb, hok, rfl, rfl, rfl, rfl⟩
        have GG := hide gg
        clear bb gg w1
        go_wp2_with fail
        refine Calls.mono (rbnew_any 4 3 8 u1 hok) ?_
        rintro e u2 ⟨rfl, b2, g2⟩
        have hp2 := (HP.out.below GG.out).below g2
        have hs := new_sp (Nat.le_trans HP.out.le HP.out.bel.size) _ BB.out GG.out b2.blk g2
        have PN := hide (hp2.lay0 (wr.heap.size + 1) u1.heap.size _ hs (ap_new _ s1 BB.out GG.out.size HP.out.b).1)
        have w0 : u2.cell? ⟨G, 0, none⟩ = some (pvP B0 none) := by unfold World.cell?; rw [hp2.g]; rfl
        have w1 : u2.cell? ⟨G, 2, none⟩ = some (pvP Q0 none) := by unfold World.cell?; rw [hp2.g]; rfl
        have z0 : ∀ j, u2.frozen? ⟨G, j, none⟩ = false := fun j => by unfold World.frozen?; rw [hp2.g]; simp
        have z1 := z0 0
        have z2 := z0 2
        clear z0 hs hp2 b2 g2 BB GG
        dsimp only [pvP] at PN
        go_wp2_with (go_at_call 11; refine Calls.mono (num10_any _ _) ?_; rintro e wn ⟨rfl, rfl⟩)
        go_ret
        exact ⟨rfl, _, _, _, _, _, _, PN.out⟩
end Go.Proofs.Ytkfiaahgcljljaa
