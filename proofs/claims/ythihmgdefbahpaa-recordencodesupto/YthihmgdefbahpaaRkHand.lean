import Derived.Test.YthihmgdefbahpaaRkRefE
import Derived.Test.YthihmgdefbahpaaPart11
namespace Go.Proofs.Ythihmgdefbahpaa
open Go.RowKit
theorem infoL : (Try.prog.info? 47).map (fun i => (i.zero, i.size, i.bytes)) = some (some (.slice none 0 0), 1, 24) := by kernel_rfl
/-- groups as they come in -/
def GArgs (w : World) (v : Value) (gs : List GR) : Prop := ∃ (qs : List GQ) (ao : Option Addr) (g off cap : Nat), qs.length = gs.length ∧ v = .slice ao qs.length cap ∧ (0 < qs.length → ao = some ⟨g, off, none⟩) ∧ (0 < qs.length → g < w.heap.size) ∧ LiesG g off w qs ∧
    ∀ i (hi : i < gs.length) (hq : i < qs.length), qs[i].1 = gs[i].1 ∧ qs[i].2.2.1 = gs[i].2.length ∧ ∃ a b o, PairsAt w (.slice qs[i].2.1 gs[i].2.length qs[i].2.2.2) a b o qs[i].2.2.2 gs[i].2
abbrev TS := GR × Nat × Nat
def tG (t : TS) : GR × Value := (t.1, .slice (some ⟨t.2.1, 0, none⟩) t.1.2.length t.2.2)
def tP (t : TS) : Value := .slice (some ⟨t.2.1, 0, none⟩) (t.1.2.length + 2) t.2.2
theorem cell_one1 (w : World) (u : Value) (T : TypeId) (_ : u.oneCell' = true) : ∀ j x, [u][j]? = some x → (w.alloc (.cells #[u] T)).cell? ((⟨w.heap.size, 0, none⟩ : Addr).add j) = some x := by
  intro j x hx
  cases j with
  | zero => simp at hx; subst hx; simp [Addr.add]
  | succ j => simp at hx
theorem own_far {w : World} {base e s n b : Nat} {v : Value} {x : List Value} (h : w.ownsRow base e s v n x) (hb : b < base) : some b ≠ v.ownBlock := fun q => by
  have := (h.lt b q.symm).1
  omega
theorem far_cell {w w' : World} {row : Option Nat} {o : Obj} {b i : Nat} (hg : (w.alloc o).grownBy w' row) (hb : b < w.heap.size) (hr : some b ≠ row) : w'.cell? ⟨b, i, none⟩ = w.cell? ⟨b, i, none⟩ ∧ w'.frozen? ⟨b, i, none⟩ = w.frozen? ⟨b, i, none⟩ := by
  have hlt : b < (w.alloc o).heap.size := by simp; omega
  have q := (Below.refl w.heap.size w).alloc (Nat.le_refl _) o
  exact ⟨(hg.cell_far ⟨b, i, none⟩ hlt hr).trans (q.cell (by exact hb)), (hg.frozen_far ⟨b, i, none⟩ hlt hr).trans (q.frozen (by exact hb))⟩
theorem grown_set (w : World) (b i : Nat) (u : Value) : w.grownBy (w.setCell ⟨b, i, none⟩ u) (some b) := by
  refine ⟨rfl, rfl, rfl, by simp [World.setCell], fun k _ hk => ?_⟩
  exact Below.heap_setCell w ⟨b, i, none⟩ u k (fun e => hk (by rw [e]))
theorem own_set {w : World} {B e s n b i : Nat} {v u : Value} {x : List Value} (h : w.ownsRow B e s v n x) (hb : b < B) : (w.setCell ⟨b, i, none⟩ u).ownsRow B e s v n x := h.kept (grown_set w b i u) (.inr (own_far h hb).symm)
theorem row_pass {w w' : World} {B e s n e2 s2 n2 b i : Nat} {v v2 u : Value} {x x2 : List Value} {o : Obj} (h : w.ownsRow B e s v n x) (h2 : w.ownsRow B e2 s2 v2 n2 x2) (hne : e ≠ e2) (g : (w.alloc o).grownBy w' v2.ownBlock) (hb : b < B) : (w'.setCell ⟨b, i, none⟩ u).ownsRow B e s v n x := own_set (row_type (h.alloc o) (h2.alloc o) hne g) hb
theorem set_far {w : World} {b i b2 i2 : Nat} {u : Value} (h : ¬ (b = b2 ∧ i = i2)) : (w.setCell ⟨b, i, none⟩ u).cell? ⟨b2, i2, none⟩ = w.cell? ⟨b2, i2, none⟩ := World.cell?_setCell_other _ _ _ _ (by intro e; simp at e; exact h e)
theorem own_cap {w : World} {B e s n m c : Nat} {a : Option Addr} {x : List Value} (h : w.ownsRow B e s (.slice a n c) m x) : n ≤ c := by
  rcases h.2 with ⟨q, rfl⟩ | ⟨g, cap, cur, q, _, _, hle, _⟩
  · simp at q; omega
  · simp at q; omega
/-- how far hand is -/
def HI (w : World) (B hb : Nat) (vg vp : Value) (ts : List TS) : Prop :=
  (w.cell? ⟨hb, 0, none⟩ = some vg ∧ w.cell? ⟨hb, 1, none⟩ = some vp ∧ w.frozen? ⟨hb, 0, none⟩ = false ∧ w.frozen? ⟨hb, 1, none⟩ = false) ∧
  w.ownsRow B 49 2 vg ts.length (gcell (ts.map tG)) ∧ w.ownsRow B 47 1 vp ts.length (ts.map tP) ∧
  ∀ t ∈ ts, w.ownsRow B 65 2 (tP t) (t.1.2.length + 2) (pc (t.1.2 ++ [mark1, mark2]))
def bhd : ByteArray := ⟨#[98, 101, 104, 105, 110, 100]⟩
/-- what hand made -/
def HE (w : World) (B hb : Nat) (gs : List GR) : Prop := ∃ (vg vp : Value) (ts : List TS), ts.map (fun t => t.1) = gs ∧ (w.cell? ⟨hb, 0, none⟩ = some vg ∧ w.cell? ⟨hb, 1, none⟩ = some vp) ∧
  w.ownsRow B 49 2 vg (ts.length + 1) (gcell (ts.map tG) ++ gcell [((bhd, []), .slice none 0 0)]) ∧ w.ownsRow B 47 1 vp ts.length (ts.map tP) ∧
  ∀ t ∈ ts, w.ownsRow B 65 2 (tP t) (t.1.2.length + 2) (pc (t.1.2 ++ [mark1, mark2]))
set_option maxHeartbeats 8000000 in
set_option maxRecDepth 100000 in
set_option linter.unusedSimpArgs false in
/-- hand -/
theorem hand_any (v : Value) (gs : List GR) (w : World) (hg : GArgs w v gs) (hlen : gs.length ≤ 1048576) (hps : ∀ g ∈ gs, g.2.length ≤ 1048576) :
    Calls Try.prog 12 #[v] w fun e w' => e = .returned (.pointer (some ⟨w.heap.size, 0, none⟩)) ∧ HE w' (w.heap.size + 1) w.heap.size gs ∧ Below w.heap.size w w' := by
  obtain ⟨i0, hi, hz0, hz1, hz2⟩ := info_parts infoG
  obtain ⟨i1, hj, hy0, hy1, hy2⟩ := info_parts infoL
  obtain ⟨qs, ao, g, off, cap, hql, rfl, h3, h4, h5, h6⟩ := hg
  have HL := hide h5
  have H6 := hide h6
  have HPS := hide hps
  rw [hql] at h3 h4 ⊢
  clear h5 h6 hps
  obtain ⟨W0, hW0⟩ : ∃ W0, W0 = w.alloc (.cells #[.slice none 0 0, .slice none 0 0] 89) := ⟨_, rfl⟩
  have s0 : W0.heap.size = w.heap.size + 1 := by rw [hW0]; simp
  have b0w : Below w.heap.size w W0 := by rw [hW0]; exact (Below.refl _ w).alloc (Nat.le_refl _) _
  have HB0 := hide b0w
  have I0 : Hid (HI W0 W0.heap.size w.heap.size (.slice none 0 0) (.slice none 0 0) []) := by
    have e : HI W0 W0.heap.size w.heap.size (.slice none 0 0) (.slice none 0 0) [] := by
      refine ⟨?_, World.ownsRow_nil _ _ _ _, World.ownsRow_nil _ _ _ _, fun t ht => by cases ht⟩
      rw [hW0]
      exact ⟨by simp, by simp, by simp, by simp⟩
    exact e
  clear b0w
  go_enter Try.func12, Try.ntmps12
  go_wp2_with fail
  rw [← hW0]
  go_loopw [4] (fun i wr => ∃ (j : Nat) (vg vp : Value) (ts : List TS), j ≤ gs.length ∧ i = .int .i64 (j : Int) ∧ ts.map (fun t => t.1) = gs.take j ∧ HI wr W0.heap.size w.heap.size vg vp ts ∧ Below w.heap.size w wr ∧ W0.heap.size ≤ wr.heap.size) (fun i _ => gs.length - (intOf i).toNat)
  case atStart => exact ⟨0, _, _, [], Nat.zero_le _, rfl, rfl, I0.out, HB0.out, Nat.le_refl _⟩
  case round =>
    obtain ⟨j, vg, vp, ts, hj9, rfl, hts, hI, hnx, hsz⟩ := hrel
    have HNX := hide hnx
    obtain ⟨⟨k0, k1, k2, k3⟩, og, op, oq⟩ := hI
    obtain ⟨ag, cg, rfl⟩ := own_shape og
    obtain ⟨ap, cp, rfl⟩ := own_shape op
    have OG := hide og
    have OP := hide op
    have OQ := hide oq
    have HTS := hide hts
    have htl : ts.length = j := by
      have := congrArg List.length hts
      rw [List.length_map, List.length_take] at this
      omega
    clear hts og op oq
    subst htl
    by_cases hlt : ts.length < gs.length
    · have hjq : ts.length < qs.length := by omega
      obtain rfl := h3 (by omega)
      have lt0 := h4 (by omega)
      obtain ⟨c0, c1⟩ := (HL.out.below lt0 hnx) ts.length hjq
      obtain ⟨e1, e2, pa, pb, po, e3⟩ := H6.out ts.length hlt hjq
      rw [e1] at c0
      rw [e2] at c1
      have hpl := HPS.out gs[ts.length] (List.getElem_mem hlt)
      have RM := hide (fun w' (hp : PairsAt w' (.slice (qs[ts.length]'hjq).2.1 (gs[ts.length]'hlt).2.length (qs[ts.length]'hjq).2.2.2) pa pb po (qs[ts.length]'hjq).2.2.2 (gs[ts.length]'hlt).2) => roomy_any (.slice qs[ts.length].2.1 gs[ts.length].2.length qs[ts.length].2.2.2) pa pb po qs[ts.length].2.2.2 gs[ts.length].2 w' hp (by omega))
      have hji : (ts.length : Int) < (gs.length : Int) := by omega
      have RE : Hid (gs.take (ts.length + 1) = gs.take ts.length ++ [(gs[ts.length].1, gs[ts.length].2)]) := List.take_succ_eq_append_getElem hlt
      generalize qs[ts.length].2 = SQ at *
      have E3 := hide (e3.below hnx)
      clear e1 e2 e3
      generalize gs[ts.length].1 = H at *
      generalize gs[ts.length].2 = PS at *
      clear hnx
      go_wp2_with fail
      refine Calls.mono (RM.out _ E3.out) ?_
      rintro e w1 ⟨r, c, rfl, o1, b1⟩
      have hhb : w.heap.size < wr.heap.size := by omega
      rw [← b1.cell (by exact hhb)] at k0 k1
      rw [← b1.frozen (by exact hhb)] at k2 k3
      rw [← b1.cell (by exact Nat.lt_of_lt_of_le lt0 HNX.out.size)] at c0 c1
      have s1 := b1.size
      have OG1 := hide (own_below OG.out b1)
      have OP1 := hide (own_below OP.out b1)
      have OQ1 := hide (fun t ht => own_below (OQ.out t ht) b1)
      have O1 := hide (own_base o1 hsz)
      have HN1 := hide (HNX.out.trans (b1.mono (by omega)))
      clear b1 o1 OG OP OQ
      have hb1 : w.heap.size < w1.heap.size := by omega
      have hg1 : g < w1.heap.size := by omega
      obtain ⟨hm1, hm2⟩ : ts.length + 1 ≤ maxLen ∧ (ts.length + 1) * 24 ≤ 140737488355328 := by unfold maxLen; omega
      go_wp2_with (at_builtin; refine wpList_append_own _ rfl _ _ 73 rfl W0.heap.size 47 i1 (.slice none 0 0) 1 24 Try.underlying73 hj hy0 hy1 hy2 rfl (by decide) _ _ _ rfl (OP1.out.alloc _) ⟨_, 0, none⟩ 1 1 [.slice (some ⟨r, 0, none⟩) (PS.length + 2) c] rfl rfl (cell_one1 _ _ _ rfl) (by intro u hu; simp at hu; subst hu; rfl) hm1 hm2 (le_alloc (by omega)) ?_; intro v2 w2 o2 g2 n2; clear n2; obtain ⟨a2, c2, rfl⟩ := own_shape o2; have O2 := hide o2; have G2 := hide g2; have kk0 := (far_cell (i := 0) g2 hb1 (own_far OP1.out (by omega))); have kk1 := (far_cell (i := 1) g2 hb1 (own_far OP1.out (by omega))); have cc0 := (far_cell (i := off + ts.length * 2) g2 hg1 (own_far OP1.out (by omega))).1; have cc1 := (far_cell (i := off + ts.length * 2 + 1) g2 hg1 (own_far OP1.out (by omega))).1; rw [k0, k2] at kk0; rw [k1, k3] at kk1; rw [c0] at cc0; rw [c1] at cc1; obtain ⟨kk2, kk3⟩ := kk0; obtain ⟨kk4, kk5⟩ := kk1; clear o2 g2)
      have w3k0 : (w2.setCell ⟨w.heap.size, 1, none⟩ (.slice a2 (ts.length + 1) c2)).cell? ⟨w.heap.size, 0, none⟩ = some (.slice ag ts.length cg) := (set_far (by omega)).trans kk2
      have w3k1 : (w2.setCell ⟨w.heap.size, 1, none⟩ (.slice a2 (ts.length + 1) c2)).cell? ⟨w.heap.size, 1, none⟩ = some (.slice a2 (ts.length + 1) c2) := World.cell?_setCell_same _ _ _ kk4
      have w3f0 : (w2.setCell ⟨w.heap.size, 1, none⟩ (.slice a2 (ts.length + 1) c2)).frozen? ⟨w.heap.size, 0, none⟩ = false := by simpa using kk3
      have w3f1 : (w2.setCell ⟨w.heap.size, 1, none⟩ (.slice a2 (ts.length + 1) c2)).frozen? ⟨w.heap.size, 1, none⟩ = false := by simpa using kk5
      have w3c : (w2.setCell ⟨w.heap.size, 1, none⟩ (.slice a2 (ts.length + 1) c2)).cell? ⟨g, off + ts.length * 2, none⟩ = some (.string H) := (set_far (by omega)).trans cc0
      have OG3 := hide (row_pass (b := w.heap.size) (i := 1) (u := .slice a2 (ts.length + 1) c2) OG1.out OP1.out (by decide) G2.out (by omega))
      have OQ3 := hide (fun t ht => row_pass (b := w.heap.size) (i := 1) (u := .slice a2 (ts.length + 1) c2) (OQ1.out t ht) OP1.out (by decide) G2.out (by omega))
      have ON3 := hide (row_pass (b := w.heap.size) (i := 1) (u := .slice a2 (ts.length + 1) c2) O1.out OP1.out (by decide) G2.out (by omega))
      have OP3 := hide (own_set (b := w.heap.size) (i := 1) (u := .slice a2 (ts.length + 1) c2) O2.out (by omega))
      have B3 := hide (((HN1.out.alloc (by omega) _).grown G2.out (le_alloc (by omega)) (fun t ht => Nat.le_trans (by omega) (OP1.out.lt t ht).1)).setCell (p := ⟨w.heap.size, 1, none⟩) (Nat.le_refl _) (.slice a2 (ts.length + 1) c2))
      have s3 : W0.heap.size ≤ (w2.setCell ⟨w.heap.size, 1, none⟩ (.slice a2 (ts.length + 1) c2)).heap.size := by
        have q := G2.out.size
        rw [World.size_setCell]
        simp at q
        omega
      obtain ⟨w3, hw3⟩ : ∃ w3, w3 = w2.setCell ⟨w.heap.size, 1, none⟩ (.slice a2 (ts.length + 1) c2) := ⟨_, rfl⟩
      rw [← hw3] at w3k0 w3k1 w3f0 w3f1 w3c OG3 OQ3 ON3 OP3 B3 s3 ⊢
      clear hw3 kk2 kk3 kk4 kk5 cc0 cc1 k0 k1 k2 k3 c0 c1 OG1 OP1 OQ1 O1 O2 G2
      have hcap : PS.length + 2 ≤ c := own_cap ON3.out
      have hbd : w.heap.size < w3.drew.heap.size := by show w.heap.size < w3.heap.size; omega
      have hgd : g < w3.drew.heap.size := by show g < w3.heap.size; omega
      have s3d : W0.heap.size ≤ w3.drew.heap.size := s3
      have kd0 : w3.drew.cell? ⟨w.heap.size, 0, none⟩ = some (.slice ag ts.length cg) := w3k0
      have kd1 : w3.drew.cell? ⟨w.heap.size, 1, none⟩ = some (.slice a2 (ts.length + 1) c2) := w3k1
      have kd2 : w3.drew.frozen? ⟨w.heap.size, 0, none⟩ = false := w3f0
      have kd3 : w3.drew.frozen? ⟨w.heap.size, 1, none⟩ = false := w3f1
      have kdg : w3.drew.cell? ⟨g, off + ts.length * 2, none⟩ = some (.string H) := w3c
      have OGd := hide (own_below OG3.out (Below.refl _ w3).drew)
      have OPd := hide (own_below OP3.out (Below.refl _ w3).drew)
      have OQd := hide (fun t ht => own_below (OQ3.out t ht) (Below.refl _ w3).drew)
      have ONd := hide (own_below ON3.out (Below.refl _ w3).drew)
      have B3d := hide (B3.out.drew)
      obtain ⟨hm3, hm4⟩ : ts.length + 1 ≤ maxLen ∧ (ts.length + 1) * 40 ≤ 140737488355328 := by unfold maxLen; omega
      have hbe : ¬ w.heap.size = w3.heap.size := by omega
      have hge : ¬ g = w3.heap.size := by omega
      have kal : (w3.drew.alloc (.cells #[.string H, .slice (some ⟨r, 0, none⟩) PS.length c] 49)).cell? ⟨w.heap.size, 0, none⟩ = some (.slice ag ts.length cg) := (World.cell?_alloc_lt _ _ _ (by exact hbd)).trans kd0
      have kal3 : (w3.alloc (.cells #[.string H, .slice (some ⟨r, 0, none⟩) PS.length c] 49)).cell? ⟨w.heap.size, 0, none⟩ = some (.slice ag ts.length cg) := kal
      have kag : (w3.drew.alloc (.cells #[.string H, .slice (some ⟨r, 0, none⟩) PS.length c] 49)).cell? ⟨g, off + ts.length * 2, none⟩ = some (.string H) := (World.cell?_alloc_lt _ _ _ (by exact hgd)).trans kdg
      refine wp_region_held_drew (S := fun w' => w'.cell? ⟨g, off + ts.length * 2, none⟩ = some (.string H)) (by kernel_rfl) kdg (fun hHeld => ?_)
      refine wpAnyH_take (i := 0) (v := (.pointer (some ⟨w.heap.size, 0, none⟩))) rfl (by kernel_rfl) (by kernel_rfl) (by kernel_rfl) (fun _ _ _ h => h) (Or.inl ⟨by rfl, ?_⟩) (by assumption) ?_
      · intro w' hSw
        (try dsimp only at hSw)
        go_simp <;> first | exact i64_in (by omega) (by omega) | exact u32_in (by omega) (by omega) | exact u32_add _ _ | (rw [Int.tmod_eq_emod_of_nonneg (by omega)]; omega) | (rw [Int.tdiv_eq_ediv_of_nonneg (by omega)]; omega) | omega
      (try simp only [Act.put, List.setIfInBounds_toArray, List.set_cons_zero, List.set_cons_succ])
      refine wpAnyH_take (i := 1) (v := (.pointer (some ⟨w.heap.size, 0, none⟩))) rfl (by kernel_rfl) (by kernel_rfl) (by kernel_rfl) (fun _ _ _ h => h) (Or.inl ⟨by rfl, ?_⟩) (by assumption) ?_
      · intro w' hSw
        (try dsimp only at hSw)
        go_simp <;> first | exact i64_in (by omega) (by omega) | exact u32_in (by omega) (by omega) | exact u32_add _ _ | (rw [Int.tmod_eq_emod_of_nonneg (by omega)]; omega) | (rw [Int.tdiv_eq_ediv_of_nonneg (by omega)]; omega) | omega
      (try simp only [Act.put, List.setIfInBounds_toArray, List.set_cons_zero, List.set_cons_succ])
      refine wpAnyH_take (i := 2) (v := (.pointer (some ⟨w.heap.size, 0, none⟩))) rfl (by kernel_rfl) (by kernel_rfl) (by kernel_rfl) (fun _ _ _ h => h) (Or.inl ⟨by rfl, ?_⟩) (by assumption) ?_
      · intro w' hSw
        (try dsimp only at hSw)
        go_simp <;> first | exact i64_in (by omega) (by omega) | exact u32_in (by omega) (by omega) | exact u32_add _ _ | (rw [Int.tmod_eq_emod_of_nonneg (by omega)]; omega) | (rw [Int.tdiv_eq_ediv_of_nonneg (by omega)]; omega) | omega
      (try simp only [Act.put, List.setIfInBounds_toArray, List.set_cons_zero, List.set_cons_succ])
      refine wpAnyH_take (i := 3) (v := (.pointer (some ⟨w.heap.size, 0, none⟩))) rfl (by kernel_rfl) (by kernel_rfl) (by kernel_rfl) (fun _ _ _ h => h) (Or.inl ⟨by rfl, ?_⟩) (by assumption) ?_
      · intro w' hSw
        (try dsimp only at hSw)
        go_simp <;> first | exact i64_in (by omega) (by omega) | exact u32_in (by omega) (by omega) | exact u32_add _ _ | (rw [Int.tmod_eq_emod_of_nonneg (by omega)]; omega) | (rw [Int.tdiv_eq_ediv_of_nonneg (by omega)]; omega) | omega
      (try simp only [Act.put, List.setIfInBounds_toArray, List.set_cons_zero, List.set_cons_succ])
      refine wpAnyH_take (i := 5) (v := (.slice (some ⟨g, off, none⟩) gs.length cap)) rfl (by kernel_rfl) (by kernel_rfl) (by kernel_rfl) (fun _ _ _ h => h) (Or.inl ⟨by rfl, ?_⟩) (by assumption) ?_
      · intro w' hSw
        (try dsimp only at hSw)
        go_simp <;> first | exact i64_in (by omega) (by omega) | exact u32_in (by omega) (by omega) | exact u32_add _ _ | (rw [Int.tmod_eq_emod_of_nonneg (by omega)]; omega) | (rw [Int.tdiv_eq_ediv_of_nonneg (by omega)]; omega) | omega
      (try simp only [Act.put, List.setIfInBounds_toArray, List.set_cons_zero, List.set_cons_succ])
      refine wpAnyH_take (i := 6) (v := (.int .i64 (ts.length : Int))) rfl (by kernel_rfl) (by kernel_rfl) (by kernel_rfl) (fun _ _ _ h => h) (Or.inl ⟨by rfl, ?_⟩) (by assumption) ?_
      · intro w' hSw
        (try dsimp only at hSw)
        go_simp <;> first | exact i64_in (by omega) (by omega) | exact u32_in (by omega) (by omega) | exact u32_add _ _ | (rw [Int.tmod_eq_emod_of_nonneg (by omega)]; omega) | (rw [Int.tdiv_eq_ediv_of_nonneg (by omega)]; omega) | omega
      (try simp only [Act.put, List.setIfInBounds_toArray, List.set_cons_zero, List.set_cons_succ])
      refine wpAnyH_take (i := 7) (v := (.pointer (some ⟨g, off + ts.length * 2, none⟩))) rfl (by kernel_rfl) (by kernel_rfl) (by kernel_rfl) (fun _ _ _ h => h) (Or.inl ⟨by rfl, ?_⟩) (by assumption) ?_
      · intro w' hSw
        (try dsimp only at hSw)
        go_simp <;> first | exact i64_in (by omega) (by omega) | exact u32_in (by omega) (by omega) | exact u32_add _ _ | (rw [Int.tmod_eq_emod_of_nonneg (by omega)]; omega) | (rw [Int.tdiv_eq_ediv_of_nonneg (by omega)]; omega) | omega
      (try simp only [Act.put, List.setIfInBounds_toArray, List.set_cons_zero, List.set_cons_succ])
      refine wpAnyH_take (i := 8) (v := (.pointer (some ⟨g, off + ts.length * 2, none⟩))) rfl (by kernel_rfl) (by kernel_rfl) (by kernel_rfl) (fun _ _ _ h => h) (Or.inl ⟨by rfl, ?_⟩) (by assumption) ?_
      · intro w' hSw
        (try dsimp only at hSw)
        go_simp <;> first | exact i64_in (by omega) (by omega) | exact u32_in (by omega) (by omega) | exact u32_add _ _ | (rw [Int.tmod_eq_emod_of_nonneg (by omega)]; omega) | (rw [Int.tdiv_eq_ediv_of_nonneg (by omega)]; omega) | omega
      (try simp only [Act.put, List.setIfInBounds_toArray, List.set_cons_zero, List.set_cons_succ])
      refine wpAnyH_take (i := 9) (v := (.string H)) rfl (by kernel_rfl) (by kernel_rfl) (by kernel_rfl) (fun _ _ _ h => h) (Or.inl ⟨by rfl, ?_⟩) (by assumption) ?_
      · intro w' hSw
        (try dsimp only at hSw)
        go_simp <;> first | exact i64_in (by omega) (by omega) | exact u32_in (by omega) (by omega) | exact u32_add _ _ | (rw [Int.tmod_eq_emod_of_nonneg (by omega)]; omega) | (rw [Int.tdiv_eq_ediv_of_nonneg (by omega)]; omega) | omega
      (try simp only [Act.put, List.setIfInBounds_toArray, List.set_cons_zero, List.set_cons_succ])
      refine wpAnyH_take (i := 10) (v := (.slice (some ⟨r, 0, none⟩) (PS.length + 2) c)) rfl (by kernel_rfl) (by kernel_rfl) (by kernel_rfl) (fun _ _ _ h => h) (Or.inl ⟨by rfl, ?_⟩) (by assumption) ?_
      · intro w' hSw
        (try dsimp only at hSw)
        go_simp <;> first | exact i64_in (by omega) (by omega) | exact u32_in (by omega) (by omega) | exact u32_add _ _ | (rw [Int.tmod_eq_emod_of_nonneg (by omega)]; omega) | (rw [Int.tdiv_eq_ediv_of_nonneg (by omega)]; omega) | omega
      (try simp only [Act.put, List.setIfInBounds_toArray, List.set_cons_zero, List.set_cons_succ])
      refine wpAnyH_take (i := 11) (v := (.slice (some ⟨r, 0, none⟩) (PS.length + 2) c)) rfl (by kernel_rfl) (by kernel_rfl) (by kernel_rfl) (fun _ _ _ h => h) (Or.inl ⟨by rfl, ?_⟩) (by assumption) ?_
      · intro w' hSw
        (try dsimp only at hSw)
        go_simp <;> first | exact i64_in (by omega) (by omega) | exact u32_in (by omega) (by omega) | exact u32_add _ _ | (rw [Int.tmod_eq_emod_of_nonneg (by omega)]; omega) | (rw [Int.tdiv_eq_ediv_of_nonneg (by omega)]; omega) | omega
      (try simp only [Act.put, List.setIfInBounds_toArray, List.set_cons_zero, List.set_cons_succ])
      refine wpAnyH_take (i := 12) (v := (.int .i64 ((PS.length : Int) + 2))) rfl (by kernel_rfl) (by kernel_rfl) (by kernel_rfl) (fun _ _ _ h => h) (Or.inl ⟨by rfl, ?_⟩) (by assumption) ?_
      · intro w' hSw
        (try dsimp only at hSw)
        go_simp <;> first | exact i64_in (by omega) (by omega) | exact u32_in (by omega) (by omega) | exact u32_add _ _ | (rw [Int.tmod_eq_emod_of_nonneg (by omega)]; omega) | (rw [Int.tdiv_eq_ediv_of_nonneg (by omega)]; omega) | omega
      (try simp only [Act.put, List.setIfInBounds_toArray, List.set_cons_zero, List.set_cons_succ])
      refine wpAnyH_take (i := 13) (v := (.int .i64 (PS.length : Int))) rfl (by kernel_rfl) (by kernel_rfl) (by kernel_rfl) (fun _ _ _ h => h) (Or.inl ⟨by rfl, ?_⟩) (by assumption) ?_
      · intro w' hSw
        (try dsimp only at hSw)
        (go_simp; exact i64_in (by omega) (by omega))
      (try simp only [Act.put, List.setIfInBounds_toArray, List.set_cons_zero, List.set_cons_succ])
      refine wpAnyH_take (i := 14) (v := (.slice (some ⟨r, 0, none⟩) PS.length c)) rfl (by kernel_rfl) (by kernel_rfl) (by kernel_rfl) (fun _ _ _ h => h) (Or.inl ⟨by rfl, ?_⟩) (by assumption) ?_
      · intro w' hSw
        (try dsimp only at hSw)
        (go_simp; intro hq; omega)
      (try simp only [Act.put, List.setIfInBounds_toArray, List.set_cons_zero, List.set_cons_succ])
      refine wpAnyH_take (i := 15) (v := (.agg #[.string H, .slice (some ⟨r, 0, none⟩) PS.length c])) rfl (by kernel_rfl) (by kernel_rfl) (by kernel_rfl) (fun _ _ _ h => h) (Or.inl ⟨by rfl, ?_⟩) (by assumption) ?_
      · intro w' hSw
        (try dsimp only at hSw)
        go_simp <;> first | exact i64_in (by omega) (by omega) | exact u32_in (by omega) (by omega) | exact u32_add _ _ | (rw [Int.tmod_eq_emod_of_nonneg (by omega)]; omega) | (rw [Int.tdiv_eq_ediv_of_nonneg (by omega)]; omega) | omega
      (try simp only [Act.put, List.setIfInBounds_toArray, List.set_cons_zero, List.set_cons_succ])
      refine wpAnyH_ready (rs := [4, 16]) (by kernel_rfl) (by simp) ?_
      refine AllReadyH.cons rfl (fun K hK => ?_) (AllReadyH.cons rfl (fun K hK => ?_) AllReadyH.nil)
      · go_simp
        refine hK.out _ _ kdg (fun hHeld => ?_)
        clear hK
        (try simp only [Act.put, List.setIfInBounds_toArray, List.set_cons_zero, List.set_cons_succ])
        refine wpAnyH_ready (rs := [16]) (by kernel_rfl) (by simp) ?_
        refine AllReadyH.cons rfl (fun K hK => ?_) AllReadyH.nil
        go_simp
        refine hK.out _ _ kag (fun hHeld => ?_)
        clear hK
        (try simp only [Act.put, List.setIfInBounds_toArray, List.set_cons_zero, List.set_cons_succ])
        refine wpAnyH_ready (rs := [17]) (by kernel_rfl) (by simp) ?_
        refine AllReadyH.cons rfl (fun K hK => ?_) AllReadyH.nil
        refine ite_yes (by rfl) ?_
        refine wp_append_own (w3.drew.alloc (.cells #[.string H, .slice (some ⟨r, 0, none⟩) PS.length c] 49)) (.tmp 34) (.tmp 46) 31 ?hhoA W0.heap.size 49 i0 (.agg #[.string ⟨#[]⟩, .slice none 0 0]) 2 40 Try.underlying31 hi hz0 hz1 hz2 ?hzsA (by decide) (.slice ag ts.length cg) ts.length (gcell (ts.map tG)) ?hhsA (OGd.out.alloc _) ⟨w3.heap.size, 0, none⟩ 1 1 (gcell [((H, PS), .slice (some ⟨r, 0, none⟩) PS.length c)]) ?hhxA (g_one_len _ _ _) (cell_grp w3.drew H PS _) (g_one _ _ _ rfl) hm3 hm4 (le_alloc s3d) ?hhkA
        case hhoA => rfl
        case hzsA => rfl
        case hhsA => kernel_rfl
        case hhxA => kernel_rfl
        intro v5 w5 o5 g5 n5
        clear n5
        obtain ⟨a5, c5, rfl⟩ := own_shape o5
        have fc0 := far_cell (i := 0) g5 hbd (own_far OGd.out (by omega))
        have fc1 := far_cell (i := 1) g5 hbd (own_far OGd.out (by omega))
        have fcg := (far_cell (i := off + ts.length * 2) g5 hgd (own_far OGd.out (by omega))).1
        rw [kd0, kd2] at fc0
        rw [kd1, kd3] at fc1
        rw [kdg] at fcg
        obtain ⟨n0, n1⟩ := fc0
        obtain ⟨n2, n3⟩ := fc1
        have CS := hide ((set_far (w := w5) (b := w.heap.size) (i := 0) (b2 := g) (i2 := off + ts.length * 2) (u := .slice a5 (ts.length + 1) c5) (by omega)).trans fcg)
        have NEW : Hid (HI (w5.setCell ⟨w.heap.size, 0, none⟩ (.slice a5 (ts.length + 1) c5)) W0.heap.size w.heap.size (.slice a5 (ts.length + 1) c5) (.slice a2 (ts.length + 1) c2) (ts ++ [((H, PS), r, c)])) := by
          have e : HI (w5.setCell ⟨w.heap.size, 0, none⟩ (.slice a5 (ts.length + 1) c5)) W0.heap.size w.heap.size (.slice a5 (ts.length + 1) c5) (.slice a2 (ts.length + 1) c2) (ts ++ [((H, PS), r, c)]) := by
            refine ⟨⟨World.cell?_setCell_same _ _ _ n0, (set_far (by omega)).trans n2, by simpa using n1, by simpa using n3⟩, ?_, ?_, fun t ht => ?_⟩
            · rw [List.length_append, List.map_append, gcell_append]
              exact own_set o5 (by omega)
            · rw [List.length_append, List.map_append]
              exact row_pass OPd.out OGd.out (by decide) g5 (by omega)
            · rcases List.mem_append.1 ht with ht | ht
              · exact row_pass (OQd.out t ht) OGd.out (by decide) g5 (by omega)
              · rw [List.mem_singleton] at ht
                subst ht
                exact row_pass ONd.out OGd.out (by decide) g5 (by omega)
          exact e
        have BN := hide (((B3d.out.alloc (by omega) (.cells #[.string H, .slice (some ⟨r, 0, none⟩) PS.length c] 49)).grown g5 (le_alloc (by omega)) (fun t ht => Nat.le_trans (by omega) (OGd.out.lt t ht).1)).setCell (p := ⟨w.heap.size, 0, none⟩) (Nat.le_refl _) (.slice a5 (ts.length + 1) c5))
        have s5 : W0.heap.size ≤ (w5.setCell ⟨w.heap.size, 0, none⟩ (.slice a5 (ts.length + 1) c5)).heap.size := by
          have q := g5.size
          rw [World.size_setCell]
          simp at q
          simp at s3d
          omega
        clear o5 g5
        refine hK.out _ _ fcg (fun hHeld => ?_)
        clear hK
        (try simp only [Act.put, List.setIfInBounds_toArray, List.set_cons_zero, List.set_cons_succ])
        refine wpAnyH_take (i := 18) (v := (.pointer (some ⟨w.heap.size, 0, none⟩))) rfl (by kernel_rfl) (by kernel_rfl) (by kernel_rfl) (fun _ _ _ h => h) (Or.inl ⟨by rfl, ?_⟩) (by assumption) ?_
        · intro w' hSw
          (try dsimp only at hSw)
          go_simp <;> first | exact i64_in (by omega) (by omega) | exact u32_in (by omega) (by omega) | exact u32_add _ _ | (rw [Int.tmod_eq_emod_of_nonneg (by omega)]; omega) | (rw [Int.tdiv_eq_ediv_of_nonneg (by omega)]; omega) | omega
        (try simp only [Act.put, List.setIfInBounds_toArray, List.set_cons_zero, List.set_cons_succ])
        refine wpAnyH_take (i := 19) (v := (.pointer (some ⟨w.heap.size, 0, none⟩))) rfl (by kernel_rfl) (by kernel_rfl) (by kernel_rfl) (fun _ _ _ h => h) (Or.inl ⟨by rfl, ?_⟩) (by assumption) ?_
        · intro w' hSw
          (try dsimp only at hSw)
          go_simp <;> first | exact i64_in (by omega) (by omega) | exact u32_in (by omega) (by omega) | exact u32_add _ _ | (rw [Int.tmod_eq_emod_of_nonneg (by omega)]; omega) | (rw [Int.tdiv_eq_ediv_of_nonneg (by omega)]; omega) | omega
        (try simp only [Act.put, List.setIfInBounds_toArray, List.set_cons_zero, List.set_cons_succ])
        refine wpAnyH_ready (rs := [20]) (by kernel_rfl) (by simp) ?_
        refine AllReadyH.cons rfl (fun K hK => ?_) AllReadyH.nil
        go_simp
        refine hK.out _ _ CS.out (fun hHeld => ?_)
        clear hK
        (try simp only [Act.put, List.setIfInBounds_toArray, List.set_cons_zero, List.set_cons_succ])
        refine wpAnyH_done (by kernel_rfl) ?_ _
        go_wp2_with fail
        go_roundw
        case rel => exact ⟨ts.length + 1, _, _, ts ++ [((H, PS), r, c)], by omega, by go_num, by rw [RE.out, List.map_append, HTS.out]; rfl, NEW.out, BN.out, s5⟩
        case measure => simp [intOf]; omega
      · go_simp
        refine hK.out _ _ kag (fun hHeld => ?_)
        clear hK
        (try simp only [Act.put, List.setIfInBounds_toArray, List.set_cons_zero, List.set_cons_succ])
        refine wpAnyH_ready (rs := [4]) (by kernel_rfl) (by simp) ?_
        refine AllReadyH.cons rfl (fun K hK => ?_) AllReadyH.nil
        go_simp
        refine hK.out _ _ kag (fun hHeld => ?_)
        clear hK
        (try simp only [Act.put, List.setIfInBounds_toArray, List.set_cons_zero, List.set_cons_succ])
        refine wpAnyH_ready (rs := [17]) (by kernel_rfl) (by simp) ?_
        refine AllReadyH.cons rfl (fun K hK => ?_) AllReadyH.nil
        refine ite_yes (by rfl) ?_
        refine wp_append_own (w3.drew.alloc (.cells #[.string H, .slice (some ⟨r, 0, none⟩) PS.length c] 49)) (.tmp 34) (.tmp 46) 31 ?hhoB W0.heap.size 49 i0 (.agg #[.string ⟨#[]⟩, .slice none 0 0]) 2 40 Try.underlying31 hi hz0 hz1 hz2 ?hzsB (by decide) (.slice ag ts.length cg) ts.length (gcell (ts.map tG)) ?hhsB (OGd.out.alloc _) ⟨w3.heap.size, 0, none⟩ 1 1 (gcell [((H, PS), .slice (some ⟨r, 0, none⟩) PS.length c)]) ?hhxB (g_one_len _ _ _) (cell_grp w3.drew H PS _) (g_one _ _ _ rfl) hm3 hm4 (le_alloc s3d) ?hhkB
        case hhoB => rfl
        case hzsB => rfl
        case hhsB => kernel_rfl
        case hhxB => kernel_rfl
        intro v5 w5 o5 g5 n5
        clear n5
        obtain ⟨a5, c5, rfl⟩ := own_shape o5
        have fc0 := far_cell (i := 0) g5 hbd (own_far OGd.out (by omega))
        have fc1 := far_cell (i := 1) g5 hbd (own_far OGd.out (by omega))
        have fcg := (far_cell (i := off + ts.length * 2) g5 hgd (own_far OGd.out (by omega))).1
        rw [kd0, kd2] at fc0
        rw [kd1, kd3] at fc1
        rw [kdg] at fcg
        obtain ⟨n0, n1⟩ := fc0
        obtain ⟨n2, n3⟩ := fc1
        have CS := hide ((set_far (w := w5) (b := w.heap.size) (i := 0) (b2 := g) (i2 := off + ts.length * 2) (u := .slice a5 (ts.length + 1) c5) (by omega)).trans fcg)
        have NEW : Hid (HI (w5.setCell ⟨w.heap.size, 0, none⟩ (.slice a5 (ts.length + 1) c5)) W0.heap.size w.heap.size (.slice a5 (ts.length + 1) c5) (.slice a2 (ts.length + 1) c2) (ts ++ [((H, PS), r, c)])) := by
          have e : HI (w5.setCell ⟨w.heap.size, 0, none⟩ (.slice a5 (ts.length + 1) c5)) W0.heap.size w.heap.size (.slice a5 (ts.length + 1) c5) (.slice a2 (ts.length + 1) c2) (ts ++ [((H, PS), r, c)]) := by
            refine ⟨⟨World.cell?_setCell_same _ _ _ n0, (set_far (by omega)).trans n2, by simpa using n1, by simpa using n3⟩, ?_, ?_, fun t ht => ?_⟩
            · rw [List.length_append, List.map_append, gcell_append]
              exact own_set o5 (by omega)
            · rw [List.length_append, List.map_append]
              exact row_pass OPd.out OGd.out (by decide) g5 (by omega)
            · rcases List.mem_append.1 ht with ht | ht
              · exact row_pass (OQd.out t ht) OGd.out (by decide) g5 (by omega)
              · rw [List.mem_singleton] at ht
                subst ht
                exact row_pass ONd.out OGd.out (by decide) g5 (by omega)
          exact e
        have BN := hide (((B3d.out.alloc (by omega) (.cells #[.string H, .slice (some ⟨r, 0, none⟩) PS.length c] 49)).grown g5 (le_alloc (by omega)) (fun t ht => Nat.le_trans (by omega) (OGd.out.lt t ht).1)).setCell (p := ⟨w.heap.size, 0, none⟩) (Nat.le_refl _) (.slice a5 (ts.length + 1) c5))
        have s5 : W0.heap.size ≤ (w5.setCell ⟨w.heap.size, 0, none⟩ (.slice a5 (ts.length + 1) c5)).heap.size := by
          have q := g5.size
          rw [World.size_setCell]
          simp at q
          simp at s3d
          omega
        clear o5 g5
        refine hK.out _ _ fcg (fun hHeld => ?_)
        clear hK
        (try simp only [Act.put, List.setIfInBounds_toArray, List.set_cons_zero, List.set_cons_succ])
        refine wpAnyH_take (i := 18) (v := (.pointer (some ⟨w.heap.size, 0, none⟩))) rfl (by kernel_rfl) (by kernel_rfl) (by kernel_rfl) (fun _ _ _ h => h) (Or.inl ⟨by rfl, ?_⟩) (by assumption) ?_
        · intro w' hSw
          (try dsimp only at hSw)
          go_simp <;> first | exact i64_in (by omega) (by omega) | exact u32_in (by omega) (by omega) | exact u32_add _ _ | (rw [Int.tmod_eq_emod_of_nonneg (by omega)]; omega) | (rw [Int.tdiv_eq_ediv_of_nonneg (by omega)]; omega) | omega
        (try simp only [Act.put, List.setIfInBounds_toArray, List.set_cons_zero, List.set_cons_succ])
        refine wpAnyH_take (i := 19) (v := (.pointer (some ⟨w.heap.size, 0, none⟩))) rfl (by kernel_rfl) (by kernel_rfl) (by kernel_rfl) (fun _ _ _ h => h) (Or.inl ⟨by rfl, ?_⟩) (by assumption) ?_
        · intro w' hSw
          (try dsimp only at hSw)
          go_simp <;> first | exact i64_in (by omega) (by omega) | exact u32_in (by omega) (by omega) | exact u32_add _ _ | (rw [Int.tmod_eq_emod_of_nonneg (by omega)]; omega) | (rw [Int.tdiv_eq_ediv_of_nonneg (by omega)]; omega) | omega
        (try simp only [Act.put, List.setIfInBounds_toArray, List.set_cons_zero, List.set_cons_succ])
        refine wpAnyH_ready (rs := [20]) (by kernel_rfl) (by simp) ?_
        refine AllReadyH.cons rfl (fun K hK => ?_) AllReadyH.nil
        go_simp
        refine hK.out _ _ CS.out (fun hHeld => ?_)
        clear hK
        (try simp only [Act.put, List.setIfInBounds_toArray, List.set_cons_zero, List.set_cons_succ])
        refine wpAnyH_done (by kernel_rfl) ?_ _
        go_wp2_with fail
        go_roundw
        case rel => exact ⟨ts.length + 1, _, _, ts ++ [((H, PS), r, c)], by omega, by go_num, by rw [RE.out, List.map_append, HTS.out]; rfl, NEW.out, BN.out, s5⟩
        case measure => simp [intOf]; omega
    · have hji : ¬ (ts.length : Int) < (gs.length : Int) := by omega
      have hte : ts.length = gs.length := by omega
      have HTE : Hid (ts.map (fun t => t.1) = gs) := by
        have e : ts.map (fun t => t.1) = gs := by rw [HTS.out, hte, List.take_length]
        exact e
      obtain ⟨hm3, hm4⟩ : ts.length + 1 ≤ maxLen ∧ (ts.length + 1) * 40 ≤ 140737488355328 := by unfold maxLen; omega
      have hbr : w.heap.size < wr.heap.size := by omega
      have HS0 := hide s0
      clear hte hnx
      go_wp2_with (at_builtin; refine wpList_append_own _ rfl _ _ 31 rfl W0.heap.size 49 i0 (.agg #[.string ⟨#[]⟩, .slice none 0 0]) 2 40 Try.underlying31 hi hz0 hz1 hz2 rfl (by decide) _ _ _ rfl (OG.out.alloc _) ⟨_, 0, none⟩ 1 1 (gcell [((bhd, []), .slice none 0 0)]) rfl (g_one_len _ _ _) (cell_grp _ bhd [] (.slice none 0 0)) (g_one _ _ _ rfl) hm3 hm4 (le_alloc hsz) ?_; intro v5 w5 o5 g5 n5; clear n5; obtain ⟨a5, c5, rfl⟩ := own_shape o5; have O5 := hide o5; have G5 := hide g5; have fc0 := far_cell (i := 0) g5 hbr (own_far OG.out (by omega)); have fc1 := far_cell (i := 1) g5 hbr (own_far OG.out (by omega)); rw [k0, k2] at fc0; rw [k1, k3] at fc1; obtain ⟨n0, n1⟩ := fc0; obtain ⟨n2, n3⟩ := fc1; clear o5 g5)
      go_ret
      refine ⟨rfl, ?_, ?_⟩
      · rw [← HS0.out]
        refine ⟨.slice a5 (ts.length + 1) c5, .slice ap ts.length cp, ts, HTE.out, ⟨World.cell?_setCell_same _ _ _ n0, (set_far (by omega)).trans n2⟩, own_set O5.out (by omega), row_pass OP.out OG.out (by decide) G5.out (by omega), fun t ht => row_pass (OQ.out t ht) OG.out (by decide) G5.out (by omega)⟩
      · exact (((HNX.out.alloc (by omega) _).grown G5.out (le_alloc (by omega)) (fun t ht => Nat.le_trans (by omega) (OG.out.lt t ht).1)).setCell (p := ⟨w.heap.size, 0, none⟩) (Nat.le_refl _) (.slice a5 (ts.length + 1) c5))
end Go.Proofs.Ythihmgdefbahpaa
