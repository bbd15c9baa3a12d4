import Derived.Test.YtfmmfophdfjopaaGRkGPure
import Derived.Test.YtfmmfophdfjopaaGRkDecG
namespace Go.Proofs.Ytfmmfophdfjopaa
open Go.RowKit
theorem ite_yes {c : Prop} [Decidable c] {A B : Prop} (hc : c) (h : A) : if c then A else B := by rw [if_pos hc]; exact h
theorem GA.take {w : World} {bl bp : Nat} {v : Value} {gs : List GR} (h : GA w bl bp v gs) {l : List GR} (e : gs = l) : GA w bl bp v l := e ▸ h
set_option maxHeartbeats 2000000 in
set_option maxRecDepth 100000 in
set_option linter.unusedSimpArgs false in
/-- copied -/
theorem copied_any (v : Value) (gs : List GR) (w : World) (hg : GLies w v gs) (hne : ∀ g ∈ gs, 0 < g.2.length) (hlen : gs.length ≤ 65536) (hps : ∀ g ∈ gs, g.2.length ≤ 65536) :
    Calls Try.prog 7 #[v] w fun e w' => ∃ v', e = .returned v' ∧ GA w' w.heap.size w.heap.size v' gs ∧ Below w.heap.size w w' := by
  obtain ⟨i0, hi, hz0, hz1, hz2⟩ := info_parts infoG
  obtain ⟨i1, hj, hy0, hy1, hy2⟩ := info_parts infoP
  obtain ⟨qs, ao, g, off, cap, hql, rfl, h3, h4, h5, h6⟩ := hg
  have H5 := hide h5
  have H6 := hide h6
  have HNE := hide hne
  have HPS := hide hps
  rw [hql] at h3 h4 ⊢
  clear h5 h6 hne hps
  go_enter Try.func7, Try.ntmps7
  go_wp2_with fail
  go_loopw [3, 4] (fun l i wr => ∃ j : Nat, j ≤ gs.length ∧ i = .int .i64 (j : Int) ∧ GA wr w.heap.size w.heap.size l (gs.take j) ∧ Below w.heap.size w wr) (fun _ i _ => gs.length - (intOf i).toNat)
  case atStart => exact ⟨0, Nat.zero_le _, rfl, GA.nil _ _ _, Below.refl _ _⟩
  case round =>
    obtain ⟨j, hj9, rfl, hga, hnx⟩ := hrel
    by_cases hlt : j < gs.length
    · obtain rfl := h3 (by omega)
      have x1 := h4 (by omega)
      have hji : (j : Int) < (gs.length : Int) := by omega
      obtain ⟨d0, d1⟩ := H5.out j (by omega)
      obtain ⟨y0, y1⟩ := H6.out j hlt (by omega)
      have hpos := HNE.out _ (List.getElem_mem hlt)
      have hpl := HPS.out _ (List.getElem_mem hlt)
      have RE : Hid (gs.take (j + 1) = gs.take j ++ [(gs[j].1, gs[j].2)]) := List.take_succ_eq_append_getElem hlt
      rw [y0] at d0
      clear y0
      generalize gs[j].1 = QH at *
      generalize gs[j].2 = QL at *
      generalize qs[j].2 = sq at *
      obtain ⟨b, of2, z1, z2, z3, z4⟩ := y1
      obtain ⟨s1, s2, s3⟩ := sq
      simp only at z1 z2 d1
      obtain rfl := z2 hpos
      subst z1
      have x2 := z3 hpos
      have hlj : (gs.take j).length = j := by rw [List.length_take]; omega
      generalize hT : gs.take j = T at *
      obtain ⟨ms, rfl, hown, hrows⟩ := hga
      rw [List.length_map] at hlj
      obtain ⟨a3, c3, rfl⟩ := own_shape hown
      have HOWN := hide hown
      have HROWS := hide hrows
      have HNX := hide hnx
      have hsz := hnx.size
      have C : Hid (∀ i u, (pc QL)[i]? = some u → wr.drew.cell? ((⟨b, of2, none⟩ : Addr).add i) = some u) := fun i u hu => lies_cells (z4.below x2 hnx.drew) i u hu
      have hszd : w.heap.size ≤ wr.drew.heap.size := hnx.drew.size
      have e0 : wr.cell? ⟨g, off + j * 2, none⟩ = some (.string QH) := by rw [hnx.cell (by exact x1)]; exact d0
      have e1 : wr.cell? ⟨g, off + j * 2 + 1, none⟩ = some (.slice (some ⟨b, of2, none⟩) QL.length s3) := by rw [hnx.cell (by exact x1)]; exact d1
      obtain ⟨hm1, hm2, hm3, hm4⟩ : ms.length + 1 ≤ maxLen ∧ (ms.length + 1) * 40 ≤ 140737488355328 ∧ 0 + QL.length ≤ maxLen ∧ (0 + QL.length) * 32 ≤ 140737488355328 := by unfold maxLen; omega
      clear hlj
      have HD : Hid (∀ w', Below w.heap.size w w' → w'.cell? ⟨g, off + j * 2, none⟩ = some (.string QH) ∧ w'.cell? ⟨g, off + j * 2 + 1, none⟩ = some (.slice (some ⟨b, of2, none⟩) QL.length s3)) := fun w' hb => by
        rw [hb.cell (by exact x1), hb.cell (by exact x1)]; exact ⟨d0, d1⟩
      clear hown hrows hnx z4 d0 d1 z3 hT e0 e1
      go_wp2_with fail
      refine wp_region_held_drew (S := fun w' => w'.cell? ⟨g, off + j * 2, none⟩ = some (.string QH) ∧ w'.cell? ⟨g, off + j * 2 + 1, none⟩ = some (.slice (some ⟨b, of2, none⟩) QL.length s3)) (by kernel_rfl) (HD.out _ HNX.out.drew) (fun hHeld => ?_)
      refine wpAnyH_take (i := 0) (v := (.slice a3 ms.length c3)) rfl (by kernel_rfl) (by kernel_rfl) (by kernel_rfl) (fun _ _ _ h => h) (Or.inl ⟨by rfl, ?_⟩) (by assumption) ?_
      · intro w' hSw
        (try dsimp only at hSw)
        go_simp <;> first | exact i64_in (by omega) (by omega) | exact u32_in (by omega) (by omega) | exact u32_add _ _ | (rw [Int.tmod_eq_emod_of_nonneg (by omega)]; omega) | (rw [Int.tdiv_eq_ediv_of_nonneg (by omega)]; omega) | omega
      (try simp only [Act.put, List.setIfInBounds_toArray, List.set_cons_zero, List.set_cons_succ])
      refine wpAnyH_take (i := 1) (v := (.slice (some ⟨g, off, none⟩) gs.length cap)) rfl (by kernel_rfl) (by kernel_rfl) (by kernel_rfl) (fun _ _ _ h => h) (Or.inl ⟨by rfl, ?_⟩) (by assumption) ?_
      · intro w' hSw
        (try dsimp only at hSw)
        go_simp <;> first | exact i64_in (by omega) (by omega) | exact u32_in (by omega) (by omega) | exact u32_add _ _ | (rw [Int.tmod_eq_emod_of_nonneg (by omega)]; omega) | (rw [Int.tdiv_eq_ediv_of_nonneg (by omega)]; omega) | omega
      (try simp only [Act.put, List.setIfInBounds_toArray, List.set_cons_zero, List.set_cons_succ])
      refine wpAnyH_take (i := 2) (v := (.int .i64 (j : Int))) rfl (by kernel_rfl) (by kernel_rfl) (by kernel_rfl) (fun _ _ _ h => h) (Or.inl ⟨by rfl, ?_⟩) (by assumption) ?_
      · intro w' hSw
        (try dsimp only at hSw)
        go_simp <;> first | exact i64_in (by omega) (by omega) | exact u32_in (by omega) (by omega) | exact u32_add _ _ | (rw [Int.tmod_eq_emod_of_nonneg (by omega)]; omega) | (rw [Int.tdiv_eq_ediv_of_nonneg (by omega)]; omega) | omega
      (try simp only [Act.put, List.setIfInBounds_toArray, List.set_cons_zero, List.set_cons_succ])
      refine wpAnyH_take (i := 3) (v := (.pointer (some ⟨g, off + j * 2, none⟩))) rfl (by kernel_rfl) (by kernel_rfl) (by kernel_rfl) (fun _ _ _ h => h) (Or.inl ⟨by rfl, ?_⟩) (by assumption) ?_
      · intro w' hSw
        (try dsimp only at hSw)
        go_simp <;> first | exact i64_in (by omega) (by omega) | exact u32_in (by omega) (by omega) | exact u32_add _ _ | (rw [Int.tmod_eq_emod_of_nonneg (by omega)]; omega) | (rw [Int.tdiv_eq_ediv_of_nonneg (by omega)]; omega) | omega
      (try simp only [Act.put, List.setIfInBounds_toArray, List.set_cons_zero, List.set_cons_succ])
      refine wpAnyH_take (i := 4) (v := (.pointer (some ⟨g, off + j * 2, none⟩))) rfl (by kernel_rfl) (by kernel_rfl) (by kernel_rfl) (fun _ _ _ h => h) (Or.inl ⟨by rfl, ?_⟩) (by assumption) ?_
      · intro w' hSw
        (try dsimp only at hSw)
        go_simp <;> first | exact i64_in (by omega) (by omega) | exact u32_in (by omega) (by omega) | exact u32_add _ _ | (rw [Int.tmod_eq_emod_of_nonneg (by omega)]; omega) | (rw [Int.tdiv_eq_ediv_of_nonneg (by omega)]; omega) | omega
      (try simp only [Act.put, List.setIfInBounds_toArray, List.set_cons_zero, List.set_cons_succ])
      refine wpAnyH_take (i := 5) (v := (.string QH)) rfl (by kernel_rfl) (by kernel_rfl) (by kernel_rfl) (fun _ _ _ h => h) (Or.inl ⟨by rfl, ?_⟩) (by assumption) ?_
      · intro w' hSw
        (try dsimp only at hSw)
        (obtain ⟨hS1, hS2⟩ := hSw; go_simp)
      (try simp only [Act.put, List.setIfInBounds_toArray, List.set_cons_zero, List.set_cons_succ])
      refine wpAnyH_take (i := 6) (v := (.slice (some ⟨g, off, none⟩) gs.length cap)) rfl (by kernel_rfl) (by kernel_rfl) (by kernel_rfl) (fun _ _ _ h => h) (Or.inl ⟨by rfl, ?_⟩) (by assumption) ?_
      · intro w' hSw
        (try dsimp only at hSw)
        go_simp <;> first | exact i64_in (by omega) (by omega) | exact u32_in (by omega) (by omega) | exact u32_add _ _ | (rw [Int.tmod_eq_emod_of_nonneg (by omega)]; omega) | (rw [Int.tdiv_eq_ediv_of_nonneg (by omega)]; omega) | omega
      (try simp only [Act.put, List.setIfInBounds_toArray, List.set_cons_zero, List.set_cons_succ])
      refine wpAnyH_take (i := 7) (v := (.int .i64 (j : Int))) rfl (by kernel_rfl) (by kernel_rfl) (by kernel_rfl) (fun _ _ _ h => h) (Or.inl ⟨by rfl, ?_⟩) (by assumption) ?_
      · intro w' hSw
        (try dsimp only at hSw)
        go_simp <;> first | exact i64_in (by omega) (by omega) | exact u32_in (by omega) (by omega) | exact u32_add _ _ | (rw [Int.tmod_eq_emod_of_nonneg (by omega)]; omega) | (rw [Int.tdiv_eq_ediv_of_nonneg (by omega)]; omega) | omega
      (try simp only [Act.put, List.setIfInBounds_toArray, List.set_cons_zero, List.set_cons_succ])
      refine wpAnyH_take (i := 8) (v := (.pointer (some ⟨g, off + j * 2, none⟩))) rfl (by kernel_rfl) (by kernel_rfl) (by kernel_rfl) (fun _ _ _ h => h) (Or.inl ⟨by rfl, ?_⟩) (by assumption) ?_
      · intro w' hSw
        (try dsimp only at hSw)
        go_simp <;> first | exact i64_in (by omega) (by omega) | exact u32_in (by omega) (by omega) | exact u32_add _ _ | (rw [Int.tmod_eq_emod_of_nonneg (by omega)]; omega) | (rw [Int.tdiv_eq_ediv_of_nonneg (by omega)]; omega) | omega
      (try simp only [Act.put, List.setIfInBounds_toArray, List.set_cons_zero, List.set_cons_succ])
      refine wpAnyH_take (i := 9) (v := (.pointer (some ⟨g, off + j * 2 + 1, none⟩))) rfl (by kernel_rfl) (by kernel_rfl) (by kernel_rfl) (fun _ _ _ h => h) (Or.inl ⟨by rfl, ?_⟩) (by assumption) ?_
      · intro w' hSw
        (try dsimp only at hSw)
        go_simp <;> first | exact i64_in (by omega) (by omega) | exact u32_in (by omega) (by omega) | exact u32_add _ _ | (rw [Int.tmod_eq_emod_of_nonneg (by omega)]; omega) | (rw [Int.tdiv_eq_ediv_of_nonneg (by omega)]; omega) | omega
      (try simp only [Act.put, List.setIfInBounds_toArray, List.set_cons_zero, List.set_cons_succ])
      refine wpAnyH_take (i := 10) (v := (.slice (some ⟨b, of2, none⟩) QL.length s3)) rfl (by kernel_rfl) (by kernel_rfl) (by kernel_rfl) (fun _ _ _ h => h) (Or.inl ⟨by rfl, ?_⟩) (by assumption) ?_
      · intro w' hSw
        (try dsimp only at hSw)
        (obtain ⟨hS1, hS2⟩ := hSw; go_simp)
      (try simp only [Act.put, List.setIfInBounds_toArray, List.set_cons_zero, List.set_cons_succ])
      refine wpAnyH_ready (rs := [11]) (by kernel_rfl) (by simp) ?_
      refine AllReadyH.cons rfl (fun K hK => ?_) AllReadyH.nil
      refine ite_yes (by rfl) ?_
      refine wp_append_own wr.drew (.const (.slice none 0 0)) (.tmp 21) 38 ?hho w.heap.size 55 i1 (.agg #[.string ⟨#[]⟩, .string ⟨#[]⟩]) 2 32 Try.underlying38 hj hy0 hy1 hy2 ?hzs (by decide) (.slice none 0 0) 0 [] ?hhs ?hhn ⟨b, of2, none⟩ QL.length s3 (pc QL) ?hhx (pc_len _) ?hhc (pc_one _) hm3 hm4 hszd ?hhk
      case hho => rfl
      case hzs => rfl
      case hhs => rfl
      case hhx => kernel_rfl
      case hhn => exact World.ownsRow_nil _ _ _ _
      case hhc => exact C.out
      intro v1 w1 o1 g1 n1
      clear n1
      rw [Nat.zero_add, List.nil_append] at o1
      have b1 := ((Below.refl wr.heap.size wr).drew).grown g1 (Nat.le_refl _) (by intro k hk; cases hk)
      have B1 := hide (HNX.out.trans (b1.mono hsz))
      have OW := hide (own_below HOWN.out b1)
      have RW := hide (fun t ht => own_below (HROWS.out t ht) b1)
      obtain ⟨a1, c1, rfl⟩ := own_shape o1
      have O1 := hide o1
      have s1 := B1.out.size
      clear o1 g1 b1
      refine hK.out _ _ (HD.out _ B1.out) (fun hHeld => ?_)
      clear hK
      (try simp only [Act.put, List.setIfInBounds_toArray, List.set_cons_zero, List.set_cons_succ])
      refine wpAnyH_take (i := 12) (v := (.agg #[.string QH, .slice a1 QL.length c1])) rfl (by kernel_rfl) (by kernel_rfl) (by kernel_rfl) (fun _ _ _ h => h) (Or.inl ⟨by rfl, ?_⟩) (by assumption) ?_
      · intro w' hSw
        (try dsimp only at hSw)
        go_simp <;> first | exact i64_in (by omega) (by omega) | exact u32_in (by omega) (by omega) | exact u32_add _ _ | (rw [Int.tmod_eq_emod_of_nonneg (by omega)]; omega) | (rw [Int.tdiv_eq_ediv_of_nonneg (by omega)]; omega) | omega
      (try simp only [Act.put, List.setIfInBounds_toArray, List.set_cons_zero, List.set_cons_succ])
      refine wpAnyH_ready (rs := [13]) (by kernel_rfl) (by simp) ?_
      refine AllReadyH.cons rfl (fun K hK => ?_) AllReadyH.nil
      go_simp
      refine hK.out _ _ (HD.out _ (B1.out.alloc s1 _)) (fun hHeld => ?_)
      clear hK
      (try simp only [Act.put, List.setIfInBounds_toArray, List.set_cons_zero, List.set_cons_succ])
      refine wpAnyH_ready (rs := [14]) (by kernel_rfl) (by simp) ?_
      refine AllReadyH.cons rfl (fun K hK => ?_) AllReadyH.nil
      refine ite_yes (by rfl) ?_
      refine wp_append_own (w1.alloc (.cells #[.string QH, .slice a1 QL.length c1] 41)) (.tmp 11) (.tmp 24) 24 ?jhho w.heap.size 41 i0 (.agg #[.string ⟨#[]⟩, .slice none 0 0]) 2 40 Try.underlying24 hi hz0 hz1 hz2 ?jhzs (by decide) (.slice a3 ms.length c3) ms.length (gcell ms) ?jhhs (OW.out.alloc _) ⟨w1.heap.size, 0, none⟩ 1 1 (gcell [((QH, QL), .slice a1 QL.length c1)]) ?jhhx (g_one_len _ _ _) (cell_grp _ QH QL _) (g_one _ _ _ rfl) hm1 hm2 (le_alloc s1) ?jhhk
      case jhho => rfl
      case jhzs => rfl
      case jhhs => kernel_rfl
      case jhhx => kernel_rfl
      intro v2 w2 o2 g2 n2
      clear n2
      have N2 := hide (app_below (n := 0) B1.out s1 OW.out g2)
      have GA2 := hide (GA.snoc (X := QH) (L := QL) OW.out RW.out O1.out ((Below.refl _ w1).alloc (Nat.le_refl _) _) g2 o2)
      clear o2 g2
      refine hK.out _ _ (HD.out _ N2.out) (fun hHeld => ?_)
      clear hK
      (try simp only [Act.put, List.setIfInBounds_toArray, List.set_cons_zero, List.set_cons_succ])
      refine wpAnyH_ready (rs := [15]) (by kernel_rfl) (by simp) ?_
      refine AllReadyH.cons rfl (fun K hK => ?_) AllReadyH.nil
      go_simp
      refine hK.out _ _ (HD.out _ N2.out) (fun hHeld => ?_)
      clear hK
      (try simp only [Act.put, List.setIfInBounds_toArray, List.set_cons_zero, List.set_cons_succ])
      refine wpAnyH_done (by kernel_rfl) ?_ _
      go_wp2_with fail
      go_roundw
      case rel => exact ⟨j + 1, by omega, by go_num, by rw [RE.out]; exact GA2.out, N2.out⟩
      case measure => simp [intOf]; omega
    · obtain rfl : j = gs.length := by omega
      have HGA := hide hga
      have HNX := hide hnx
      clear hnx hga
      have hji : ¬ ((gs.length : Int) < (gs.length : Int)) := by omega
      rw [List.take_length] at HGA
      go_wp2_with fail
      go_ret
      exact ⟨_, rfl, HGA.out, HNX.out⟩
end Go.Proofs.Ytfmmfophdfjopaa
namespace Go.Proofs.Ytfmmfophdfjopaa
open Go.RowKit
theorem infoL : (Try.prog.info? 38).map (fun i => (i.zero, i.size, i.bytes)) = some (some (.slice none 0 0), 1, 24) := by kernel_rfl
/-- groups as they come in -/
def GArgs (w : World) (v : Value) (gs : List GR) : Prop := ∃ (qs : List GQ) (ao : Option Addr) (g off cap : Nat), qs.length = gs.length ∧ v = .slice ao qs.length cap ∧ (0 < qs.length → ao = some ⟨g, off, none⟩) ∧ (0 < qs.length → g < w.heap.size) ∧ LiesG g off w qs ∧
    ∀ i (hi : i < gs.length) (hq : i < qs.length), qs[i].1 = gs[i].1 ∧ qs[i].2.2.1 = gs[i].2.length ∧ ∃ a b o, PairsAt w (.slice qs[i].2.1 gs[i].2.length qs[i].2.2.2) a b o qs[i].2.2.2 gs[i].2
abbrev TS := GR × Nat × Nat
def tG (t : TS) : GR × Value := (t.1, .slice (some ⟨t.2.1, 0, none⟩) t.1.2.length t.2.2)
def tP (t : TS) : Value := .slice (some ⟨t.2.1, 0, none⟩) (t.1.2.length + 2) t.2.2
theorem cell_one1 (w : World) (u : Value) (T : TypeId) (_ : u.oneCell' = true) : ∀ j x, [u][j]? = some x → (w.alloc (.cells #[u] T)).cell? ((⟨w.heap.size, 0, none⟩ : Addr).add j) = some x := by
  intro j x hx
  cases j with
  | zero => simp at hx; subst hx; simp [Addr.add]
  | succ j => simp at hx
theorem own_far {w : World} {base e s n b : Nat} {v : Value} {x : List Value} (h : w.ownsRow base e s v n x) (hb : b < base) : some b ≠ v.ownBlock := fun q => by
  have := (h.lt b q.symm).1
  omega
theorem far_cell {w w' : World} {row : Option Nat} {o : Obj} {b i : Nat} (hg : (w.alloc o).grownBy w' row) (hb : b < w.heap.size) (hr : some b ≠ row) : w'.cell? ⟨b, i, none⟩ = w.cell? ⟨b, i, none⟩ ∧ w'.frozen? ⟨b, i, none⟩ = w.frozen? ⟨b, i, none⟩ := by
  have hlt : b < (w.alloc o).heap.size := by simp; omega
  have q := (Below.refl w.heap.size w).alloc (Nat.le_refl _) o
  exact ⟨(hg.cell_far ⟨b, i, none⟩ hlt hr).trans (q.cell (by exact hb)), (hg.frozen_far ⟨b, i, none⟩ hlt hr).trans (q.frozen (by exact hb))⟩
theorem grown_set (w : World) (b i : Nat) (u : Value) : w.grownBy (w.setCell ⟨b, i, none⟩ u) (some b) := by
  refine ⟨rfl, rfl, rfl, by simp [World.setCell], fun k _ hk => ?_⟩
  exact Below.heap_setCell w ⟨b, i, none⟩ u k (fun e => hk (by rw [e]))
theorem own_set {w : World} {B e s n b i : Nat} {v u : Value} {x : List Value} (h : w.ownsRow B e s v n x) (hb : b < B) : (w.setCell ⟨b, i, none⟩ u).ownsRow B e s v n x := h.kept (grown_set w b i u) (.inr (own_far h hb).symm)
theorem row_pass {w w' : World} {B e s n e2 s2 n2 b i : Nat} {v v2 u : Value} {x x2 : List Value} {o : Obj} (h : w.ownsRow B e s v n x) (h2 : w.ownsRow B e2 s2 v2 n2 x2) (hne : e ≠ e2) (g : (w.alloc o).grownBy w' v2.ownBlock) (hb : b < B) : (w'.setCell ⟨b, i, none⟩ u).ownsRow B e s v n x := own_set (row_type (h.alloc o) (h2.alloc o) hne g) hb
theorem set_far {w : World} {b i b2 i2 : Nat} {u : Value} (h : ¬ (b = b2 ∧ i = i2)) : (w.setCell ⟨b, i, none⟩ u).cell? ⟨b2, i2, none⟩ = w.cell? ⟨b2, i2, none⟩ := World.cell?_setCell_other _ _ _ _ (by intro e; simp at e; exact h e)
theorem own_cap {w : World} {B e s n m c : Nat} {a : Option Addr} {x : List Value} (h : w.ownsRow B e s (.slice a n c) m x) : n ≤ c := by
  rcases h.2 with ⟨q, rfl⟩ | ⟨g, cap, cur, q, _, _, hle, _⟩
  · simp at q; omega
  · simp at q; omega
/-- how far hand is -/
def HI (w : World) (B hb : Nat) (vg vp : Value) (ts : List TS) : Prop :=
  (w.cell? ⟨hb, 0, none⟩ = some vg ∧ w.cell? ⟨hb, 1, none⟩ = some vp ∧ w.frozen? ⟨hb, 0, none⟩ = false ∧ w.frozen? ⟨hb, 1, none⟩ = false) ∧
  w.ownsRow B 41 2 vg ts.length (gcell (ts.map tG)) ∧ w.ownsRow B 38 1 vp ts.length (ts.map tP) ∧
  ∀ t ∈ ts, w.ownsRow B 55 2 (tP t) (t.1.2.length + 2) (pc (t.1.2 ++ [mark1, mark2]))
def bhd : ByteArray := ⟨#[98, 101, 104, 105, 110, 100]⟩
/-- what hand made -/
def HE (w : World) (B hb : Nat) (gs : List GR) : Prop := ∃ (vg vp : Value) (ts : List TS), ts.map (fun t => t.1) = gs ∧ (w.cell? ⟨hb, 0, none⟩ = some vg ∧ w.cell? ⟨hb, 1, none⟩ = some vp) ∧
  w.ownsRow B 41 2 vg (ts.length + 1) (gcell (ts.map tG) ++ gcell [((bhd, []), .slice none 0 0)]) ∧ w.ownsRow B 38 1 vp ts.length (ts.map tP) ∧
  ∀ t ∈ ts, w.ownsRow B 55 2 (tP t) (t.1.2.length + 2) (pc (t.1.2 ++ [mark1, mark2]))
end Go.Proofs.Ytfmmfophdfjopaa
namespace Go.Proofs.Ytfmmfophdfjopaa
open Go.RowKit
set_option maxHeartbeats 1000000 in
set_option maxRecDepth 100000 in
set_option linter.unusedSimpArgs false in
/-- sameGroups, of two lists that can be read and are the same -/
theorem sameGroups_lies (v1 v2 : Value) (gs : List GR) (w : World) (h1 : GLies w v1 gs) (h2 : GLies w v2 gs) (hlen : gs.length ≤ 1099511627776) (hps : ∀ g ∈ gs, g.2.length ≤ 1099511627776) :
    Calls Try.prog 10 #[v1, v2] w fun e w' => e = .returned (.bool true) ∧ Below w.heap.size w w' := by
  obtain ⟨qs1, a1, g1, of1, c1, hql1, rfl, h11, h12, h15, h16⟩ := h1
  obtain ⟨qs2, a2, g2, of2, c2, hql2, rfl, h21, h22, h25, h26⟩ := h2
  rw [hql1] at h11 h12 ⊢
  rw [hql2] at h21 h22 ⊢
  have H13 : Hid (∀ k (hk : k < gs.length), ∃ s : SQ, w.cell? ⟨g1, of1 + k * 2, none⟩ = some (.string gs[k].1) ∧ w.cell? ⟨g1, of1 + k * 2 + 1, none⟩ = some (.slice s.1 gs[k].2.length s.2.2) ∧ PLies w s gs[k].2) := fun k hk => by
    obtain ⟨e1, e2⟩ := h16 k hk (by omega)
    obtain ⟨c0, c1⟩ := h15 k (by omega)
    obtain ⟨b, o, y1, y2⟩ := e2
    rw [e1] at c0
    rw [y1] at c1
    exact ⟨_, c0, c1, b, o, y1, y2⟩
  have H23 : Hid (∀ k (hk : k < gs.length), ∃ s : SQ, w.cell? ⟨g2, of2 + k * 2, none⟩ = some (.string gs[k].1) ∧ w.cell? ⟨g2, of2 + k * 2 + 1, none⟩ = some (.slice s.1 gs[k].2.length s.2.2) ∧ PLies w s gs[k].2) := fun k hk => by
    obtain ⟨e1, e2⟩ := h26 k hk (by omega)
    obtain ⟨c0, c1⟩ := h25 k (by omega)
    obtain ⟨b, o, y1, y2⟩ := e2
    rw [e1] at c0
    rw [y1] at c1
    exact ⟨_, c0, c1, b, o, y1, y2⟩
  clear h15 h16 h25 h26
  go_enter Try.func10, Try.ntmps10
  go_wp2_with fail
  go_loopw [5] (fun i wr => ∃ k : Nat, k ≤ gs.length ∧ i = .int .i64 k ∧ Below w.heap.size w wr) (fun i _ => gs.length - (intOf i).toNat)
  case atStart => exact ⟨0, Nat.zero_le _, rfl, Below.refl _ _⟩
  case round =>
    obtain ⟨k, hk, rfl, hnx⟩ := hrel
    by_cases hlt : k < gs.length
    · obtain rfl := h11 (by omega)
      obtain rfl := h21 (by omega)
      have t1 := h12 (by omega)
      have t2 := h22 (by omega)
      obtain ⟨s1, d1, d2, d3⟩ := H13.out k hlt
      obtain ⟨s2, d4, d5, d6⟩ := H23.out k hlt
      rw [← hnx.cell (by exact t1)] at d1 d2
      rw [← hnx.cell (by exact t2)] at d4 d5
      obtain ⟨r1, w1, z1, x11, x12, x13⟩ := d3.below hnx
      obtain ⟨r2, w2, z2, x21, x22, x23⟩ := d6.below hnx
      have hkl := hps gs[k] (List.getElem_mem hlt)
      have SP := hide (fun w' (hb : Below wr.heap.size wr w') => samePairs_any s1.1 s2.1 r1 w1 s1.2.2 r2 w2 s2.2.2 gs[k].2 w' x11 x21 (fun h => Nat.lt_of_lt_of_le (x12 h) hb.size) (fun h => Nat.lt_of_lt_of_le (x22 h) hb.size) (fun i hi => by have := x12 (by omega); exact x13.below this hb i hi) (fun i hi => by have := x22 (by omega); exact x23.below this hb i hi) (by omega))
      have hk1 : (k : Int) < (gs.length : Int) := by omega
      have HNX := hide hnx
      clear hnx d3 d6 x11 x12 x13 x21 x22 x23 z1 z2
      generalize gs[k].1 = X at *
      generalize gs[k].2 = Y at *
      generalize hYN : Y.length = YN at *
      have HK : Hid (∀ w', Below wr.heap.size wr w' → World.cell? w' ⟨g1, of1 + k * 2, none⟩ = some (.string X) ∧ World.cell? w' ⟨g1, of1 + k * 2 + 1, none⟩ = some (.slice s1.1 YN s1.2.2) ∧ World.cell? w' ⟨g2, of2 + k * 2, none⟩ = some (.string X) ∧ World.cell? w' ⟨g2, of2 + k * 2 + 1, none⟩ = some (.slice s2.1 YN s2.2.2)) := fun w' hb => by
        have l1 : g1 < wr.heap.size := Nat.lt_of_lt_of_le t1 HNX.out.size
        have l2 : g2 < wr.heap.size := Nat.lt_of_lt_of_le t2 HNX.out.size
        rw [hb.cell (by exact l1), hb.cell (by exact l1), hb.cell (by exact l2), hb.cell (by exact l2)]
        exact ⟨d1, d2, d4, d5⟩
      obtain ⟨GN, hGN⟩ : ∃ GN, GN = gs.length := ⟨_, rfl⟩
      have hk2 : (k : Int) < (GN : Int) := by omega
      have HGN := hide hGN
      rw [← hGN]
      clear d1 d2 d4 d5 hk1 hGN hYN
      go_wp2_with fail
      refine wp_region_held_drew (S := fun w' => w'.cell? ⟨g1, of1 + k * 2, none⟩ = some (.string X) ∧ w'.cell? ⟨g1, of1 + k * 2 + 1, none⟩ = some (.slice s1.1 YN s1.2.2) ∧ w'.cell? ⟨g2, of2 + k * 2, none⟩ = some (.string X) ∧ w'.cell? ⟨g2, of2 + k * 2 + 1, none⟩ = some (.slice s2.1 YN s2.2.2)) (by kernel_rfl) (HK.out _ (Below.refl _ _).drew) (fun hHeld => ?_)
      refine wpAnyH_take (i := 0) (v := (.slice (some ⟨g1, of1, none⟩) GN c1)) rfl (by kernel_rfl) (by kernel_rfl) (by kernel_rfl) (fun _ _ _ h => h) (Or.inl ⟨by rfl, ?_⟩) (by assumption) ?_
      · intro w' hSw
        (try dsimp only at hSw)
        go_simp <;> first | exact i64_in (by omega) (by omega) | exact u32_in (by omega) (by omega) | exact u32_add _ _ | (rw [Int.tmod_eq_emod_of_nonneg (by omega)]; omega) | (rw [Int.tdiv_eq_ediv_of_nonneg (by omega)]; omega) | omega
      (try simp only [Act.put, List.setIfInBounds_toArray, List.set_cons_zero, List.set_cons_succ])
      refine wpAnyH_take (i := 1) (v := (.int .i64 (k : Int))) rfl (by kernel_rfl) (by kernel_rfl) (by kernel_rfl) (fun _ _ _ h => h) (Or.inl ⟨by rfl, ?_⟩) (by assumption) ?_
      · intro w' hSw
        (try dsimp only at hSw)
        go_simp <;> first | exact i64_in (by omega) (by omega) | exact u32_in (by omega) (by omega) | exact u32_add _ _ | (rw [Int.tmod_eq_emod_of_nonneg (by omega)]; omega) | (rw [Int.tdiv_eq_ediv_of_nonneg (by omega)]; omega) | omega
      (try simp only [Act.put, List.setIfInBounds_toArray, List.set_cons_zero, List.set_cons_succ])
      refine wpAnyH_take (i := 2) (v := (.pointer (some ⟨g1, of1 + k * 2, none⟩))) rfl (by kernel_rfl) (by kernel_rfl) (by kernel_rfl) (fun _ _ _ h => h) (Or.inl ⟨by rfl, ?_⟩) (by assumption) ?_
      · intro w' hSw
        (try dsimp only at hSw)
        go_simp <;> first | exact i64_in (by omega) (by omega) | exact u32_in (by omega) (by omega) | exact u32_add _ _ | (rw [Int.tmod_eq_emod_of_nonneg (by omega)]; omega) | (rw [Int.tdiv_eq_ediv_of_nonneg (by omega)]; omega) | omega
      (try simp only [Act.put, List.setIfInBounds_toArray, List.set_cons_zero, List.set_cons_succ])
      refine wpAnyH_take (i := 3) (v := (.pointer (some ⟨g1, of1 + k * 2, none⟩))) rfl (by kernel_rfl) (by kernel_rfl) (by kernel_rfl) (fun _ _ _ h => h) (Or.inl ⟨by rfl, ?_⟩) (by assumption) ?_
      · intro w' hSw
        (try dsimp only at hSw)
        go_simp <;> first | exact i64_in (by omega) (by omega) | exact u32_in (by omega) (by omega) | exact u32_add _ _ | (rw [Int.tmod_eq_emod_of_nonneg (by omega)]; omega) | (rw [Int.tdiv_eq_ediv_of_nonneg (by omega)]; omega) | omega
      (try simp only [Act.put, List.setIfInBounds_toArray, List.set_cons_zero, List.set_cons_succ])
      refine wpAnyH_take (i := 4) (v := (.string X)) rfl (by kernel_rfl) (by kernel_rfl) (by kernel_rfl) (fun _ _ _ h => h) (Or.inl ⟨by rfl, ?_⟩) (by assumption) ?_
      · intro w' hSw
        (try dsimp only at hSw)
        (obtain ⟨hS1, hS2, hS3, hS4⟩ := hSw; go_simp)
      (try simp only [Act.put, List.setIfInBounds_toArray, List.set_cons_zero, List.set_cons_succ])
      refine wpAnyH_take (i := 5) (v := (.slice (some ⟨g2, of2, none⟩) GN c2)) rfl (by kernel_rfl) (by kernel_rfl) (by kernel_rfl) (fun _ _ _ h => h) (Or.inl ⟨by rfl, ?_⟩) (by assumption) ?_
      · intro w' hSw
        (try dsimp only at hSw)
        go_simp <;> first | exact i64_in (by omega) (by omega) | exact u32_in (by omega) (by omega) | exact u32_add _ _ | (rw [Int.tmod_eq_emod_of_nonneg (by omega)]; omega) | (rw [Int.tdiv_eq_ediv_of_nonneg (by omega)]; omega) | omega
      (try simp only [Act.put, List.setIfInBounds_toArray, List.set_cons_zero, List.set_cons_succ])
      refine wpAnyH_take (i := 6) (v := (.int .i64 (k : Int))) rfl (by kernel_rfl) (by kernel_rfl) (by kernel_rfl) (fun _ _ _ h => h) (Or.inl ⟨by rfl, ?_⟩) (by assumption) ?_
      · intro w' hSw
        (try dsimp only at hSw)
        go_simp <;> first | exact i64_in (by omega) (by omega) | exact u32_in (by omega) (by omega) | exact u32_add _ _ | (rw [Int.tmod_eq_emod_of_nonneg (by omega)]; omega) | (rw [Int.tdiv_eq_ediv_of_nonneg (by omega)]; omega) | omega
      (try simp only [Act.put, List.setIfInBounds_toArray, List.set_cons_zero, List.set_cons_succ])
      refine wpAnyH_take (i := 7) (v := (.pointer (some ⟨g2, of2 + k * 2, none⟩))) rfl (by kernel_rfl) (by kernel_rfl) (by kernel_rfl) (fun _ _ _ h => h) (Or.inl ⟨by rfl, ?_⟩) (by assumption) ?_
      · intro w' hSw
        (try dsimp only at hSw)
        go_simp <;> first | exact i64_in (by omega) (by omega) | exact u32_in (by omega) (by omega) | exact u32_add _ _ | (rw [Int.tmod_eq_emod_of_nonneg (by omega)]; omega) | (rw [Int.tdiv_eq_ediv_of_nonneg (by omega)]; omega) | omega
      (try simp only [Act.put, List.setIfInBounds_toArray, List.set_cons_zero, List.set_cons_succ])
      refine wpAnyH_take (i := 8) (v := (.pointer (some ⟨g2, of2 + k * 2, none⟩))) rfl (by kernel_rfl) (by kernel_rfl) (by kernel_rfl) (fun _ _ _ h => h) (Or.inl ⟨by rfl, ?_⟩) (by assumption) ?_
      · intro w' hSw
        (try dsimp only at hSw)
        go_simp <;> first | exact i64_in (by omega) (by omega) | exact u32_in (by omega) (by omega) | exact u32_add _ _ | (rw [Int.tmod_eq_emod_of_nonneg (by omega)]; omega) | (rw [Int.tdiv_eq_ediv_of_nonneg (by omega)]; omega) | omega
      (try simp only [Act.put, List.setIfInBounds_toArray, List.set_cons_zero, List.set_cons_succ])
      refine wpAnyH_take (i := 9) (v := (.string X)) rfl (by kernel_rfl) (by kernel_rfl) (by kernel_rfl) (fun _ _ _ h => h) (Or.inl ⟨by rfl, ?_⟩) (by assumption) ?_
      · intro w' hSw
        (try dsimp only at hSw)
        (obtain ⟨hS1, hS2, hS3, hS4⟩ := hSw; go_simp)
      (try simp only [Act.put, List.setIfInBounds_toArray, List.set_cons_zero, List.set_cons_succ])
      refine wpAnyH_take (i := 10) (v := (.bool false)) rfl (by kernel_rfl) (by kernel_rfl) (by kernel_rfl) (fun _ _ _ h => h) (Or.inl ⟨by rfl, ?_⟩) (by assumption) ?_
      · intro w' hSw
        (try dsimp only at hSw)
        go_simp <;> first | exact i64_in (by omega) (by omega) | exact u32_in (by omega) (by omega) | exact u32_add _ _ | (rw [Int.tmod_eq_emod_of_nonneg (by omega)]; omega) | (rw [Int.tdiv_eq_ediv_of_nonneg (by omega)]; omega) | omega
      (try simp only [Act.put, List.setIfInBounds_toArray, List.set_cons_zero, List.set_cons_succ])
      refine wpAnyH_take (i := 11) (v := (.bool false)) rfl (by kernel_rfl) (by kernel_rfl) (by kernel_rfl) (fun _ _ _ h => h) (Or.inl ⟨by rfl, ?_⟩) (by assumption) ?_
      · intro w' hSw
        (try dsimp only at hSw)
        go_simp <;> first | exact i64_in (by omega) (by omega) | exact u32_in (by omega) (by omega) | exact u32_add _ _ | (rw [Int.tmod_eq_emod_of_nonneg (by omega)]; omega) | (rw [Int.tdiv_eq_ediv_of_nonneg (by omega)]; omega) | omega
      (try simp only [Act.put, List.setIfInBounds_toArray, List.set_cons_zero, List.set_cons_succ])
      refine wpAnyH_take (i := 12) (v := (.slice (some ⟨g1, of1, none⟩) GN c1)) rfl (by kernel_rfl) (by kernel_rfl) (by kernel_rfl) (fun _ _ _ h => h) (Or.inl ⟨by kernel_rfl, ?_⟩) (by assumption) ?_
      · intro w' hSw
        (try dsimp only at hSw)
        go_simp
      (try simp only [Act.put, List.setIfInBounds_toArray, List.set_cons_zero, List.set_cons_succ])
      refine wpAnyH_take (i := 13) (v := (.int .i64 (k : Int))) rfl (by kernel_rfl) (by kernel_rfl) (by kernel_rfl) (fun _ _ _ h => h) (Or.inl ⟨by kernel_rfl, ?_⟩) (by assumption) ?_
      · intro w' hSw
        (try dsimp only at hSw)
        go_simp
      (try simp only [Act.put, List.setIfInBounds_toArray, List.set_cons_zero, List.set_cons_succ])
      refine wpAnyH_take (i := 14) (v := (.pointer (some ⟨g1, of1 + k * 2, none⟩))) rfl (by kernel_rfl) (by kernel_rfl) (by kernel_rfl) (fun _ _ _ h => h) (Or.inl ⟨by kernel_rfl, ?_⟩) (by assumption) ?_
      · intro w' hSw
        (try dsimp only at hSw)
        go_simp
      (try simp only [Act.put, List.setIfInBounds_toArray, List.set_cons_zero, List.set_cons_succ])
      refine wpAnyH_take (i := 15) (v := (.pointer (some ⟨g1, of1 + k * 2 + 1, none⟩))) rfl (by kernel_rfl) (by kernel_rfl) (by kernel_rfl) (fun _ _ _ h => h) (Or.inl ⟨by kernel_rfl, ?_⟩) (by assumption) ?_
      · intro w' hSw
        (try dsimp only at hSw)
        go_simp
      (try simp only [Act.put, List.setIfInBounds_toArray, List.set_cons_zero, List.set_cons_succ])
      refine wpAnyH_take (i := 16) (v := (.slice s1.1 YN s1.2.2)) rfl (by kernel_rfl) (by kernel_rfl) (by kernel_rfl) (fun _ _ _ h => h) (Or.inl ⟨by kernel_rfl, ?_⟩) (by assumption) ?_
      · intro w' hSw
        (try dsimp only at hSw)
        (obtain ⟨hS1, hS2, hS3, hS4⟩ := hSw; go_simp)
      (try simp only [Act.put, List.setIfInBounds_toArray, List.set_cons_zero, List.set_cons_succ])
      refine wpAnyH_take (i := 17) (v := (.slice (some ⟨g2, of2, none⟩) GN c2)) rfl (by kernel_rfl) (by kernel_rfl) (by kernel_rfl) (fun _ _ _ h => h) (Or.inl ⟨by kernel_rfl, ?_⟩) (by assumption) ?_
      · intro w' hSw
        (try dsimp only at hSw)
        go_simp
      (try simp only [Act.put, List.setIfInBounds_toArray, List.set_cons_zero, List.set_cons_succ])
      refine wpAnyH_take (i := 18) (v := (.int .i64 (k : Int))) rfl (by kernel_rfl) (by kernel_rfl) (by kernel_rfl) (fun _ _ _ h => h) (Or.inl ⟨by kernel_rfl, ?_⟩) (by assumption) ?_
      · intro w' hSw
        (try dsimp only at hSw)
        go_simp
      (try simp only [Act.put, List.setIfInBounds_toArray, List.set_cons_zero, List.set_cons_succ])
      refine wpAnyH_take (i := 19) (v := (.pointer (some ⟨g2, of2 + k * 2, none⟩))) rfl (by kernel_rfl) (by kernel_rfl) (by kernel_rfl) (fun _ _ _ h => h) (Or.inl ⟨by kernel_rfl, ?_⟩) (by assumption) ?_
      · intro w' hSw
        (try dsimp only at hSw)
        go_simp
      (try simp only [Act.put, List.setIfInBounds_toArray, List.set_cons_zero, List.set_cons_succ])
      refine wpAnyH_take (i := 20) (v := (.pointer (some ⟨g2, of2 + k * 2 + 1, none⟩))) rfl (by kernel_rfl) (by kernel_rfl) (by kernel_rfl) (fun _ _ _ h => h) (Or.inl ⟨by kernel_rfl, ?_⟩) (by assumption) ?_
      · intro w' hSw
        (try dsimp only at hSw)
        go_simp
      (try simp only [Act.put, List.setIfInBounds_toArray, List.set_cons_zero, List.set_cons_succ])
      refine wpAnyH_take (i := 21) (v := (.slice s2.1 YN s2.2.2)) rfl (by kernel_rfl) (by kernel_rfl) (by kernel_rfl) (fun _ _ _ h => h) (Or.inl ⟨by kernel_rfl, ?_⟩) (by assumption) ?_
      · intro w' hSw
        (try dsimp only at hSw)
        (obtain ⟨hS1, hS2, hS3, hS4⟩ := hSw; go_simp)
      (try simp only [Act.put, List.setIfInBounds_toArray, List.set_cons_zero, List.set_cons_succ])
      refine wpAnyH_ready (rs := [22]) (by kernel_rfl) (by simp) ?_
      refine AllReadyH.cons rfl (fun K hK => ?_) AllReadyH.nil
      go_simp
      refine Calls.mono (SP.out _ (Below.refl _ _).drew) ?_
      rintro e w2 ⟨rfl, hb2⟩
      have B2 := (Below.refl wr.heap.size wr).drew.trans hb2
      refine hK.out _ _ (HK.out _ B2) (fun hHeld => ?_)
      clear hK
      (try simp only [Act.put, List.setIfInBounds_toArray, List.set_cons_zero, List.set_cons_succ])
      refine wpAnyH_ready (rs := [23]) (by kernel_rfl) (by simp) ?_
      refine AllReadyH.cons rfl (fun K hK => ?_) AllReadyH.nil
      go_simp
      refine hK.out _ _ (HK.out _ B2) (fun hHeld => ?_)
      clear hK
      (try simp only [Act.put, List.setIfInBounds_toArray, List.set_cons_zero, List.set_cons_succ])
      refine wpAnyH_ready (rs := [24]) (by kernel_rfl) (by simp) ?_
      refine AllReadyH.cons rfl (fun K hK => ?_) AllReadyH.nil
      go_simp
      refine hK.out _ _ (HK.out _ B2) (fun hHeld => ?_)
      clear hK
      (try simp only [Act.put, List.setIfInBounds_toArray, List.set_cons_zero, List.set_cons_succ])
      refine wpAnyH_done (by kernel_rfl) ?_ _
      go_wp2
      go_roundw
      case rel => exact ⟨k + 1, by omega, by go_num, HNX.out.trans (B2.mono HNX.out.size)⟩
      case measure => simp [intOf]; omega
    · have HNX := hide hnx
      clear hnx
      go_wp2
      go_ret
      exact ⟨rfl, HNX.out⟩
end Go.Proofs.Ytfmmfophdfjopaa
namespace Go.Proofs.Ytfmmfophdfjopaa
open Go.RowKit
theorem HE.below {w w' : World} {B hb : Nat} {gs : List GR} (h : HE w B hb gs) (hlt : hb < w.heap.size) (hb' : Below w.heap.size w w') : HE w' B hb gs := by
  obtain ⟨vg, vp, ts, h1, ⟨h2, h3⟩, h4, h5, h6⟩ := h
  refine ⟨vg, vp, ts, h1, ⟨?_, ?_⟩, own_below h4 hb', own_below h5 hb', fun t ht => own_below (h6 t ht) hb'⟩
  · rw [hb'.cell (by exact hlt)]; exact h2
  · rw [hb'.cell (by exact hlt)]; exact h3
theorem GArgs.lies {w : World} {v : Value} {gs : List GR} (h : GArgs w v gs) : GLies w v gs := by
  obtain ⟨qs, ao, g, off, cap, h1, h2, h3, h4, h5, h6⟩ := h
  refine ⟨qs, ao, g, off, cap, h1, h2, h3, h4, h5, fun i hi hq => ?_⟩
  obtain ⟨e1, e2, a, b, o, e3⟩ := h6 i hi hq
  refine ⟨e1, ?_⟩
  rcases e3 with ⟨_, z⟩ | ⟨z1, z2, z3⟩
  · rw [z] at e2 ⊢
    exact ⟨0, 0, e2, fun q => absurd q (by simp), fun q => absurd q (by simp), fun i hi => absurd hi (by simp)⟩
  · simp only [Value.slice.injEq] at z1
    exact ⟨b, o, e2, fun q => by rw [z1.1, (z2 q).1], fun q => (z2 q).2, z3⟩
theorem GArgs.below {w w' : World} {v : Value} {gs : List GR} (h : GArgs w v gs) (hb : Below w.heap.size w w') : GArgs w' v gs := by
  obtain ⟨qs, ao, g, off, cap, h1, h2, h3, h4, h5, h6⟩ := h
  refine ⟨qs, ao, g, off, cap, h1, h2, h3, fun z => Nat.lt_of_lt_of_le (h4 z) hb.size, fun i hi => h5.below (h4 (by omega)) hb i hi, fun i hi hq => ?_⟩
  obtain ⟨e1, e2, a, b, o, e3⟩ := h6 i hi hq
  exact ⟨e1, e2, a, b, o, e3.below hb⟩
/-- what hand made, one by one -/
theorem HE.parts {w : World} {B hb : Nat} {gs : List GR} (h : HE w B hb gs) : ∃ (g cg : Nat) (vp : Value) (ts : List TS), ts.map (fun t => t.1) = gs ∧ ts.length = gs.length ∧ w.cell? ⟨hb, 0, none⟩ = some (.slice (some ⟨g, 0, none⟩) (gs.length + 1) cg) ∧ w.cell? ⟨hb, 1, none⟩ = some vp ∧ gs.length + 1 ≤ cg ∧ g < w.heap.size ∧
    (∀ i (hi : i < ts.length), w.cell? ⟨g, i * 2, none⟩ = some (.string ts[i].1.1) ∧ w.cell? ⟨g, i * 2 + 1, none⟩ = some (.slice (some ⟨ts[i].2.1, 0, none⟩) ts[i].1.2.length ts[i].2.2)) ∧
    (w.cell? ⟨g, gs.length * 2, none⟩ = some (.string bhd) ∧ w.cell? ⟨g, gs.length * 2 + 1, none⟩ = some (.slice none 0 0)) ∧
    w.ownsRow B 38 1 vp ts.length (ts.map tP) ∧ ∀ t ∈ ts, w.ownsRow B 55 2 (tP t) (t.1.2.length + 2) (pc (t.1.2 ++ [mark1, mark2])) := by
  obtain ⟨vg, vp, ts, h1, ⟨h2, h3⟩, h4, h5, h6⟩ := h
  have hl : ts.length = gs.length := by rw [← h1, List.length_map]
  rcases h4.2 with ⟨_, h0⟩ | ⟨g, cg, cur, rfl, hg, hblk, hle, _⟩
  · omega
  · have hgl : (gcell (ts.map tG)).length = ts.length * 2 := by rw [gcell_len, List.length_map]
    have at' : ∀ k, k < (ts.length + 1) * 2 → w.cell? ⟨g, k, none⟩ = (gcell (ts.map tG) ++ gcell [((bhd, []), .slice none 0 0)])[k]? := fun k hk => h4.cellAt k hk
    refine ⟨g, cg, vp, ts, h1, hl, by rw [← hl]; exact h2, h3, by omega, row_lt h4, fun i hi => ?_, ?_, h5, h6⟩
    · rw [at' (i * 2) (by omega), at' (i * 2 + 1) (by omega), List.getElem?_append_left (by omega), List.getElem?_append_left (by omega)]
      have := gcell_at (ts.map tG) i (by rw [List.length_map]; exact hi)
      rw [List.getElem_map] at this
      exact this
    · rw [at' (gs.length * 2) (by omega), at' (gs.length * 2 + 1) (by omega), List.getElem?_append_right (by omega), List.getElem?_append_right (by omega), hgl, ← hl, Nat.sub_self, show ts.length * 2 + 1 - ts.length * 2 = 1 by omega]
      exact ⟨rfl, rfl⟩
theorem tP_lies {w : World} {B : Nat} {t : TS} (h : w.ownsRow B 55 2 (tP t) (t.1.2.length + 2) (pc (t.1.2 ++ [mark1, mark2]))) : t.2.1 < w.heap.size ∧ LiesP t.2.1 0 w (t.1.2 ++ [mark1, mark2]) ∧ LiesP t.2.1 0 w t.1.2 := by
  have h' : w.ownsRow B 55 2 (.slice (some ⟨t.2.1, 0, none⟩) (t.1.2 ++ [mark1, mark2]).length t.2.2) (t.1.2 ++ [mark1, mark2]).length (pc (t.1.2 ++ [mark1, mark2])) := by
    rw [List.length_append]; exact h
  obtain ⟨ao, g, cap, e, e1, e2, e3⟩ := own_pairs h'
  simp only [Value.slice.injEq] at e
  have q := e1 (by simp)
  rw [← e.1] at q
  simp at q
  rw [← q] at e2 e3
  refine ⟨e2 (by simp), e3, fun i hi => ?_⟩
  have := e3 i (by rw [List.length_append]; omega)
  rw [List.getElem_append_left hi] at this
  exact this
/-- the list that is handed in -/
theorem HE.lies {w : World} {B hb : Nat} {gs : List GR} (h : HE w B hb gs) {g cg : Nat} (hc : w.cell? ⟨hb, 0, none⟩ = some (.slice (some ⟨g, 0, none⟩) (gs.length + 1) cg)) (cap : Nat) : GLies w (.slice (some ⟨g, 0, none⟩) gs.length cap) gs := by
  obtain ⟨g', cg', vp, ts, h1, h2, h3, h4, h5, h6, h7, h8, h9, h10⟩ := h.parts
  rw [hc] at h3
  simp only [Option.some.injEq, Value.slice.injEq, Addr.mk.injEq, and_true, true_and] at h3
  obtain ⟨rfl, _⟩ := h3
  refine ⟨ts.map fun t => (t.1.1, (some ⟨t.2.1, 0, none⟩, t.1.2.length, t.2.2)), some ⟨g, 0, none⟩, g, 0, cap, by rw [List.length_map]; exact h2, by rw [List.length_map, h2], fun _ => rfl, fun _ => h6, fun i hi => ?_, fun i hi hq => ?_⟩
  · rw [List.length_map] at hi
    rw [List.getElem_map, Nat.zero_add]
    exact h7 i hi
  · have hti : i < ts.length := by omega
    have he : gs[i] = ts[i].1 := by
      have : gs[i]? = (ts.map (fun t => t.1))[i]? := by rw [h1]
      rw [List.getElem?_eq_getElem hi, List.getElem?_map, List.getElem?_eq_getElem hti] at this
      simpa using this
    rw [List.getElem_map, he]
    obtain ⟨z1, z2, z3⟩ := tP_lies (h10 ts[i] (List.getElem_mem hti))
    exact ⟨rfl, ts[i].2.1, 0, rfl, fun _ => rfl, fun _ => z1, z3⟩
end Go.Proofs.Ytfmmfophdfjopaa
namespace Go.Proofs.Ytfmmfophdfjopaa
open Go.RowKit
end Go.Proofs.Ytfmmfophdfjopaa
