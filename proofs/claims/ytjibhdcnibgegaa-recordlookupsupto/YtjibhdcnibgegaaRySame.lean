import Derived.Test.YtjibhdcnibgegaaRyPlain
namespace Go.Proofs.Ytjibhdcnibgegaa
open Go.RowKit
theorem gcell_len (ts : List (GR × Value)) : (gcell ts).length = ts.length * 2 := by
  induction ts with
  | nil => rfl
  | cons p r ih => unfold gcell at ih ⊢; rw [List.flatMap_cons, List.length_append, ih]; simp; omega
theorem gcell_at (ps : List (GR × Value)) : ∀ i (h : i < ps.length), (gcell ps)[i * 2]? = some (.string ps[i].1.1) ∧ (gcell ps)[i * 2 + 1]? = some ps[i].2 := by
  induction ps with
  | nil => intro i h; simp at h
  | cons p r ih =>
    intro i h
    cases i with
    | zero => exact ⟨rfl, rfl⟩
    | succ i =>
      have := ih i (by simpa using h)
      have e : gcell (p :: r) = .string p.1.1 :: p.2 :: gcell r := rfl
      rw [e, show (i + 1) * 2 = i * 2 + 1 + 1 by omega]
      simpa using this
/-- groups in memory, one by one -/
theorem GroupsAt.split {w : World} {base : Nat} {v : Value} {gs : List GR} (h : GroupsAt w base v gs) : ∃ ao g cap, v = .slice ao gs.length cap ∧ (0 < gs.length → ao = some ⟨g, 0, none⟩) ∧ (0 < gs.length → g < w.heap.size) ∧
    ∀ i (hi : i < gs.length), ∃ pv, w.cell? ⟨g, i * 2, none⟩ = some (.string gs[i].1) ∧ w.cell? ⟨g, i * 2 + 1, none⟩ = some pv ∧ w.ownsRow base 81 2 pv gs[i].2.length (pc gs[i].2) := by
  obtain ⟨ts, rfl, h2, h3⟩ := h
  simp only [List.length_map]
  rcases h2.2 with ⟨rfl, h0⟩ | ⟨g, cap, cur, rfl, hg, hblk, _⟩
  · obtain rfl := List.length_eq_zero_iff.1 h0
    exact ⟨none, 0, 0, rfl, fun k => by simp at k, fun k => by simp at k, fun i hi => by simp at hi⟩
  · refine ⟨some ⟨g, 0, none⟩, g, cap, rfl, fun _ => rfl, fun _ => row_lt h2, fun i hi => ⟨ts[i].2, ?_, ?_, ?_⟩⟩
    · rw [h2.cellAt (i * 2) (by omega), (gcell_at ts i hi).1, List.getElem_map]
    · rw [h2.cellAt (i * 2 + 1) (by omega), (gcell_at ts i hi).2]
    · rw [List.getElem_map]; exact h3 _ (List.getElem_mem hi)
set_option maxHeartbeats 1000000 in
set_option maxRecDepth 100000 in
set_option linter.unusedSimpArgs false in
/-- sameGroups, of two lists that are the same -/
theorem sameGroups_any (v1 v2 : Value) (b1 b2 : Nat) (gs : List GR) (w : World) (h1 : GroupsAt w b1 v1 gs) (h2 : GroupsAt w b2 v2 gs) (hlen : gs.length ≤ 1099511627776) (hps : ∀ g ∈ gs, g.2.length ≤ 1099511627776) :
    Calls Try.prog 26 #[v1, v2] w fun e w' => e = .returned (.bool true) ∧ Below w.heap.size w w' := by
  obtain ⟨a1, g1, c1, rfl, h11, h12, h13⟩ := h1.split
  obtain ⟨a2, g2, c2, rfl, h21, h22, h23⟩ := h2.split
  have H13 := hide h13
  have H23 := hide h23
  clear h1 h2 h13 h23
  go_enter Try.func26, Try.ntmps26
  go_wp2_with fail
  go_loopw [5] (fun i wr => ∃ k : Nat, k ≤ gs.length ∧ i = .int .i64 k ∧ Below w.heap.size w wr) (fun i _ => gs.length - (intOf i).toNat)
  case atStart => exact ⟨0, Nat.zero_le _, rfl, Below.refl _ _⟩
  case round =>
    obtain ⟨k, hk, rfl, hnx⟩ := hrel
    by_cases hlt : k < gs.length
    · obtain rfl := h11 (by omega)
      obtain rfl := h21 (by omega)
      have t1 := h12 (by omega)
      have t2 := h22 (by omega)
      obtain ⟨p1, d1, d2, d3⟩ := H13.out k hlt
      obtain ⟨p2, d4, d5, d6⟩ := H23.out k hlt
      rw [← hnx.cell (by exact t1)] at d1 d2
      rw [← hnx.cell (by exact t2)] at d4 d5
      have o1 := own_below d3 hnx
      have o2 := own_below d6 hnx
      obtain ⟨q1, r1, u1, rfl, x11, x12, x13⟩ := own_pairs o1
      obtain ⟨q2, r2, u2, rfl, x21, x22, x23⟩ := own_pairs o2
      have hkl := hps gs[k] (List.getElem_mem hlt)
      have SP := hide (fun w' (hb : Below wr.heap.size wr w') => samePairs_any q1 q2 r1 0 u1 r2 0 u2 gs[k].2 w' x11 x21 (fun h => Nat.lt_of_lt_of_le (x12 h) hb.size) (fun h => Nat.lt_of_lt_of_le (x22 h) hb.size) (fun i hi => by have := x12 (by omega); exact x13.below this hb i hi) (fun i hi => by have := x22 (by omega); exact x23.below this hb i hi) (by omega))
      have hk1 : (k : Int) < (gs.length : Int) := by omega
      have HNX := hide hnx
      clear hnx o1 o2 d3 d6 x11 x12 x13 x21 x22 x23
      generalize gs[k].1 = X at *
      generalize gs[k].2 = Y at *
      generalize hYN : Y.length = YN at *
      have HK : Hid (∀ w', Below wr.heap.size wr w' → World.cell? w' ⟨g1, k * 2, none⟩ = some (.string X) ∧ World.cell? w' ⟨g1, k * 2 + 1, none⟩ = some (.slice q1 YN u1) ∧ World.cell? w' ⟨g2, k * 2, none⟩ = some (.string X) ∧ World.cell? w' ⟨g2, k * 2 + 1, none⟩ = some (.slice q2 YN u2)) := fun w' hb => by
        have l1 : g1 < wr.heap.size := Nat.lt_of_lt_of_le t1 HNX.out.size
        have l2 : g2 < wr.heap.size := Nat.lt_of_lt_of_le t2 HNX.out.size
        rw [hb.cell (by exact l1), hb.cell (by exact l1), hb.cell (by exact l2), hb.cell (by exact l2)]
        exact ⟨d1, d2, d4, d5⟩
      obtain ⟨GN, hGN⟩ : ∃ GN, GN = gs.length := ⟨_, rfl⟩
      have hk2 : (k : Int) < (GN : Int) := by omega
      have HGN := hide hGN
      rw [← hGN]
      clear d1 d2 d4 d5 hk1 hGN hYN
      go_wp2_with fail
      refine wp_region_held_drew (S := fun w' => w'.cell? ⟨g1, k * 2, none⟩ = some (.string X) ∧ w'.cell? ⟨g1, k * 2 + 1, none⟩ = some (.slice q1 YN u1) ∧ w'.cell? ⟨g2, k * 2, none⟩ = some (.string X) ∧ w'.cell? ⟨g2, k * 2 + 1, none⟩ = some (.slice q2 YN u2)) (by kernel_rfl) (HK.out _ (Below.refl _ _).drew) (fun hHeld => ?_)
      refine wpAnyH_take (i := 0) (v := (.slice (some ⟨g1, 0, none⟩) GN c1)) rfl (by kernel_rfl) (by kernel_rfl) (by kernel_rfl) (fun _ _ _ h => h) (Or.inl ⟨by rfl, ?_⟩) (by assumption) ?_
      · intro w' hSw
        (try dsimp only at hSw)
        go_simp <;> first | exact i64_in (by omega) (by omega) | exact u32_in (by omega) (by omega) | exact u32_add _ _ | (rw [Int.tmod_eq_emod_of_nonneg (by omega)]; omega) | (rw [Int.tdiv_eq_ediv_of_nonneg (by omega)]; omega) | omega
      (try simp only [Act.put, List.setIfInBounds_toArray, List.set_cons_zero, List.set_cons_succ])
      refine wpAnyH_take (i := 1) (v := (.int .i64 (k : Int))) rfl (by kernel_rfl) (by kernel_rfl) (by kernel_rfl) (fun _ _ _ h => h) (Or.inl ⟨by rfl, ?_⟩) (by assumption) ?_
      · intro w' hSw
        (try dsimp only at hSw)
        go_simp <;> first | exact i64_in (by omega) (by omega) | exact u32_in (by omega) (by omega) | exact u32_add _ _ | (rw [Int.tmod_eq_emod_of_nonneg (by omega)]; omega) | (rw [Int.tdiv_eq_ediv_of_nonneg (by omega)]; omega) | omega
      (try simp only [Act.put, List.setIfInBounds_toArray, List.set_cons_zero, List.set_cons_succ])
      refine wpAnyH_take (i := 2) (v := (.pointer (some ⟨g1, k * 2, none⟩))) rfl (by kernel_rfl) (by kernel_rfl) (by kernel_rfl) (fun _ _ _ h => h) (Or.inl ⟨by rfl, ?_⟩) (by assumption) ?_
      · intro w' hSw
        (try dsimp only at hSw)
        go_simp <;> first | exact i64_in (by omega) (by omega) | exact u32_in (by omega) (by omega) | exact u32_add _ _ | (rw [Int.tmod_eq_emod_of_nonneg (by omega)]; omega) | (rw [Int.tdiv_eq_ediv_of_nonneg (by omega)]; omega) | omega
      (try simp only [Act.put, List.setIfInBounds_toArray, List.set_cons_zero, List.set_cons_succ])
      refine wpAnyH_take (i := 3) (v := (.pointer (some ⟨g1, k * 2, none⟩))) rfl (by kernel_rfl) (by kernel_rfl) (by kernel_rfl) (fun _ _ _ h => h) (Or.inl ⟨by rfl, ?_⟩) (by assumption) ?_
      · intro w' hSw
        (try dsimp only at hSw)
        go_simp <;> first | exact i64_in (by omega) (by omega) | exact u32_in (by omega) (by omega) | exact u32_add _ _ | (rw [Int.tmod_eq_emod_of_nonneg (by omega)]; omega) | (rw [Int.tdiv_eq_ediv_of_nonneg (by omega)]; omega) | omega
      (try simp only [Act.put, List.setIfInBounds_toArray, List.set_cons_zero, List.set_cons_succ])
      refine wpAnyH_take (i := 4) (v := (.string X)) rfl (by kernel_rfl) (by kernel_rfl) (by kernel_rfl) (fun _ _ _ h => h) (Or.inl ⟨by rfl, ?_⟩) (by assumption) ?_
      · intro w' hSw
        (try dsimp only at hSw)
        (obtain ⟨hS1, hS2, hS3, hS4⟩ := hSw; go_simp)
      (try simp only [Act.put, List.setIfInBounds_toArray, List.set_cons_zero, List.set_cons_succ])
      refine wpAnyH_take (i := 5) (v := (.slice (some ⟨g2, 0, none⟩) GN c2)) rfl (by kernel_rfl) (by kernel_rfl) (by kernel_rfl) (fun _ _ _ h => h) (Or.inl ⟨by rfl, ?_⟩) (by assumption) ?_
      · intro w' hSw
        (try dsimp only at hSw)
        go_simp <;> first | exact i64_in (by omega) (by omega) | exact u32_in (by omega) (by omega) | exact u32_add _ _ | (rw [Int.tmod_eq_emod_of_nonneg (by omega)]; omega) | (rw [Int.tdiv_eq_ediv_of_nonneg (by omega)]; omega) | omega
      (try simp only [Act.put, List.setIfInBounds_toArray, List.set_cons_zero, List.set_cons_succ])
      refine wpAnyH_take (i := 6) (v := (.int .i64 (k : Int))) rfl (by kernel_rfl) (by kernel_rfl) (by kernel_rfl) (fun _ _ _ h => h) (Or.inl ⟨by rfl, ?_⟩) (by assumption) ?_
      · intro w' hSw
        (try dsimp only at hSw)
        go_simp <;> first | exact i64_in (by omega) (by omega) | exact u32_in (by omega) (by omega) | exact u32_add _ _ | (rw [Int.tmod_eq_emod_of_nonneg (by omega)]; omega) | (rw [Int.tdiv_eq_ediv_of_nonneg (by omega)]; omega) | omega
      (try simp only [Act.put, List.setIfInBounds_toArray, List.set_cons_zero, List.set_cons_succ])
      refine wpAnyH_take (i := 7) (v := (.pointer (some ⟨g2, k * 2, none⟩))) rfl (by kernel_rfl) (by kernel_rfl) (by kernel_rfl) (fun _ _ _ h => h) (Or.inl ⟨by rfl, ?_⟩) (by assumption) ?_
      · intro w' hSw
        (try dsimp only at hSw)
        go_simp <;> first | exact i64_in (by omega) (by omega) | exact u32_in (by omega) (by omega) | exact u32_add _ _ | (rw [Int.tmod_eq_emod_of_nonneg (by omega)]; omega) | (rw [Int.tdiv_eq_ediv_of_nonneg (by omega)]; omega) | omega
      (try simp only [Act.put, List.setIfInBounds_toArray, List.set_cons_zero, List.set_cons_succ])
      refine wpAnyH_take (i := 8) (v := (.pointer (some ⟨g2, k * 2, none⟩))) rfl (by kernel_rfl) (by kernel_rfl) (by kernel_rfl) (fun _ _ _ h => h) (Or.inl ⟨by rfl, ?_⟩) (by assumption) ?_
      · intro w' hSw
        (try dsimp only at hSw)
        go_simp <;> first | exact i64_in (by omega) (by omega) | exact u32_in (by omega) (by omega) | exact u32_add _ _ | (rw [Int.tmod_eq_emod_of_nonneg (by omega)]; omega) | (rw [Int.tdiv_eq_ediv_of_nonneg (by omega)]; omega) | omega
      (try simp only [Act.put, List.setIfInBounds_toArray, List.set_cons_zero, List.set_cons_succ])
      refine wpAnyH_take (i := 9) (v := (.string X)) rfl (by kernel_rfl) (by kernel_rfl) (by kernel_rfl) (fun _ _ _ h => h) (Or.inl ⟨by rfl, ?_⟩) (by assumption) ?_
      · intro w' hSw
        (try dsimp only at hSw)
        (obtain ⟨hS1, hS2, hS3, hS4⟩ := hSw; go_simp)
      (try simp only [Act.put, List.setIfInBounds_toArray, List.set_cons_zero, List.set_cons_succ])
      refine wpAnyH_take (i := 10) (v := (.bool false)) rfl (by kernel_rfl) (by kernel_rfl) (by kernel_rfl) (fun _ _ _ h => h) (Or.inl ⟨by rfl, ?_⟩) (by assumption) ?_
      · intro w' hSw
        (try dsimp only at hSw)
        go_simp <;> first | exact i64_in (by omega) (by omega) | exact u32_in (by omega) (by omega) | exact u32_add _ _ | (rw [Int.tmod_eq_emod_of_nonneg (by omega)]; omega) | (rw [Int.tdiv_eq_ediv_of_nonneg (by omega)]; omega) | omega
      (try simp only [Act.put, List.setIfInBounds_toArray, List.set_cons_zero, List.set_cons_succ])
      refine wpAnyH_take (i := 11) (v := (.bool false)) rfl (by kernel_rfl) (by kernel_rfl) (by kernel_rfl) (fun _ _ _ h => h) (Or.inl ⟨by rfl, ?_⟩) (by assumption) ?_
      · intro w' hSw
        (try dsimp only at hSw)
        go_simp <;> first | exact i64_in (by omega) (by omega) | exact u32_in (by omega) (by omega) | exact u32_add _ _ | (rw [Int.tmod_eq_emod_of_nonneg (by omega)]; omega) | (rw [Int.tdiv_eq_ediv_of_nonneg (by omega)]; omega) | omega
      (try simp only [Act.put, List.setIfInBounds_toArray, List.set_cons_zero, List.set_cons_succ])
      refine wpAnyH_take (i := 12) (v := (.slice (some ⟨g1, 0, none⟩) GN c1)) rfl (by kernel_rfl) (by kernel_rfl) (by kernel_rfl) (fun _ _ _ h => h) (Or.inl ⟨by kernel_rfl, ?_⟩) (by assumption) ?_
      · intro w' hSw
        (try dsimp only at hSw)
        go_simp
      (try simp only [Act.put, List.setIfInBounds_toArray, List.set_cons_zero, List.set_cons_succ])
      refine wpAnyH_take (i := 13) (v := (.int .i64 (k : Int))) rfl (by kernel_rfl) (by kernel_rfl) (by kernel_rfl) (fun _ _ _ h => h) (Or.inl ⟨by kernel_rfl, ?_⟩) (by assumption) ?_
      · intro w' hSw
        (try dsimp only at hSw)
        go_simp
      (try simp only [Act.put, List.setIfInBounds_toArray, List.set_cons_zero, List.set_cons_succ])
      refine wpAnyH_take (i := 14) (v := (.pointer (some ⟨g1, k * 2, none⟩))) rfl (by kernel_rfl) (by kernel_rfl) (by kernel_rfl) (fun _ _ _ h => h) (Or.inl ⟨by kernel_rfl, ?_⟩) (by assumption) ?_
      · intro w' hSw
        (try dsimp only at hSw)
        go_simp
      (try simp only [Act.put, List.setIfInBounds_toArray, List.set_cons_zero, List.set_cons_succ])
      refine wpAnyH_take (i := 15) (v := (.pointer (some ⟨g1, k * 2 + 1, none⟩))) rfl (by kernel_rfl) (by kernel_rfl) (by kernel_rfl) (fun _ _ _ h => h) (Or.inl ⟨by kernel_rfl, ?_⟩) (by assumption) ?_
      · intro w' hSw
        (try dsimp only at hSw)
        go_simp
      (try simp only [Act.put, List.setIfInBounds_toArray, List.set_cons_zero, List.set_cons_succ])
      refine wpAnyH_take (i := 16) (v := (.slice q1 YN u1)) rfl (by kernel_rfl) (by kernel_rfl) (by kernel_rfl) (fun _ _ _ h => h) (Or.inl ⟨by kernel_rfl, ?_⟩) (by assumption) ?_
      · intro w' hSw
        (try dsimp only at hSw)
        (obtain ⟨hS1, hS2, hS3, hS4⟩ := hSw; go_simp)
      (try simp only [Act.put, List.setIfInBounds_toArray, List.set_cons_zero, List.set_cons_succ])
      refine wpAnyH_take (i := 17) (v := (.slice (some ⟨g2, 0, none⟩) GN c2)) rfl (by kernel_rfl) (by kernel_rfl) (by kernel_rfl) (fun _ _ _ h => h) (Or.inl ⟨by kernel_rfl, ?_⟩) (by assumption) ?_
      · intro w' hSw
        (try dsimp only at hSw)
        go_simp
      (try simp only [Act.put, List.setIfInBounds_toArray, List.set_cons_zero, List.set_cons_succ])
      refine wpAnyH_take (i := 18) (v := (.int .i64 (k : Int))) rfl (by kernel_rfl) (by kernel_rfl) (by kernel_rfl) (fun _ _ _ h => h) (Or.inl ⟨by kernel_rfl, ?_⟩) (by assumption) ?_
      · intro w' hSw
        (try dsimp only at hSw)
        go_simp
      (try simp only [Act.put, List.setIfInBounds_toArray, List.set_cons_zero, List.set_cons_succ])
      refine wpAnyH_take (i := 19) (v := (.pointer (some ⟨g2, k * 2, none⟩))) rfl (by kernel_rfl) (by kernel_rfl) (by kernel_rfl) (fun _ _ _ h => h) (Or.inl ⟨by kernel_rfl, ?_⟩) (by assumption) ?_
      · intro w' hSw
        (try dsimp only at hSw)
        go_simp
      (try simp only [Act.put, List.setIfInBounds_toArray, List.set_cons_zero, List.set_cons_succ])
      refine wpAnyH_take (i := 20) (v := (.pointer (some ⟨g2, k * 2 + 1, none⟩))) rfl (by kernel_rfl) (by kernel_rfl) (by kernel_rfl) (fun _ _ _ h => h) (Or.inl ⟨by kernel_rfl, ?_⟩) (by assumption) ?_
      · intro w' hSw
        (try dsimp only at hSw)
        go_simp
      (try simp only [Act.put, List.setIfInBounds_toArray, List.set_cons_zero, List.set_cons_succ])
      refine wpAnyH_take (i := 21) (v := (.slice q2 YN u2)) rfl (by kernel_rfl) (by kernel_rfl) (by kernel_rfl) (fun _ _ _ h => h) (Or.inl ⟨by kernel_rfl, ?_⟩) (by assumption) ?_
      · intro w' hSw
        (try dsimp only at hSw)
        (obtain ⟨hS1, hS2, hS3, hS4⟩ := hSw; go_simp)
      (try simp only [Act.put, List.setIfInBounds_toArray, List.set_cons_zero, List.set_cons_succ])
      refine wpAnyH_ready (rs := [22]) (by kernel_rfl) (by simp) ?_
      refine AllReadyH.cons rfl (fun K hK => ?_) AllReadyH.nil
      go_simp
      refine Calls.mono (SP.out _ (Below.refl _ _).drew) ?_
      rintro e w2 ⟨rfl, hb2⟩
      have B2 := (Below.refl wr.heap.size wr).drew.trans hb2
      refine hK.out _ _ (HK.out _ B2) (fun hHeld => ?_)
      clear hK
      (try simp only [Act.put, List.setIfInBounds_toArray, List.set_cons_zero, List.set_cons_succ])
      refine wpAnyH_ready (rs := [23]) (by kernel_rfl) (by simp) ?_
      refine AllReadyH.cons rfl (fun K hK => ?_) AllReadyH.nil
      go_simp
      refine hK.out _ _ (HK.out _ B2) (fun hHeld => ?_)
      clear hK
      (try simp only [Act.put, List.setIfInBounds_toArray, List.set_cons_zero, List.set_cons_succ])
      refine wpAnyH_ready (rs := [24]) (by kernel_rfl) (by simp) ?_
      refine AllReadyH.cons rfl (fun K hK => ?_) AllReadyH.nil
      go_simp
      refine hK.out _ _ (HK.out _ B2) (fun hHeld => ?_)
      clear hK
      (try simp only [Act.put, List.setIfInBounds_toArray, List.set_cons_zero, List.set_cons_succ])
      refine wpAnyH_done (by kernel_rfl) ?_ _
      go_wp2
      go_roundw
      case rel => exact ⟨k + 1, by omega, by go_num, HNX.out.trans (B2.mono HNX.out.size)⟩
      case measure => simp [intOf]; omega
    · have HNX := hide hnx
      clear hnx
      go_wp2
      go_ret
      exact ⟨rfl, HNX.out⟩
end Go.Proofs.Ytjibhdcnibgegaa
