import Derived.Test.YthihmgdefbahpaaRkHand
import Derived.Test.YthihmgdefbahpaaRows
import Derived.ProofKit
import Derived.OpenShut
import Derived.SizedLaws
import Derived.SliceStrings
import Derived.Deep.SlicePairs
namespace Go.Proofs.Ythihmgdefbahpaa
open Go.RowKit
set_option maxHeartbeats 1000000 in
set_option maxRecDepth 100000 in
set_option linter.unusedSimpArgs false in
/-- sameGroups, of two lists that can be read and are the same -/
theorem sameGroups_lies (v1 v2 : Value) (gs : List GR) (w : World) (h1 : GLies w v1 gs) (h2 : GLies w v2 gs) (hlen : gs.length ≤ 1099511627776) (hps : ∀ g ∈ gs, g.2.length ≤ 1099511627776) :
    Calls Try.prog 26 #[v1, v2] w fun e w' => e = .returned (.bool true) ∧ Below w.heap.size w w' := by
  obtain ⟨qs1, a1, g1, of1, c1, hql1, rfl, h11, h12, h15, h16⟩ := h1
  obtain ⟨qs2, a2, g2, of2, c2, hql2, rfl, h21, h22, h25, h26⟩ := h2
  rw [hql1] at h11 h12 ⊢
  rw [hql2] at h21 h22 ⊢
  have H13 : Hid (∀ k (hk : k < gs.length), ∃ s : SQ, w.cell? ⟨g1, of1 + k * 2, none⟩ = some (.string gs[k].1) ∧ w.cell? ⟨g1, of1 + k * 2 + 1, none⟩ = some (.slice s.1 gs[k].2.length s.2.2) ∧ PLies w s gs[k].2) := fun k hk => by
    obtain ⟨e1, e2⟩ := h16 k hk (by omega)
    obtain ⟨c0, c1⟩ := h15 k (by omega)
    obtain ⟨b, o, y1, y2⟩ := e2
    rw [e1] at c0
    rw [y1] at c1
    exact ⟨_, c0, c1, b, o, y1, y2⟩
  have H23 : Hid (∀ k (hk : k < gs.length), ∃ s : SQ, w.cell? ⟨g2, of2 + k * 2, none⟩ = some (.string gs[k].1) ∧ w.cell? ⟨g2, of2 + k * 2 + 1, none⟩ = some (.slice s.1 gs[k].2.length s.2.2) ∧ PLies w s gs[k].2) := fun k hk => by
    obtain ⟨e1, e2⟩ := h26 k hk (by omega)
    obtain ⟨c0, c1⟩ := h25 k (by omega)
    obtain ⟨b, o, y1, y2⟩ := e2
    rw [e1] at c0
    rw [y1] at c1
    exact ⟨_, c0, c1, b, o, y1, y2⟩
  clear h15 h16 h25 h26
  go_enter Try.func26, Try.ntmps26
  go_wp2_with fail
  go_loopw [5] (fun i wr => ∃ k : Nat, k ≤ gs.length ∧ i = .int .i64 k ∧ Below w.heap.size w wr) (fun i _ => gs.length - (intOf i).toNat)
  case atStart => exact ⟨0, Nat.zero_le _, rfl, Below.refl _ _⟩
  case round =>
    obtain ⟨k, hk, rfl, hnx⟩ := hrel
    by_cases hlt : k < gs.length
    · obtain rfl := h11 (by omega)
      obtain rfl := h21 (by omega)
      have t1 := h12 (by omega)
      have t2 := h22 (by omega)
      obtain ⟨s1, d1, d2, d3⟩ := H13.out k hlt
      obtain ⟨s2, d4, d5, d6⟩ := H23.out k hlt
      rw [← hnx.cell (by exact t1)] at d1 d2
      rw [← hnx.cell (by exact t2)] at d4 d5
      obtain ⟨r1, w1, z1, x11, x12, x13⟩ := d3.below hnx
      obtain ⟨r2, w2, z2, x21, x22, x23⟩ := d6.below hnx
      have hkl := hps gs[k] (List.getElem_mem hlt)
      have SP := hide (fun w' (hb : Below wr.heap.size wr w') => samePairs_any s1.1 s2.1 r1 w1 s1.2.2 r2 w2 s2.2.2 gs[k].2 w' x11 x21 (fun h => Nat.lt_of_lt_of_le (x12 h) hb.size) (fun h => Nat.lt_of_lt_of_le (x22 h) hb.size) (fun i hi => by have := x12 (by omega); exact x13.below this hb i hi) (fun i hi => by have := x22 (by omega); exact x23.below this hb i hi) (by omega))
      have hk1 : (k : Int) < (gs.length : Int) := by omega
      have HNX := hide hnx
      clear hnx d3 d6 x11 x12 x13 x21 x22 x23 z1 z2
      generalize gs[k].1 = X at *
      generalize gs[k].2 = Y at *
      generalize hYN : Y.length = YN at *
      have HK : Hid (∀ w', Below wr.heap.size wr w' → World.cell? w' ⟨g1, of1 + k * 2, none⟩ = some (.string X) ∧ World.cell? w' ⟨g1, of1 + k * 2 + 1, none⟩ = some (.slice s1.1 YN s1.2.2) ∧ World.cell? w' ⟨g2, of2 + k * 2, none⟩ = some (.string X) ∧ World.cell? w' ⟨g2, of2 + k * 2 + 1, none⟩ = some (.slice s2.1 YN s2.2.2)) := fun w' hb => by
        have l1 : g1 < wr.heap.size := Nat.lt_of_lt_of_le t1 HNX.out.size
        have l2 : g2 < wr.heap.size := Nat.lt_of_lt_of_le t2 HNX.out.size
        rw [hb.cell (by exact l1), hb.cell (by exact l1), hb.cell (by exact l2), hb.cell (by exact l2)]
        exact ⟨d1, d2, d4, d5⟩
      obtain ⟨GN, hGN⟩ : ∃ GN, GN = gs.length := ⟨_, rfl⟩
      have hk2 : (k : Int) < (GN : Int) := by omega
      have HGN := hide hGN
      rw [← hGN]
      clear d1 d2 d4 d5 hk1 hGN hYN
      go_wp2_with fail
      refine wp_region_held_drew (S := fun w' => w'.cell? ⟨g1, of1 + k * 2, none⟩ = some (.string X) ∧ w'.cell? ⟨g1, of1 + k * 2 + 1, none⟩ = some (.slice s1.1 YN s1.2.2) ∧ w'.cell? ⟨g2, of2 + k * 2, none⟩ = some (.string X) ∧ w'.cell? ⟨g2, of2 + k * 2 + 1, none⟩ = some (.slice s2.1 YN s2.2.2)) (by kernel_rfl) (HK.out _ (Below.refl _ _).drew) (fun hHeld => ?_)
      refine wpAnyH_take (i := 0) (v := (.slice (some ⟨g1, of1, none⟩) GN c1)) rfl (by kernel_rfl) (by kernel_rfl) (by kernel_rfl) (fun _ _ _ h => h) (Or.inl ⟨by rfl, ?_⟩) (by assumption) ?_
      · intro w' hSw
        (try dsimp only at hSw)
        go_simp <;> first | exact i64_in (by omega) (by omega) | exact u32_in (by omega) (by omega) | exact u32_add _ _ | (rw [Int.tmod_eq_emod_of_nonneg (by omega)]; omega) | (rw [Int.tdiv_eq_ediv_of_nonneg (by omega)]; omega) | omega
      (try simp only [Act.put, List.setIfInBounds_toArray, List.set_cons_zero, List.set_cons_succ])
      refine wpAnyH_take (i := 1) (v := (.int .i64 (k : Int))) rfl (by kernel_rfl) (by kernel_rfl) (by kernel_rfl) (fun _ _ _ h => h) (Or.inl ⟨by rfl, ?_⟩) (by assumption) ?_
      · intro w' hSw
        (try dsimp only at hSw)
        go_simp <;> first | exact i64_in (by omega) (by omega) | exact u32_in (by omega) (by omega) | exact u32_add _ _ | (rw [Int.tmod_eq_emod_of_nonneg (by omega)]; omega) | (rw [Int.tdiv_eq_ediv_of_nonneg (by omega)]; omega) | omega
      (try simp only [Act.put, List.setIfInBounds_toArray, List.set_cons_zero, List.set_cons_succ])
      refine wpAnyH_take (i := 2) (v := (.pointer (some ⟨g1, of1 + k * 2, none⟩))) rfl (by kernel_rfl) (by kernel_rfl) (by kernel_rfl) (fun _ _ _ h => h) (Or.inl ⟨by rfl, ?_⟩) (by assumption) ?_
      · intro w' hSw
        (try dsimp only at hSw)
        go_simp <;> first | exact i64_in (by omega) (by omega) | exact u32_in (by omega) (by omega) | exact u32_add _ _ | (rw [Int.tmod_eq_emod_of_nonneg (by omega)]; omega) | (rw [Int.tdiv_eq_ediv_of_nonneg (by omega)]; omega) | omega
      (try simp only [Act.put, List.setIfInBounds_toArray, List.set_cons_zero, List.set_cons_succ])
      refine wpAnyH_take (i := 3) (v := (.pointer (some ⟨g1, of1 + k * 2, none⟩))) rfl (by kernel_rfl) (by kernel_rfl) (by kernel_rfl) (fun _ _ _ h => h) (Or.inl ⟨by rfl, ?_⟩) (by assumption) ?_
      · intro w' hSw
        (try dsimp only at hSw)
        go_simp <;> first | exact i64_in (by omega) (by omega) | exact u32_in (by omega) (by omega) | exact u32_add _ _ | (rw [Int.tmod_eq_emod_of_nonneg (by omega)]; omega) | (rw [Int.tdiv_eq_ediv_of_nonneg (by omega)]; omega) | omega
      (try simp only [Act.put, List.setIfInBounds_toArray, List.set_cons_zero, List.set_cons_succ])
      refine wpAnyH_take (i := 4) (v := (.string X)) rfl (by kernel_rfl) (by kernel_rfl) (by kernel_rfl) (fun _ _ _ h => h) (Or.inl ⟨by rfl, ?_⟩) (by assumption) ?_
      · intro w' hSw
        (try dsimp only at hSw)
        (obtain ⟨hS1, hS2, hS3, hS4⟩ := hSw; go_simp)
      (try simp only [Act.put, List.setIfInBounds_toArray, List.set_cons_zero, List.set_cons_succ])
      refine wpAnyH_take (i := 5) (v := (.slice (some ⟨g2, of2, none⟩) GN c2)) rfl (by kernel_rfl) (by kernel_rfl) (by kernel_rfl) (fun _ _ _ h => h) (Or.inl ⟨by rfl, ?_⟩) (by assumption) ?_
      · intro w' hSw
        (try dsimp only at hSw)
        go_simp <;> first | exact i64_in (by omega) (by omega) | exact u32_in (by omega) (by omega) | exact u32_add _ _ | (rw [Int.tmod_eq_emod_of_nonneg (by omega)]; omega) | (rw [Int.tdiv_eq_ediv_of_nonneg (by omega)]; omega) | omega
      (try simp only [Act.put, List.setIfInBounds_toArray, List.set_cons_zero, List.set_cons_succ])
      refine wpAnyH_take (i := 6) (v := (.int .i64 (k : Int))) rfl (by kernel_rfl) (by kernel_rfl) (by kernel_rfl) (fun _ _ _ h => h) (Or.inl ⟨by rfl, ?_⟩) (by assumption) ?_
      · intro w' hSw
        (try dsimp only at hSw)
        go_simp <;> first | exact i64_in (by omega) (by omega) | exact u32_in (by omega) (by omega) | exact u32_add _ _ | (rw [Int.tmod_eq_emod_of_nonneg (by omega)]; omega) | (rw [Int.tdiv_eq_ediv_of_nonneg (by omega)]; omega) | omega
      (try simp only [Act.put, List.setIfInBounds_toArray, List.set_cons_zero, List.set_cons_succ])
      refine wpAnyH_take (i := 7) (v := (.pointer (some ⟨g2, of2 + k * 2, none⟩))) rfl (by kernel_rfl) (by kernel_rfl) (by kernel_rfl) (fun _ _ _ h => h) (Or.inl ⟨by rfl, ?_⟩) (by assumption) ?_
      · intro w' hSw
        (try dsimp only at hSw)
        go_simp <;> first | exact i64_in (by omega) (by omega) | exact u32_in (by omega) (by omega) | exact u32_add _ _ | (rw [Int.tmod_eq_emod_of_nonneg (by omega)]; omega) | (rw [Int.tdiv_eq_ediv_of_nonneg (by omega)]; omega) | omega
      (try simp only [Act.put, List.setIfInBounds_toArray, List.set_cons_zero, List.set_cons_succ])
      refine wpAnyH_take (i := 8) (v := (.pointer (some ⟨g2, of2 + k * 2, none⟩))) rfl (by kernel_rfl) (by kernel_rfl) (by kernel_rfl) (fun _ _ _ h => h) (Or.inl ⟨by rfl, ?_⟩) (by assumption) ?_
      · intro w' hSw
        (try dsimp only at hSw)
        go_simp <;> first | exact i64_in (by omega) (by omega) | exact u32_in (by omega) (by omega) | exact u32_add _ _ | (rw [Int.tmod_eq_emod_of_nonneg (by omega)]; omega) | (rw [Int.tdiv_eq_ediv_of_nonneg (by omega)]; omega) | omega
      (try simp only [Act.put, List.setIfInBounds_toArray, List.set_cons_zero, List.set_cons_succ])
      refine wpAnyH_take (i := 9) (v := (.string X)) rfl (by kernel_rfl) (by kernel_rfl) (by kernel_rfl) (fun _ _ _ h => h) (Or.inl ⟨by rfl, ?_⟩) (by assumption) ?_
      · intro w' hSw
        (try dsimp only at hSw)
        (obtain ⟨hS1, hS2, hS3, hS4⟩ := hSw; go_simp)
      (try simp only [Act.put, List.setIfInBounds_toArray, List.set_cons_zero, List.set_cons_succ])
      refine wpAnyH_take (i := 10) (v := (.bool false)) rfl (by kernel_rfl) (by kernel_rfl) (by kernel_rfl) (fun _ _ _ h => h) (Or.inl ⟨by rfl, ?_⟩) (by assumption) ?_
      · intro w' hSw
        (try dsimp only at hSw)
        go_simp <;> first | exact i64_in (by omega) (by omega) | exact u32_in (by omega) (by omega) | exact u32_add _ _ | (rw [Int.tmod_eq_emod_of_nonneg (by omega)]; omega) | (rw [Int.tdiv_eq_ediv_of_nonneg (by omega)]; omega) | omega
      (try simp only [Act.put, List.setIfInBounds_toArray, List.set_cons_zero, List.set_cons_succ])
      refine wpAnyH_take (i := 11) (v := (.bool false)) rfl (by kernel_rfl) (by kernel_rfl) (by kernel_rfl) (fun _ _ _ h => h) (Or.inl ⟨by rfl, ?_⟩) (by assumption) ?_
      · intro w' hSw
        (try dsimp only at hSw)
        go_simp <;> first | exact i64_in (by omega) (by omega) | exact u32_in (by omega) (by omega) | exact u32_add _ _ | (rw [Int.tmod_eq_emod_of_nonneg (by omega)]; omega) | (rw [Int.tdiv_eq_ediv_of_nonneg (by omega)]; omega) | omega
      (try simp only [Act.put, List.setIfInBounds_toArray, List.set_cons_zero, List.set_cons_succ])
      refine wpAnyH_take (i := 12) (v := (.slice (some ⟨g1, of1, none⟩) GN c1)) rfl (by kernel_rfl) (by kernel_rfl) (by kernel_rfl) (fun _ _ _ h => h) (Or.inl ⟨by kernel_rfl, ?_⟩) (by assumption) ?_
      · intro w' hSw
        (try dsimp only at hSw)
        go_simp
      (try simp only [Act.put, List.setIfInBounds_toArray, List.set_cons_zero, List.set_cons_succ])
      refine wpAnyH_take (i := 13) (v := (.int .i64 (k : Int))) rfl (by kernel_rfl) (by kernel_rfl) (by kernel_rfl) (fun _ _ _ h => h) (Or.inl ⟨by kernel_rfl, ?_⟩) (by assumption) ?_
      · intro w' hSw
        (try dsimp only at hSw)
        go_simp
      (try simp only [Act.put, List.setIfInBounds_toArray, List.set_cons_zero, List.set_cons_succ])
      refine wpAnyH_take (i := 14) (v := (.pointer (some ⟨g1, of1 + k * 2, none⟩))) rfl (by kernel_rfl) (by kernel_rfl) (by kernel_rfl) (fun _ _ _ h => h) (Or.inl ⟨by kernel_rfl, ?_⟩) (by assumption) ?_
      · intro w' hSw
        (try dsimp only at hSw)
        go_simp
      (try simp only [Act.put, List.setIfInBounds_toArray, List.set_cons_zero, List.set_cons_succ])
      refine wpAnyH_take (i := 15) (v := (.pointer (some ⟨g1, of1 + k * 2 + 1, none⟩))) rfl (by kernel_rfl) (by kernel_rfl) (by kernel_rfl) (fun _ _ _ h => h) (Or.inl ⟨by kernel_rfl, ?_⟩) (by assumption) ?_
      · intro w' hSw
        (try dsimp only at hSw)
        go_simp
      (try simp only [Act.put, List.setIfInBounds_toArray, List.set_cons_zero, List.set_cons_succ])
      refine wpAnyH_take (i := 16) (v := (.slice s1.1 YN s1.2.2)) rfl (by kernel_rfl) (by kernel_rfl) (by kernel_rfl) (fun _ _ _ h => h) (Or.inl ⟨by kernel_rfl, ?_⟩) (by assumption) ?_
      · intro w' hSw
        (try dsimp only at hSw)
        (obtain ⟨hS1, hS2, hS3, hS4⟩ := hSw; go_simp)
      (try simp only [Act.put, List.setIfInBounds_toArray, List.set_cons_zero, List.set_cons_succ])
      refine wpAnyH_take (i := 17) (v := (.slice (some ⟨g2, of2, none⟩) GN c2)) rfl (by kernel_rfl) (by kernel_rfl) (by kernel_rfl) (fun _ _ _ h => h) (Or.inl ⟨by kernel_rfl, ?_⟩) (by assumption) ?_
      · intro w' hSw
        (try dsimp only at hSw)
        go_simp
      (try simp only [Act.put, List.setIfInBounds_toArray, List.set_cons_zero, List.set_cons_succ])
      refine wpAnyH_take (i := 18) (v := (.int .i64 (k : Int))) rfl (by kernel_rfl) (by kernel_rfl) (by kernel_rfl) (fun _ _ _ h => h) (Or.inl ⟨by kernel_rfl, ?_⟩) (by assumption) ?_
      · intro w' hSw
        (try dsimp only at hSw)
        go_simp
      (try simp only [Act.put, List.setIfInBounds_toArray, List.set_cons_zero, List.set_cons_succ])
      refine wpAnyH_take (i := 19) (v := (.pointer (some ⟨g2, of2 + k * 2, none⟩))) rfl (by kernel_rfl) (by kernel_rfl) (by kernel_rfl) (fun _ _ _ h => h) (Or.inl ⟨by kernel_rfl, ?_⟩) (by assumption) ?_
      · intro w' hSw
        (try dsimp only at hSw)
        go_simp
      (try simp only [Act.put, List.setIfInBounds_toArray, List.set_cons_zero, List.set_cons_succ])
      refine wpAnyH_take (i := 20) (v := (.pointer (some ⟨g2, of2 + k * 2 + 1, none⟩))) rfl (by kernel_rfl) (by kernel_rfl) (by kernel_rfl) (fun _ _ _ h => h) (Or.inl ⟨by kernel_rfl, ?_⟩) (by assumption) ?_
      · intro w' hSw
        (try dsimp only at hSw)
        go_simp
      (try simp only [Act.put, List.setIfInBounds_toArray, List.set_cons_zero, List.set_cons_succ])
      refine wpAnyH_take (i := 21) (v := (.slice s2.1 YN s2.2.2)) rfl (by kernel_rfl) (by kernel_rfl) (by kernel_rfl) (fun _ _ _ h => h) (Or.inl ⟨by kernel_rfl, ?_⟩) (by assumption) ?_
      · intro w' hSw
        (try dsimp only at hSw)
        (obtain ⟨hS1, hS2, hS3, hS4⟩ := hSw; go_simp)
      (try simp only [Act.put, List.setIfInBounds_toArray, List.set_cons_zero, List.set_cons_succ])
      refine wpAnyH_ready (rs := [22]) (by kernel_rfl) (by simp) ?_
      refine AllReadyH.cons rfl (fun K hK => ?_) AllReadyH.nil
      go_simp
      refine Calls.mono (SP.out _ (Below.refl _ _).drew) ?_
      rintro e w2 ⟨rfl, hb2⟩
      have B2 := (Below.refl wr.heap.size wr).drew.trans hb2
      refine hK.out _ _ (HK.out _ B2) (fun hHeld => ?_)
      clear hK
      (try simp only [Act.put, List.setIfInBounds_toArray, List.set_cons_zero, List.set_cons_succ])
      refine wpAnyH_ready (rs := [23]) (by kernel_rfl) (by simp) ?_
      refine AllReadyH.cons rfl (fun K hK => ?_) AllReadyH.nil
      go_simp
      refine hK.out _ _ (HK.out _ B2) (fun hHeld => ?_)
      clear hK
      (try simp only [Act.put, List.setIfInBounds_toArray, List.set_cons_zero, List.set_cons_succ])
      refine wpAnyH_ready (rs := [24]) (by kernel_rfl) (by simp) ?_
      refine AllReadyH.cons rfl (fun K hK => ?_) AllReadyH.nil
      go_simp
      refine hK.out _ _ (HK.out _ B2) (fun hHeld => ?_)
      clear hK
      (try simp only [Act.put, List.setIfInBounds_toArray, List.set_cons_zero, List.set_cons_succ])
      refine wpAnyH_done (by kernel_rfl) ?_ _
      go_wp2
      go_roundw
      case rel => exact ⟨k + 1, by omega, by go_num, HNX.out.trans (B2.mono HNX.out.size)⟩
      case measure => simp [intOf]; omega
    · have HNX := hide hnx
      clear hnx
      go_wp2
      go_ret
      exact ⟨rfl, HNX.out⟩
end Go.Proofs.Ythihmgdefbahpaa
namespace Go.Proofs.Ythihmgdefbahpaa
open Go.RowKit
theorem HE.below {w w' : World} {B hb : Nat} {gs : List GR} (h : HE w B hb gs) (hlt : hb < w.heap.size) (hb' : Below w.heap.size w w') : HE w' B hb gs := by
  obtain ⟨vg, vp, ts, h1, ⟨h2, h3⟩, h4, h5, h6⟩ := h
  refine ⟨vg, vp, ts, h1, ⟨?_, ?_⟩, own_below h4 hb', own_below h5 hb', fun t ht => own_below (h6 t ht) hb'⟩
  · rw [hb'.cell (by exact hlt)]; exact h2
  · rw [hb'.cell (by exact hlt)]; exact h3
theorem GArgs.lies {w : World} {v : Value} {gs : List GR} (h : GArgs w v gs) : GLies w v gs := by
  obtain ⟨qs, ao, g, off, cap, h1, h2, h3, h4, h5, h6⟩ := h
  refine ⟨qs, ao, g, off, cap, h1, h2, h3, h4, h5, fun i hi hq => ?_⟩
  obtain ⟨e1, e2, a, b, o, e3⟩ := h6 i hi hq
  refine ⟨e1, ?_⟩
  rcases e3 with ⟨_, z⟩ | ⟨z1, z2, z3⟩
  · rw [z] at e2 ⊢
    exact ⟨0, 0, e2, fun q => absurd q (by simp), fun q => absurd q (by simp), fun i hi => absurd hi (by simp)⟩
  · simp only [Value.slice.injEq] at z1
    exact ⟨b, o, e2, fun q => by rw [z1.1, (z2 q).1], fun q => (z2 q).2, z3⟩
theorem GArgs.below {w w' : World} {v : Value} {gs : List GR} (h : GArgs w v gs) (hb : Below w.heap.size w w') : GArgs w' v gs := by
  obtain ⟨qs, ao, g, off, cap, h1, h2, h3, h4, h5, h6⟩ := h
  refine ⟨qs, ao, g, off, cap, h1, h2, h3, fun z => Nat.lt_of_lt_of_le (h4 z) hb.size, fun i hi => h5.below (h4 (by omega)) hb i hi, fun i hi hq => ?_⟩
  obtain ⟨e1, e2, a, b, o, e3⟩ := h6 i hi hq
  exact ⟨e1, e2, a, b, o, e3.below hb⟩
/-- what hand made, one by one -/
theorem HE.parts {w : World} {B hb : Nat} {gs : List GR} (h : HE w B hb gs) : ∃ (g cg : Nat) (vp : Value) (ts : List TS), ts.map (fun t => t.1) = gs ∧ ts.length = gs.length ∧ w.cell? ⟨hb, 0, none⟩ = some (.slice (some ⟨g, 0, none⟩) (gs.length + 1) cg) ∧ w.cell? ⟨hb, 1, none⟩ = some vp ∧ gs.length + 1 ≤ cg ∧ g < w.heap.size ∧
    (∀ i (hi : i < ts.length), w.cell? ⟨g, i * 2, none⟩ = some (.string ts[i].1.1) ∧ w.cell? ⟨g, i * 2 + 1, none⟩ = some (.slice (some ⟨ts[i].2.1, 0, none⟩) ts[i].1.2.length ts[i].2.2)) ∧
    (w.cell? ⟨g, gs.length * 2, none⟩ = some (.string bhd) ∧ w.cell? ⟨g, gs.length * 2 + 1, none⟩ = some (.slice none 0 0)) ∧
    w.ownsRow B 47 1 vp ts.length (ts.map tP) ∧ ∀ t ∈ ts, w.ownsRow B 65 2 (tP t) (t.1.2.length + 2) (pc (t.1.2 ++ [mark1, mark2])) := by
  obtain ⟨vg, vp, ts, h1, ⟨h2, h3⟩, h4, h5, h6⟩ := h
  have hl : ts.length = gs.length := by rw [← h1, List.length_map]
  rcases h4.2 with ⟨_, h0⟩ | ⟨g, cg, cur, rfl, hg, hblk, hle, _⟩
  · omega
  · have hgl : (gcell (ts.map tG)).length = ts.length * 2 := by rw [gcell_len, List.length_map]
    have at' : ∀ k, k < (ts.length + 1) * 2 → w.cell? ⟨g, k, none⟩ = (gcell (ts.map tG) ++ gcell [((bhd, []), .slice none 0 0)])[k]? := fun k hk => h4.cellAt k hk
    refine ⟨g, cg, vp, ts, h1, hl, by rw [← hl]; exact h2, h3, by omega, row_lt h4, fun i hi => ?_, ?_, h5, h6⟩
    · rw [at' (i * 2) (by omega), at' (i * 2 + 1) (by omega), List.getElem?_append_left (by omega), List.getElem?_append_left (by omega)]
      have := gcell_at (ts.map tG) i (by rw [List.length_map]; exact hi)
      rw [List.getElem_map] at this
      exact this
    · rw [at' (gs.length * 2) (by omega), at' (gs.length * 2 + 1) (by omega), List.getElem?_append_right (by omega), List.getElem?_append_right (by omega), hgl, ← hl, Nat.sub_self, show ts.length * 2 + 1 - ts.length * 2 = 1 by omega]
      exact ⟨rfl, rfl⟩
theorem tP_lies {w : World} {B : Nat} {t : TS} (h : w.ownsRow B 65 2 (tP t) (t.1.2.length + 2) (pc (t.1.2 ++ [mark1, mark2]))) : t.2.1 < w.heap.size ∧ LiesP t.2.1 0 w (t.1.2 ++ [mark1, mark2]) ∧ LiesP t.2.1 0 w t.1.2 := by
  have h' : w.ownsRow B 65 2 (.slice (some ⟨t.2.1, 0, none⟩) (t.1.2 ++ [mark1, mark2]).length t.2.2) (t.1.2 ++ [mark1, mark2]).length (pc (t.1.2 ++ [mark1, mark2])) := by
    rw [List.length_append]; exact h
  obtain ⟨ao, g, cap, e, e1, e2, e3⟩ := own_pairs h'
  simp only [Value.slice.injEq] at e
  have q := e1 (by simp)
  rw [← e.1] at q
  simp at q
  rw [← q] at e2 e3
  refine ⟨e2 (by simp), e3, fun i hi => ?_⟩
  have := e3 i (by rw [List.length_append]; omega)
  rw [List.getElem_append_left hi] at this
  exact this
/-- the list that is handed in -/
theorem HE.lies {w : World} {B hb : Nat} {gs : List GR} (h : HE w B hb gs) {g cg : Nat} (hc : w.cell? ⟨hb, 0, none⟩ = some (.slice (some ⟨g, 0, none⟩) (gs.length + 1) cg)) (cap : Nat) : GLies w (.slice (some ⟨g, 0, none⟩) gs.length cap) gs := by
  obtain ⟨g', cg', vp, ts, h1, h2, h3, h4, h5, h6, h7, h8, h9, h10⟩ := h.parts
  rw [hc] at h3
  simp only [Option.some.injEq, Value.slice.injEq, Addr.mk.injEq, and_true, true_and] at h3
  obtain ⟨rfl, _⟩ := h3
  refine ⟨ts.map fun t => (t.1.1, (some ⟨t.2.1, 0, none⟩, t.1.2.length, t.2.2)), some ⟨g, 0, none⟩, g, 0, cap, by rw [List.length_map]; exact h2, by rw [List.length_map, h2], fun _ => rfl, fun _ => h6, fun i hi => ?_, fun i hi hq => ?_⟩
  · rw [List.length_map] at hi
    rw [List.getElem_map, Nat.zero_add]
    exact h7 i hi
  · have hti : i < ts.length := by omega
    have he : gs[i] = ts[i].1 := by
      have : gs[i]? = (ts.map (fun t => t.1))[i]? := by rw [h1]
      rw [List.getElem?_eq_getElem hi, List.getElem?_map, List.getElem?_eq_getElem hti] at this
      simpa using this
    rw [List.getElem_map, he]
    obtain ⟨z1, z2, z3⟩ := tP_lies (h10 ts[i] (List.getElem_mem hti))
    exact ⟨rfl, ts[i].2.1, 0, rfl, fun _ => rfl, fun _ => z1, z3⟩
set_option maxHeartbeats 1000000 in
set_option maxRecDepth 100000 in
set_option linter.unusedSimpArgs false in
/-- list -/
theorem list_any (hb g n cg : Nat) (w : World) (hc : w.cell? ⟨hb, 0, none⟩ = some (.slice (some ⟨g, 0, none⟩) (n + 1) cg)) (hcap : n + 1 ≤ cg) (hn : n ≤ 1048576) :
    Calls Try.prog 14 #[.pointer (some ⟨hb, 0, none⟩)] w fun e w' => e = .returned (.slice (some ⟨g, 0, none⟩) n cg) ∧ Below w.heap.size w w' := by
  have h1 : ¬ cg < n := by omega
  have h2 : (n : Int) + 1 - 1 = (n : Int) := by omega
  go_enter Try.func14, Try.ntmps14
  go_wp2_with fail
  refine wp_region_held_drew (S := fun w' => w'.cell? ⟨hb, 0, none⟩ = some (.slice (some ⟨g, 0, none⟩) (n + 1) cg)) (by kernel_rfl) hc (fun hHeld => ?_)
  refine wpAnyH_take (i := 0) (v := (.pointer (some ⟨hb, 0, none⟩))) rfl (by kernel_rfl) (by kernel_rfl) (by kernel_rfl) (fun _ _ _ h => h) (Or.inl ⟨by rfl, ?_⟩) (by assumption) ?_
  · intro w' hSw
    (try dsimp only at hSw)
    go_simp <;> first | exact i64_in (by omega) (by omega) | exact u32_in (by omega) (by omega) | exact u32_add _ _ | (rw [Int.tmod_eq_emod_of_nonneg (by omega)]; omega) | (rw [Int.tdiv_eq_ediv_of_nonneg (by omega)]; omega) | omega
  (try simp only [Act.put, List.setIfInBounds_toArray, List.set_cons_zero, List.set_cons_succ])
  refine wpAnyH_take (i := 1) (v := (.pointer (some ⟨hb, 0, none⟩))) rfl (by kernel_rfl) (by kernel_rfl) (by kernel_rfl) (fun _ _ _ h => h) (Or.inl ⟨by rfl, ?_⟩) (by assumption) ?_
  · intro w' hSw
    (try dsimp only at hSw)
    go_simp <;> first | exact i64_in (by omega) (by omega) | exact u32_in (by omega) (by omega) | exact u32_add _ _ | (rw [Int.tmod_eq_emod_of_nonneg (by omega)]; omega) | (rw [Int.tdiv_eq_ediv_of_nonneg (by omega)]; omega) | omega
  (try simp only [Act.put, List.setIfInBounds_toArray, List.set_cons_zero, List.set_cons_succ])
  refine wpAnyH_take (i := 2) (v := (.pointer (some ⟨hb, 0, none⟩))) rfl (by kernel_rfl) (by kernel_rfl) (by kernel_rfl) (fun _ _ _ h => h) (Or.inl ⟨by rfl, ?_⟩) (by assumption) ?_
  · intro w' hSw
    (try dsimp only at hSw)
    go_simp <;> first | exact i64_in (by omega) (by omega) | exact u32_in (by omega) (by omega) | exact u32_add _ _ | (rw [Int.tmod_eq_emod_of_nonneg (by omega)]; omega) | (rw [Int.tdiv_eq_ediv_of_nonneg (by omega)]; omega) | omega
  (try simp only [Act.put, List.setIfInBounds_toArray, List.set_cons_zero, List.set_cons_succ])
  refine wpAnyH_take (i := 3) (v := (.slice (some ⟨g, 0, none⟩) (n + 1) cg)) rfl (by kernel_rfl) (by kernel_rfl) (by kernel_rfl) (fun _ _ _ h => h) (Or.inl ⟨by rfl, ?_⟩) (by assumption) ?_
  · intro w' hSw
    (try dsimp only at hSw)
    go_simp <;> first | exact i64_in (by omega) (by omega) | exact u32_in (by omega) (by omega) | exact u32_add _ _ | (rw [Int.tmod_eq_emod_of_nonneg (by omega)]; omega) | (rw [Int.tdiv_eq_ediv_of_nonneg (by omega)]; omega) | omega
  (try simp only [Act.put, List.setIfInBounds_toArray, List.set_cons_zero, List.set_cons_succ])
  refine wpAnyH_take (i := 4) (v := (.pointer (some ⟨hb, 0, none⟩))) rfl (by kernel_rfl) (by kernel_rfl) (by kernel_rfl) (fun _ _ _ h => h) (Or.inl ⟨by rfl, ?_⟩) (by assumption) ?_
  · intro w' hSw
    (try dsimp only at hSw)
    go_simp <;> first | exact i64_in (by omega) (by omega) | exact u32_in (by omega) (by omega) | exact u32_add _ _ | (rw [Int.tmod_eq_emod_of_nonneg (by omega)]; omega) | (rw [Int.tdiv_eq_ediv_of_nonneg (by omega)]; omega) | omega
  (try simp only [Act.put, List.setIfInBounds_toArray, List.set_cons_zero, List.set_cons_succ])
  refine wpAnyH_take (i := 5) (v := (.pointer (some ⟨hb, 0, none⟩))) rfl (by kernel_rfl) (by kernel_rfl) (by kernel_rfl) (fun _ _ _ h => h) (Or.inl ⟨by rfl, ?_⟩) (by assumption) ?_
  · intro w' hSw
    (try dsimp only at hSw)
    go_simp <;> first | exact i64_in (by omega) (by omega) | exact u32_in (by omega) (by omega) | exact u32_add _ _ | (rw [Int.tmod_eq_emod_of_nonneg (by omega)]; omega) | (rw [Int.tdiv_eq_ediv_of_nonneg (by omega)]; omega) | omega
  (try simp only [Act.put, List.setIfInBounds_toArray, List.set_cons_zero, List.set_cons_succ])
  refine wpAnyH_take (i := 6) (v := (.pointer (some ⟨hb, 0, none⟩))) rfl (by kernel_rfl) (by kernel_rfl) (by kernel_rfl) (fun _ _ _ h => h) (Or.inl ⟨by rfl, ?_⟩) (by assumption) ?_
  · intro w' hSw
    (try dsimp only at hSw)
    go_simp <;> first | exact i64_in (by omega) (by omega) | exact u32_in (by omega) (by omega) | exact u32_add _ _ | (rw [Int.tmod_eq_emod_of_nonneg (by omega)]; omega) | (rw [Int.tdiv_eq_ediv_of_nonneg (by omega)]; omega) | omega
  (try simp only [Act.put, List.setIfInBounds_toArray, List.set_cons_zero, List.set_cons_succ])
  refine wpAnyH_take (i := 7) (v := (.slice (some ⟨g, 0, none⟩) (n + 1) cg)) rfl (by kernel_rfl) (by kernel_rfl) (by kernel_rfl) (fun _ _ _ h => h) (Or.inl ⟨by rfl, ?_⟩) (by assumption) ?_
  · intro w' hSw
    (try dsimp only at hSw)
    go_simp <;> first | exact i64_in (by omega) (by omega) | exact u32_in (by omega) (by omega) | exact u32_add _ _ | (rw [Int.tmod_eq_emod_of_nonneg (by omega)]; omega) | (rw [Int.tdiv_eq_ediv_of_nonneg (by omega)]; omega) | omega
  (try simp only [Act.put, List.setIfInBounds_toArray, List.set_cons_zero, List.set_cons_succ])
  refine wpAnyH_take (i := 8) (v := (.int .i64 ((n : Int) + 1))) rfl (by kernel_rfl) (by kernel_rfl) (by kernel_rfl) (fun _ _ _ h => h) (Or.inl ⟨by rfl, ?_⟩) (by assumption) ?_
  · intro w' hSw
    (try dsimp only at hSw)
    go_simp <;> first | exact i64_in (by omega) (by omega) | exact u32_in (by omega) (by omega) | exact u32_add _ _ | (rw [Int.tmod_eq_emod_of_nonneg (by omega)]; omega) | (rw [Int.tdiv_eq_ediv_of_nonneg (by omega)]; omega) | omega
  (try simp only [Act.put, List.setIfInBounds_toArray, List.set_cons_zero, List.set_cons_succ])
  refine wpAnyH_take (i := 9) (v := (.int .i64 (n : Int))) rfl (by kernel_rfl) (by kernel_rfl) (by kernel_rfl) (fun _ _ _ h => h) (Or.inl ⟨by rfl, ?_⟩) (by assumption) ?_
  · intro w' hSw
    (try dsimp only at hSw)
    (go_simp; exact i64_in (by omega) (by omega))
  (try simp only [Act.put, List.setIfInBounds_toArray, List.set_cons_zero, List.set_cons_succ])
  refine wpAnyH_take (i := 10) (v := (.slice (some ⟨g, 0, none⟩) n cg)) rfl (by kernel_rfl) (by kernel_rfl) (by kernel_rfl) (fun _ _ _ h => h) (Or.inl ⟨by rfl, ?_⟩) (by assumption) ?_
  · intro w' hSw
    (try dsimp only at hSw)
    (go_simp; try (intro hq; omega))
  (try simp only [Act.put, List.setIfInBounds_toArray, List.set_cons_zero, List.set_cons_succ])
  refine wpAnyH_ready (rs := [11]) (by kernel_rfl) (by simp) ?_
  refine AllReadyH.cons rfl (fun K hK => ?_) AllReadyH.nil
  go_simp
  refine hK.out _ _ hc (fun hHeld => ?_)
  clear hK
  (try simp only [Act.put, List.setIfInBounds_toArray, List.set_cons_zero, List.set_cons_succ])
  refine wpAnyH_done (by kernel_rfl) ?_ _
  go_wp2_with fail
  go_ret
  exact ⟨rfl, (Below.refl _ _).drew⟩
set_option maxHeartbeats 8000000 in
set_option maxRecDepth 100000 in
set_option linter.unusedSimpArgs false in
/-- left -/
theorem left_any (v : Value) (B hb : Nat) (gs : List GR) (w : World) (hg : GArgs w v gs) (hh : HE w B hb gs) (hlt : hb < w.heap.size) (hlen : gs.length ≤ 1048576) (hps : ∀ g ∈ gs, g.2.length ≤ 1048576) :
    Calls Try.prog 16 #[.pointer (some ⟨hb, 0, none⟩), v] w fun e w' => e = .returned (.bool true) ∧ Below w.heap.size w w' := by
  obtain ⟨g, cg, vp, ts, h1, h2, h3, h4, h5, h6, h7, ⟨h8, h8'⟩, h9, h10⟩ := hh.parts
  have HH := hide hh
  have GL2 := hide hg.lies
  obtain ⟨qs, ao, ga, off, cap, hql, rfl, e3, e4, e5, e6⟩ := hg
  rw [hql] at e3 e4 GL2 ⊢
  have HL := hide e5
  have H6 := hide e6
  have HPS := hide hps
  have H7 := hide h7
  have H9 := hide h9
  have H10 := hide h10
  have H1 := hide h1
  have H2 := hide h2
  have LA := hide (fun w' (hb' : Below w.heap.size w w') => list_any hb g gs.length cg w' (by rw [hb'.cell (by exact hlt)]; exact h3) h5 hlen)
  have SG := hide (fun w' (hb' : Below w.heap.size w w') => sameGroups_lies _ _ gs w' ((hh.lies h3 cg).below hb') (GL2.out.below hb') (by omega) (fun x hx => Nat.le_trans (hps x hx) (by omega)))
  clear e5 e6 hps h7 h9 h10 h1 h2 hh
  have hbhd : (bhd.toList == [98, 101, 104, 105, 110, 100]) = true := by first | kernel_rfl | simp [bhd]
  go_enter Try.func16, Try.ntmps16
  go_wp2_with fail
  refine Calls.mono (LA.out _ (Below.refl _ _)) ?_
  rintro e w1 ⟨rfl, b1⟩
  have B1 := hide b1
  have SG1 := hide (SG.out w1 b1)
  clear b1
  go_wp2_with fail
  refine Calls.mono SG1.out ?_
  rintro e w2 ⟨rfl, b2⟩
  have B2 := hide (B1.out.trans (b2.mono B1.out.size))
  clear b2 SG1 SG LA
  go_wp2_with fail
  go_loopw [6] (fun i wr => ∃ j : Nat, j ≤ gs.length ∧ i = .int .i64 (j : Int) ∧ Below w.heap.size w wr) (fun i _ => gs.length - (intOf i).toNat)
  case atStart => exact ⟨0, Nat.zero_le _, rfl, B2.out⟩
  case round =>
    obtain ⟨j, hj, rfl, hnx⟩ := hrel
    have HNX := hide hnx
    by_cases hltj : j < gs.length
    · have hjt : j < ts.length := by rw [H2.out]; exact hltj
      have hjq : j < qs.length := by omega
      obtain rfl := e3 (by omega)
      have lta := e4 (by omega)
      obtain ⟨pb, cp, hvp⟩ : ∃ pb cp, vp = .slice (some ⟨pb, 0, none⟩) gs.length cp := by
        rcases H9.out.2 with ⟨_, q⟩ | ⟨pb, cp, _, q, _⟩
        · omega
        · exact ⟨pb, cp, by rw [q, H2.out]⟩
      have ltp : pb < w.heap.size := by
        have q := H9.out
        rw [hvp, ← H2.out] at q
        exact row_lt q
      have cP : w.cell? ⟨pb, j, none⟩ = some (tP ts[j]) := by
        have q := H9.out
        rw [hvp, ← H2.out] at q
        rw [q.cellAt j (by omega), List.getElem?_map, List.getElem?_eq_getElem hjt]; rfl
      subst hvp
      obtain ⟨z1, z2, z3⟩ := tP_lies (H10.out ts[j] (List.getElem_mem hjt))
      have he : ts[j].1 = gs[j] := by
        have q : gs[j]? = (ts.map (fun t => t.1))[j]? := by rw [H1.out]
        rw [List.getElem?_eq_getElem hltj, List.getElem?_map, List.getElem?_eq_getElem hjt] at q
        simp at q
        exact q.symm
      obtain ⟨f1, f2, pa, pbb, po, f3⟩ := H6.out j hltj hjq
      obtain ⟨c0, c1⟩ := HL.out j hjq
      rw [f2] at c1
      unfold tP at cP
      rw [he] at cP z2
      have hpl := HPS.out gs[j] (List.getElem_mem hltj)
      have RM := hide (fun w' (hb' : Below w.heap.size w w') => roomy_any (.slice (qs[j]'hjq).2.1 (gs[j]'hltj).2.length (qs[j]'hjq).2.2.2) pa pbb po (qs[j]'hjq).2.2.2 (gs[j]'hltj).2 w' (f3.below hb') (by omega))
      have Z2 := hide z2
      clear f1 f2 f3 z2 z3 he c0 hnx
      generalize qs[j].2 = SQ at *
      generalize gs[j].2 = PS at *
      generalize ts[j].2.1 = R at *
      generalize ts[j].2.2 = CR at *
      have hji : (j : Int) < (gs.length : Int) := by omega
      have HS : Hid (∀ w', Below w.heap.size w w' → w'.cell? ⟨hb, 1, none⟩ = some (.slice (some ⟨pb, 0, none⟩) gs.length cp) ∧ w'.cell? ⟨pb, j, none⟩ = some (.slice (some ⟨R, 0, none⟩) (PS.length + 2) CR) ∧ w'.cell? ⟨ga, off + j * 2 + 1, none⟩ = some (.slice SQ.1 PS.length SQ.2.2)) := fun w' hw => by
        rw [hw.cell (by exact hlt), hw.cell (by exact ltp), hw.cell (by exact lta)]
        exact ⟨h4, cP, c1⟩
      go_wp2_with fail
      refine wp_region_held_drew (S := fun w' => w'.cell? ⟨hb, 1, none⟩ = some (.slice (some ⟨pb, 0, none⟩) gs.length cp) ∧ w'.cell? ⟨pb, j, none⟩ = some (.slice (some ⟨R, 0, none⟩) (PS.length + 2) CR) ∧ w'.cell? ⟨ga, off + j * 2 + 1, none⟩ = some (.slice SQ.1 PS.length SQ.2.2)) (by kernel_rfl) (HS.out _ HNX.out.drew) (fun hHeld => ?_)
      refine wpAnyH_take (i := 0) (v := (.pointer (some ⟨hb, 0, none⟩))) rfl (by kernel_rfl) (by kernel_rfl) (by kernel_rfl) (fun _ _ _ h => h) (Or.inl ⟨by rfl, ?_⟩) (by assumption) ?_
      · intro w' hSw
        (try dsimp only at hSw)
        go_simp <;> first | exact i64_in (by omega) (by omega) | exact u32_in (by omega) (by omega) | exact u32_add _ _ | (rw [Int.tmod_eq_emod_of_nonneg (by omega)]; omega) | (rw [Int.tdiv_eq_ediv_of_nonneg (by omega)]; omega) | omega
      (try simp only [Act.put, List.setIfInBounds_toArray, List.set_cons_zero, List.set_cons_succ])
      refine wpAnyH_take (i := 1) (v := (.pointer (some ⟨hb, 0, none⟩))) rfl (by kernel_rfl) (by kernel_rfl) (by kernel_rfl) (fun _ _ _ h => h) (Or.inl ⟨by rfl, ?_⟩) (by assumption) ?_
      · intro w' hSw
        (try dsimp only at hSw)
        go_simp <;> first | exact i64_in (by omega) (by omega) | exact u32_in (by omega) (by omega) | exact u32_add _ _ | (rw [Int.tmod_eq_emod_of_nonneg (by omega)]; omega) | (rw [Int.tdiv_eq_ediv_of_nonneg (by omega)]; omega) | omega
      (try simp only [Act.put, List.setIfInBounds_toArray, List.set_cons_zero, List.set_cons_succ])
      refine wpAnyH_take (i := 2) (v := (.pointer (some ⟨hb, 1, none⟩))) rfl (by kernel_rfl) (by kernel_rfl) (by kernel_rfl) (fun _ _ _ h => h) (Or.inl ⟨by rfl, ?_⟩) (by assumption) ?_
      · intro w' hSw
        (try dsimp only at hSw)
        go_simp <;> first | exact i64_in (by omega) (by omega) | exact u32_in (by omega) (by omega) | exact u32_add _ _ | (rw [Int.tmod_eq_emod_of_nonneg (by omega)]; omega) | (rw [Int.tdiv_eq_ediv_of_nonneg (by omega)]; omega) | omega
      (try simp only [Act.put, List.setIfInBounds_toArray, List.set_cons_zero, List.set_cons_succ])
      refine wpAnyH_take (i := 3) (v := (.slice (some ⟨pb, 0, none⟩) gs.length cp)) rfl (by kernel_rfl) (by kernel_rfl) (by kernel_rfl) (fun _ _ _ h => h) (Or.inl ⟨by rfl, ?_⟩) (by assumption) ?_
      · intro w' hSw
        (try dsimp only at hSw)
        (obtain ⟨hS1, hS2, hS3⟩ := hSw; go_simp)
      (try simp only [Act.put, List.setIfInBounds_toArray, List.set_cons_zero, List.set_cons_succ])
      refine wpAnyH_take (i := 4) (v := (.int .i64 (j : Int))) rfl (by kernel_rfl) (by kernel_rfl) (by kernel_rfl) (fun _ _ _ h => h) (Or.inl ⟨by rfl, ?_⟩) (by assumption) ?_
      · intro w' hSw
        (try dsimp only at hSw)
        go_simp <;> first | exact i64_in (by omega) (by omega) | exact u32_in (by omega) (by omega) | exact u32_add _ _ | (rw [Int.tmod_eq_emod_of_nonneg (by omega)]; omega) | (rw [Int.tdiv_eq_ediv_of_nonneg (by omega)]; omega) | omega
      (try simp only [Act.put, List.setIfInBounds_toArray, List.set_cons_zero, List.set_cons_succ])
      refine wpAnyH_take (i := 5) (v := (.pointer (some ⟨pb, j, none⟩))) rfl (by kernel_rfl) (by kernel_rfl) (by kernel_rfl) (fun _ _ _ h => h) (Or.inl ⟨by rfl, ?_⟩) (by assumption) ?_
      · intro w' hSw
        (try dsimp only at hSw)
        go_simp <;> first | exact i64_in (by omega) (by omega) | exact u32_in (by omega) (by omega) | exact u32_add _ _ | (rw [Int.tmod_eq_emod_of_nonneg (by omega)]; omega) | (rw [Int.tdiv_eq_ediv_of_nonneg (by omega)]; omega) | omega
      (try simp only [Act.put, List.setIfInBounds_toArray, List.set_cons_zero, List.set_cons_succ])
      refine wpAnyH_take (i := 6) (v := (.slice (some ⟨R, 0, none⟩) (PS.length + 2) CR)) rfl (by kernel_rfl) (by kernel_rfl) (by kernel_rfl) (fun _ _ _ h => h) (Or.inl ⟨by rfl, ?_⟩) (by assumption) ?_
      · intro w' hSw
        (try dsimp only at hSw)
        (obtain ⟨hS1, hS2, hS3⟩ := hSw; go_simp)
      (try simp only [Act.put, List.setIfInBounds_toArray, List.set_cons_zero, List.set_cons_succ])
      refine wpAnyH_take (i := 7) (v := (.slice (some ⟨ga, off, none⟩) gs.length cap)) rfl (by kernel_rfl) (by kernel_rfl) (by kernel_rfl) (fun _ _ _ h => h) (Or.inl ⟨by rfl, ?_⟩) (by assumption) ?_
      · intro w' hSw
        (try dsimp only at hSw)
        go_simp <;> first | exact i64_in (by omega) (by omega) | exact u32_in (by omega) (by omega) | exact u32_add _ _ | (rw [Int.tmod_eq_emod_of_nonneg (by omega)]; omega) | (rw [Int.tdiv_eq_ediv_of_nonneg (by omega)]; omega) | omega
      (try simp only [Act.put, List.setIfInBounds_toArray, List.set_cons_zero, List.set_cons_succ])
      refine wpAnyH_take (i := 8) (v := (.int .i64 (j : Int))) rfl (by kernel_rfl) (by kernel_rfl) (by kernel_rfl) (fun _ _ _ h => h) (Or.inl ⟨by rfl, ?_⟩) (by assumption) ?_
      · intro w' hSw
        (try dsimp only at hSw)
        go_simp <;> first | exact i64_in (by omega) (by omega) | exact u32_in (by omega) (by omega) | exact u32_add _ _ | (rw [Int.tmod_eq_emod_of_nonneg (by omega)]; omega) | (rw [Int.tdiv_eq_ediv_of_nonneg (by omega)]; omega) | omega
      (try simp only [Act.put, List.setIfInBounds_toArray, List.set_cons_zero, List.set_cons_succ])
      refine wpAnyH_take (i := 9) (v := (.pointer (some ⟨ga, off + j * 2, none⟩))) rfl (by kernel_rfl) (by kernel_rfl) (by kernel_rfl) (fun _ _ _ h => h) (Or.inl ⟨by rfl, ?_⟩) (by assumption) ?_
      · intro w' hSw
        (try dsimp only at hSw)
        go_simp <;> first | exact i64_in (by omega) (by omega) | exact u32_in (by omega) (by omega) | exact u32_add _ _ | (rw [Int.tmod_eq_emod_of_nonneg (by omega)]; omega) | (rw [Int.tdiv_eq_ediv_of_nonneg (by omega)]; omega) | omega
      (try simp only [Act.put, List.setIfInBounds_toArray, List.set_cons_zero, List.set_cons_succ])
      refine wpAnyH_take (i := 10) (v := (.pointer (some ⟨ga, off + j * 2 + 1, none⟩))) rfl (by kernel_rfl) (by kernel_rfl) (by kernel_rfl) (fun _ _ _ h => h) (Or.inl ⟨by rfl, ?_⟩) (by assumption) ?_
      · intro w' hSw
        (try dsimp only at hSw)
        go_simp <;> first | exact i64_in (by omega) (by omega) | exact u32_in (by omega) (by omega) | exact u32_add _ _ | (rw [Int.tmod_eq_emod_of_nonneg (by omega)]; omega) | (rw [Int.tdiv_eq_ediv_of_nonneg (by omega)]; omega) | omega
      (try simp only [Act.put, List.setIfInBounds_toArray, List.set_cons_zero, List.set_cons_succ])
      refine wpAnyH_take (i := 11) (v := (.slice SQ.1 PS.length SQ.2.2)) rfl (by kernel_rfl) (by kernel_rfl) (by kernel_rfl) (fun _ _ _ h => h) (Or.inl ⟨by rfl, ?_⟩) (by assumption) ?_
      · intro w' hSw
        (try dsimp only at hSw)
        (obtain ⟨hS1, hS2, hS3⟩ := hSw; go_simp)
      (try simp only [Act.put, List.setIfInBounds_toArray, List.set_cons_zero, List.set_cons_succ])
      refine wpAnyH_ready (rs := [12]) (by kernel_rfl) (by simp) ?_
      refine AllReadyH.cons rfl (fun K hK => ?_) AllReadyH.nil
      go_simp
      refine Calls.mono (RM.out _ HNX.out.drew) ?_
      rintro e w5 ⟨g5, c5, rfl, o5, b5⟩
      have B5 := hide (HNX.out.drew.trans (b5.mono HNX.out.drew.size))
      have SP : Hid (Calls Try.prog 22 #[.slice (some ⟨R, 0, none⟩) (PS.length + 2) CR, .slice (some ⟨g5, 0, none⟩) (PS.length + 2) c5] w5 fun e w' => e = .returned (.bool true) ∧ Below w5.heap.size w5 w') := by
        have o5' : w5.ownsRow wr.drew.heap.size 65 2 (.slice (some ⟨g5, 0, none⟩) (PS ++ [mark1, mark2]).length c5) (PS ++ [mark1, mark2]).length (pc (PS ++ [mark1, mark2])) := by rw [List.length_append]; exact o5
        obtain ⟨ao2, g2, cap2, q, q1, q2, q3⟩ := own_pairs o5'
        simp only [Value.slice.injEq] at q
        have q4 := q1 (by simp)
        rw [← q.1] at q4
        simp at q4
        rw [← q4] at q2 q3
        have := samePairs_any (some ⟨R, 0, none⟩) (some ⟨g5, 0, none⟩) R 0 CR g5 0 c5 (PS ++ [mark1, mark2]) w5 (fun _ => rfl) (fun _ => rfl) (fun _ => Nat.lt_of_lt_of_le z1 B5.out.size) q2 (Z2.out.below z1 B5.out) q3 (by rw [List.length_append]; simp; omega)
        rw [List.length_append] at this
        exact this
      clear b5 o5
      refine hK.out _ _ (HS.out _ B5.out) (fun hHeld => ?_)
      clear hK
      (try simp only [Act.put, List.setIfInBounds_toArray, List.set_cons_zero, List.set_cons_succ])
      refine wpAnyH_ready (rs := [13]) (by kernel_rfl) (by simp) ?_
      refine AllReadyH.cons rfl (fun K hK => ?_) AllReadyH.nil
      go_simp
      refine Calls.mono SP.out ?_
      rintro e w6 ⟨rfl, b6⟩
      have B6 := hide (B5.out.trans (b6.mono B5.out.size))
      clear b6 SP
      refine hK.out _ _ (HS.out _ B6.out) (fun hHeld => ?_)
      clear hK
      (try simp only [Act.put, List.setIfInBounds_toArray, List.set_cons_zero, List.set_cons_succ])
      refine wpAnyH_ready (rs := [14]) (by kernel_rfl) (by simp) ?_
      refine AllReadyH.cons rfl (fun K hK => ?_) AllReadyH.nil
      go_simp
      refine hK.out _ _ (HS.out _ B6.out) (fun hHeld => ?_)
      clear hK
      (try simp only [Act.put, List.setIfInBounds_toArray, List.set_cons_zero, List.set_cons_succ])
      refine wpAnyH_done (by kernel_rfl) ?_ _
      go_wp2_with fail
      go_roundw
      case rel => exact ⟨j + 1, by omega, by go_num, B6.out⟩
      case measure => simp [intOf]; omega
    · have hji : ¬ (j : Int) < (gs.length : Int) := by omega
      clear hnx
      go_wp2_with fail
      go_ret
      exact ⟨rfl, HNX.out⟩
end Go.Proofs.Ythihmgdefbahpaa
namespace Go.Proofs.Ythihmgdefbahpaa
open Go.RowKit
set_option maxHeartbeats 4000000 in
set_option maxRecDepth 100000 in
set_option linter.unusedSimpArgs false in
/-- the law RecordEncodes -/
theorem encodes_any (m : Int) (v : Value) (gs : List GR) (w : World) (hg : GArgs w v gs) (hlen : gs.length ≤ 1048576) (hps : ∀ g ∈ gs, g.2.length ≤ 1048576) (hD : (encD gs).length ≤ 4294967295) :
    Calls Try.prog 4 #[.int .i64 m, v] w fun e w' => e = .returned (.bool true) ∧ Below w.heap.size w w' := by
  have HA := hide (hand_any v gs w hg hlen hps)
  have HG := hide hg
  have HPS := hide hps
  have RE := hide (fun w' (hb : Below w.heap.size w w') => rencode_gen m v gs w' (HG.out.below hb).lies hlen HPS.out hD)
  have EN := hide (fun lv w' (hl : GLies w' lv gs) => encode_any m lv gs w' hl hlen HPS.out)
  have LF := hide (fun w' (hb : Below w.heap.size w w') (hh : HE w' (w.heap.size + 1) w.heap.size gs) (hlt : w.heap.size < w'.heap.size) => left_any v (w.heap.size + 1) w.heap.size gs w' (HG.out.below hb) hh hlt hlen HPS.out)
  have eC : egC m gs = .agg #[.string (egI m gs), .string (egD m gs)] := rfl
  rw [eC] at RE EN
  generalize egI m gs = I at *
  generalize egD m gs = D at *
  generalize egE m gs = E at *
  clear hg hps
  go_enter Try.func4, Try.ntmps4
  go_wp2_with fail
  refine Calls.mono HA.out ?_
  rintro e w1 ⟨rfl, hh, b1⟩
  obtain ⟨g, cg, vp, ts, _, _, h3, h4, h5, h6, _⟩ := hh.parts
  have hlt : w.heap.size < w1.heap.size := World.block_lt_of_cell? w1 ⟨w.heap.size, 0, none⟩ h3
  have LA := hide (list_any w.heap.size g gs.length cg w1 h3 h5 hlen)
  have HLI := hide (hh.lies h3 cg)
  have HH1 := hide hh
  have B1 := hide b1
  clear hh b1 h4 h6 h3 h5 HA
  go_wp2_with fail
  refine Calls.mono LA.out ?_
  rintro e w2 ⟨rfl, b2⟩
  have B2 := hide (B1.out.trans (b2.mono B1.out.size))
  have HH2 := hide (HH1.out.below hlt b2)
  have HL2 := hide (HLI.out.below b2)
  have hlt2 : w.heap.size < w2.heap.size := Nat.lt_of_lt_of_le hlt b2.size
  clear b2 HLI HH1 B1 LA hlt
  go_wp2_with fail
  refine Calls.mono (EN.out _ _ HL2.out) ?_
  rintro e w3 ⟨rfl, b3⟩
  have B3 := hide (B2.out.trans (b3.mono B2.out.size))
  have HH3 := hide (HH2.out.below hlt2 b3)
  have hlt3 : w.heap.size < w3.heap.size := Nat.lt_of_lt_of_le hlt2 b3.size
  clear b3 HL2 HH2 B2 hlt2
  go_wp2_with fail
  obtain ⟨W4, hW4⟩ : ∃ W4, W4 = w3.alloc (.cells #[.string I, .string D] 23) := ⟨_, rfl⟩
  have b4 : Below w3.heap.size w3 W4 := by rw [hW4]; exact (Below.refl _ w3).alloc (Nat.le_refl _) _
  have KX : Hid (w3.heap.size < W4.heap.size ∧ W4.cell? ⟨w3.heap.size, 0, none⟩ = some (.string I) ∧ W4.cell? ⟨w3.heap.size, 1, none⟩ = some (.string D)) := by
    rw [hW4]; exact ⟨by simp, by simp, by simp⟩
  have B4 := hide (B3.out.trans (b4.mono B3.out.size))
  have HH4 := hide (HH3.out.below hlt3 b4)
  have hlt4 : w.heap.size < W4.heap.size := Nat.lt_of_lt_of_le hlt3 b4.size
  rw [← hW4]
  clear hW4 b4 HH3 hlt3 B3
  refine Calls.mono (RE.out _ B4.out) ?_
  rintro e w5 ⟨rfl, b5⟩
  obtain ⟨x0, x1, x2⟩ := KX.out
  have c0 : w5.cell? ⟨w3.heap.size, 0, none⟩ = some (.string I) := by rw [b5.cell (by exact x0)]; exact x1
  have c1 : w5.cell? ⟨w3.heap.size, 1, none⟩ = some (.string D) := by rw [b5.cell (by exact x0)]; exact x2
  have hx5 : w3.heap.size < w5.heap.size := Nat.lt_of_lt_of_le x0 b5.size
  have B5 := hide (B4.out.trans (b5.mono B4.out.size))
  have HH5 := hide (HH4.out.below hlt4 b5)
  have hlt5 : w.heap.size < w5.heap.size := Nat.lt_of_lt_of_le hlt4 b5.size
  obtain ⟨W6, hW6⟩ : ∃ W6, W6 = w5.alloc (.cells #[.string I, .string D] 23) := ⟨_, rfl⟩
  have b6 : Below w5.heap.size w5 W6 := by rw [hW6]; exact (Below.refl _ w5).alloc (Nat.le_refl _) _
  have B6 := hide (B5.out.trans (b6.mono B5.out.size))
  have HH6 := hide (HH5.out.below hlt5 b6)
  have hlt6 : w.heap.size < W6.heap.size := Nat.lt_of_lt_of_le hlt5 b6.size
  rw [hW6] at B6 HH6 hlt6
  clear hW6 b6 b5 x0 x1 x2 HH4 hlt4 KX B4 HH5
  go_wp2_with fail
  refine Calls.mono (num_any _ _) ?_
  rintro e wx ⟨rfl, rfl⟩
  go_wp2_with fail
  refine Calls.mono (LF.out _ B6.out HH6.out hlt6) ?_
  rintro e w7 ⟨rfl, b7⟩
  have B7 := hide (B6.out.trans (b7.mono B6.out.size))
  clear b7
  go_wp2_with fail
  go_ret
  exact ⟨rfl, B7.out⟩
end Go.Proofs.Ythihmgdefbahpaa
namespace Go.Proofs.Ythihmgdefbahpaa
open Go.ChangeShapes Go.WideShapes Go.ChangeAt Go.RowKit Go.Deep
theorem cellsGr : Try.prog.cellsOf 49 = 2 := by kernel_rfl
theorem cellsPr : Try.prog.cellsOf 65 = 2 := by kernel_rfl
theorem cells9G : Try.prog.cellsOf 9 = 1 := by kernel_rfl
theorem cellsPL : Try.prog.cellsOf 47 = 1 := by kernel_rfl
theorem bulk_pos {H : Type} (d : DataW H) : 1 ≤ Rows.uptoBulk d := by
  cases d with
  | lit l => cases l <;> simp only [Rows.uptoBulk] <;> omega
  | _ => simp only [Rows.uptoBulk] <;> omega
theorem bulk_len {H α : Type} (l : List α) (f : α → DataW H) : l.length ≤ Rows.uptoBulkAll (l.map f) := by
  induction l with
  | nil => simp
  | cons a r ih =>
    have := bulk_pos (f a)
    simp only [List.map_cons, List.length_cons, Rows.uptoBulkAll]
    omega
theorem bulk_pairs {H α : Type} (l : List α) (f : α → DataW H) (q : α → KV) (h : ∀ a ∈ l, 6 + (q a).1.size + (q a).2.size ≤ 2 * Rows.uptoBulk (f a)) : sizeL (l.map q) ≤ 2 * Rows.uptoBulkAll (l.map f) := by
  induction l with
  | nil => simp [sizeL]
  | cons a r ih =>
    have h1 := ih (fun b hb => h b (List.mem_cons_of_mem _ hb))
    have h2 := h a List.mem_cons_self
    simp only [List.map_cons, sizeL, Rows.uptoBulkAll]
    omega
theorem bulk_groups {H α : Type} (l : List α) (f : α → DataW H) (q : α → GR) (h : ∀ a ∈ l, 2 + sizeL (q a).2 ≤ 2 * Rows.uptoBulk (f a)) : (encD (l.map q)).length ≤ 2 * Rows.uptoBulkAll (l.map f) := by
  induction l with
  | nil => simp [encD]
  | cons a r ih =>
    have h1 := ih (fun b hb => h b (List.mem_cons_of_mem _ hb))
    have h2 := h a List.mem_cons_self
    unfold encD at h1 ⊢
    rw [List.map_cons, List.flatMap_cons, List.length_append, recL_len, List.map_cons]
    simp only [Rows.uptoBulkAll]
    omega
theorem bulk_in {H α : Type} (l : List α) (f : α → DataW H) {a : α} (h : a ∈ l) : Rows.uptoBulk (f a) ≤ Rows.uptoBulkAll (l.map f) := by
  induction l with
  | nil => cases h
  | cons b r ih =>
    simp only [List.map_cons, Rows.uptoBulkAll]
    rcases List.mem_cons.1 h with e | e
    · subst e; omega
    · have := ih e; omega
set_option maxRecDepth 100000 in
/-- pairs that are handed in -/
theorem open_pairs {H : Type} {enc : TypeId × Value → H} {w : World} {base fuel : Nat} {v : Value} {x : DataW H × List MemPlace} (h : DataW.trod enc Try.prog w base (fun _ => true) true fuel 47 [v] = some x) (hlt : ∀ q ∈ x.2, q.block < w.heap.size) :
    ∃ (s : SQ) (ps : List KV), v = .slice s.1 ps.length s.2.2 ∧ s.2.1 = ps.length ∧ (∃ a b o, PairsAt w v a b o s.2.2 ps) ∧ 2 + sizeL ps ≤ 2 * Rows.uptoBulk x.1 ∧ ps.length ≤ Rows.uptoBulk x.1 := by
  rcases open_slice_pairs Try.underlying47 Try.underlying65 cellsPr rfl rfl cells9G cells9G h with ⟨hcs, hx⟩ | ⟨a, len, cap, m, n, V0, V1, D0, D1, P0, P1, hcs, _, hl, hm, hmm, hx, hcell⟩
  · simp only [List.cons.injEq, and_true] at hcs
    subst hcs
    have := bulk_pos x.1
    exact ⟨(none, 0, 0), [], rfl, rfl, ⟨⟨0, 0, none⟩, 0, 0, .inl ⟨rfl, rfl⟩⟩, by simp [sizeL]; omega, by simp⟩
  · simp only [List.cons.injEq, and_true] at hcs
    subst hcs
    simp only [if_true] at hmm
    have each : ∀ i, i < len → ∃ q : KV, V0 i = .string q.1 ∧ V1 i = .string q.2 ∧ D0 i = .lit (.string q.1.data.toList) ∧ D1 i = .lit (.string q.2.data.toList) := by
      intro i hi
      obtain ⟨_, _, t0, t1⟩ := hcell i (by omega)
      obtain ⟨s0, e0, f0, _⟩ := DataW.trod_string Try.underlying9 t0
      obtain ⟨s1, e1, f1, _⟩ := DataW.trod_string Try.underlying9 t1
      simp only [List.cons.injEq, and_true] at e0 e1
      simp only [Prod.mk.injEq] at f0 f1
      exact ⟨(s0, s1), e0, e1, f0.1, f1.1⟩
    obtain ⟨q, hq⟩ := choose_lt each
    have hplen : ((List.range len).map q).length = len := by simp
    obtain ⟨b, off, spot⟩ := a
    have hspot : 0 < len → spot = none := fun h => by simpa [Addr.add] using World.cell?_spot (hcell 0 (by omega)).1
    have hbk : Rows.uptoBulkAll ((List.range len).map fun i => DataW.agg [D0 i, D1 i]) + 1 ≤ Rows.uptoBulk x.1 := by
      rw [hx]
      simp only [Rows.uptoBulk]
      omega
    refine ⟨(some ⟨b, off, spot⟩, len, cap), (List.range len).map q, by rw [hplen], by rw [hplen], ⟨⟨b, off, spot⟩, b, off, .inr ⟨by rw [hplen], fun z => ?_, fun i hi => ?_⟩⟩, ?_, ?_⟩
    · rw [hplen] at z
      refine ⟨by rw [hspot z], hlt (.cell b off) ?_⟩
      rw [hx]
      exact List.mem_append_left _ (MemPlace.mem_row.2 ⟨0, by omega, by simp⟩)
    · rw [hplen] at hi
      have hs := hspot (by omega)
      subst hs
      obtain ⟨c0, c1, _⟩ := hcell i (by omega)
      rw [add_plain] at c0 c1
      rw [show off + i * 2 + 1 = off + (i * 2 + 1) by omega, c0, c1, List.getElem_map, List.getElem_range, (hq i hi).1, (hq i hi).2.1]
      exact ⟨rfl, rfl⟩
    · have := bulk_pairs (List.range len) (fun i => DataW.agg [D0 i, D1 i]) q (fun i hi => by
        have hi' := List.mem_range.1 hi
        rw [(hq i hi').2.2.1, (hq i hi').2.2.2]
        simp only [Rows.uptoBulk, Rows.uptoBulkAll]
        rw [size_data, size_data]
        omega)
      omega
    · rw [hplen]
      have := bulk_len (List.range len) (fun i => DataW.agg [D0 i, D1 i])
      rw [List.length_range] at this
      omega
set_option maxRecDepth 100000 in
/-- groups that are handed in -/
theorem open_groups {H : Type} {enc : TypeId × Value → H} {w : World} {base fuel : Nat} {v : Value} {x : DataW H × List MemPlace} (h : DataW.trod enc Try.prog w base (fun _ => true) true fuel 31 [v] = some x) (hlt : ∀ q ∈ x.2, q.block < w.heap.size) :
    ∃ gs : List GR, GArgs w v gs ∧ gs.length ≤ Rows.uptoBulk x.1 ∧ (∀ g ∈ gs, g.2.length ≤ Rows.uptoBulk x.1) ∧ (encD gs).length ≤ 2 * Rows.uptoBulk x.1 := by
  rcases open_slice Try.underlying31 h with ⟨h0, _⟩ | ⟨a, len, cap, m, n, D, Pl, hv, hb, hl, hm, hmm, hx, hc⟩
  · simp only [List.cons.injEq, and_true] at h0
    exact ⟨[], ⟨[], none, 0, 0, 0, rfl, by rw [h0]; rfl, fun q => absurd q (by simp), fun q => absurd q (by simp), fun i hi => absurd hi (by simp), fun i hi => absurd hi (by simp)⟩, by simp, fun g hg => (by cases hg), by simp [encD]⟩
  · simp only [List.cons.injEq, and_true] at hv
    simp only [if_true] at hmm
    have each : ∀ i, i < len → ∃ q : GR × SQ, w.cell? (a.add (i * 2)) = some (.string q.1.1) ∧ w.cell? (a.add (i * 2 + 1)) = some (.slice q.2.1 q.1.2.length q.2.2.2) ∧ q.2.2.1 = q.1.2.length ∧ (∃ a b o, PairsAt w (.slice q.2.1 q.1.2.length q.2.2.2) a b o q.2.2.2 q.1.2) ∧ 2 + sizeL q.1.2 ≤ 2 * Rows.uptoBulk (D i) ∧ q.1.2.length ≤ Rows.uptoBulk (D i) := by
      intro i hi
      obtain ⟨cs', h1, h2⟩ := hc i (by omega)
      rw [cellsGr] at h1
      obtain ⟨_, hlen, hcell⟩ := World.cells?_some h1
      obtain ⟨xs, k, hk, hxy, _, hxl, hf⟩ := DataW.trod_struct Try.underlying49 h2
      match xs, hxl, cs', hlen with
      | [y0, y1], _, [v0, v1], _ =>
        have g0 := hf 0 _ rfl
        have g1 := hf 1 _ rfl
        simp [cells9G, cellsPL] at g0 g1
        have e0 := hcell 0 (by omega)
        have e1 := hcell 1 (by omega)
        rw [add_add] at e0 e1
        simp only [Prod.mk.injEq] at hxy
        obtain ⟨s0, f0, _⟩ := DataW.trod_string Try.underlying9 g0
        simp only [List.cons.injEq, and_true] at f0
        subst f0
        obtain ⟨s, ps, p1, p2, p3, p4, p5⟩ := open_pairs g1 (fun z hz => hlt z (by
          rw [hx]
          refine List.mem_append_right _ (List.mem_flatMap.2 ⟨i, List.mem_range.2 (by omega), ?_⟩)
          rw [hxy.2]
          simp
          exact .inr hz))
        refine ⟨((s0, ps), s), by simpa using e0, by simp only; rw [← p1]; simpa using e1, p2, by simp only; rw [← p1]; exact p3, ?_, ?_⟩
        · rw [hxy.1]
          simp only [List.map_cons, List.map_nil, Rows.uptoBulk, Rows.uptoBulkAll]
          omega
        · rw [hxy.1]
          simp only [List.map_cons, List.map_nil, Rows.uptoBulk, Rows.uptoBulkAll]
          omega
    obtain ⟨q, hq⟩ := choose_lt each
    have hbk : Rows.uptoBulkAll ((List.range len).map D) + 1 ≤ Rows.uptoBulk x.1 := by
      rw [hx]
      simp only [Rows.uptoBulk]
      omega
    obtain ⟨b, off, spot⟩ := a
    have hspot : 0 < len → spot = none := fun h => by simpa [Addr.add] using World.cell?_spot (hq 0 h).1
    have hl1 : ((List.range len).map fun i => (q i).1).length = len := by simp
    have hl2 : ((List.range len).map fun i => (((q i).1.1, (q i).2) : GQ)).length = len := by simp
    refine ⟨(List.range len).map fun i => (q i).1, ⟨(List.range len).map fun i => ((q i).1.1, (q i).2), some ⟨b, off, spot⟩, b, off, cap, by rw [hl1, hl2], by rw [hl2, hv], fun z => ?_, fun z => ?_, fun i hi => ?_, fun i hi hq' => ?_⟩, ?_, fun g hg => ?_, ?_⟩
    · rw [hl2] at z
      rw [hspot z]
    · rw [hl2] at z
      refine hlt (.cell b off) ?_
      rw [hx, cellsGr]
      exact List.mem_append_left _ (MemPlace.mem_row.2 ⟨0, by omega, by simp⟩)
    · rw [hl2] at hi
      obtain ⟨c0, c1, c2, _⟩ := hq i hi
      have hs := hspot (by omega)
      subst hs
      rw [add_plain] at c0 c1
      rw [List.getElem_map, List.getElem_range, show off + i * 2 + 1 = off + (i * 2 + 1) by omega, c0, c1, c2]
      exact ⟨rfl, rfl⟩
    · rw [hl1] at hi
      obtain ⟨c0, c1, c2, c3, _⟩ := hq i hi
      rw [List.getElem_map, List.getElem_map, List.getElem_range]
      exact ⟨rfl, c2, c3⟩
    · rw [hl1]
      have := bulk_len (List.range len) D
      rw [List.length_range] at this
      omega
    · obtain ⟨i, hi, rfl⟩ := List.mem_map.1 hg
      have h1 := (hq i (List.mem_range.1 hi)).2.2.2.2.2
      have h2 := bulk_in (List.range len) D hi
      omega
    · have := bulk_groups (List.range len) D (fun i => (q i).1) (fun i hi => (hq i (List.mem_range.1 hi)).2.2.2.2.1)
      omega
end Go.Proofs.Ythihmgdefbahpaa
