import Derived.Test.YthihmgdefbahpaaPart10
import Derived.ProofKit
import Derived.OpenShut
import Derived.SizedLaws
import Derived.SliceStrings
import Derived.Deep.SlicePairs
namespace Go.Proofs.Ythihmgdefbahpaa
open Go.RowKit
theorem GA.shape {w : World} {bl bp : Nat} {v : Value} {gs : List GR} (h : GA w bl bp v gs) : ∃ a c, v = .slice a gs.length c := by
  obtain ⟨ts, rfl, r, _⟩ := h
  rw [List.length_map]
  exact own_shape r
set_option maxHeartbeats 2000000 in
set_option maxRecDepth 100000 in
set_option linter.unusedSimpArgs false in
/-- made -/
theorem made_any (k : Nat) (v : Value) (ps : List PU) (w : World) (hk : k ≤ 16) (hp : PutsAt w v ps) (hlen : ps.length ≤ 9223372036854775807) :
    Calls Try.prog 18 #[.int .i64 (k : Int), v] w fun e w' => ∃ v', e = .returned v' ∧ GA w' w.heap.size w.heap.size v' (mkG k ps) ∧ Below w.heap.size w w' := by
  obtain ⟨ao, b, off, cap, rfl, h2, h3, h4⟩ := hp
  have H4 := hide h4
  clear h4
  go_enter Try.func18, Try.ntmps18
  go_wp2_with fail
  go_loopw [5, 6] (fun l i wr => ∃ j : Nat, j ≤ ps.length ∧ i = .int .i64 (j : Int) ∧ GA wr w.heap.size w.heap.size l (mkG k (ps.take j)) ∧ Below w.heap.size w wr) (fun _ i _ => ps.length - (intOf i).toNat)
  case atStart => exact ⟨0, Nat.zero_le _, rfl, GA.nil _ _ _, Below.refl _ _⟩
  case round =>
    obtain ⟨j, hj, rfl, hga, hnx⟩ := hrel
    obtain ⟨a3, c3, rfl⟩ := hga.shape
    have HGA := hide hga
    have HNX := hide hnx
    clear hga
    by_cases hlt : j < ps.length
    · obtain rfl := h2 (by omega)
      have x1 := h3 (by omega)
      have hji : (j : Int) < (ps.length : Int) := by omega
      have RE := hide (mkG_take k ps j hlt)
      have MK := hide (mkG_ok k (ps.take j))
      have HD : Hid (∀ w', Below w.heap.size w w' → w'.cell? ⟨b, off + j * 3, none⟩ = some (.string ps[j].1) ∧ w'.cell? ⟨b, off + j * 3 + 1, none⟩ = some (.string ps[j].2.1) ∧ w'.cell? ⟨b, off + j * 3 + 2, none⟩ = some (.string ps[j].2.2)) := fun w' hb => by
        rw [hb.cell (by exact x1), hb.cell (by exact x1), hb.cell (by exact x1)]
        exact H4.out j hlt
      have hQe : ps[j] = (ps[j].1, ps[j].2.1, ps[j].2.2) := rfl
      rw [hQe] at RE
      clear hnx hQe
      generalize ps[j].1 = PH at *
      generalize ps[j].2.1 = PK at *
      generalize ps[j].2.2 = PV at *
      generalize mkG k (ps.take j) = L at *
      obtain ⟨L2, hL2⟩ : ∃ L2, mkG k (ps.take (j + 1)) = L2 := ⟨_, rfl⟩
      rw [hL2] at RE
      have L2E := hide hL2
      clear hL2
      have PG := hide (fun v w' (hg : GA w' w.heap.size w.heap.size v L) (hb : Below w.heap.size w w') => putGroup_any v w.heap.size w.heap.size L (fitB PH k) (kyd PK, vld PV) w' hg hb.size MK.out.up.1 MK.out.up.2 (Nat.le_trans MK.out.len (by omega)) (fun g hg => Nat.le_trans (MK.out.pairs g hg) (by omega)))
      go_wp2_with fail
      refine wp_region_held_drew (S := fun w' => w'.cell? ⟨b, off + j * 3, none⟩ = some (.string PH) ∧ w'.cell? ⟨b, off + j * 3 + 1, none⟩ = some (.string PK) ∧ w'.cell? ⟨b, off + j * 3 + 2, none⟩ = some (.string PV)) (by kernel_rfl) (HD.out _ HNX.out.drew) (fun hHeld => ?_)
      refine wpAnyH_take (i := 0) (v := (.slice a3 L.length c3)) rfl (by kernel_rfl) (by kernel_rfl) (by kernel_rfl) (fun _ _ _ h => h) (Or.inl ⟨by rfl, ?_⟩) (by assumption) ?_
      · intro w' hSw
        (try dsimp only at hSw)
        go_simp <;> first | exact i64_in (by omega) (by omega) | exact u32_in (by omega) (by omega) | exact u32_add _ _ | (rw [Int.tmod_eq_emod_of_nonneg (by omega)]; omega) | (rw [Int.tdiv_eq_ediv_of_nonneg (by omega)]; omega) | omega
      (try simp only [Act.put, List.setIfInBounds_toArray, List.set_cons_zero, List.set_cons_succ])
      refine wpAnyH_take (i := 1) (v := (.slice (some ⟨b, off, none⟩) ps.length cap)) rfl (by kernel_rfl) (by kernel_rfl) (by kernel_rfl) (fun _ _ _ h => h) (Or.inl ⟨by rfl, ?_⟩) (by assumption) ?_
      · intro w' hSw
        (try dsimp only at hSw)
        go_simp <;> first | exact i64_in (by omega) (by omega) | exact u32_in (by omega) (by omega) | exact u32_add _ _ | (rw [Int.tmod_eq_emod_of_nonneg (by omega)]; omega) | (rw [Int.tdiv_eq_ediv_of_nonneg (by omega)]; omega) | omega
      (try simp only [Act.put, List.setIfInBounds_toArray, List.set_cons_zero, List.set_cons_succ])
      refine wpAnyH_take (i := 2) (v := (.int .i64 (j : Int))) rfl (by kernel_rfl) (by kernel_rfl) (by kernel_rfl) (fun _ _ _ h => h) (Or.inl ⟨by rfl, ?_⟩) (by assumption) ?_
      · intro w' hSw
        (try dsimp only at hSw)
        go_simp <;> first | exact i64_in (by omega) (by omega) | exact u32_in (by omega) (by omega) | exact u32_add _ _ | (rw [Int.tmod_eq_emod_of_nonneg (by omega)]; omega) | (rw [Int.tdiv_eq_ediv_of_nonneg (by omega)]; omega) | omega
      (try simp only [Act.put, List.setIfInBounds_toArray, List.set_cons_zero, List.set_cons_succ])
      refine wpAnyH_take (i := 3) (v := (.pointer (some ⟨b, off + j * 3, none⟩))) rfl (by kernel_rfl) (by kernel_rfl) (by kernel_rfl) (fun _ _ _ h => h) (Or.inl ⟨by rfl, ?_⟩) (by assumption) ?_
      · intro w' hSw
        (try dsimp only at hSw)
        go_simp <;> first | exact i64_in (by omega) (by omega) | exact u32_in (by omega) (by omega) | exact u32_add _ _ | (rw [Int.tmod_eq_emod_of_nonneg (by omega)]; omega) | (rw [Int.tdiv_eq_ediv_of_nonneg (by omega)]; omega) | omega
      (try simp only [Act.put, List.setIfInBounds_toArray, List.set_cons_zero, List.set_cons_succ])
      refine wpAnyH_take (i := 4) (v := (.pointer (some ⟨b, off + j * 3, none⟩))) rfl (by kernel_rfl) (by kernel_rfl) (by kernel_rfl) (fun _ _ _ h => h) (Or.inl ⟨by rfl, ?_⟩) (by assumption) ?_
      · intro w' hSw
        (try dsimp only at hSw)
        go_simp <;> first | exact i64_in (by omega) (by omega) | exact u32_in (by omega) (by omega) | exact u32_add _ _ | (rw [Int.tmod_eq_emod_of_nonneg (by omega)]; omega) | (rw [Int.tdiv_eq_ediv_of_nonneg (by omega)]; omega) | omega
      (try simp only [Act.put, List.setIfInBounds_toArray, List.set_cons_zero, List.set_cons_succ])
      refine wpAnyH_take (i := 5) (v := (.string PH)) rfl (by kernel_rfl) (by kernel_rfl) (by kernel_rfl) (fun _ _ _ h => h) (Or.inl ⟨by rfl, ?_⟩) (by assumption) ?_
      · intro w' hSw
        (try dsimp only at hSw)
        (obtain ⟨hS1, hS2, hS3⟩ := hSw; go_simp)
      (try simp only [Act.put, List.setIfInBounds_toArray, List.set_cons_zero, List.set_cons_succ])
      refine wpAnyH_take (i := 6) (v := (.int .i64 (k : Int))) rfl (by kernel_rfl) (by kernel_rfl) (by kernel_rfl) (fun _ _ _ h => h) (Or.inl ⟨by rfl, ?_⟩) (by assumption) ?_
      · intro w' hSw
        (try dsimp only at hSw)
        go_simp <;> first | exact i64_in (by omega) (by omega) | exact u32_in (by omega) (by omega) | exact u32_add _ _ | (rw [Int.tmod_eq_emod_of_nonneg (by omega)]; omega) | (rw [Int.tdiv_eq_ediv_of_nonneg (by omega)]; omega) | omega
      (try simp only [Act.put, List.setIfInBounds_toArray, List.set_cons_zero, List.set_cons_succ])
      refine wpAnyH_take (i := 8) (v := (.slice (some ⟨b, off, none⟩) ps.length cap)) rfl (by kernel_rfl) (by kernel_rfl) (by kernel_rfl) (fun _ _ _ h => h) (Or.inl ⟨by rfl, ?_⟩) (by assumption) ?_
      · intro w' hSw
        (try dsimp only at hSw)
        go_simp <;> first | exact i64_in (by omega) (by omega) | exact u32_in (by omega) (by omega) | exact u32_add _ _ | (rw [Int.tmod_eq_emod_of_nonneg (by omega)]; omega) | (rw [Int.tdiv_eq_ediv_of_nonneg (by omega)]; omega) | omega
      (try simp only [Act.put, List.setIfInBounds_toArray, List.set_cons_zero, List.set_cons_succ])
      refine wpAnyH_take (i := 9) (v := (.int .i64 (j : Int))) rfl (by kernel_rfl) (by kernel_rfl) (by kernel_rfl) (fun _ _ _ h => h) (Or.inl ⟨by rfl, ?_⟩) (by assumption) ?_
      · intro w' hSw
        (try dsimp only at hSw)
        go_simp <;> first | exact i64_in (by omega) (by omega) | exact u32_in (by omega) (by omega) | exact u32_add _ _ | (rw [Int.tmod_eq_emod_of_nonneg (by omega)]; omega) | (rw [Int.tdiv_eq_ediv_of_nonneg (by omega)]; omega) | omega
      (try simp only [Act.put, List.setIfInBounds_toArray, List.set_cons_zero, List.set_cons_succ])
      refine wpAnyH_take (i := 10) (v := (.pointer (some ⟨b, off + j * 3, none⟩))) rfl (by kernel_rfl) (by kernel_rfl) (by kernel_rfl) (fun _ _ _ h => h) (Or.inl ⟨by rfl, ?_⟩) (by assumption) ?_
      · intro w' hSw
        (try dsimp only at hSw)
        go_simp <;> first | exact i64_in (by omega) (by omega) | exact u32_in (by omega) (by omega) | exact u32_add _ _ | (rw [Int.tmod_eq_emod_of_nonneg (by omega)]; omega) | (rw [Int.tdiv_eq_ediv_of_nonneg (by omega)]; omega) | omega
      (try simp only [Act.put, List.setIfInBounds_toArray, List.set_cons_zero, List.set_cons_succ])
      refine wpAnyH_take (i := 11) (v := (.pointer (some ⟨b, off + j * 3 + 1, none⟩))) rfl (by kernel_rfl) (by kernel_rfl) (by kernel_rfl) (fun _ _ _ h => h) (Or.inl ⟨by rfl, ?_⟩) (by assumption) ?_
      · intro w' hSw
        (try dsimp only at hSw)
        go_simp <;> first | exact i64_in (by omega) (by omega) | exact u32_in (by omega) (by omega) | exact u32_add _ _ | (rw [Int.tmod_eq_emod_of_nonneg (by omega)]; omega) | (rw [Int.tdiv_eq_ediv_of_nonneg (by omega)]; omega) | omega
      (try simp only [Act.put, List.setIfInBounds_toArray, List.set_cons_zero, List.set_cons_succ])
      refine wpAnyH_take (i := 12) (v := (.string PK)) rfl (by kernel_rfl) (by kernel_rfl) (by kernel_rfl) (fun _ _ _ h => h) (Or.inl ⟨by rfl, ?_⟩) (by assumption) ?_
      · intro w' hSw
        (try dsimp only at hSw)
        (obtain ⟨hS1, hS2, hS3⟩ := hSw; go_simp)
      (try simp only [Act.put, List.setIfInBounds_toArray, List.set_cons_zero, List.set_cons_succ])
      refine wpAnyH_take (i := 14) (v := (.slice (some ⟨b, off, none⟩) ps.length cap)) rfl (by kernel_rfl) (by kernel_rfl) (by kernel_rfl) (fun _ _ _ h => h) (Or.inl ⟨by rfl, ?_⟩) (by assumption) ?_
      · intro w' hSw
        (try dsimp only at hSw)
        go_simp <;> first | exact i64_in (by omega) (by omega) | exact u32_in (by omega) (by omega) | exact u32_add _ _ | (rw [Int.tmod_eq_emod_of_nonneg (by omega)]; omega) | (rw [Int.tdiv_eq_ediv_of_nonneg (by omega)]; omega) | omega
      (try simp only [Act.put, List.setIfInBounds_toArray, List.set_cons_zero, List.set_cons_succ])
      refine wpAnyH_take (i := 15) (v := (.int .i64 (j : Int))) rfl (by kernel_rfl) (by kernel_rfl) (by kernel_rfl) (fun _ _ _ h => h) (Or.inl ⟨by rfl, ?_⟩) (by assumption) ?_
      · intro w' hSw
        (try dsimp only at hSw)
        go_simp <;> first | exact i64_in (by omega) (by omega) | exact u32_in (by omega) (by omega) | exact u32_add _ _ | (rw [Int.tmod_eq_emod_of_nonneg (by omega)]; omega) | (rw [Int.tdiv_eq_ediv_of_nonneg (by omega)]; omega) | omega
      (try simp only [Act.put, List.setIfInBounds_toArray, List.set_cons_zero, List.set_cons_succ])
      refine wpAnyH_take (i := 16) (v := (.pointer (some ⟨b, off + j * 3, none⟩))) rfl (by kernel_rfl) (by kernel_rfl) (by kernel_rfl) (fun _ _ _ h => h) (Or.inl ⟨by rfl, ?_⟩) (by assumption) ?_
      · intro w' hSw
        (try dsimp only at hSw)
        go_simp <;> first | exact i64_in (by omega) (by omega) | exact u32_in (by omega) (by omega) | exact u32_add _ _ | (rw [Int.tmod_eq_emod_of_nonneg (by omega)]; omega) | (rw [Int.tdiv_eq_ediv_of_nonneg (by omega)]; omega) | omega
      (try simp only [Act.put, List.setIfInBounds_toArray, List.set_cons_zero, List.set_cons_succ])
      refine wpAnyH_take (i := 17) (v := (.pointer (some ⟨b, off + j * 3 + 2, none⟩))) rfl (by kernel_rfl) (by kernel_rfl) (by kernel_rfl) (fun _ _ _ h => h) (Or.inl ⟨by rfl, ?_⟩) (by assumption) ?_
      · intro w' hSw
        (try dsimp only at hSw)
        go_simp <;> first | exact i64_in (by omega) (by omega) | exact u32_in (by omega) (by omega) | exact u32_add _ _ | (rw [Int.tmod_eq_emod_of_nonneg (by omega)]; omega) | (rw [Int.tdiv_eq_ediv_of_nonneg (by omega)]; omega) | omega
      (try simp only [Act.put, List.setIfInBounds_toArray, List.set_cons_zero, List.set_cons_succ])
      refine wpAnyH_take (i := 18) (v := (.string PV)) rfl (by kernel_rfl) (by kernel_rfl) (by kernel_rfl) (fun _ _ _ h => h) (Or.inl ⟨by rfl, ?_⟩) (by assumption) ?_
      · intro w' hSw
        (try dsimp only at hSw)
        (obtain ⟨hS1, hS2, hS3⟩ := hSw; go_simp)
      (try simp only [Act.put, List.setIfInBounds_toArray, List.set_cons_zero, List.set_cons_succ])
      refine wpAnyH_ready (rs := [7]) (by kernel_rfl) (by simp) ?_
      refine AllReadyH.cons rfl (fun K hK => ?_) AllReadyH.nil
      go_simp
      refine Calls.mono (fit_any PH k hk _) ?_
      rintro e w2 ⟨rfl, rfl⟩
      refine hK.out _ _ (HD.out _ HNX.out.drew) (fun hHeld => ?_)
      clear hK
      (try simp only [Act.put, List.setIfInBounds_toArray, List.set_cons_zero, List.set_cons_succ])
      refine wpAnyH_ready (rs := [13]) (by kernel_rfl) (by simp) ?_
      refine AllReadyH.cons rfl (fun K hK => ?_) AllReadyH.nil
      go_simp
      refine Calls.mono (keyed_any PK _) ?_
      rintro e w2 ⟨rfl, rfl⟩
      refine hK.out _ _ (HD.out _ HNX.out.drew) (fun hHeld => ?_)
      clear hK
      (try simp only [Act.put, List.setIfInBounds_toArray, List.set_cons_zero, List.set_cons_succ])
      refine wpAnyH_ready (rs := [19]) (by kernel_rfl) (by simp) ?_
      refine AllReadyH.cons rfl (fun K hK => ?_) AllReadyH.nil
      go_simp
      refine Calls.mono (valued_any PV _) ?_
      rintro e w2 ⟨rfl, rfl⟩
      refine hK.out _ _ (HD.out _ HNX.out.drew) (fun hHeld => ?_)
      clear hK
      (try simp only [Act.put, List.setIfInBounds_toArray, List.set_cons_zero, List.set_cons_succ])
      refine wpAnyH_take (i := 20) (v := (.agg #[.string (kyd PK), .string (vld PV)])) rfl (by kernel_rfl) (by kernel_rfl) (by kernel_rfl) (fun _ _ _ h => h) (Or.inl ⟨by rfl, ?_⟩) (by assumption) ?_
      · intro w' hSw
        (try dsimp only at hSw)
        go_simp <;> first | exact i64_in (by omega) (by omega) | exact u32_in (by omega) (by omega) | exact u32_add _ _ | (rw [Int.tmod_eq_emod_of_nonneg (by omega)]; omega) | (rw [Int.tdiv_eq_ediv_of_nonneg (by omega)]; omega) | omega
      (try simp only [Act.put, List.setIfInBounds_toArray, List.set_cons_zero, List.set_cons_succ])
      refine wpAnyH_ready (rs := [21]) (by kernel_rfl) (by simp) ?_
      refine AllReadyH.cons rfl (fun K hK => ?_) AllReadyH.nil
      go_simp
      refine Calls.mono (PG.out _ _ (HGA.out.below (Below.refl _ _).drew) HNX.out.drew) ?_
      rintro e w2 ⟨v2, rfl, g2, b2⟩
      have B2 := HNX.out.drew.trans (b2.mono HNX.out.drew.size)
      have HB2 := hide B2
      have G2 := hide (GA.groups g2 HNX.out.drew.size (Nat.le_refl _))
      have GN := hide (⟨_, g2.choose_spec.1, own_base g2.choose_spec.2.1 HNX.out.drew.size, g2.choose_spec.2.2⟩ : GA w2 w.heap.size w.heap.size v2 (putG L (fitB PH k) (kyd PK, vld PV)))
      have GO := hide (HGA.out.below ((Below.refl _ _).drew.trans b2))
      refine hK.out _ _ (HD.out _ B2) (fun hHeld => ?_)
      clear hK b2 B2 g2
      (try simp only [Act.put, List.setIfInBounds_toArray, List.set_cons_zero, List.set_cons_succ])
      refine wpAnyH_ready (rs := [22]) (by kernel_rfl) (by simp) ?_
      refine AllReadyH.cons rfl (fun K hK => ?_) AllReadyH.nil
      go_simp
      refine hK.out _ _ (HD.out _ HB2.out) (fun hHeld => ?_)
      clear hK
      (try simp only [Act.put, List.setIfInBounds_toArray, List.set_cons_zero, List.set_cons_succ])
      refine wpAnyH_done (by kernel_rfl) ?_ _
      have WG := hide (fun w' (hg : GroupsAt w' w.heap.size v2 (mkOne k L (PH, PK, PV))) => weight_any v2 w.heap.size (mkOne k L (PH, PK, PV)) w' hg (mkOne_len MK.out (PH, PK, PV)).1 (fun g hg => Nat.le_trans ((mkOne_len MK.out (PH, PK, PV)).2.1 g hg) (by omega)) (mkOne_len MK.out (PH, PK, PV)).2.2)
      have GN2 : Hid (GA w2 w.heap.size w.heap.size v2 (mkOne k L (PH, PK, PV))) := GN.out
      have GG2 : Hid (GroupsAt w2 w.heap.size v2 (mkOne k L (PH, PK, PV))) := G2.out
      unfold mkStep at RE
      clear GN G2 PG hHeld
      have hml := (mkOne_len MK.out (PH, PK, PV)).2.2
      generalize mkOne k L (PH, PK, PV) = M at *
      obtain ⟨a4, c4, rfl⟩ := GN2.out.shape
      have hfl : fullL M = fullL M := rfl
      clear hfl
      go_wp2_with fail
      refine Calls.mono (WG.out _ GG2.out) ?_
      rintro e w3 ⟨rfl, b3⟩
      have HB3 := hide (HB2.out.trans (b3.mono HB2.out.size))
      have GN3 := hide (GN2.out.below b3)
      have GO3 := hide (GO.out.below b3)
      clear b3 WG GG2 GN2 GO HB2
      generalize (encD M).length = N at *
      generalize fullL M = Fu at *
      by_cases c1 : N ≤ 65536
      · have d1 : (N : Int) ≤ 65536 := by omega
        by_cases c2 : Fu ≤ 512
        · have d2 : (Fu : Int) ≤ 512 := by omega
          have RE2 : Hid (L2 = M) := RE.out.trans (if_pos ⟨c1, c2⟩)
          go_wp2_with fail
          go_roundw
          case rel => exact ⟨j + 1, by omega, by go_num, by rw [L2E.out, RE2.out]; exact GN3.out, HB3.out⟩
          case measure => simp [intOf]; omega
        · have d2 : ¬ (Fu : Int) ≤ 512 := by omega
          have RE2 : Hid (L2 = L) := RE.out.trans (if_neg (fun q => c2 q.2))
          go_wp2_with fail
          go_roundw
          case rel => exact ⟨j + 1, by omega, by go_num, by rw [L2E.out, RE2.out]; exact GO3.out, HB3.out⟩
          case measure => simp [intOf]; omega
      · have d1 : ¬ (N : Int) ≤ 65536 := by omega
        have RE2 : Hid (L2 = L) := RE.out.trans (if_neg (fun q => c1 q.1))
        go_wp2_with fail
        go_roundw
        case rel => exact ⟨j + 1, by omega, by go_num, by rw [L2E.out, RE2.out]; exact GO3.out, HB3.out⟩
        case measure => simp [intOf]; omega
    · obtain rfl : j = ps.length := by omega
      clear hnx
      have hji : ¬ ((ps.length : Int) < (ps.length : Int)) := by omega
      rw [List.take_length] at HGA
      go_wp2_with fail
      go_ret
      exact ⟨_, rfl, HGA.out, HNX.out⟩
end Go.Proofs.Ythihmgdefbahpaa
namespace Go.Proofs.Ythihmgdefbahpaa
open Go.RowKit
theorem ite_yes {c : Prop} [Decidable c] {A B : Prop} (hc : c) (h : A) : if c then A else B := by rw [if_pos hc]; exact h
theorem GA.take {w : World} {bl bp : Nat} {v : Value} {gs : List GR} (h : GA w bl bp v gs) {l : List GR} (e : gs = l) : GA w bl bp v l := e ▸ h
set_option maxHeartbeats 2000000 in
set_option maxRecDepth 100000 in
set_option linter.unusedSimpArgs false in
/-- copied -/
theorem copied_any (v : Value) (gs : List GR) (w : World) (hg : GLies w v gs) (hne : ∀ g ∈ gs, 0 < g.2.length) (hlen : gs.length ≤ 65536) (hps : ∀ g ∈ gs, g.2.length ≤ 65536) :
    Calls Try.prog 19 #[v] w fun e w' => ∃ v', e = .returned v' ∧ GA w' w.heap.size w.heap.size v' gs ∧ Below w.heap.size w w' := by
  obtain ⟨i0, hi, hz0, hz1, hz2⟩ := info_parts infoG
  obtain ⟨i1, hj, hy0, hy1, hy2⟩ := info_parts infoP
  obtain ⟨qs, ao, g, off, cap, hql, rfl, h3, h4, h5, h6⟩ := hg
  have H5 := hide h5
  have H6 := hide h6
  have HNE := hide hne
  have HPS := hide hps
  rw [hql] at h3 h4 ⊢
  clear h5 h6 hne hps
  go_enter Try.func19, Try.ntmps19
  go_wp2_with fail
  go_loopw [3, 4] (fun l i wr => ∃ j : Nat, j ≤ gs.length ∧ i = .int .i64 (j : Int) ∧ GA wr w.heap.size w.heap.size l (gs.take j) ∧ Below w.heap.size w wr) (fun _ i _ => gs.length - (intOf i).toNat)
  case atStart => exact ⟨0, Nat.zero_le _, rfl, GA.nil _ _ _, Below.refl _ _⟩
  case round =>
    obtain ⟨j, hj9, rfl, hga, hnx⟩ := hrel
    by_cases hlt : j < gs.length
    · obtain rfl := h3 (by omega)
      have x1 := h4 (by omega)
      have hji : (j : Int) < (gs.length : Int) := by omega
      obtain ⟨d0, d1⟩ := H5.out j (by omega)
      obtain ⟨y0, y1⟩ := H6.out j hlt (by omega)
      have hpos := HNE.out _ (List.getElem_mem hlt)
      have hpl := HPS.out _ (List.getElem_mem hlt)
      have RE : Hid (gs.take (j + 1) = gs.take j ++ [(gs[j].1, gs[j].2)]) := List.take_succ_eq_append_getElem hlt
      rw [y0] at d0
      clear y0
      generalize gs[j].1 = QH at *
      generalize gs[j].2 = QL at *
      generalize qs[j].2 = sq at *
      obtain ⟨b, of2, z1, z2, z3, z4⟩ := y1
      obtain ⟨s1, s2, s3⟩ := sq
      simp only at z1 z2 d1
      obtain rfl := z2 hpos
      subst z1
      have x2 := z3 hpos
      have hlj : (gs.take j).length = j := by rw [List.length_take]; omega
      generalize hT : gs.take j = T at *
      obtain ⟨ms, rfl, hown, hrows⟩ := hga
      rw [List.length_map] at hlj
      obtain ⟨a3, c3, rfl⟩ := own_shape hown
      have HOWN := hide hown
      have HROWS := hide hrows
      have HNX := hide hnx
      have hsz := hnx.size
      have C : Hid (∀ i u, (pc QL)[i]? = some u → wr.drew.cell? ((⟨b, of2, none⟩ : Addr).add i) = some u) := fun i u hu => lies_cells (z4.below x2 hnx.drew) i u hu
      have hszd : w.heap.size ≤ wr.drew.heap.size := hnx.drew.size
      have e0 : wr.cell? ⟨g, off + j * 2, none⟩ = some (.string QH) := by rw [hnx.cell (by exact x1)]; exact d0
      have e1 : wr.cell? ⟨g, off + j * 2 + 1, none⟩ = some (.slice (some ⟨b, of2, none⟩) QL.length s3) := by rw [hnx.cell (by exact x1)]; exact d1
      obtain ⟨hm1, hm2, hm3, hm4⟩ : ms.length + 1 ≤ maxLen ∧ (ms.length + 1) * 40 ≤ 140737488355328 ∧ 0 + QL.length ≤ maxLen ∧ (0 + QL.length) * 32 ≤ 140737488355328 := by unfold maxLen; omega
      clear hlj
      have HD : Hid (∀ w', Below w.heap.size w w' → w'.cell? ⟨g, off + j * 2, none⟩ = some (.string QH) ∧ w'.cell? ⟨g, off + j * 2 + 1, none⟩ = some (.slice (some ⟨b, of2, none⟩) QL.length s3)) := fun w' hb => by
        rw [hb.cell (by exact x1), hb.cell (by exact x1)]; exact ⟨d0, d1⟩
      clear hown hrows hnx z4 d0 d1 z3 hT e0 e1
      go_wp2_with fail
      refine wp_region_held_drew (S := fun w' => w'.cell? ⟨g, off + j * 2, none⟩ = some (.string QH) ∧ w'.cell? ⟨g, off + j * 2 + 1, none⟩ = some (.slice (some ⟨b, of2, none⟩) QL.length s3)) (by kernel_rfl) (HD.out _ HNX.out.drew) (fun hHeld => ?_)
      refine wpAnyH_take (i := 0) (v := (.slice a3 ms.length c3)) rfl (by kernel_rfl) (by kernel_rfl) (by kernel_rfl) (fun _ _ _ h => h) (Or.inl ⟨by rfl, ?_⟩) (by assumption) ?_
      · intro w' hSw
        (try dsimp only at hSw)
        go_simp <;> first | exact i64_in (by omega) (by omega) | exact u32_in (by omega) (by omega) | exact u32_add _ _ | (rw [Int.tmod_eq_emod_of_nonneg (by omega)]; omega) | (rw [Int.tdiv_eq_ediv_of_nonneg (by omega)]; omega) | omega
      (try simp only [Act.put, List.setIfInBounds_toArray, List.set_cons_zero, List.set_cons_succ])
      refine wpAnyH_take (i := 1) (v := (.slice (some ⟨g, off, none⟩) gs.length cap)) rfl (by kernel_rfl) (by kernel_rfl) (by kernel_rfl) (fun _ _ _ h => h) (Or.inl ⟨by rfl, ?_⟩) (by assumption) ?_
      · intro w' hSw
        (try dsimp only at hSw)
        go_simp <;> first | exact i64_in (by omega) (by omega) | exact u32_in (by omega) (by omega) | exact u32_add _ _ | (rw [Int.tmod_eq_emod_of_nonneg (by omega)]; omega) | (rw [Int.tdiv_eq_ediv_of_nonneg (by omega)]; omega) | omega
      (try simp only [Act.put, List.setIfInBounds_toArray, List.set_cons_zero, List.set_cons_succ])
      refine wpAnyH_take (i := 2) (v := (.int .i64 (j : Int))) rfl (by kernel_rfl) (by kernel_rfl) (by kernel_rfl) (fun _ _ _ h => h) (Or.inl ⟨by rfl, ?_⟩) (by assumption) ?_
      · intro w' hSw
        (try dsimp only at hSw)
        go_simp <;> first | exact i64_in (by omega) (by omega) | exact u32_in (by omega) (by omega) | exact u32_add _ _ | (rw [Int.tmod_eq_emod_of_nonneg (by omega)]; omega) | (rw [Int.tdiv_eq_ediv_of_nonneg (by omega)]; omega) | omega
      (try simp only [Act.put, List.setIfInBounds_toArray, List.set_cons_zero, List.set_cons_succ])
      refine wpAnyH_take (i := 3) (v := (.pointer (some ⟨g, off + j * 2, none⟩))) rfl (by kernel_rfl) (by kernel_rfl) (by kernel_rfl) (fun _ _ _ h => h) (Or.inl ⟨by rfl, ?_⟩) (by assumption) ?_
      · intro w' hSw
        (try dsimp only at hSw)
        go_simp <;> first | exact i64_in (by omega) (by omega) | exact u32_in (by omega) (by omega) | exact u32_add _ _ | (rw [Int.tmod_eq_emod_of_nonneg (by omega)]; omega) | (rw [Int.tdiv_eq_ediv_of_nonneg (by omega)]; omega) | omega
      (try simp only [Act.put, List.setIfInBounds_toArray, List.set_cons_zero, List.set_cons_succ])
      refine wpAnyH_take (i := 4) (v := (.pointer (some ⟨g, off + j * 2, none⟩))) rfl (by kernel_rfl) (by kernel_rfl) (by kernel_rfl) (fun _ _ _ h => h) (Or.inl ⟨by rfl, ?_⟩) (by assumption) ?_
      · intro w' hSw
        (try dsimp only at hSw)
        go_simp <;> first | exact i64_in (by omega) (by omega) | exact u32_in (by omega) (by omega) | exact u32_add _ _ | (rw [Int.tmod_eq_emod_of_nonneg (by omega)]; omega) | (rw [Int.tdiv_eq_ediv_of_nonneg (by omega)]; omega) | omega
      (try simp only [Act.put, List.setIfInBounds_toArray, List.set_cons_zero, List.set_cons_succ])
      refine wpAnyH_take (i := 5) (v := (.string QH)) rfl (by kernel_rfl) (by kernel_rfl) (by kernel_rfl) (fun _ _ _ h => h) (Or.inl ⟨by rfl, ?_⟩) (by assumption) ?_
      · intro w' hSw
        (try dsimp only at hSw)
        (obtain ⟨hS1, hS2⟩ := hSw; go_simp)
      (try simp only [Act.put, List.setIfInBounds_toArray, List.set_cons_zero, List.set_cons_succ])
      refine wpAnyH_take (i := 6) (v := (.slice (some ⟨g, off, none⟩) gs.length cap)) rfl (by kernel_rfl) (by kernel_rfl) (by kernel_rfl) (fun _ _ _ h => h) (Or.inl ⟨by rfl, ?_⟩) (by assumption) ?_
      · intro w' hSw
        (try dsimp only at hSw)
        go_simp <;> first | exact i64_in (by omega) (by omega) | exact u32_in (by omega) (by omega) | exact u32_add _ _ | (rw [Int.tmod_eq_emod_of_nonneg (by omega)]; omega) | (rw [Int.tdiv_eq_ediv_of_nonneg (by omega)]; omega) | omega
      (try simp only [Act.put, List.setIfInBounds_toArray, List.set_cons_zero, List.set_cons_succ])
      refine wpAnyH_take (i := 7) (v := (.int .i64 (j : Int))) rfl (by kernel_rfl) (by kernel_rfl) (by kernel_rfl) (fun _ _ _ h => h) (Or.inl ⟨by rfl, ?_⟩) (by assumption) ?_
      · intro w' hSw
        (try dsimp only at hSw)
        go_simp <;> first | exact i64_in (by omega) (by omega) | exact u32_in (by omega) (by omega) | exact u32_add _ _ | (rw [Int.tmod_eq_emod_of_nonneg (by omega)]; omega) | (rw [Int.tdiv_eq_ediv_of_nonneg (by omega)]; omega) | omega
      (try simp only [Act.put, List.setIfInBounds_toArray, List.set_cons_zero, List.set_cons_succ])
      refine wpAnyH_take (i := 8) (v := (.pointer (some ⟨g, off + j * 2, none⟩))) rfl (by kernel_rfl) (by kernel_rfl) (by kernel_rfl) (fun _ _ _ h => h) (Or.inl ⟨by rfl, ?_⟩) (by assumption) ?_
      · intro w' hSw
        (try dsimp only at hSw)
        go_simp <;> first | exact i64_in (by omega) (by omega) | exact u32_in (by omega) (by omega) | exact u32_add _ _ | (rw [Int.tmod_eq_emod_of_nonneg (by omega)]; omega) | (rw [Int.tdiv_eq_ediv_of_nonneg (by omega)]; omega) | omega
      (try simp only [Act.put, List.setIfInBounds_toArray, List.set_cons_zero, List.set_cons_succ])
      refine wpAnyH_take (i := 9) (v := (.pointer (some ⟨g, off + j * 2 + 1, none⟩))) rfl (by kernel_rfl) (by kernel_rfl) (by kernel_rfl) (fun _ _ _ h => h) (Or.inl ⟨by rfl, ?_⟩) (by assumption) ?_
      · intro w' hSw
        (try dsimp only at hSw)
        go_simp <;> first | exact i64_in (by omega) (by omega) | exact u32_in (by omega) (by omega) | exact u32_add _ _ | (rw [Int.tmod_eq_emod_of_nonneg (by omega)]; omega) | (rw [Int.tdiv_eq_ediv_of_nonneg (by omega)]; omega) | omega
      (try simp only [Act.put, List.setIfInBounds_toArray, List.set_cons_zero, List.set_cons_succ])
      refine wpAnyH_take (i := 10) (v := (.slice (some ⟨b, of2, none⟩) QL.length s3)) rfl (by kernel_rfl) (by kernel_rfl) (by kernel_rfl) (fun _ _ _ h => h) (Or.inl ⟨by rfl, ?_⟩) (by assumption) ?_
      · intro w' hSw
        (try dsimp only at hSw)
        (obtain ⟨hS1, hS2⟩ := hSw; go_simp)
      (try simp only [Act.put, List.setIfInBounds_toArray, List.set_cons_zero, List.set_cons_succ])
      refine wpAnyH_ready (rs := [11]) (by kernel_rfl) (by simp) ?_
      refine AllReadyH.cons rfl (fun K hK => ?_) AllReadyH.nil
      refine ite_yes (by rfl) ?_
      refine wp_append_own wr.drew (.const (.slice none 0 0)) (.tmp 21) 47 ?hho w.heap.size 65 i1 (.agg #[.string ⟨#[]⟩, .string ⟨#[]⟩]) 2 32 Try.underlying47 hj hy0 hy1 hy2 ?hzs (by decide) (.slice none 0 0) 0 [] ?hhs ?hhn ⟨b, of2, none⟩ QL.length s3 (pc QL) ?hhx (pc_len _) ?hhc (pc_one _) hm3 hm4 hszd ?hhk
      case hho => rfl
      case hzs => rfl
      case hhs => rfl
      case hhx => kernel_rfl
      case hhn => exact World.ownsRow_nil _ _ _ _
      case hhc => exact C.out
      intro v1 w1 o1 g1 n1
      clear n1
      rw [Nat.zero_add, List.nil_append] at o1
      have b1 := ((Below.refl wr.heap.size wr).drew).grown g1 (Nat.le_refl _) (by intro k hk; cases hk)
      have B1 := hide (HNX.out.trans (b1.mono hsz))
      have OW := hide (own_below HOWN.out b1)
      have RW := hide (fun t ht => own_below (HROWS.out t ht) b1)
      obtain ⟨a1, c1, rfl⟩ := own_shape o1
      have O1 := hide o1
      have s1 := B1.out.size
      clear o1 g1 b1
      refine hK.out _ _ (HD.out _ B1.out) (fun hHeld => ?_)
      clear hK
      (try simp only [Act.put, List.setIfInBounds_toArray, List.set_cons_zero, List.set_cons_succ])
      refine wpAnyH_take (i := 12) (v := (.agg #[.string QH, .slice a1 QL.length c1])) rfl (by kernel_rfl) (by kernel_rfl) (by kernel_rfl) (fun _ _ _ h => h) (Or.inl ⟨by rfl, ?_⟩) (by assumption) ?_
      · intro w' hSw
        (try dsimp only at hSw)
        go_simp <;> first | exact i64_in (by omega) (by omega) | exact u32_in (by omega) (by omega) | exact u32_add _ _ | (rw [Int.tmod_eq_emod_of_nonneg (by omega)]; omega) | (rw [Int.tdiv_eq_ediv_of_nonneg (by omega)]; omega) | omega
      (try simp only [Act.put, List.setIfInBounds_toArray, List.set_cons_zero, List.set_cons_succ])
      refine wpAnyH_ready (rs := [13]) (by kernel_rfl) (by simp) ?_
      refine AllReadyH.cons rfl (fun K hK => ?_) AllReadyH.nil
      go_simp
      refine hK.out _ _ (HD.out _ (B1.out.alloc s1 _)) (fun hHeld => ?_)
      clear hK
      (try simp only [Act.put, List.setIfInBounds_toArray, List.set_cons_zero, List.set_cons_succ])
      refine wpAnyH_ready (rs := [14]) (by kernel_rfl) (by simp) ?_
      refine AllReadyH.cons rfl (fun K hK => ?_) AllReadyH.nil
      refine ite_yes (by rfl) ?_
      refine wp_append_own (w1.alloc (.cells #[.string QH, .slice a1 QL.length c1] 49)) (.tmp 11) (.tmp 24) 31 ?jhho w.heap.size 49 i0 (.agg #[.string ⟨#[]⟩, .slice none 0 0]) 2 40 Try.underlying31 hi hz0 hz1 hz2 ?jhzs (by decide) (.slice a3 ms.length c3) ms.length (gcell ms) ?jhhs (OW.out.alloc _) ⟨w1.heap.size, 0, none⟩ 1 1 (gcell [((QH, QL), .slice a1 QL.length c1)]) ?jhhx (g_one_len _ _ _) (cell_grp _ QH QL _) (g_one _ _ _ rfl) hm1 hm2 (le_alloc s1) ?jhhk
      case jhho => rfl
      case jhzs => rfl
      case jhhs => kernel_rfl
      case jhhx => kernel_rfl
      intro v2 w2 o2 g2 n2
      clear n2
      have N2 := hide (app_below (n := 0) B1.out s1 OW.out g2)
      have GA2 := hide (GA.snoc (X := QH) (L := QL) OW.out RW.out O1.out ((Below.refl _ w1).alloc (Nat.le_refl _) _) g2 o2)
      clear o2 g2
      refine hK.out _ _ (HD.out _ N2.out) (fun hHeld => ?_)
      clear hK
      (try simp only [Act.put, List.setIfInBounds_toArray, List.set_cons_zero, List.set_cons_succ])
      refine wpAnyH_ready (rs := [15]) (by kernel_rfl) (by simp) ?_
      refine AllReadyH.cons rfl (fun K hK => ?_) AllReadyH.nil
      go_simp
      refine hK.out _ _ (HD.out _ N2.out) (fun hHeld => ?_)
      clear hK
      (try simp only [Act.put, List.setIfInBounds_toArray, List.set_cons_zero, List.set_cons_succ])
      refine wpAnyH_done (by kernel_rfl) ?_ _
      go_wp2_with fail
      go_roundw
      case rel => exact ⟨j + 1, by omega, by go_num, by rw [RE.out]; exact GA2.out, N2.out⟩
      case measure => simp [intOf]; omega
    · obtain rfl : j = gs.length := by omega
      have HGA := hide hga
      have HNX := hide hnx
      clear hnx hga
      have hji : ¬ ((gs.length : Int) < (gs.length : Int)) := by omega
      rw [List.take_length] at HGA
      go_wp2_with fail
      go_ret
      exact ⟨_, rfl, HGA.out, HNX.out⟩
end Go.Proofs.Ythihmgdefbahpaa
namespace Go.Proofs.Ythihmgdefbahpaa
open Go.RowKit
theorem eg_shape {kn : Nat} {gs : List GR} (h : egE (kn : Int) gs = 0) : egI (kn : Int) gs = strOf (encN gs gs.length) ∧ egD (kn : Int) gs = strOf (encD gs) ∧ (egI (kn : Int) gs).size = gs.length * (kn + 4) ∧ (egD (kn : Int) gs).size = (encD gs).length := by
  obtain ⟨hk, hin, hD⟩ := eg_inv h
  have eI : egI (kn : Int) gs = strOf (encN gs gs.length) := by unfold egI; rw [if_pos h]
  have eD : egD (kn : Int) gs = strOf (encD gs) := by unfold egD; rw [if_pos h]
  have hz : ∀ i (hi : i < gs.length), gs[i].1.size = kn := fun i hi => by have := (hin i hi).1; omega
  exact ⟨eI, eD, by rw [eI, strOf_size, encN_len hz _ (Nat.le_refl _)], by rw [eD, strOf_size]⟩
theorem join_entry {kn : Nat} {gs : List GR} (h : egE (kn : Int) gs = 0) {i : Nat} (hi : i < gs.length) : rdeR (kn : Int) (egI (kn : Int) gs) (i : Int) = .returned (.tuple #[.string gs[i].1, .int .i64 ((encD (gs.take i)).length : Int), .int .i64 0]) := by
  obtain ⟨hk, hin, hD⟩ := eg_inv h
  obtain ⟨eI, eD, sI, sD⟩ := eg_shape h
  have hz : ∀ i (hi : i < gs.length), gs[i].1.size = kn := fun i hi => by have := (hin i hi).1; omega
  obtain ⟨r, hr⟩ : ∃ r, (strOf (encN gs gs.length)).data.toList.drop (i * (kn + 4)) = gs[i].1.data.toList ++ (dig 4 (encD (gs.take i)).length ++ r) := by
    obtain ⟨r, hr⟩ := encN_pre gs gs.length (i + 1) (by omega)
    refine ⟨r, ?_⟩
    show (encN gs gs.length).drop (i * (kn + 4)) = _
    rw [hr, encN_step gs i hi, List.append_assoc, List.append_assoc, List.drop_left' (encN_len hz i (by omega))]
  have hH : rdeH kn (egI (kn : Int) gs) i = gs[i].1 := by
    rw [eI]
    refine ba_ext ?_
    unfold rdeH
    rw [slice_str, hr, show i * (kn + 4) + kn - i * (kn + 4) = kn by omega, List.take_left' (by rw [size_data, hz i hi])]
  have hO : rdeO kn (egI (kn : Int) gs) i = (encD (gs.take i)).length := by
    rw [eI]
    have hle := encD_le gs i
    unfold rdeO
    rw [← List.drop_drop, hr, List.drop_left' (by rw [size_data, hz i hi]), List.take_left' (dig_len _ _), val_dig _ _ (by omega)]
  rw [← rde_good hk (by rw [sI, Int.toNat_natCast]; exact Nat.mul_mod_left _ _) ⟨by omega, by rw [sI, Int.toNat_natCast, Int.toNat_natCast, Nat.mul_div_cancel _ (by omega)]; exact hi⟩, Int.toNat_natCast, Int.toNat_natCast, hH, hO]
theorem join_last {kn : Nat} {gs : List GR} (h : egE (kn : Int) gs = 0) : rdeR (kn : Int) (egI (kn : Int) gs) (gs.length : Int) = .returned (.tuple #[.string ⟨#[]⟩, .int .i64 0, .int .i64 1]) := by
  obtain ⟨hk, hin, hD⟩ := eg_inv h
  obtain ⟨eI, eD, sI, sD⟩ := eg_shape h
  refine (rde_arg hk (by rw [sI, Int.toNat_natCast]; exact Nat.mul_mod_left _ _) ?_).symm
  rw [sI, Int.toNat_natCast, Int.toNat_natCast, Nat.mul_div_cancel _ (by omega)]
  omega
theorem encD_split {gs : List GR} {j : Nat} (hj : j < gs.length) : encD gs = encD (gs.take j) ++ (recL gs[j].2 ++ encD (gs.drop (j + 1))) := by
  have : gs = gs.take j ++ gs[j] :: gs.drop (j + 1) := by rw [← List.drop_eq_getElem_cons hj, List.take_append_drop]
  refine (congrArg encD this).trans ?_
  unfold encD
  rw [List.flatMap_append, List.flatMap_cons]
theorem join_record {kn : Nat} {gs : List GR} (h : egE (kn : Int) gs = 0) {j : Nat} (hj : j < gs.length) : (rrE (egD (kn : Int) gs) ((encD (gs.take j)).length : Int) = 0 ∧ rrL (egD (kn : Int) gs) ((encD (gs.take j)).length : Int) = gs[j].2 ∧ rrN (egD (kn : Int) gs) ((encD (gs.take j)).length : Int) = ((encD (gs.take (j + 1))).length : Int)) ∧
    (egD (kn : Int) gs).extract (encD (gs.take j)).length (encD (gs.take (j + 1))).length = recS gs[j].2 := by
  obtain ⟨hk, hin, hD⟩ := eg_inv h
  obtain ⟨eI, eD, sI, sD⟩ := eg_shape h
  have herr := (hin j hj).2.1
  obtain ⟨fl, fp, fz, fs⟩ := fine herr
  have hle := encD_le gs j
  have hdr : (encD gs).drop (encD (gs.take j)).length = recL gs[j].2 ++ encD (gs.drop (j + 1)) := by rw [encD_split hj, List.drop_left' rfl]
  have hsp : spellAt (egD (kn : Int) gs) (encD (gs.take j)).length = some (gs[j].2, (encD (gs.take j)).length + (recL gs[j].2).length) := by
    rw [eD]
    refine spell_there (rest := encD (gs.drop (j + 1))) ?_ (by rw [strOf_size]; omega) (by omega) (fun i hi => ⟨by have := (fs i hi).1; omega, by have := (fs i hi).2; omega⟩)
    exact hdr
  have e1 : (encD (gs.take (j + 1))).length = (encD (gs.take j)).length + (recL gs[j].2).length := by rw [encD_take gs j hj, List.length_append]
  have hs1 := (spL_some hsp).1
  have hs2 := (spL_some hsp).2
  refine ⟨?_, ?_⟩
  · have g := rr_good (d := egD (kn : Int) gs) (a := ((encD (gs.take j)).length : Int)) ⟨by omega, by rw [sD]; omega⟩ (by rw [Int.toNat_natCast, hs1]; exact herr)
    rw [Int.toNat_natCast, hs1, hs2] at g
    rw [e1]
    exact g
  · rw [recS_ok herr]
    refine ba_ext ?_
    rw [slice_str, eD]
    show ((encD gs).drop _).take _ = recL gs[j].2
    rw [hdr, e1, show (encD (gs.take j)).length + (recL gs[j].2).length - (encD (gs.take j)).length = (recL gs[j].2).length by omega, List.take_left' rfl]
end Go.Proofs.Ythihmgdefbahpaa
namespace Go.Proofs.Ythihmgdefbahpaa
open Go.RowKit
theorem btw_nat (m : Int) : ∃ k : Nat, btw m = (k : Int) ∧ 1 ≤ k ∧ k ≤ 16 := by
  have := btw_in m
  exact ⟨(btw m).toNat, by omega, by omega, by omega⟩
set_option maxHeartbeats 4000000 in
set_option maxRecDepth 100000 in
set_option linter.unusedSimpArgs false in
/-- the law RecordJoins -/
theorem joins_any (m : Int) (v : Value) (ps : List PU) (w : World) (hp : PutsAt w v ps) (hlen : ps.length ≤ 9223372036854775807) :
    Calls Try.prog 5 #[.int .i64 m, v] w fun e w' => e = .returned (.bool true) ∧ Below w.heap.size w w' := by
  obtain ⟨i0, hi, hy0, hy1, hy2⟩ := info_parts infoP
  obtain ⟨k, hk, hk1, hk2⟩ := btw_nat m
  have MK := hide (mkG_ok k ps)
  have hml := MK.out.len
  have EG := hide (MK.out.enc ⟨hk1, hk2⟩)
  have C1 := hide (made_any k v ps w hk2 hp hlen)
  have BT := hide (between_any m w)
  rw [hk] at BT
  obtain ⟨eI, eD, sI, sD⟩ := eg_shape EG.out
  have JE := hide (fun i (hi : i < (mkG k ps).length) => join_entry EG.out hi)
  have JL := hide (join_last EG.out)
  have JR := hide (fun i (hi : i < (mkG k ps).length) => join_record EG.out hi)
  have ER := hide (fun i (hi : i < (mkG k ps).length) => ((eg_inv EG.out).2.1 i hi).2.1)
  have hdl := MK.out.2.1
  have DL := hide (fun i => encD_le (mkG k ps) i)
  have eC : egC (k : Int) (mkG k ps) = .agg #[.string (egI (k : Int) (mkG k ps)), .string (egD (k : Int) (mkG k ps))] := rfl
  have CP := hide (fun lv w' (hg : GLies w' lv (mkG k ps)) => copied_any lv (mkG k ps) w' hg (fun g hg => List.length_pos_iff.2 (MK.out.1.2 g hg).2.1) (by omega) (fun g hg => Nat.le_trans (MK.out.pairs g hg) (by omega)))
  have CE := hide (fun cv w' (hg : GLies w' cv (mkG k ps)) => encode_any (k : Int) cv (mkG k ps) w' hg (by omega) (fun g hg => Nat.le_trans (MK.out.pairs g hg) (by omega)))
  rw [EG.out, eC] at CE
  have hdz : (egD (k : Int) (mkG k ps)).size ≤ 65536 := by rw [sD]; exact hdl
  have hiz : (egI (k : Int) (mkG k ps)).size ≤ 655360 := by
    rw [sI]
    have : (mkG k ps).length * (k + 4) ≤ 32768 * 20 := Nat.mul_le_mul hml (by omega)
    omega
  have hsI : ((mkG k ps).length : Int) * ((k : Int) + 4) = ((egI (k : Int) (mkG k ps)).size : Int) := by rw [sI]; push_cast; rfl
  clear eI eD eC sI hdl
  have HSD := hide sD
  clear sD
  generalize egI (k : Int) (mkG k ps) = I at *
  generalize egD (k : Int) (mkG k ps) = D at *
  generalize mkG k ps = gs at *
  go_enter Try.func5, Try.ntmps5
  go_wp2_with fail
  refine Calls.mono BT.out ?_
  rintro e wx ⟨rfl, rfl⟩
  go_wp2_with fail
  refine Calls.mono C1.out ?_
  rintro e w1 ⟨lv, rfl, g1, b1⟩
  have B1 := hide b1
  have G1 := hide (g1.groups (Nat.le_refl _) (Nat.le_refl _))
  clear b1 g1 C1 hp
  obtain ⟨ao, g, cap, rfl, h1, h2, h3⟩ := G1.out.split
  have H3 := hide h3
  clear h3
  go_wp2_with fail
  refine Calls.mono (CP.out _ _ G1.out.lies) ?_
  rintro e w2 ⟨cv, rfl, g2, b2⟩
  have B2 := hide b2
  have G2 := hide (g2.groups (Nat.le_refl _) (Nat.le_refl _)).lies
  clear b2 g2
  go_wp2_with fail
  refine Calls.mono (CE.out _ _ G2.out) ?_
  rintro e w3 ⟨rfl, b3⟩
  have B3 := hide (B2.out.trans (b3.mono B2.out.size))
  have hs3 := B3.out.size
  clear b3
  go_wp2_with fail
  obtain ⟨W0, hW0⟩ : ∃ W0, W0 = w3.alloc (.cells #[.string I, .string D] 23) := ⟨_, rfl⟩
  have s0 : W0.heap.size = w3.heap.size + 1 := by rw [hW0]; simp
  have KC : Hid (∀ w', Below W0.heap.size W0 w' → w'.cell? ⟨w3.heap.size, 0, none⟩ = some (.string I) ∧ w'.cell? ⟨w3.heap.size, 1, none⟩ = some (.string D)) := fun w' hw => by
    rw [hw.cell (by rw [s0]; exact Nat.lt_succ_self _), hw.cell (by rw [s0]; exact Nat.lt_succ_self _), hW0]; exact ⟨by simp, by simp⟩
  have b0 : Below w1.heap.size w1 W0 := by rw [hW0]; exact B3.out.alloc hs3 _
  have BW : Hid (∀ w', Below W0.heap.size W0 w' → Below w1.heap.size w1 w') := fun w' hw => b0.trans (hw.mono b0.size)
  have FIN : Hid (∀ w', Below W0.heap.size W0 w' → Below w.heap.size w w') := fun w' hw => B1.out.trans ((b0.trans (hw.mono b0.size)).mono B1.out.size)
  rw [← hW0]
  refine Calls.mono (num_any _ _) ?_
  rintro e wx ⟨rfl, rfl⟩
  obtain ⟨kc0, kc1⟩ := KC.out W0 (Below.refl _ _)
  clear hW0 b0 s0 hs3 B3 B2 B1 CP CE G2 G1
  go_wp2_with fail
  go_loopw [9, 10] (fun n i wr => ∃ j : Nat, j ≤ gs.length ∧ i = .int .i64 j ∧ n = .int .i64 ((encD (gs.take j)).length : Int) ∧ Below W0.heap.size W0 wr) (fun _ i _ => gs.length - (intOf i).toNat)
  case atStart => exact ⟨0, Nat.zero_le _, rfl, rfl, Below.refl _ _⟩
  case round =>
    obtain ⟨j, hj, rfl, rfl, hnx⟩ := hrel
    have HNX := hide hnx
    obtain ⟨kd0, kd1⟩ := KC.out wr hnx
    clear hnx kc0 kc1
    by_cases hlt : j < gs.length
    · obtain rfl := h1 (by omega)
      have t1 := h2 (by omega)
      obtain ⟨p1, d1, d2, d3⟩ := H3.out j hlt
      obtain ⟨q1, r1, u1, rfl, x11, x12, x13⟩ := own_pairs d3
      have je := JE.out j hlt
      obtain ⟨⟨jr1, jr2, jr3⟩, jx⟩ := JR.out j hlt
      have er := ER.out j hlt
      obtain ⟨fl, fp, fz, fs⟩ := fine er
      have l1 := DL.out j
      have l2 := DL.out (j + 1)
      have hst : (encD (gs.take j)).length ≤ (encD (gs.take (j + 1))).length := by rw [encDn_take gs j hlt]; omega
      rw [← HSD.out] at l1 l2
      obtain ⟨PS, hPS⟩ : ∃ PS, PS = gs[j].2 := ⟨_, rfl⟩
      obtain ⟨X, hX⟩ : ∃ X, X = gs[j].1 := ⟨_, rfl⟩
      obtain ⟨P, hP⟩ : ∃ P, P = (encD (gs.take j)).length := ⟨_, rfl⟩
      obtain ⟨Q, hQ⟩ : ∃ Q, Q = (encD (gs.take (j + 1))).length := ⟨_, rfl⟩
      rw [← hPS] at d2 d3 x11 x12 x13 jr2 jx er fl fp
      rw [← hX] at d1 je
      rw [← hP] at je jr1 jr2 jr3 jx l1 hst ⊢
      rw [← hQ] at jr3 jx l2 hst
      have HQ := hide hQ
      have hrs : recS PS = D.extract P Q := jx.symm
      have hx12 := x12 fp
      have hx11 := x11 fp
      subst hx11
      have HD : Hid (∀ w', Below W0.heap.size W0 w' → w'.cell? ⟨g, j * 2, none⟩ = some (.string X) ∧ w'.cell? ⟨g, j * 2 + 1, none⟩ = some (.slice (some ⟨r1, 0, none⟩) PS.length u1) ∧ LiesP r1 0 w' PS ∧ r1 < w'.heap.size) := fun w' hw => by
        have hw := BW.out w' hw
        rw [hw.cell (by exact t1), hw.cell (by exact t1)]
        exact ⟨d1, d2, x13.below hx12 hw, Nat.lt_of_lt_of_le hx12 hw.size⟩
      have RE := hide (fun w' => readEntry_any (k : Int) I (j : Int) (by omega) w')
      rw [je] at RE
      have RR := hide (fun w' => readRecord_any D (P : Int) (by omega) w')
      rw [jr1, jr2, jr3] at RR
      have RC := hide (fun ao b off cap w' hao hb (hl : LiesP b off w' PS) => record_any ao b off cap PS w' hao hb (by omega) hl)
      rw [er, hrs] at RC
      have hji : (j : Int) < (gs.length : Int) := by omega
      clear hPS hX hP hQ je jr1 jr2 jr3 jx er fs fz d1 d2 d3 x11 x12 x13 hrs
      go_wp2_with fail
      refine Calls.mono (RE.out _) ?_
      rintro e w4 ⟨rfl, b4⟩
      have B4 := hide (HNX.out.trans (b4.mono HNX.out.size))
      obtain ⟨f0, f1, f2, f3⟩ := HD.out w4 B4.out
      obtain ⟨ke0, ke1⟩ := KC.out w4 B4.out
      clear b4 f2 f3
      go_wp2_with fail
      refine Calls.mono (num_any _ _) ?_
      rintro e wx ⟨rfl, rfl⟩
      go_wp2_with fail
      refine Calls.mono (RR.out _) ?_
      rintro e w5 ⟨v5, rfl, o5, b5⟩
      obtain ⟨q5, r5, u5, rfl, z1, z2, z3⟩ := own_pairs o5
      have z4 := z1 fp
      subst z4
      have z5 := z2 fp
      have B5 := hide (B4.out.trans (b5.mono B4.out.size))
      obtain ⟨f0, f1, f2, f3⟩ := HD.out w5 B5.out
      obtain ⟨ke0, ke1⟩ := KC.out w5 B5.out
      have SP := hide (samePairs_any (some ⟨r5, 0, none⟩) (some ⟨r1, 0, none⟩) r5 0 u5 r1 0 u1 PS w5 (fun _ => rfl) (fun _ => rfl) (fun _ => z5) (fun _ => f3) z3 f2 (by omega))
      have C5 := hide f2
      clear b5 f2 o5 z1 z2 z3 RR RE
      go_wp2_with fail
      refine Calls.mono (num_any _ _) ?_
      rintro e wx ⟨rfl, rfl⟩
      go_wp2_with fail
      refine Calls.mono SP.out ?_
      rintro e w6 ⟨rfl, b6⟩
      have B6 := hide (B5.out.trans (b6.mono B5.out.size))
      obtain ⟨f0, f1, f2, f3⟩ := HD.out w6 B6.out
      obtain ⟨ke0, ke1⟩ := KC.out w6 B6.out
      have C6 : Hid (∀ i u, (pc PS)[i]? = some u → w6.cell? ((⟨r1, 0, none⟩ : Addr).add i) = some u) := fun i u hu => lies_cells f2 i u hu
      have s6 := B6.out.size
      have hPQ : ¬ ((Q : Int) < (P : Int)) := by omega
      have hQD : ¬ ((D.size : Int) < (Q : Int)) := by omega
      obtain ⟨hm3, hm4⟩ : 0 + PS.length ≤ maxLen ∧ (0 + PS.length) * 32 ≤ 140737488355328 := by unfold maxLen; omega
      clear b6 f2 SP C5 z5
      go_wp2_with (at_builtin; refine wpList_append_own _ rfl _ _ 47 rfl W0.heap.size 65 i0 (.agg #[.string ⟨#[]⟩, .string ⟨#[]⟩]) 2 32 Try.underlying47 hi hy0 hy1 hy2 rfl (by decide) _ 0 [] rfl (World.ownsRow_nil _ _ _ _) ⟨r1, 0, none⟩ PS.length u1 (pc PS) rfl (pc_len _) C6.out (pc_one _) hm3 hm4 s6 ?_; intro v7 w7 o7 g7 n7; clear n7; rw [Nat.zero_add, List.nil_append] at o7; obtain ⟨q7, r7, u7, rfl, z71, z72, z73⟩ := own_pairs o7; have B7 := hide (B6.out.grown g7 s6 (by intro k hk; cases hk)); have RC7 := hide (RC.out q7 r7 0 u7 w7 z71 z72 z73); clear o7 g7 z71 z72 z73)
      refine Calls.mono RC7.out ?_
      rintro e w8 ⟨rfl, b8⟩
      have B8 := hide (B7.out.trans (b8.mono B7.out.size))
      obtain ⟨ke0, ke1⟩ := KC.out w8 B8.out
      have hp1 : (P : Int) ≤ (Q : Int) := by omega
      have hp2 : (Q : Int) ≤ (D.size : Int) := by omega
      clear b8 RC7
      go_wp2_with fail
      refine Calls.mono (num_any _ _) ?_
      rintro e wx ⟨rfl, rfl⟩
      go_wp2_with fail
      go_roundw
      case rel => exact ⟨j + 1, by omega, by go_num, by rw [← HQ.out], B8.out⟩
      case measure => simp [intOf]; omega
    · obtain rfl : j = gs.length := by omega
      have hji : ¬ ((gs.length : Int) < (gs.length : Int)) := by omega
      have RE := hide (fun w' => readEntry_any (k : Int) I (gs.length : Int) (by omega) w')
      rw [JL.out] at RE
      rw [List.take_length, ← HSD.out]
      go_wp2_with fail
      refine Calls.mono (RE.out _) ?_
      rintro e w4 ⟨rfl, b4⟩
      have B4 := hide (HNX.out.trans (b4.mono HNX.out.size))
      obtain ⟨ke0, ke1⟩ := KC.out w4 B4.out
      clear b4
      go_wp2_with fail
      refine Calls.mono (num_any _ _) ?_
      rintro e wx ⟨rfl, rfl⟩
      go_wp2_with fail
      go_ret
      exact ⟨rfl, FIN.out _ B4.out⟩
end Go.Proofs.Ythihmgdefbahpaa
namespace Go.Proofs.Ythihmgdefbahpaa
open Go.ChangeShapes Go.WideShapes Go.ChangeAt Go.RowKit Go.Deep
theorem cellsPut : Try.prog.cellsOf 68 = 3 := by kernel_rfl
theorem cells9O : Try.prog.cellsOf 9 = 1 := by kernel_rfl
set_option maxRecDepth 100000 in
/-- puts that are handed in -/
theorem open_puts {H : Type} {enc : TypeId × Value → H} {w : World} {base fuel : Nat} {v : Value} {x : DataW H × List MemPlace} (h : DataW.trod enc Try.prog w base (fun _ => true) true fuel 41 [v] = some x) (hlt : ∀ q ∈ x.2, q.block < w.heap.size) : ∃ ps : List PU, PutsAt w v ps ∧ ps.length ≤ maxLen := by
  rcases open_slice Try.underlying41 h with ⟨h0, _⟩ | ⟨a, len, cap, m, n, D, Pl, hv, hb, hl, hm, hmm, hx, hc⟩
  · simp only [List.cons.injEq, and_true] at h0
    exact ⟨[], ⟨none, 0, 0, 0, by rw [h0]; rfl, fun q => absurd q (by simp), fun q => absurd q (by simp), fun i hi => absurd hi (by simp)⟩, by simp⟩
  · simp only [List.cons.injEq, and_true] at hv
    simp only [if_true] at hmm
    have each : ∀ i, i < len → ∃ q : PU, w.cell? (a.add (i * 3)) = some (.string q.1) ∧ w.cell? (a.add (i * 3 + 1)) = some (.string q.2.1) ∧ w.cell? (a.add (i * 3 + 2)) = some (.string q.2.2) := by
      intro i hi
      obtain ⟨cs', h1, h2⟩ := hc i (by omega)
      rw [cellsPut] at h1
      obtain ⟨_, hlen, hcell⟩ := World.cells?_some h1
      obtain ⟨xs, k, hk, hxy, _, hxl, hf⟩ := DataW.trod_struct Try.underlying68 h2
      match xs, hxl, cs', hlen with
      | [y0, y1, y2], _, [v0, v1, v2], _ =>
        have g0 := hf 0 _ rfl
        have g1 := hf 1 _ rfl
        have g2 := hf 2 _ rfl
        simp [cells9O] at g0 g1 g2
        have e0 := hcell 0 (by omega)
        have e1 := hcell 1 (by omega)
        have e2 := hcell 2 (by omega)
        rw [add_add] at e0 e1 e2
        obtain ⟨s0, f0, _⟩ := DataW.trod_string Try.underlying9 g0
        obtain ⟨s1, f1, _⟩ := DataW.trod_string Try.underlying9 g1
        obtain ⟨s2, f2, _⟩ := DataW.trod_string Try.underlying9 g2
        simp only [List.cons.injEq, and_true] at f0 f1 f2
        subst f0 f1 f2
        exact ⟨(s0, s1, s2), by simpa using e0, by simpa using e1, by simpa using e2⟩
    obtain ⟨q, hq⟩ := choose_lt each
    have hplen : ((List.range len).map q).length = len := by simp
    obtain ⟨b, off, spot⟩ := a
    have hspot : 0 < len → spot = none := fun h => by simpa [Addr.add] using World.cell?_spot (hq 0 h).1
    refine ⟨(List.range len).map q, ⟨some ⟨b, off, spot⟩, b, off, cap, by rw [hv, hplen], fun z => ?_, fun z => ?_, fun i hi => ?_⟩, by rw [hplen]; omega⟩
    · rw [hplen] at z
      rw [hspot z]
    · rw [hplen] at z
      refine hlt (.cell b off) ?_
      rw [hx, cellsPut]
      exact List.mem_append_left _ (MemPlace.mem_row.2 ⟨0, by omega, by simp⟩)
    · rw [hplen] at hi
      obtain ⟨c0, c1, c2⟩ := hq i hi
      have hs := hspot (by omega)
      subst hs
      rw [add_plain] at c0 c1 c2
      rw [List.getElem_map, List.getElem_range, show off + i * 3 + 1 = off + (i * 3 + 1) by omega, show off + i * 3 + 2 = off + (i * 3 + 2) by omega]
      exact ⟨c0, c1, c2⟩
end Go.Proofs.Ythihmgdefbahpaa
