import Derived.Test.YtfmmfophdfjopaaGRkGPure
import Derived.Test.YtfmmfophdfjopaaRkWeight
import Derived.Test.YtfmmfophdfjopaaGRkCopied
import Derived.Test.YtfmmfophdfjopaaGRaDec
namespace Go.Proofs.Ytfmmfophdfjopaa
open Go.RowKit
theorem GA.shape {w : World} {bl bp : Nat} {v : Value} {gs : List GR} (h : GA w bl bp v gs) : ∃ a c, v = .slice a gs.length c := by
  obtain ⟨ts, rfl, r, _⟩ := h
  rw [List.length_map]
  exact own_shape r
set_option maxHeartbeats 2000000 in
set_option maxRecDepth 100000 in
set_option linter.unusedSimpArgs false in
/-- made -/
theorem made_any (k : Nat) (v : Value) (ps : List PU) (w : World) (hk : k ≤ 16) (hp : PutsAt w v ps) (hlen : ps.length ≤ 9223372036854775807) :
    Calls Try.prog 5 #[.int .i64 (k : Int), v] w fun e w' => ∃ v', e = .returned v' ∧ GA w' w.heap.size w.heap.size v' (mkG k ps) ∧ Below w.heap.size w w' := by
  obtain ⟨ao, b, off, cap, rfl, h2, h3, h4⟩ := hp
  have H4 := hide h4
  clear h4
  go_enter Try.func5, Try.ntmps5
  go_wp2_with fail
  go_loopw [5, 6] (fun l i wr => ∃ j : Nat, j ≤ ps.length ∧ i = .int .i64 (j : Int) ∧ GA wr w.heap.size w.heap.size l (mkG k (ps.take j)) ∧ Below w.heap.size w wr) (fun _ i _ => ps.length - (intOf i).toNat)
  case atStart => exact ⟨0, Nat.zero_le _, rfl, GA.nil _ _ _, Below.refl _ _⟩
  case round =>
    obtain ⟨j, hj, rfl, hga, hnx⟩ := hrel
    obtain ⟨a3, c3, rfl⟩ := hga.shape
    have HGA := hide hga
    have HNX := hide hnx
    clear hga
    by_cases hlt : j < ps.length
    · obtain rfl := h2 (by omega)
      have x1 := h3 (by omega)
      have hji : (j : Int) < (ps.length : Int) := by omega
      have RE := hide (mkG_take k ps j hlt)
      have MK := hide (mkG_ok k (ps.take j))
      have HD : Hid (∀ w', Below w.heap.size w w' → w'.cell? ⟨b, off + j * 3, none⟩ = some (.string ps[j].1) ∧ w'.cell? ⟨b, off + j * 3 + 1, none⟩ = some (.string ps[j].2.1) ∧ w'.cell? ⟨b, off + j * 3 + 2, none⟩ = some (.string ps[j].2.2)) := fun w' hb => by
        rw [hb.cell (by exact x1), hb.cell (by exact x1), hb.cell (by exact x1)]
        exact H4.out j hlt
      have hQe : ps[j] = (ps[j].1, ps[j].2.1, ps[j].2.2) := rfl
      rw [hQe] at RE
      clear hnx hQe
      generalize ps[j].1 = PH at *
      generalize ps[j].2.1 = PK at *
      generalize ps[j].2.2 = PV at *
      generalize mkG k (ps.take j) = L at *
      obtain ⟨L2, hL2⟩ : ∃ L2, mkG k (ps.take (j + 1)) = L2 := ⟨_, rfl⟩
      rw [hL2] at RE
      have L2E := hide hL2
      clear hL2
      have PG := hide (fun v w' (hg : GA w' w.heap.size w.heap.size v L) (hb : Below w.heap.size w w') => putGroup_any v w.heap.size w.heap.size L (fitB PH k) (kyd PK, vld PV) w' hg hb.size MK.out.up.1 MK.out.up.2 (Nat.le_trans MK.out.len (by omega)) (fun g hg => Nat.le_trans (MK.out.pairs g hg) (by omega)))
      go_wp2_with fail
      refine wp_region_held_drew (S := fun w' => w'.cell? ⟨b, off + j * 3, none⟩ = some (.string PH) ∧ w'.cell? ⟨b, off + j * 3 + 1, none⟩ = some (.string PK) ∧ w'.cell? ⟨b, off + j * 3 + 2, none⟩ = some (.string PV)) (by kernel_rfl) (HD.out _ HNX.out.drew) (fun hHeld => ?_)
      refine wpAnyH_take (i := 0) (v := (.slice a3 L.length c3)) rfl (by kernel_rfl) (by kernel_rfl) (by kernel_rfl) (fun _ _ _ h => h) (Or.inl ⟨by rfl, ?_⟩) (by assumption) ?_
      · intro w' hSw
        (try dsimp only at hSw)
        go_simp <;> first | exact i64_in (by omega) (by omega) | exact u32_in (by omega) (by omega) | exact u32_add _ _ | (rw [Int.tmod_eq_emod_of_nonneg (by omega)]; omega) | (rw [Int.tdiv_eq_ediv_of_nonneg (by omega)]; omega) | omega
      (try simp only [Act.put, List.setIfInBounds_toArray, List.set_cons_zero, List.set_cons_succ])
      refine wpAnyH_take (i := 1) (v := (.slice (some ⟨b, off, none⟩) ps.length cap)) rfl (by kernel_rfl) (by kernel_rfl) (by kernel_rfl) (fun _ _ _ h => h) (Or.inl ⟨by rfl, ?_⟩) (by assumption) ?_
      · intro w' hSw
        (try dsimp only at hSw)
        go_simp <;> first | exact i64_in (by omega) (by omega) | exact u32_in (by omega) (by omega) | exact u32_add _ _ | (rw [Int.tmod_eq_emod_of_nonneg (by omega)]; omega) | (rw [Int.tdiv_eq_ediv_of_nonneg (by omega)]; omega) | omega
      (try simp only [Act.put, List.setIfInBounds_toArray, List.set_cons_zero, List.set_cons_succ])
      refine wpAnyH_take (i := 2) (v := (.int .i64 (j : Int))) rfl (by kernel_rfl) (by kernel_rfl) (by kernel_rfl) (fun _ _ _ h => h) (Or.inl ⟨by rfl, ?_⟩) (by assumption) ?_
      · intro w' hSw
        (try dsimp only at hSw)
        go_simp <;> first | exact i64_in (by omega) (by omega) | exact u32_in (by omega) (by omega) | exact u32_add _ _ | (rw [Int.tmod_eq_emod_of_nonneg (by omega)]; omega) | (rw [Int.tdiv_eq_ediv_of_nonneg (by omega)]; omega) | omega
      (try simp only [Act.put, List.setIfInBounds_toArray, List.set_cons_zero, List.set_cons_succ])
      refine wpAnyH_take (i := 3) (v := (.pointer (some ⟨b, off + j * 3, none⟩))) rfl (by kernel_rfl) (by kernel_rfl) (by kernel_rfl) (fun _ _ _ h => h) (Or.inl ⟨by rfl, ?_⟩) (by assumption) ?_
      · intro w' hSw
        (try dsimp only at hSw)
        go_simp <;> first | exact i64_in (by omega) (by omega) | exact u32_in (by omega) (by omega) | exact u32_add _ _ | (rw [Int.tmod_eq_emod_of_nonneg (by omega)]; omega) | (rw [Int.tdiv_eq_ediv_of_nonneg (by omega)]; omega) | omega
      (try simp only [Act.put, List.setIfInBounds_toArray, List.set_cons_zero, List.set_cons_succ])
      refine wpAnyH_take (i := 4) (v := (.pointer (some ⟨b, off + j * 3, none⟩))) rfl (by kernel_rfl) (by kernel_rfl) (by kernel_rfl) (fun _ _ _ h => h) (Or.inl ⟨by rfl, ?_⟩) (by assumption) ?_
      · intro w' hSw
        (try dsimp only at hSw)
        go_simp <;> first | exact i64_in (by omega) (by omega) | exact u32_in (by omega) (by omega) | exact u32_add _ _ | (rw [Int.tmod_eq_emod_of_nonneg (by omega)]; omega) | (rw [Int.tdiv_eq_ediv_of_nonneg (by omega)]; omega) | omega
      (try simp only [Act.put, List.setIfInBounds_toArray, List.set_cons_zero, List.set_cons_succ])
      refine wpAnyH_take (i := 5) (v := (.string PH)) rfl (by kernel_rfl) (by kernel_rfl) (by kernel_rfl) (fun _ _ _ h => h) (Or.inl ⟨by rfl, ?_⟩) (by assumption) ?_
      · intro w' hSw
        (try dsimp only at hSw)
        (obtain ⟨hS1, hS2, hS3⟩ := hSw; go_simp)
      (try simp only [Act.put, List.setIfInBounds_toArray, List.set_cons_zero, List.set_cons_succ])
      refine wpAnyH_take (i := 6) (v := (.int .i64 (k : Int))) rfl (by kernel_rfl) (by kernel_rfl) (by kernel_rfl) (fun _ _ _ h => h) (Or.inl ⟨by rfl, ?_⟩) (by assumption) ?_
      · intro w' hSw
        (try dsimp only at hSw)
        go_simp <;> first | exact i64_in (by omega) (by omega) | exact u32_in (by omega) (by omega) | exact u32_add _ _ | (rw [Int.tmod_eq_emod_of_nonneg (by omega)]; omega) | (rw [Int.tdiv_eq_ediv_of_nonneg (by omega)]; omega) | omega
      (try simp only [Act.put, List.setIfInBounds_toArray, List.set_cons_zero, List.set_cons_succ])
      refine wpAnyH_take (i := 8) (v := (.slice (some ⟨b, off, none⟩) ps.length cap)) rfl (by kernel_rfl) (by kernel_rfl) (by kernel_rfl) (fun _ _ _ h => h) (Or.inl ⟨by rfl, ?_⟩) (by assumption) ?_
      · intro w' hSw
        (try dsimp only at hSw)
        go_simp <;> first | exact i64_in (by omega) (by omega) | exact u32_in (by omega) (by omega) | exact u32_add _ _ | (rw [Int.tmod_eq_emod_of_nonneg (by omega)]; omega) | (rw [Int.tdiv_eq_ediv_of_nonneg (by omega)]; omega) | omega
      (try simp only [Act.put, List.setIfInBounds_toArray, List.set_cons_zero, List.set_cons_succ])
      refine wpAnyH_take (i := 9) (v := (.int .i64 (j : Int))) rfl (by kernel_rfl) (by kernel_rfl) (by kernel_rfl) (fun _ _ _ h => h) (Or.inl ⟨by rfl, ?_⟩) (by assumption) ?_
      · intro w' hSw
        (try dsimp only at hSw)
        go_simp <;> first | exact i64_in (by omega) (by omega) | exact u32_in (by omega) (by omega) | exact u32_add _ _ | (rw [Int.tmod_eq_emod_of_nonneg (by omega)]; omega) | (rw [Int.tdiv_eq_ediv_of_nonneg (by omega)]; omega) | omega
      (try simp only [Act.put, List.setIfInBounds_toArray, List.set_cons_zero, List.set_cons_succ])
      refine wpAnyH_take (i := 10) (v := (.pointer (some ⟨b, off + j * 3, none⟩))) rfl (by kernel_rfl) (by kernel_rfl) (by kernel_rfl) (fun _ _ _ h => h) (Or.inl ⟨by rfl, ?_⟩) (by assumption) ?_
      · intro w' hSw
        (try dsimp only at hSw)
        go_simp <;> first | exact i64_in (by omega) (by omega) | exact u32_in (by omega) (by omega) | exact u32_add _ _ | (rw [Int.tmod_eq_emod_of_nonneg (by omega)]; omega) | (rw [Int.tdiv_eq_ediv_of_nonneg (by omega)]; omega) | omega
      (try simp only [Act.put, List.setIfInBounds_toArray, List.set_cons_zero, List.set_cons_succ])
      refine wpAnyH_take (i := 11) (v := (.pointer (some ⟨b, off + j * 3 + 1, none⟩))) rfl (by kernel_rfl) (by kernel_rfl) (by kernel_rfl) (fun _ _ _ h => h) (Or.inl ⟨by rfl, ?_⟩) (by assumption) ?_
      · intro w' hSw
        (try dsimp only at hSw)
        go_simp <;> first | exact i64_in (by omega) (by omega) | exact u32_in (by omega) (by omega) | exact u32_add _ _ | (rw [Int.tmod_eq_emod_of_nonneg (by omega)]; omega) | (rw [Int.tdiv_eq_ediv_of_nonneg (by omega)]; omega) | omega
      (try simp only [Act.put, List.setIfInBounds_toArray, List.set_cons_zero, List.set_cons_succ])
      refine wpAnyH_take (i := 12) (v := (.string PK)) rfl (by kernel_rfl) (by kernel_rfl) (by kernel_rfl) (fun _ _ _ h => h) (Or.inl ⟨by rfl, ?_⟩) (by assumption) ?_
      · intro w' hSw
        (try dsimp only at hSw)
        (obtain ⟨hS1, hS2, hS3⟩ := hSw; go_simp)
      (try simp only [Act.put, List.setIfInBounds_toArray, List.set_cons_zero, List.set_cons_succ])
      refine wpAnyH_take (i := 14) (v := (.slice (some ⟨b, off, none⟩) ps.length cap)) rfl (by kernel_rfl) (by kernel_rfl) (by kernel_rfl) (fun _ _ _ h => h) (Or.inl ⟨by rfl, ?_⟩) (by assumption) ?_
      · intro w' hSw
        (try dsimp only at hSw)
        go_simp <;> first | exact i64_in (by omega) (by omega) | exact u32_in (by omega) (by omega) | exact u32_add _ _ | (rw [Int.tmod_eq_emod_of_nonneg (by omega)]; omega) | (rw [Int.tdiv_eq_ediv_of_nonneg (by omega)]; omega) | omega
      (try simp only [Act.put, List.setIfInBounds_toArray, List.set_cons_zero, List.set_cons_succ])
      refine wpAnyH_take (i := 15) (v := (.int .i64 (j : Int))) rfl (by kernel_rfl) (by kernel_rfl) (by kernel_rfl) (fun _ _ _ h => h) (Or.inl ⟨by rfl, ?_⟩) (by assumption) ?_
      · intro w' hSw
        (try dsimp only at hSw)
        go_simp <;> first | exact i64_in (by omega) (by omega) | exact u32_in (by omega) (by omega) | exact u32_add _ _ | (rw [Int.tmod_eq_emod_of_nonneg (by omega)]; omega) | (rw [Int.tdiv_eq_ediv_of_nonneg (by omega)]; omega) | omega
      (try simp only [Act.put, List.setIfInBounds_toArray, List.set_cons_zero, List.set_cons_succ])
      refine wpAnyH_take (i := 16) (v := (.pointer (some ⟨b, off + j * 3, none⟩))) rfl (by kernel_rfl) (by kernel_rfl) (by kernel_rfl) (fun _ _ _ h => h) (Or.inl ⟨by rfl, ?_⟩) (by assumption) ?_
      · intro w' hSw
        (try dsimp only at hSw)
        go_simp <;> first | exact i64_in (by omega) (by omega) | exact u32_in (by omega) (by omega) | exact u32_add _ _ | (rw [Int.tmod_eq_emod_of_nonneg (by omega)]; omega) | (rw [Int.tdiv_eq_ediv_of_nonneg (by omega)]; omega) | omega
      (try simp only [Act.put, List.setIfInBounds_toArray, List.set_cons_zero, List.set_cons_succ])
      refine wpAnyH_take (i := 17) (v := (.pointer (some ⟨b, off + j * 3 + 2, none⟩))) rfl (by kernel_rfl) (by kernel_rfl) (by kernel_rfl) (fun _ _ _ h => h) (Or.inl ⟨by rfl, ?_⟩) (by assumption) ?_
      · intro w' hSw
        (try dsimp only at hSw)
        go_simp <;> first | exact i64_in (by omega) (by omega) | exact u32_in (by omega) (by omega) | exact u32_add _ _ | (rw [Int.tmod_eq_emod_of_nonneg (by omega)]; omega) | (rw [Int.tdiv_eq_ediv_of_nonneg (by omega)]; omega) | omega
      (try simp only [Act.put, List.setIfInBounds_toArray, List.set_cons_zero, List.set_cons_succ])
      refine wpAnyH_take (i := 18) (v := (.string PV)) rfl (by kernel_rfl) (by kernel_rfl) (by kernel_rfl) (fun _ _ _ h => h) (Or.inl ⟨by rfl, ?_⟩) (by assumption) ?_
      · intro w' hSw
        (try dsimp only at hSw)
        (obtain ⟨hS1, hS2, hS3⟩ := hSw; go_simp)
      (try simp only [Act.put, List.setIfInBounds_toArray, List.set_cons_zero, List.set_cons_succ])
      refine wpAnyH_ready (rs := [7]) (by kernel_rfl) (by simp) ?_
      refine AllReadyH.cons rfl (fun K hK => ?_) AllReadyH.nil
      go_simp
      refine Calls.mono (fit_any PH k hk _) ?_
      rintro e w2 ⟨rfl, rfl⟩
      refine hK.out _ _ (HD.out _ HNX.out.drew) (fun hHeld => ?_)
      clear hK
      (try simp only [Act.put, List.setIfInBounds_toArray, List.set_cons_zero, List.set_cons_succ])
      refine wpAnyH_ready (rs := [13]) (by kernel_rfl) (by simp) ?_
      refine AllReadyH.cons rfl (fun K hK => ?_) AllReadyH.nil
      go_simp
      refine Calls.mono (keyed_any PK _) ?_
      rintro e w2 ⟨rfl, rfl⟩
      refine hK.out _ _ (HD.out _ HNX.out.drew) (fun hHeld => ?_)
      clear hK
      (try simp only [Act.put, List.setIfInBounds_toArray, List.set_cons_zero, List.set_cons_succ])
      refine wpAnyH_ready (rs := [19]) (by kernel_rfl) (by simp) ?_
      refine AllReadyH.cons rfl (fun K hK => ?_) AllReadyH.nil
      go_simp
      refine Calls.mono (valued_any PV _) ?_
      rintro e w2 ⟨rfl, rfl⟩
      refine hK.out _ _ (HD.out _ HNX.out.drew) (fun hHeld => ?_)
      clear hK
      (try simp only [Act.put, List.setIfInBounds_toArray, List.set_cons_zero, List.set_cons_succ])
      refine wpAnyH_take (i := 20) (v := (.agg #[.string (kyd PK), .string (vld PV)])) rfl (by kernel_rfl) (by kernel_rfl) (by kernel_rfl) (fun _ _ _ h => h) (Or.inl ⟨by rfl, ?_⟩) (by assumption) ?_
      · intro w' hSw
        (try dsimp only at hSw)
        go_simp <;> first | exact i64_in (by omega) (by omega) | exact u32_in (by omega) (by omega) | exact u32_add _ _ | (rw [Int.tmod_eq_emod_of_nonneg (by omega)]; omega) | (rw [Int.tdiv_eq_ediv_of_nonneg (by omega)]; omega) | omega
      (try simp only [Act.put, List.setIfInBounds_toArray, List.set_cons_zero, List.set_cons_succ])
      refine wpAnyH_ready (rs := [21]) (by kernel_rfl) (by simp) ?_
      refine AllReadyH.cons rfl (fun K hK => ?_) AllReadyH.nil
      go_simp
      refine Calls.mono (PG.out _ _ (HGA.out.below (Below.refl _ _).drew) HNX.out.drew) ?_
      rintro e w2 ⟨v2, rfl, g2, b2⟩
      have B2 := HNX.out.drew.trans (b2.mono HNX.out.drew.size)
      have HB2 := hide B2
      have G2 := hide (GA.groups g2 HNX.out.drew.size (Nat.le_refl _))
      have GN := hide (⟨_, g2.choose_spec.1, own_base g2.choose_spec.2.1 HNX.out.drew.size, g2.choose_spec.2.2⟩ : GA w2 w.heap.size w.heap.size v2 (putG L (fitB PH k) (kyd PK, vld PV)))
      have GO := hide (HGA.out.below ((Below.refl _ _).drew.trans b2))
      refine hK.out _ _ (HD.out _ B2) (fun hHeld => ?_)
      clear hK b2 B2 g2
      (try simp only [Act.put, List.setIfInBounds_toArray, List.set_cons_zero, List.set_cons_succ])
      refine wpAnyH_ready (rs := [22]) (by kernel_rfl) (by simp) ?_
      refine AllReadyH.cons rfl (fun K hK => ?_) AllReadyH.nil
      go_simp
      refine hK.out _ _ (HD.out _ HB2.out) (fun hHeld => ?_)
      clear hK
      (try simp only [Act.put, List.setIfInBounds_toArray, List.set_cons_zero, List.set_cons_succ])
      refine wpAnyH_done (by kernel_rfl) ?_ _
      have WG := hide (fun w' (hg : GroupsAt w' w.heap.size v2 (mkOne k L (PH, PK, PV))) => weight_any v2 w.heap.size (mkOne k L (PH, PK, PV)) w' hg (mkOne_len MK.out (PH, PK, PV)).1 (fun g hg => Nat.le_trans ((mkOne_len MK.out (PH, PK, PV)).2.1 g hg) (by omega)) (mkOne_len MK.out (PH, PK, PV)).2.2)
      have GN2 : Hid (GA w2 w.heap.size w.heap.size v2 (mkOne k L (PH, PK, PV))) := GN.out
      have GG2 : Hid (GroupsAt w2 w.heap.size v2 (mkOne k L (PH, PK, PV))) := G2.out
      unfold mkStep at RE
      clear GN G2 PG hHeld
      have hml := (mkOne_len MK.out (PH, PK, PV)).2.2
      generalize mkOne k L (PH, PK, PV) = M at *
      obtain ⟨a4, c4, rfl⟩ := GN2.out.shape
      have hfl : fullL M = fullL M := rfl
      clear hfl
      go_wp2_with fail
      refine Calls.mono (WG.out _ GG2.out) ?_
      rintro e w3 ⟨rfl, b3⟩
      have HB3 := hide (HB2.out.trans (b3.mono HB2.out.size))
      have GN3 := hide (GN2.out.below b3)
      have GO3 := hide (GO.out.below b3)
      clear b3 WG GG2 GN2 GO HB2
      generalize (encD M).length = N at *
      generalize fullL M = Fu at *
      by_cases c1 : N ≤ 65536
      · have d1 : (N : Int) ≤ 65536 := by omega
        by_cases c2 : Fu ≤ 512
        · have d2 : (Fu : Int) ≤ 512 := by omega
          have RE2 : Hid (L2 = M) := RE.out.trans (if_pos ⟨c1, c2⟩)
          go_wp2_with fail
          go_roundw
          case rel => exact ⟨j + 1, by omega, by go_num, by rw [L2E.out, RE2.out]; exact GN3.out, HB3.out⟩
          case measure => simp [intOf]; omega
        · have d2 : ¬ (Fu : Int) ≤ 512 := by omega
          have RE2 : Hid (L2 = L) := RE.out.trans (if_neg (fun q => c2 q.2))
          go_wp2_with fail
          go_roundw
          case rel => exact ⟨j + 1, by omega, by go_num, by rw [L2E.out, RE2.out]; exact GO3.out, HB3.out⟩
          case measure => simp [intOf]; omega
      · have d1 : ¬ (N : Int) ≤ 65536 := by omega
        have RE2 : Hid (L2 = L) := RE.out.trans (if_neg (fun q => c1 q.1))
        go_wp2_with fail
        go_roundw
        case rel => exact ⟨j + 1, by omega, by go_num, by rw [L2E.out, RE2.out]; exact GO3.out, HB3.out⟩
        case measure => simp [intOf]; omega
    · obtain rfl : j = ps.length := by omega
      clear hnx
      have hji : ¬ ((ps.length : Int) < (ps.length : Int)) := by omega
      rw [List.take_length] at HGA
      go_wp2_with fail
      go_ret
      exact ⟨_, rfl, HGA.out, HNX.out⟩
end Go.Proofs.Ytfmmfophdfjopaa
namespace Go.Proofs.Ytfmmfophdfjopaa
open Go.RowKit
theorem btw_nat (m : Int) : ∃ k : Nat, btw m = (k : Int) ∧ 1 ≤ k ∧ k ≤ 16 := by
  have := btw_in m
  exact ⟨(btw m).toNat, by omega, by omega, by omega⟩
end Go.Proofs.Ytfmmfophdfjopaa
namespace Go.Proofs.Ytfmmfophdfjopaa
open Go.RowKit
/-- the value that anew writes -/
def nv (v : ByteArray) : ByteArray := if v.size = 0 then ⟨#[118]⟩ else v.extract 1 v.size
theorem nv_size (v : ByteArray) : (nv v).size ≠ v.size ∧ (nv v).size ≤ v.size + 1 := by
  unfold nv
  by_cases h : v.size = 0
  · rw [if_pos h, h]; decide
  · rw [if_neg h, ByteArray.size_extract]; omega
theorem rec_differs {K V : ByteArray} {ps : List KV} (h : errL ((K, V) :: ps) = 0) : recS ((K, V) :: ps) ≠ recS ((K, nv V) :: ps) := by
  intro e
  rw [recS_ok h] at e
  have e2 := congrArg ByteArray.size e
  rw [strOf_size, recL_len] at e2
  by_cases h2 : errL ((K, nv V) :: ps) = 0
  · rw [recS_ok h2, strOf_size, recL_len] at e2
    have := nv_size V
    simp only [sizeL] at e2
    omega
  · rw [recS_bad h2] at e2
    have : (⟨#[]⟩ : ByteArray).size = 0 := rfl
    omega
/-- groups in memory when a value of the first list is written -/
theorem GD.head {w : World} {base : Nat} {v : Value} {H K V : ByteArray} {ps : List KV} {rest : List GR} (h : GD w base v ((H, (K, V) :: ps) :: rest)) : ∃ gb cap pb pcap, v = .slice (some ⟨gb, 0, none⟩) (rest.length + 1) cap ∧ w.cell? ⟨gb, 0, none⟩ = some (.string H) ∧ w.cell? ⟨gb, 1, none⟩ = some (.slice (some ⟨pb, 0, none⟩) (ps.length + 1) pcap) ∧ gb < w.heap.size ∧
    w.ownsRow base 55 2 (.slice (some ⟨pb, 0, none⟩) (ps.length + 1) pcap) (ps.length + 1) (pc ((K, V) :: ps)) ∧
    ∀ u : ByteArray, GD (w.setCell ⟨pb, 1, none⟩ (.string u)) base v ((H, (K, u) :: ps) :: rest) := by
  obtain ⟨ts, h1, h2, h3, h4⟩ := h
  match ts, h1 with
  | t0 :: ts', h1 =>
    simp only [List.map_cons, List.cons.injEq] at h1
    obtain ⟨t01, t02⟩ := t0
    simp only at h1
    obtain ⟨rfl, h1⟩ := h1
    have hl : ts'.length = rest.length := by rw [← h1, List.length_map]
    have r0 := h3 _ List.mem_cons_self
    simp only [List.length_cons] at r0
    rcases h2.2 with ⟨_, q⟩ | ⟨gb, cap, cur, rfl, hg, hblk, _⟩
    · simp at q
    · rcases r0.2 with ⟨_, q⟩ | ⟨pb, pcap, cur2, e2, hg2, hblk2, _⟩
      · simp at q
      · subst e2
        obtain ⟨p1, p2⟩ := List.pairwise_cons.1 h4
        have gc := gcell_at (((H, (K, V) :: ps), .slice (some ⟨pb, 0, none⟩) (ps.length + 1) pcap) :: ts') 0 (by simp)
        refine ⟨gb, cap, pb, pcap, by rw [List.length_cons, hl], ?_, ?_, row_lt h2, r0, fun u => ?_⟩
        · rw [h2.cellAt 0 (by simp)]; exact gc.1
        · rw [h2.cellAt 1 (by simp only [List.length_cons]; omega)]; exact gc.2
        · have st := r0.stored 1 (.string u)
          have hp : (pc ((K, V) :: ps)).set 1 (.string u) = pc ((K, u) :: ps) := rfl
          rw [hp] at st
          refine ⟨((H, (K, u) :: ps), .slice (some ⟨pb, 0, none⟩) (ps.length + 1) pcap) :: ts', by simp only [List.map_cons, h1], ?_, fun t ht => ?_, List.pairwise_cons.2 ⟨p1, p2⟩⟩
          · have k := h2.kept st.2 (by
              have := own_type h2 r0 (by decide)
              exact this)
            exact k
          · rcases List.mem_cons.1 ht with rfl | ht
            · exact st.1
            · exact (h3 t (List.mem_cons_of_mem _ ht)).kept st.2 (.inr (p1 t ht pb rfl))
set_option maxHeartbeats 4000000 in
set_option maxRecDepth 100000 in
set_option linter.unusedSimpArgs false in
/-- anew -/
theorem anew_any (k : Nat) (hk : 1 ≤ k ∧ k ≤ 16) (lv : Value) (gs : List GR) (w : World) (hg : GLies w lv gs) (hM : MkOk k gs) :
    Calls Try.prog 15 #[.int .i64 (k : Int), lv, .agg #[.string (egI (k : Int) gs), .string (egD (k : Int) gs)]] w fun e w' => e = .returned (.bool true) ∧ Below w.heap.size w w' := by
  have hml := hM.len
  have EG := hM.enc hk
  have hne : ∀ g ∈ gs, 0 < g.2.length := fun g hg => List.length_pos_iff.2 (hM.1.2 g hg).2.1
  have sI := (eg_shape EG).2.2.1
  have eC : egC (k : Int) gs = .agg #[.string (egI (k : Int) gs), .string (egD (k : Int) gs)] := rfl
  have CP := hide (fun w' (hb : Below w.heap.size w w') => copied_apart lv gs w' (hg.below hb) hne (by omega) (fun g hg => Nat.le_trans (hM.pairs g hg) (by omega)))
  have CE := hide (fun cv w' (hg : GLies w' cv gs) => encode_any (k : Int) cv gs w' hg (by omega) (fun g hg => Nat.le_trans (hM.pairs g hg) (by omega)))
  rw [EG, eC] at CE
  obtain ⟨W0, hW0⟩ : ∃ W0, W0 = w.alloc (.cells #[.string (egI (k : Int) gs), .string (egD (k : Int) gs)] 27) := ⟨_, rfl⟩
  have s0 : W0.heap.size = w.heap.size + 1 := by rw [hW0]; simp
  have b0 : Below w.heap.size w W0 := by rw [hW0]; exact (Below.refl _ w).alloc (Nat.le_refl _) _
  have HB0 := hide b0
  have KC : Hid (∀ w', Below W0.heap.size W0 w' → w'.cell? ⟨w.heap.size, 0, none⟩ = some (.string (egI (k : Int) gs)) ∧ w'.cell? ⟨w.heap.size, 1, none⟩ = some (.string (egD (k : Int) gs))) := fun w' hw => by
    rw [hw.cell (by rw [s0]; exact Nat.lt_succ_self _), hw.cell (by rw [s0]; exact Nat.lt_succ_self _), hW0]; exact ⟨by simp, by simp⟩
  have HP := hide hM
  cases gs with
  | nil =>
    have hI0 : (egI (k : Int) []).size = 0 := by rw [sI]; simp
    clear sI eC EG hne hM hml
    generalize egI (k : Int) [] = I at *
    generalize egD (k : Int) [] = D at *
    go_enter Try.func15, Try.ntmps15
    go_wp2_with fail
    rw [← hW0]
    clear hW0
    refine Calls.mono (CP.out _ HB0.out) ?_
    rintro e w1 ⟨cv, rfl, g1, b1⟩
    obtain ⟨a1, c1, rfl⟩ : ∃ a c, cv = .slice a 0 c := by
      obtain ⟨ts, q, r, _⟩ := g1
      cases ts with
      | nil => exact own_shape r
      | cons a b => simp at q
    have B1 := hide b1
    have G1 := hide g1.groups.lies
    clear g1 b1
    go_wp2_with fail
    refine Calls.mono (CE.out _ _ G1.out) ?_
    rintro e w2 ⟨rfl, b2⟩
    have B2 := hide (B1.out.trans (b2.mono B1.out.size))
    obtain ⟨kc0, kc1⟩ := KC.out w2 B2.out
    have s2 := B2.out.size
    clear b2
    go_wp2_with fail
    refine Calls.mono (num_any _ _) ?_
    rintro e wx ⟨rfl, rfl⟩
    have hIi : (I.size : Int) = 0 := by omega
    obtain ⟨W3, hW3⟩ : ∃ W3, W3 = w2.alloc (.cells #[.string I, .string D] 27) := ⟨_, rfl⟩
    have B3 : Hid (Below W0.heap.size W0 W3) := by rw [hW3]; exact B2.out.alloc s2 _
    have KX : W3.cell? ⟨w2.heap.size, 0, none⟩ = some (.string I) ∧ W3.cell? ⟨w2.heap.size, 1, none⟩ = some (.string D) := by
      rw [hW3]; exact ⟨by simp, by simp⟩
    obtain ⟨ke0, ke1⟩ := KX
    obtain ⟨kd0, kd1⟩ := KC.out W3 B3.out
    rw [← hW3]
    clear hW3 kc0 kc1
    go_wp2_with fail
    refine Calls.mono (num_any _ _) ?_
    rintro e wx ⟨rfl, rfl⟩
    have FB := hide (HB0.out.trans (B3.out.mono (by omega)))
    go_wp2_with fail
    go_ret
    exact ⟨rfl, FB.out⟩
  | cons g0 rest =>
    obtain ⟨H, PS⟩ := g0
    cases PS with
    | nil => exact absurd (hne (H, []) List.mem_cons_self) (by simp)
    | cons p0 ps =>
      obtain ⟨K, V⟩ := p0
      obtain ⟨i1, hj, hy0, hy1, hy2⟩ := info_parts infoP
      have herr : errL ((K, V) :: ps) = 0 := ((eg_inv EG).2.1 0 (by simp)).2.1
      have hdf := rec_differs herr
      have hpl : ps.length + 1 ≤ 512 := by
        have := hM.pairs (H, (K, V) :: ps) List.mem_cons_self
        simpa using this
      have hrl : rest.length + 1 ≤ 32768 := by simpa using hml
      have hne2 : ∀ g ∈ (H, (K, nv V) :: ps) :: rest, 0 < g.2.length := fun g hg => by
        rcases List.mem_cons.1 hg with rfl | hg
        · simp
        · exact hne g (List.mem_cons_of_mem _ hg)
      have hps2 : ∀ g ∈ (H, (K, nv V) :: ps) :: rest, g.2.length ≤ 65536 := fun g hg => by
        rcases List.mem_cons.1 hg with rfl | hg
        · simp only [List.length_cons]; omega
        · exact Nat.le_trans (hM.pairs g (List.mem_cons_of_mem _ hg)) (by omega)
      have CE2 := hide (fun cv w' (hg : GLies w' cv ((H, (K, nv V) :: ps) :: rest)) => encode_any (k : Int) cv ((H, (K, nv V) :: ps) :: rest) w' hg (by simp only [List.length_cons]; omega) (fun g hg => Nat.le_trans (hps2 g hg) (by omega)))
      have CP2 := hide (fun cv w' (hg : GLies w' cv ((H, (K, nv V) :: ps) :: rest)) => copied_any cv ((H, (K, nv V) :: ps) :: rest) w' hg hne2 (by simp only [List.length_cons]; omega) hps2)
      have eC2 : egC (k : Int) ((H, (K, nv V) :: ps) :: rest) = .agg #[.string (egI (k : Int) ((H, (K, nv V) :: ps) :: rest)), .string (egD (k : Int) ((H, (K, nv V) :: ps) :: rest))] := rfl
      rw [eC2] at CE2
      have R1 := hide (fun b c w' (hb : b < w'.heap.size) (hl : LiesP b 0 w' ((K, V) :: ps)) => record_any (some ⟨b, 0, none⟩) b 0 c ((K, V) :: ps) w' (fun _ => rfl) (fun _ => hb) (by simp only [List.length_cons]; omega) hl)
      have R2 := hide (fun b c w' (hb : b < w'.heap.size) (hl : LiesP b 0 w' ((K, nv V) :: ps)) => record_any (some ⟨b, 0, none⟩) b 0 c ((K, nv V) :: ps) w' (fun _ => rfl) (fun _ => hb) (by simp only [List.length_cons]; omega) hl)
      rw [herr] at R1
      simp only [List.length_cons] at R1 R2
      have hdb : ((recS ((K, V) :: ps)).toList == (recS ((K, nv V) :: ps)).toList) = false := by rw [eq_beq]; exact decide_eq_false hdf
      clear herr hdf EG sI eC eC2 hne hM hml hne2 hps2
      generalize recS ((K, V) :: ps) = RS1 at *
      generalize recS ((K, nv V) :: ps) = RS2 at *
      generalize errL ((K, nv V) :: ps) = ER2 at *
      generalize egI (k : Int) ((H, (K, nv V) :: ps) :: rest) = I2 at *
      generalize egD (k : Int) ((H, (K, nv V) :: ps) :: rest) = D2 at *
      generalize egE (k : Int) ((H, (K, nv V) :: ps) :: rest) = E2 at *
      generalize egI (k : Int) ((H, (K, V) :: ps) :: rest) = I at *
      generalize egD (k : Int) ((H, (K, V) :: ps) :: rest) = D at *
      go_enter Try.func15, Try.ntmps15
      go_wp2_with fail
      rw [← hW0]
      clear hW0
      refine Calls.mono (CP.out _ HB0.out) ?_
      rintro e w1 ⟨cv, rfl, g1, b1⟩
      obtain ⟨gb, gcap, rfl⟩ : ∃ gb gcap, cv = .slice (some ⟨gb, 0, none⟩) (rest.length + 1) gcap := by
        obtain ⟨a, b, _, _, e, _⟩ := g1.head
        exact ⟨a, b, e⟩
      have B1 := hide b1
      have G1 := hide g1
      clear g1 b1
      go_wp2_with fail
      refine Calls.mono (CE.out _ _ G1.out.groups.lies) ?_
      rintro e w2 ⟨rfl, b2⟩
      have B2 := hide (B1.out.trans (b2.mono B1.out.size))
      have G2 := hide (G1.out.below b2)
      obtain ⟨kc0, kc1⟩ := KC.out w2 B2.out
      have s2 := B2.out.size
      clear b2 G1
      go_wp2_with fail
      refine Calls.mono (num_any _ _) ?_
      rintro e wx ⟨rfl, rfl⟩
      have hnw : ¬ w.heap.size = w2.heap.size := by omega
      have hri : ((rest.length : Int) + 1 == 0) = false := by simp; omega
      obtain ⟨W3, hW3⟩ : ∃ W3, W3 = w2.alloc (.cells #[.string I, .string D] 27) := ⟨_, rfl⟩
      have b3 : Below w2.heap.size w2 W3 := by rw [hW3]; exact (Below.refl _ w2).alloc (Nat.le_refl _) _
      have B3 := hide (B2.out.trans (b3.mono s2))
      have G3 := hide (G2.out.below b3)
      have KX : Hid (w2.heap.size < W3.heap.size ∧ W3.cell? ⟨w2.heap.size, 0, none⟩ = some (.string I) ∧ W3.cell? ⟨w2.heap.size, 1, none⟩ = some (.string D)) := by
        rw [hW3]; exact ⟨by simp, by simp, by simp⟩
      rw [← hW3]
      obtain ⟨kd0, kd1⟩ := KC.out W3 B3.out
      obtain ⟨kx, ke0, ke1⟩ := KX.out
      obtain ⟨gb', gcap', pb', pcap', q0, q1, q2, q3, q4, q5⟩ := G3.out.head
      simp only [Value.slice.injEq, Option.some.injEq, Addr.mk.injEq, and_true, true_and] at q0
      obtain ⟨rfl, rfl⟩ := q0
      have hpw : pb' < w2.heap.size := by
        obtain ⟨gb2, gc2, pb2, pc2, r0, r1, r2, r3, r4, _⟩ := G2.out.head
        simp only [Value.slice.injEq, Option.some.injEq, Addr.mk.injEq, and_true, true_and] at r0
        obtain ⟨rfl, rfl⟩ := r0
        have e := q2
        rw [b3.cell (by exact r3), r2] at e
        simp only [Option.some.injEq, Value.slice.injEq, Addr.mk.injEq, and_true, true_and] at e
        rw [← e.1]
        exact row_lt r4
      have Q4 := hide q4
      clear hW3 b3 kc0 kc1 G2 q4 q5
      go_wp2_with fail
      refine Calls.mono (R1.out pb' pcap' W3 (row_lt Q4.out) (row_lies (qs := []) (by rw [List.append_nil]; exact Q4.out) (by simp))) ?_
      rintro e w4 ⟨rfl, b4⟩
      have B4 := hide (B3.out.trans (b4.mono B3.out.size))
      have G4 := hide (G3.out.below b4)
      have kf0 : w4.cell? ⟨w2.heap.size, 0, none⟩ = some (.string I) := by rw [b4.cell (by exact kx)]; exact ke0
      have kf1 : w4.cell? ⟨w2.heap.size, 1, none⟩ = some (.string D) := by rw [b4.cell (by exact kx)]; exact ke1
      have kx4 : w2.heap.size < w4.heap.size := Nat.lt_of_lt_of_le kx b4.size
      have hq2 : w4.cell? ⟨gb, 1, none⟩ = some (.slice (some ⟨pb', 0, none⟩) (ps.length + 1) pcap') := by rw [b4.cell (by exact q3)]; exact q2
      obtain ⟨gb4, gcap4, pb, pcap, p0, p1, p2, p3, p4, p5⟩ := G4.out.head
      simp only [Value.slice.injEq, Option.some.injEq, Addr.mk.injEq, and_true, true_and] at p0
      obtain ⟨rfl, rfl⟩ := p0
      rw [hq2] at p2
      simp only [Value.slice.injEq, Option.some.injEq, Addr.mk.injEq, and_true, true_and] at p2
      obtain ⟨rfl, rfl⟩ := p2
      have Q4b := hide p4
      have hpbB : W0.heap.size ≤ pb' := (p4.lt pb' rfl).1
      have kg0 : w4.cell? ⟨pb', 1, none⟩ = some (.string V) := (p4.cellAt 1 (by omega)).trans rfl
      have kg1 : w4.frozen? ⟨pb', 1, none⟩ = false := p4.frozenAt 1
      have Q5 := hide p5
      clear b4 p1 p3 p4 p5 q1 q2 q3 hq2 kd0 kd1 ke0 ke1 kx Q4 G3 G4
      obtain ⟨W5, hW5⟩ : ∃ W5, W5 = w4.setCell ⟨pb', 1, none⟩ (.string (nv V)) := ⟨_, rfl⟩
      by_cases hV : V.size = 0
      · have hem : V.toList.isEmpty = true := by rw [emptyS]; exact decide_eq_true hV
        have env : nv V = ⟨#[118]⟩ := by unfold nv; rw [if_pos hV]
        rw [env] at hW5
        go_wp2_with fail
        rw [← hW5]
        rw [← env] at hW5
        have W5d : W5 = w4.setCell ⟨pb', 1, none⟩ (.string (nv V)) := hW5
        have G5 : Hid (GD W5 W0.heap.size (.slice (some ⟨gb, 0, none⟩) (rest.length + 1) gcap) ((H, (K, nv V) :: ps) :: rest)) := by
          rw [W5d]; exact Q5.out (nv V)
        have O5 : Hid (W5.ownsRow W0.heap.size 55 2 (.slice (some ⟨pb', 0, none⟩) (ps.length + 1) pcap') (ps.length + 1) (pc ((K, nv V) :: ps))) := by
          have st := (Q4b.out.stored 1 (.string (nv V))).1
          rw [W5d]
          exact st
        have B5 : Hid (Below W0.heap.size W0 W5) := by
          rw [W5d]; exact B4.out.setCell (p := ⟨pb', 1, none⟩) hpbB _
        have X5 : Hid (w2.heap.size < W5.heap.size ∧ W5.cell? ⟨w2.heap.size, 0, none⟩ = some (.string I) ∧ W5.cell? ⟨w2.heap.size, 1, none⟩ = some (.string D)) := by
          rw [W5d, World.size_setCell]
          exact ⟨kx4, (set_far (by omega)).trans kf0, (set_far (by omega)).trans kf1⟩
        have hp5 : pb' < W5.heap.size := row_lt O5.out
        have L5 : Hid (LiesP pb' 0 W5 ((K, nv V) :: ps)) := row_lies (qs := []) (by rw [List.append_nil]; exact O5.out) (by simp)
        clear hW5 W5d kf0 kf1 kx4 kg0 kg1
        go_wp2_with fail
        refine Calls.mono (R2.out pb' pcap' W5 hp5 L5.out) ?_
        rintro e w6 ⟨rfl, b6⟩
        have N6 := hide b6
        have C6 : Hid (∀ i u, (pc ((K, nv V) :: ps))[i]? = some u → w6.cell? ((⟨pb', 0, none⟩ : Addr).add i) = some u) := fun i u hu => lies_cells (L5.out.below hp5 b6) i u hu
        have s6 := b6.size
        clear b6
        obtain ⟨hm3, hm4⟩ : 0 + (ps.length + 1) ≤ maxLen ∧ (0 + (ps.length + 1)) * 32 ≤ 140737488355328 := by unfold maxLen; omega
        go_wp2_with (at_builtin; refine wpList_append_own _ rfl _ _ 38 rfl W5.heap.size 55 i1 (.agg #[.string ⟨#[]⟩, .string ⟨#[]⟩]) 2 32 Try.underlying38 hj hy0 hy1 hy2 rfl (by decide) _ 0 [] rfl (World.ownsRow_nil _ _ _ _) ⟨pb', 0, none⟩ (ps.length + 1) pcap' (pc ((K, nv V) :: ps)) rfl (pc_len _) C6.out (pc_one _) hm3 hm4 s6 ?_; intro v7 w7 o7 g7 n7; clear n7; rw [Nat.zero_add, List.nil_append] at o7; obtain ⟨q7, r7, u7, rfl, z71, z72, z73⟩ := own_pairs (ps := (K, nv V) :: ps) o7; obtain rfl := z71 (by simp); have N7 := hide (N6.out.grown g7 s6 (by intro k hk; cases hk)); have RC7 := hide (R2.out r7 u7 w7 (z72 (by simp)) z73); simp only [List.length_cons]; clear o7 g7 z72 z73)
        refine Calls.mono RC7.out ?_
        rintro e w8 ⟨rfl, b8⟩
        have N8 := hide (N7.out.trans (b8.mono N7.out.size))
        clear b8 RC7
        go_wp2_with fail
        refine Calls.mono (CE2.out _ _ (G5.out.below N8.out).groups.lies) ?_
        rintro e w9 ⟨rfl, b9⟩
        have N9 := hide (N8.out.trans (b9.mono N8.out.size))
        clear b9
        have s9 := N9.out.size
        obtain ⟨W9, hW9⟩ : ∃ W9, W9 = w9.alloc (.cells #[.string I2, .string D2] 27) := ⟨_, rfl⟩
        have NA : Hid (Below W5.heap.size W5 W9) := by rw [hW9]; exact N9.out.alloc s9 _
        have Y9 : Hid (w9.heap.size < W9.heap.size ∧ W9.cell? ⟨w9.heap.size, 0, none⟩ = some (.string I2) ∧ W9.cell? ⟨w9.heap.size, 1, none⟩ = some (.string D2)) := by
          rw [hW9]; exact ⟨by simp, by simp, by simp⟩
        go_wp2_with fail
        rw [← hW9]
        clear hW9
        refine Calls.mono (CP2.out _ _ (G5.out.below NA.out).groups.lies) ?_
        rintro e w10 ⟨cv2, rfl, g10, b10⟩
        have NB := hide (NA.out.trans (b10.mono NA.out.size))
        have G10 := hide (g10.groups (Nat.le_refl _) (Nat.le_refl _)).lies
        obtain ⟨y0, y1, y2⟩ := Y9.out
        have Y10 : Hid (w9.heap.size < w10.heap.size ∧ w10.cell? ⟨w9.heap.size, 0, none⟩ = some (.string I2) ∧ w10.cell? ⟨w9.heap.size, 1, none⟩ = some (.string D2)) := ⟨Nat.lt_of_lt_of_le y0 b10.size, by rw [b10.cell (by exact y0)]; exact y1, by rw [b10.cell (by exact y0)]; exact y2⟩
        clear b10 g10 y0 y1 y2 Y9
        go_wp2_with fail
        refine Calls.mono (CE2.out _ _ G10.out) ?_
        rintro e w11 ⟨rfl, b11⟩
        have NC := hide (NB.out.trans (b11.mono NB.out.size))
        obtain ⟨y0, y1, y2⟩ := Y10.out
        have s11 := NC.out.size
        obtain ⟨W11, hW11⟩ : ∃ W11, W11 = w11.alloc (.cells #[.string I2, .string D2] 27) := ⟨_, rfl⟩
        have bb11 : Below w11.heap.size w11 W11 := by rw [hW11]; exact (Below.refl _ w11).alloc (Nat.le_refl _) _
        have ND := hide (NC.out.trans (bb11.mono s11))
        have y0' : w9.heap.size < w11.heap.size := Nat.lt_of_lt_of_le y0 b11.size
        have m0 : W11.cell? ⟨w9.heap.size, 0, none⟩ = some (.string I2) := by rw [bb11.cell (by exact y0'), b11.cell (by exact y0)]; exact y1
        have m1 : W11.cell? ⟨w9.heap.size, 1, none⟩ = some (.string D2) := by rw [bb11.cell (by exact y0'), b11.cell (by exact y0)]; exact y2
        have m2 : W11.cell? ⟨w11.heap.size, 0, none⟩ = some (.string I2) := by rw [hW11]; simp
        have m3 : W11.cell? ⟨w11.heap.size, 1, none⟩ = some (.string D2) := by rw [hW11]; simp
        obtain ⟨x0, x1, x2⟩ := X5.out
        have m4 : W11.cell? ⟨w2.heap.size, 0, none⟩ = some (.string I) := by rw [ND.out.cell (by exact x0)]; exact x1
        have m5 : W11.cell? ⟨w2.heap.size, 1, none⟩ = some (.string D) := by rw [ND.out.cell (by exact x0)]; exact x2
        have FE := hide (B5.out.trans (ND.out.mono B5.out.size))
        obtain ⟨m6, m7⟩ := KC.out W11 FE.out
        have FF := hide (HB0.out.trans (FE.out.mono (by omega)))
        clear b11 y0 y1 y2 y0' bb11 x0 x1 x2
        go_wp2_with fail
        rw [← hW11]
        clear hW11
        refine Calls.mono (num_any _ _) ?_
        rintro e wx ⟨rfl, rfl⟩
        go_wp2_with fail
        refine Calls.mono (num_any _ _) ?_
        rintro e wx ⟨rfl, rfl⟩
        go_wp2_with fail
        refine Calls.mono (num_any _ _) ?_
        rintro e wx ⟨rfl, rfl⟩
        go_wp2_with fail
        refine Calls.mono (num_any _ _) ?_
        rintro e wx ⟨rfl, rfl⟩
        go_wp2_with fail
        refine Calls.mono (num_any _ _) ?_
        rintro e wx ⟨rfl, rfl⟩
        go_wp2_with fail
        go_ret
        exact ⟨rfl, FF.out⟩
      · have hem : V.toList.isEmpty = false := by rw [emptyS]; exact decide_eq_false hV
        have env : nv V = V.extract 1 V.size := by unfold nv; rw [if_neg hV]
        have h1V : (1 : Int) ≤ (V.size : Int) := by omega
        rw [env] at hW5
        go_wp2_with fail
        rw [← hW5]
        rw [← env] at hW5
        have W5d : W5 = w4.setCell ⟨pb', 1, none⟩ (.string (nv V)) := hW5
        have G5 : Hid (GD W5 W0.heap.size (.slice (some ⟨gb, 0, none⟩) (rest.length + 1) gcap) ((H, (K, nv V) :: ps) :: rest)) := by
          rw [W5d]; exact Q5.out (nv V)
        have O5 : Hid (W5.ownsRow W0.heap.size 55 2 (.slice (some ⟨pb', 0, none⟩) (ps.length + 1) pcap') (ps.length + 1) (pc ((K, nv V) :: ps))) := by
          have st := (Q4b.out.stored 1 (.string (nv V))).1
          rw [W5d]
          exact st
        have B5 : Hid (Below W0.heap.size W0 W5) := by
          rw [W5d]; exact B4.out.setCell (p := ⟨pb', 1, none⟩) hpbB _
        have X5 : Hid (w2.heap.size < W5.heap.size ∧ W5.cell? ⟨w2.heap.size, 0, none⟩ = some (.string I) ∧ W5.cell? ⟨w2.heap.size, 1, none⟩ = some (.string D)) := by
          rw [W5d, World.size_setCell]
          exact ⟨kx4, (set_far (by omega)).trans kf0, (set_far (by omega)).trans kf1⟩
        have hp5 : pb' < W5.heap.size := row_lt O5.out
        have L5 : Hid (LiesP pb' 0 W5 ((K, nv V) :: ps)) := row_lies (qs := []) (by rw [List.append_nil]; exact O5.out) (by simp)
        clear hW5 W5d kf0 kf1 kx4 kg0 kg1
        go_wp2_with fail
        refine Calls.mono (R2.out pb' pcap' W5 hp5 L5.out) ?_
        rintro e w6 ⟨rfl, b6⟩
        have N6 := hide b6
        have C6 : Hid (∀ i u, (pc ((K, nv V) :: ps))[i]? = some u → w6.cell? ((⟨pb', 0, none⟩ : Addr).add i) = some u) := fun i u hu => lies_cells (L5.out.below hp5 b6) i u hu
        have s6 := b6.size
        clear b6
        obtain ⟨hm3, hm4⟩ : 0 + (ps.length + 1) ≤ maxLen ∧ (0 + (ps.length + 1)) * 32 ≤ 140737488355328 := by unfold maxLen; omega
        go_wp2_with (at_builtin; refine wpList_append_own _ rfl _ _ 38 rfl W5.heap.size 55 i1 (.agg #[.string ⟨#[]⟩, .string ⟨#[]⟩]) 2 32 Try.underlying38 hj hy0 hy1 hy2 rfl (by decide) _ 0 [] rfl (World.ownsRow_nil _ _ _ _) ⟨pb', 0, none⟩ (ps.length + 1) pcap' (pc ((K, nv V) :: ps)) rfl (pc_len _) C6.out (pc_one _) hm3 hm4 s6 ?_; intro v7 w7 o7 g7 n7; clear n7; rw [Nat.zero_add, List.nil_append] at o7; obtain ⟨q7, r7, u7, rfl, z71, z72, z73⟩ := own_pairs (ps := (K, nv V) :: ps) o7; obtain rfl := z71 (by simp); have N7 := hide (N6.out.grown g7 s6 (by intro k hk; cases hk)); have RC7 := hide (R2.out r7 u7 w7 (z72 (by simp)) z73); simp only [List.length_cons]; clear o7 g7 z72 z73)
        refine Calls.mono RC7.out ?_
        rintro e w8 ⟨rfl, b8⟩
        have N8 := hide (N7.out.trans (b8.mono N7.out.size))
        clear b8 RC7
        go_wp2_with fail
        refine Calls.mono (CE2.out _ _ (G5.out.below N8.out).groups.lies) ?_
        rintro e w9 ⟨rfl, b9⟩
        have N9 := hide (N8.out.trans (b9.mono N8.out.size))
        clear b9
        have s9 := N9.out.size
        obtain ⟨W9, hW9⟩ : ∃ W9, W9 = w9.alloc (.cells #[.string I2, .string D2] 27) := ⟨_, rfl⟩
        have NA : Hid (Below W5.heap.size W5 W9) := by rw [hW9]; exact N9.out.alloc s9 _
        have Y9 : Hid (w9.heap.size < W9.heap.size ∧ W9.cell? ⟨w9.heap.size, 0, none⟩ = some (.string I2) ∧ W9.cell? ⟨w9.heap.size, 1, none⟩ = some (.string D2)) := by
          rw [hW9]; exact ⟨by simp, by simp, by simp⟩
        go_wp2_with fail
        rw [← hW9]
        clear hW9
        refine Calls.mono (CP2.out _ _ (G5.out.below NA.out).groups.lies) ?_
        rintro e w10 ⟨cv2, rfl, g10, b10⟩
        have NB := hide (NA.out.trans (b10.mono NA.out.size))
        have G10 := hide (g10.groups (Nat.le_refl _) (Nat.le_refl _)).lies
        obtain ⟨y0, y1, y2⟩ := Y9.out
        have Y10 : Hid (w9.heap.size < w10.heap.size ∧ w10.cell? ⟨w9.heap.size, 0, none⟩ = some (.string I2) ∧ w10.cell? ⟨w9.heap.size, 1, none⟩ = some (.string D2)) := ⟨Nat.lt_of_lt_of_le y0 b10.size, by rw [b10.cell (by exact y0)]; exact y1, by rw [b10.cell (by exact y0)]; exact y2⟩
        clear b10 g10 y0 y1 y2 Y9
        go_wp2_with fail
        refine Calls.mono (CE2.out _ _ G10.out) ?_
        rintro e w11 ⟨rfl, b11⟩
        have NC := hide (NB.out.trans (b11.mono NB.out.size))
        obtain ⟨y0, y1, y2⟩ := Y10.out
        have s11 := NC.out.size
        obtain ⟨W11, hW11⟩ : ∃ W11, W11 = w11.alloc (.cells #[.string I2, .string D2] 27) := ⟨_, rfl⟩
        have bb11 : Below w11.heap.size w11 W11 := by rw [hW11]; exact (Below.refl _ w11).alloc (Nat.le_refl _) _
        have ND := hide (NC.out.trans (bb11.mono s11))
        have y0' : w9.heap.size < w11.heap.size := Nat.lt_of_lt_of_le y0 b11.size
        have m0 : W11.cell? ⟨w9.heap.size, 0, none⟩ = some (.string I2) := by rw [bb11.cell (by exact y0'), b11.cell (by exact y0)]; exact y1
        have m1 : W11.cell? ⟨w9.heap.size, 1, none⟩ = some (.string D2) := by rw [bb11.cell (by exact y0'), b11.cell (by exact y0)]; exact y2
        have m2 : W11.cell? ⟨w11.heap.size, 0, none⟩ = some (.string I2) := by rw [hW11]; simp
        have m3 : W11.cell? ⟨w11.heap.size, 1, none⟩ = some (.string D2) := by rw [hW11]; simp
        obtain ⟨x0, x1, x2⟩ := X5.out
        have m4 : W11.cell? ⟨w2.heap.size, 0, none⟩ = some (.string I) := by rw [ND.out.cell (by exact x0)]; exact x1
        have m5 : W11.cell? ⟨w2.heap.size, 1, none⟩ = some (.string D) := by rw [ND.out.cell (by exact x0)]; exact x2
        have FE := hide (B5.out.trans (ND.out.mono B5.out.size))
        obtain ⟨m6, m7⟩ := KC.out W11 FE.out
        have FF := hide (HB0.out.trans (FE.out.mono (by omega)))
        clear b11 y0 y1 y2 y0' bb11 x0 x1 x2
        go_wp2_with fail
        rw [← hW11]
        clear hW11
        refine Calls.mono (num_any _ _) ?_
        rintro e wx ⟨rfl, rfl⟩
        go_wp2_with fail
        refine Calls.mono (num_any _ _) ?_
        rintro e wx ⟨rfl, rfl⟩
        go_wp2_with fail
        refine Calls.mono (num_any _ _) ?_
        rintro e wx ⟨rfl, rfl⟩
        go_wp2_with fail
        refine Calls.mono (num_any _ _) ?_
        rintro e wx ⟨rfl, rfl⟩
        go_wp2_with fail
        refine Calls.mono (num_any _ _) ?_
        rintro e wx ⟨rfl, rfl⟩
        go_wp2_with fail
        go_ret
        exact ⟨rfl, FF.out⟩
end Go.Proofs.Ytfmmfophdfjopaa
