import Derived.Test.YtjibhdcnibgegaaRrRec
namespace Go.Proofs.Ytjibhdcnibgegaa
open Go.RowKit
/-- where what is spelled ends; -1: too few bytes -/
def spZ (d : ByteArray) (p : Nat) : Int := match spellAt d p with | none => -1 | some (_, q) => (q : Int)
theorem spZ_some {d : ByteArray} {p : Nat} {l : List KV} {q : Nat} (h : spellAt d p = some (l, q)) : spZ d p = (q : Int) := by unfold spZ; rw [h]
theorem spZ_none {d : ByteArray} {p : Nat} (h : spellAt d p = none) : spZ d p = -1 := by unfold spZ; rw [h]
theorem cell_XY (w : World) (X Y : ByteArray) : ∀ j u, (pc [(X, Y)])[j]? = some u → (w.drew.alloc (.cells #[.string X, .string Y] 81)).cell? ((⟨w.heap.size, 0, none⟩ : Addr).add j) = some u := cell_pair w.drew (X, Y)
theorem len_XY (X Y : ByteArray) : (pc [(X, Y)]).length = 1 * 2 := rfl
set_option maxHeartbeats 3000000 in
set_option maxRecDepth 100000 in
set_option linter.unusedSimpArgs false in
/-- the document's spelled -/
theorem spelled_any (d : ByteArray) (p : Nat) (hd : d.size ≤ 140737488351232) (hp : p ≤ d.size) (w : World) :
    Calls Try.prog 40 #[.string d, .int .i64 (p : Int)] w fun e w' => ∃ v, e = .returned (.tuple #[v, .int .i64 (spZ d p)]) ∧ w'.ownsRow w.heap.size 81 2 v (spL d p).length (pc (spL d p)) ∧ Below w.heap.size w w' := by
  obtain ⟨i0, hi, hz0, hz1, hz2⟩ := info_parts infoP
  by_cases h2 : p + 2 ≤ d.size
  · have HC1 : Hid (∀ w', Calls Try.prog 34 #[.string d, .int .i64 (p : Int), .int .i64 2] w' fun e w'' => e = .returned (.int .i64 (kAt d p : Int)) ∧ w' = w'') := fun w' => sum_any d p 2 (by omega) (by omega) (by omega) w'
    have HSK : Hid (∀ q, q + 6 ≤ d.size → ∀ w', Calls Try.prog 34 #[.string d, .int .i64 (q : Int), .int .i64 2] w' fun e w'' => e = .returned (.int .i64 (kAt d q : Int)) ∧ w' = w'') := fun q hq w' => sum_any d q 2 (by omega) (by omega) (by omega) w'
    have HSV : Hid (∀ q, q + 6 ≤ d.size → ∀ w', Calls Try.prog 34 #[.string d, .int .i64 ((q : Int) + 2), .int .i64 4] w' fun e w'' => e = .returned (.int .i64 (vAt d q : Int)) ∧ w' = w'') := fun q hq w' => by
      have := sum_any d (q + 2) 4 (by omega) (by omega) (by omega) w'
      rwa [show ((q + 2 : Nat) : Int) = (q : Int) + 2 by omega] at this
    have hk := kAt_lt d p
    have hsp : spellAt d p = pairsAt d (p + 2) (kAt d p) := by unfold spellAt; rw [if_pos h2]
    have HSP := hide hsp
    clear hsp
    generalize hCN : kAt d p = CN at *
    have HCN := hide hCN
    clear hCN
    go_enter Try.func40, Try.ntmps40
    go_wp2_with fail
    refine Calls.mono (HC1.out _) ?_
    rintro e wx ⟨rfl, rfl⟩
    go_wp2_with fail
    go_loopw [6, 7, 8] (fun v at' i wr => ∃ (k : Nat) (l : List KV) (q : Nat), k ≤ CN ∧ i = .int .i64 ((CN : Int) - (k : Int)) ∧ at' = .int .i64 (q : Int) ∧ pairsAt d (p + 2) k = some (l, q) ∧ wr.ownsRow w.heap.size 81 2 v l.length (pc l) ∧ Below w.heap.size w wr)
      (fun _ _ i _ => (intOf i).toNat)
    case atStart => exact ⟨0, [], p + 2, by omega, by go_num, by go_num, rfl, World.ownsRow_nil _ _ _ _, Below.refl _ _⟩
    case round =>
      obtain ⟨k, l, q, hk2, rfl, rfl, hpa, hown, hnx⟩ := hrel
      have hsz := hnx.size
      obtain ⟨hq1, hq2, hq3, _⟩ := pairs_body h2 k l q hpa
      have HPA := hide hpa
      have HNX := hide hnx
      have HOWN := hide hown
      clear hpa hnx hown
      by_cases hlt : k < CN
      · have hki : (0 : Int) < (CN : Int) - (k : Int) := by omega
        by_cases h6 : q + 6 ≤ d.size
        · have S1 := hide (HSK.out q h6)
          have S2 := hide (HSV.out q h6)
          have hkq := kAt_lt d q
          have hvq := vAt_lt d q
          have hend : pairEnd d q = q + 6 + kAt d q + vAt d q := rfl
          have h61 : (6 : Int) ≤ (d.size : Int) - (q : Int) := by omega
          by_cases he : pairEnd d q ≤ d.size
          · have HST := hide (pairs_step HPA.out ⟨h6, he⟩)
            have hF : pairOf d q = (d.extract (q + 6) (q + 6 + kAt d q), d.extract (q + 6 + kAt d q) (q + 6 + kAt d q + vAt d q)) := rfl
            rw [hF, hend] at HST
            rw [hend] at he
            clear hend hF
            generalize kAt d q = K at *
            generalize vAt d q = V at *
            obtain ⟨hm1, hm2⟩ := small_room (k := l.length) (by omega)
            obtain ⟨X, hX⟩ : ∃ X, d.extract (q + 6) (q + 6 + K) = X := ⟨_, rfl⟩
            obtain ⟨Y, hY⟩ : ∃ Y, d.extract (q + 6 + K) (q + 6 + K + V) = Y := ⟨_, rfl⟩
            rw [hX, hY] at HST
            have HX := hide hX
            have HY := hide hY
            clear hX hY
            have CXY := hide (cell_XY wr X Y)
            have h62 : (K : Int) + (V : Int) ≤ (d.size : Int) - ((q : Int) + 6) := by omega
            go_wp2_with fail
            refine Calls.mono (S1.out _) ?_
            rintro e wx ⟨rfl, rfl⟩
            go_wp2_with fail
            refine Calls.mono (S2.out _) ?_
            rintro e wx ⟨rfl, rfl⟩
            go_wp2_with fail
            refine wp_region_held_drew (S := fun _ => True) (by kernel_rfl) trivial (fun hHeld => ?_)
            refine wpAnyH_take (i := 0) (v := (u6)) rfl (by kernel_rfl) (by kernel_rfl) (by kernel_rfl) (fun _ _ _ h => h) (Or.inl ⟨by rfl, ?_⟩) (by assumption) ?_
            · intro w' hSw
              (try dsimp only at hSw)
              go_simp <;> first | exact i64_in (by omega) (by omega) | exact u32_in (by omega) (by omega) | exact u32_add _ _ | (rw [Int.tmod_eq_emod_of_nonneg (by omega)]; omega) | (rw [Int.tdiv_eq_ediv_of_nonneg (by omega)]; omega) | omega
            (try simp only [Act.put, List.setIfInBounds_toArray, List.set_cons_zero, List.set_cons_succ])
            refine wpAnyH_take (i := 1) (v := (.string d)) rfl (by kernel_rfl) (by kernel_rfl) (by kernel_rfl) (fun _ _ _ h => h) (Or.inl ⟨by rfl, ?_⟩) (by assumption) ?_
            · intro w' hSw
              (try dsimp only at hSw)
              go_simp <;> first | exact i64_in (by omega) (by omega) | exact u32_in (by omega) (by omega) | exact u32_add _ _ | (rw [Int.tmod_eq_emod_of_nonneg (by omega)]; omega) | (rw [Int.tdiv_eq_ediv_of_nonneg (by omega)]; omega) | omega
            (try simp only [Act.put, List.setIfInBounds_toArray, List.set_cons_zero, List.set_cons_succ])
            refine wpAnyH_take (i := 2) (v := (.int .i64 ((q : Int) + 6))) rfl (by kernel_rfl) (by kernel_rfl) (by kernel_rfl) (fun _ _ _ h => h) (Or.inl ⟨by rfl, ?_⟩) (by assumption) ?_
            · intro w' hSw
              (try dsimp only at hSw)
              go_simp <;> first | exact i64_in (by omega) (by omega) | exact u32_in (by omega) (by omega) | exact u32_add _ _ | (rw [Int.tmod_eq_emod_of_nonneg (by omega)]; omega) | (rw [Int.tdiv_eq_ediv_of_nonneg (by omega)]; omega) | omega
            (try simp only [Act.put, List.setIfInBounds_toArray, List.set_cons_zero, List.set_cons_succ])
            refine wpAnyH_take (i := 3) (v := (.int .i64 ((q : Int) + 6))) rfl (by kernel_rfl) (by kernel_rfl) (by kernel_rfl) (fun _ _ _ h => h) (Or.inl ⟨by rfl, ?_⟩) (by assumption) ?_
            · intro w' hSw
              (try dsimp only at hSw)
              go_simp <;> first | exact i64_in (by omega) (by omega) | exact u32_in (by omega) (by omega) | exact u32_add _ _ | (rw [Int.tmod_eq_emod_of_nonneg (by omega)]; omega) | (rw [Int.tdiv_eq_ediv_of_nonneg (by omega)]; omega) | omega
            (try simp only [Act.put, List.setIfInBounds_toArray, List.set_cons_zero, List.set_cons_succ])
            refine wpAnyH_take (i := 4) (v := (.int .i64 (K : Int))) rfl (by kernel_rfl) (by kernel_rfl) (by kernel_rfl) (fun _ _ _ h => h) (Or.inl ⟨by rfl, ?_⟩) (by assumption) ?_
            · intro w' hSw
              (try dsimp only at hSw)
              go_simp <;> first | exact i64_in (by omega) (by omega) | exact u32_in (by omega) (by omega) | exact u32_add _ _ | (rw [Int.tmod_eq_emod_of_nonneg (by omega)]; omega) | (rw [Int.tdiv_eq_ediv_of_nonneg (by omega)]; omega) | omega
            (try simp only [Act.put, List.setIfInBounds_toArray, List.set_cons_zero, List.set_cons_succ])
            refine wpAnyH_take (i := 5) (v := (.int .i64 ((q : Int) + 6 + (K : Int)))) rfl (by kernel_rfl) (by kernel_rfl) (by kernel_rfl) (fun _ _ _ h => h) (Or.inl ⟨by rfl, ?_⟩) (by assumption) ?_
            · intro w' hSw
              (try dsimp only at hSw)
              go_simp <;> first | exact i64_in (by omega) (by omega) | exact u32_in (by omega) (by omega) | exact u32_add _ _ | (rw [Int.tmod_eq_emod_of_nonneg (by omega)]; omega) | (rw [Int.tdiv_eq_ediv_of_nonneg (by omega)]; omega) | omega
            (try simp only [Act.put, List.setIfInBounds_toArray, List.set_cons_zero, List.set_cons_succ])
            refine wpAnyH_take (i := 6) (v := (.string X)) rfl (by kernel_rfl) (by kernel_rfl) (by kernel_rfl) (fun _ _ _ h => h) (Or.inl ⟨by rfl, ?_⟩) (by assumption) ?_
            · intro w' hSw
              (try dsimp only at hSw)
              (go_simp; (repeat rw [if_pos (by first | omega | exact ⟨by omega, by omega⟩)]); (try rw [show ((q : Int) + 6).toNat = q + 6 by omega]); (try rw [show ((q : Int) + 6 + (K : Int)).toNat = q + 6 + K by omega]); (try rw [show ((q : Int) + 6 + (K : Int) + (V : Int)).toNat = q + 6 + K + V by omega]); first | rw [HX.out] | rw [HY.out])
            (try simp only [Act.put, List.setIfInBounds_toArray, List.set_cons_zero, List.set_cons_succ])
            refine wpAnyH_take (i := 7) (v := (.string d)) rfl (by kernel_rfl) (by kernel_rfl) (by kernel_rfl) (fun _ _ _ h => h) (Or.inl ⟨by rfl, ?_⟩) (by assumption) ?_
            · intro w' hSw
              (try dsimp only at hSw)
              go_simp <;> first | exact i64_in (by omega) (by omega) | exact u32_in (by omega) (by omega) | exact u32_add _ _ | (rw [Int.tmod_eq_emod_of_nonneg (by omega)]; omega) | (rw [Int.tdiv_eq_ediv_of_nonneg (by omega)]; omega) | omega
            (try simp only [Act.put, List.setIfInBounds_toArray, List.set_cons_zero, List.set_cons_succ])
            refine wpAnyH_take (i := 8) (v := (.int .i64 ((q : Int) + 6))) rfl (by kernel_rfl) (by kernel_rfl) (by kernel_rfl) (fun _ _ _ h => h) (Or.inl ⟨by rfl, ?_⟩) (by assumption) ?_
            · intro w' hSw
              (try dsimp only at hSw)
              go_simp <;> first | exact i64_in (by omega) (by omega) | exact u32_in (by omega) (by omega) | exact u32_add _ _ | (rw [Int.tmod_eq_emod_of_nonneg (by omega)]; omega) | (rw [Int.tdiv_eq_ediv_of_nonneg (by omega)]; omega) | omega
            (try simp only [Act.put, List.setIfInBounds_toArray, List.set_cons_zero, List.set_cons_succ])
            refine wpAnyH_take (i := 9) (v := (.int .i64 (K : Int))) rfl (by kernel_rfl) (by kernel_rfl) (by kernel_rfl) (fun _ _ _ h => h) (Or.inl ⟨by rfl, ?_⟩) (by assumption) ?_
            · intro w' hSw
              (try dsimp only at hSw)
              go_simp <;> first | exact i64_in (by omega) (by omega) | exact u32_in (by omega) (by omega) | exact u32_add _ _ | (rw [Int.tmod_eq_emod_of_nonneg (by omega)]; omega) | (rw [Int.tdiv_eq_ediv_of_nonneg (by omega)]; omega) | omega
            (try simp only [Act.put, List.setIfInBounds_toArray, List.set_cons_zero, List.set_cons_succ])
            refine wpAnyH_take (i := 10) (v := (.int .i64 ((q : Int) + 6 + (K : Int)))) rfl (by kernel_rfl) (by kernel_rfl) (by kernel_rfl) (fun _ _ _ h => h) (Or.inl ⟨by rfl, ?_⟩) (by assumption) ?_
            · intro w' hSw
              (try dsimp only at hSw)
              go_simp <;> first | exact i64_in (by omega) (by omega) | exact u32_in (by omega) (by omega) | exact u32_add _ _ | (rw [Int.tmod_eq_emod_of_nonneg (by omega)]; omega) | (rw [Int.tdiv_eq_ediv_of_nonneg (by omega)]; omega) | omega
            (try simp only [Act.put, List.setIfInBounds_toArray, List.set_cons_zero, List.set_cons_succ])
            refine wpAnyH_take (i := 11) (v := (.int .i64 ((q : Int) + 6))) rfl (by kernel_rfl) (by kernel_rfl) (by kernel_rfl) (fun _ _ _ h => h) (Or.inl ⟨by rfl, ?_⟩) (by assumption) ?_
            · intro w' hSw
              (try dsimp only at hSw)
              go_simp <;> first | exact i64_in (by omega) (by omega) | exact u32_in (by omega) (by omega) | exact u32_add _ _ | (rw [Int.tmod_eq_emod_of_nonneg (by omega)]; omega) | (rw [Int.tdiv_eq_ediv_of_nonneg (by omega)]; omega) | omega
            (try simp only [Act.put, List.setIfInBounds_toArray, List.set_cons_zero, List.set_cons_succ])
            refine wpAnyH_take (i := 12) (v := (.int .i64 (K : Int))) rfl (by kernel_rfl) (by kernel_rfl) (by kernel_rfl) (fun _ _ _ h => h) (Or.inl ⟨by rfl, ?_⟩) (by assumption) ?_
            · intro w' hSw
              (try dsimp only at hSw)
              go_simp <;> first | exact i64_in (by omega) (by omega) | exact u32_in (by omega) (by omega) | exact u32_add _ _ | (rw [Int.tmod_eq_emod_of_nonneg (by omega)]; omega) | (rw [Int.tdiv_eq_ediv_of_nonneg (by omega)]; omega) | omega
            (try simp only [Act.put, List.setIfInBounds_toArray, List.set_cons_zero, List.set_cons_succ])
            refine wpAnyH_take (i := 13) (v := (.int .i64 ((q : Int) + 6 + (K : Int)))) rfl (by kernel_rfl) (by kernel_rfl) (by kernel_rfl) (fun _ _ _ h => h) (Or.inl ⟨by rfl, ?_⟩) (by assumption) ?_
            · intro w' hSw
              (try dsimp only at hSw)
              go_simp <;> first | exact i64_in (by omega) (by omega) | exact u32_in (by omega) (by omega) | exact u32_add _ _ | (rw [Int.tmod_eq_emod_of_nonneg (by omega)]; omega) | (rw [Int.tdiv_eq_ediv_of_nonneg (by omega)]; omega) | omega
            (try simp only [Act.put, List.setIfInBounds_toArray, List.set_cons_zero, List.set_cons_succ])
            refine wpAnyH_take (i := 14) (v := (.int .i64 (V : Int))) rfl (by kernel_rfl) (by kernel_rfl) (by kernel_rfl) (fun _ _ _ h => h) (Or.inl ⟨by rfl, ?_⟩) (by assumption) ?_
            · intro w' hSw
              (try dsimp only at hSw)
              go_simp <;> first | exact i64_in (by omega) (by omega) | exact u32_in (by omega) (by omega) | exact u32_add _ _ | (rw [Int.tmod_eq_emod_of_nonneg (by omega)]; omega) | (rw [Int.tdiv_eq_ediv_of_nonneg (by omega)]; omega) | omega
            (try simp only [Act.put, List.setIfInBounds_toArray, List.set_cons_zero, List.set_cons_succ])
            refine wpAnyH_take (i := 15) (v := (.int .i64 ((q : Int) + 6 + (K : Int) + (V : Int)))) rfl (by kernel_rfl) (by kernel_rfl) (by kernel_rfl) (fun _ _ _ h => h) (Or.inl ⟨by rfl, ?_⟩) (by assumption) ?_
            · intro w' hSw
              (try dsimp only at hSw)
              go_simp <;> first | exact i64_in (by omega) (by omega) | exact u32_in (by omega) (by omega) | exact u32_add _ _ | (rw [Int.tmod_eq_emod_of_nonneg (by omega)]; omega) | (rw [Int.tdiv_eq_ediv_of_nonneg (by omega)]; omega) | omega
            (try simp only [Act.put, List.setIfInBounds_toArray, List.set_cons_zero, List.set_cons_succ])
            refine wpAnyH_take (i := 16) (v := (.string Y)) rfl (by kernel_rfl) (by kernel_rfl) (by kernel_rfl) (fun _ _ _ h => h) (Or.inl ⟨by rfl, ?_⟩) (by assumption) ?_
            · intro w' hSw
              (try dsimp only at hSw)
              (go_simp; (repeat rw [if_pos (by first | omega | exact ⟨by omega, by omega⟩)]); (try rw [show ((q : Int) + 6).toNat = q + 6 by omega]); (try rw [show ((q : Int) + 6 + (K : Int)).toNat = q + 6 + K by omega]); (try rw [show ((q : Int) + 6 + (K : Int) + (V : Int)).toNat = q + 6 + K + V by omega]); first | rw [HX.out] | rw [HY.out])
            (try simp only [Act.put, List.setIfInBounds_toArray, List.set_cons_zero, List.set_cons_succ])
            refine wpAnyH_take (i := 17) (v := (.agg #[.string X, .string Y])) rfl (by kernel_rfl) (by kernel_rfl) (by kernel_rfl) (fun _ _ _ h => h) (Or.inl ⟨by rfl, ?_⟩) (by assumption) ?_
            · intro w' hSw
              (try dsimp only at hSw)
              go_simp <;> first | exact i64_in (by omega) (by omega) | exact u32_in (by omega) (by omega) | exact u32_add _ _ | (rw [Int.tmod_eq_emod_of_nonneg (by omega)]; omega) | (rw [Int.tdiv_eq_ediv_of_nonneg (by omega)]; omega) | omega
            (try simp only [Act.put, List.setIfInBounds_toArray, List.set_cons_zero, List.set_cons_succ])
            refine wpAnyH_ready (rs := [18]) (by kernel_rfl) (by simp) ?_
            refine AllReadyH.cons rfl (fun K hK => ?_) AllReadyH.nil
            go_simp
            refine hK.out _ _ trivial (fun hHeld => ?_)
            clear hK
            (try simp only [Act.put, List.setIfInBounds_toArray, List.set_cons_zero, List.set_cons_succ])
            refine wpAnyH_ready (rs := [19]) (by kernel_rfl) (by simp) ?_
            refine AllReadyH.cons rfl (fun K hK => ?_) AllReadyH.nil
            refine step_append_lies _ (by rfl) _ _ _ (by rfl) w.heap.size 81 i0 (.agg #[.string ⟨#[]⟩, .string ⟨#[]⟩]) 2 32 Try.underlying40 hi hz0 hz1 hz2 rfl (by decide) _ _ _ (by rfl) (HOWN.out.drew.alloc (.cells #[.string X, .string Y] 81)) ⟨wr.heap.size, 0, none⟩ 1 1 (pc [(X, Y)]) (by rfl) (len_XY X Y) CXY.out (pc_one _) (by decide) hm1 hm2 (le_alloc hsz) (wr.heap.size + 1) (by simp) ?_
            intro g' c' w3 hown3 hgrow3 hat3 hlt3
            have OW := hide hown3
            have B3 := hide ((HNX.out.drew.alloc hsz _).grown hgrow3 (le_alloc hsz) (fun j hj => (HOWN.out.lt j hj).1))
            clear hown3 hgrow3 hat3
            refine hK.out _ _ trivial (fun hHeld => ?_)
            clear hK
            (try simp only [Act.put, List.setIfInBounds_toArray, List.set_cons_zero, List.set_cons_succ])
            refine wpAnyH_ready (rs := [20]) (by kernel_rfl) (by simp) ?_
            refine AllReadyH.cons rfl (fun K hK => ?_) AllReadyH.nil
            go_simp
            refine hK.out _ _ trivial (fun hHeld => ?_)
            clear hK
            (try simp only [Act.put, List.setIfInBounds_toArray, List.set_cons_zero, List.set_cons_succ])
            refine wpAnyH_done (by kernel_rfl) ?_ _
            go_wp2
            go_roundw
            case rel =>
              refine ⟨k + 1, _, _, by omega, by go_num, by go_num, HST.out, ?_, B3.out⟩
              have ow := OW.out
              rw [hq3] at ow
              rw [pc_append, List.length_append, hq3]
              exact ow
            case measure => simp [intOf]; omega
          · have hns : spellAt d p = none := by
              rw [HSP.out, show CN = k + 1 + (CN - (k + 1)) by omega]
              exact pairs_none (pairs_stop HPA.out (fun h => he h.2)) _
            have HS1 := hide (spL_none hns)
            have HS2 := hide (spZ_none hns)
            rw [hend] at he
            clear hend hns
            generalize kAt d q = K at *
            generalize vAt d q = V at *
            have h62 : (d.size : Int) - ((q : Int) + 6) < (K : Int) + (V : Int) := by omega
            go_wp2_with fail
            refine Calls.mono (S1.out _) ?_
            rintro e wx ⟨rfl, rfl⟩
            go_wp2_with fail
            refine Calls.mono (S2.out _) ?_
            rintro e wx ⟨rfl, rfl⟩
            go_wp2_with fail
            go_ret2
            exact ⟨_, by rw [HS2.out]; rfl, by rw [HS1.out.1]; exact World.ownsRow_nil _ _ _ _, HNX.out⟩
        · have hns : spellAt d p = none := by
            rw [HSP.out, show CN = k + 1 + (CN - (k + 1)) by omega]
            exact pairs_none (pairs_stop HPA.out (fun h => h6 h.1)) _
          have HS1 := hide (spL_none hns)
          have HS2 := hide (spZ_none hns)
          clear hns
          have h61 : (d.size : Int) - (q : Int) < 6 := by omega
          go_wp2_with fail
          go_ret2
          exact ⟨_, by rw [HS2.out]; rfl, by rw [HS1.out.1]; exact World.ownsRow_nil _ _ _ _, HNX.out⟩
      · obtain rfl : k = CN := by omega
        have HS1 := hide (spL_some (HSP.out.trans HPA.out))
        have HS2 := hide (spZ_some (HSP.out.trans HPA.out))
        go_wp2_with fail
        go_ret2
        exact ⟨_, by rw [HS2.out]; rfl, by rw [HS1.out.1]; exact HOWN.out, HNX.out⟩
  · have hs : spellAt d p = none := by unfold spellAt; rw [if_neg h2]
    rw [(spL_none hs).1, spZ_none hs]
    have h3 : (d.size : Int) - (p : Int) < 2 := by omega
    clear hs
    go_enter Try.func40, Try.ntmps40
    go_wp2_with fail
    go_ret2
    exact ⟨_, rfl, World.ownsRow_nil _ _ _ _, Below.refl _ _⟩
end Go.Proofs.Ytjibhdcnibgegaa
