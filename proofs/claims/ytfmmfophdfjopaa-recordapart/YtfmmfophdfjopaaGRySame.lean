import Derived.Test.YtfmmfophdfjopaaGRxIndex
import Derived.Laws.ResultCell
import Derived.Test.YtfmmfophdfjopaaGRzPlain
namespace Go.Proofs.Ytfmmfophdfjopaa
open Go.RowKit
theorem gcell_len (ts : List (GR × Value)) : (gcell ts).length = ts.length * 2 := by
  induction ts with
  | nil => rfl
  | cons p r ih => unfold gcell at ih ⊢; rw [List.flatMap_cons, List.length_append, ih]; simp; omega
theorem gcell_at (ps : List (GR × Value)) : ∀ i (h : i < ps.length), (gcell ps)[i * 2]? = some (.string ps[i].1.1) ∧ (gcell ps)[i * 2 + 1]? = some ps[i].2 := by
  induction ps with
  | nil => intro i h; simp at h
  | cons p r ih =>
    intro i h
    cases i with
    | zero => exact ⟨rfl, rfl⟩
    | succ i =>
      have := ih i (by simpa using h)
      have e : gcell (p :: r) = .string p.1.1 :: p.2 :: gcell r := rfl
      rw [e, show (i + 1) * 2 = i * 2 + 1 + 1 by omega]
      simpa using this
/-- groups in memory, one by one -/
theorem GroupsAt.split {w : World} {base : Nat} {v : Value} {gs : List GR} (h : GroupsAt w base v gs) : ∃ ao g cap, v = .slice ao gs.length cap ∧ (0 < gs.length → ao = some ⟨g, 0, none⟩) ∧ (0 < gs.length → g < w.heap.size) ∧
    ∀ i (hi : i < gs.length), ∃ pv, w.cell? ⟨g, i * 2, none⟩ = some (.string gs[i].1) ∧ w.cell? ⟨g, i * 2 + 1, none⟩ = some pv ∧ w.ownsRow base 55 2 pv gs[i].2.length (pc gs[i].2) := by
  obtain ⟨ts, rfl, h2, h3⟩ := h
  simp only [List.length_map]
  rcases h2.2 with ⟨rfl, h0⟩ | ⟨g, cap, cur, rfl, hg, hblk, _⟩
  · obtain rfl := List.length_eq_zero_iff.1 h0
    exact ⟨none, 0, 0, rfl, fun k => by simp at k, fun k => by simp at k, fun i hi => by simp at hi⟩
  · refine ⟨some ⟨g, 0, none⟩, g, cap, rfl, fun _ => rfl, fun _ => row_lt h2, fun i hi => ⟨ts[i].2, ?_, ?_, ?_⟩⟩
    · rw [h2.cellAt (i * 2) (by omega), (gcell_at ts i hi).1, List.getElem_map]
    · rw [h2.cellAt (i * 2 + 1) (by omega), (gcell_at ts i hi).2]
    · rw [List.getElem_map]; exact h3 _ (List.getElem_mem hi)
set_option maxHeartbeats 1000000 in
set_option maxRecDepth 100000 in
set_option linter.unusedSimpArgs false in
/-- sameGroups, of two lists that are the same -/
theorem sameGroups_any (v1 v2 : Value) (b1 b2 : Nat) (gs : List GR) (w : World) (h1 : GroupsAt w b1 v1 gs) (h2 : GroupsAt w b2 v2 gs) (hlen : gs.length ≤ 1099511627776) (hps : ∀ g ∈ gs, g.2.length ≤ 1099511627776) :
    Calls Try.prog 10 #[v1, v2] w fun e w' => e = .returned (.bool true) ∧ Below w.heap.size w w' := by
  obtain ⟨a1, g1, c1, rfl, h11, h12, h13⟩ := h1.split
  obtain ⟨a2, g2, c2, rfl, h21, h22, h23⟩ := h2.split
  have H13 := hide h13
  have H23 := hide h23
  clear h1 h2 h13 h23
  go_enter Try.func10, Try.ntmps10
  go_wp2_with fail
  go_loopw [5] (fun i wr => ∃ k : Nat, k ≤ gs.length ∧ i = .int .i64 k ∧ Below w.heap.size w wr) (fun i _ => gs.length - (intOf i).toNat)
  case atStart => exact ⟨0, Nat.zero_le _, rfl, Below.refl _ _⟩
  case round =>
    obtain ⟨k, hk, rfl, hnx⟩ := hrel
    by_cases hlt : k < gs.length
    · obtain rfl := h11 (by omega)
      obtain rfl := h21 (by omega)
      have t1 := h12 (by omega)
      have t2 := h22 (by omega)
      obtain ⟨p1, d1, d2, d3⟩ := H13.out k hlt
      obtain ⟨p2, d4, d5, d6⟩ := H23.out k hlt
      rw [← hnx.cell (by exact t1)] at d1 d2
      rw [← hnx.cell (by exact t2)] at d4 d5
      have o1 := own_below d3 hnx
      have o2 := own_below d6 hnx
      obtain ⟨q1, r1, u1, rfl, x11, x12, x13⟩ := own_pairs o1
      obtain ⟨q2, r2, u2, rfl, x21, x22, x23⟩ := own_pairs o2
      have hkl := hps gs[k] (List.getElem_mem hlt)
      have SP := hide (fun w' (hb : Below wr.heap.size wr w') => samePairs_any q1 q2 r1 0 u1 r2 0 u2 gs[k].2 w' x11 x21 (fun h => Nat.lt_of_lt_of_le (x12 h) hb.size) (fun h => Nat.lt_of_lt_of_le (x22 h) hb.size) (fun i hi => by have := x12 (by omega); exact x13.below this hb i hi) (fun i hi => by have := x22 (by omega); exact x23.below this hb i hi) (by omega))
      have hk1 : (k : Int) < (gs.length : Int) := by omega
      have HNX := hide hnx
      clear hnx o1 o2 d3 d6 x11 x12 x13 x21 x22 x23
      generalize gs[k].1 = X at *
      generalize gs[k].2 = Y at *
      generalize hYN : Y.length = YN at *
      have HK : Hid (∀ w', Below wr.heap.size wr w' → World.cell? w' ⟨g1, k * 2, none⟩ = some (.string X) ∧ World.cell? w' ⟨g1, k * 2 + 1, none⟩ = some (.slice q1 YN u1) ∧ World.cell? w' ⟨g2, k * 2, none⟩ = some (.string X) ∧ World.cell? w' ⟨g2, k * 2 + 1, none⟩ = some (.slice q2 YN u2)) := fun w' hb => by
        have l1 : g1 < wr.heap.size := Nat.lt_of_lt_of_le t1 HNX.out.size
        have l2 : g2 < wr.heap.size := Nat.lt_of_lt_of_le t2 HNX.out.size
        rw [hb.cell (by exact l1), hb.cell (by exact l1), hb.cell (by exact l2), hb.cell (by exact l2)]
        exact ⟨d1, d2, d4, d5⟩
      obtain ⟨GN, hGN⟩ : ∃ GN, GN = gs.length := ⟨_, rfl⟩
      have hk2 : (k : Int) < (GN : Int) := by omega
      have HGN := hide hGN
      rw [← hGN]
      clear d1 d2 d4 d5 hk1 hGN hYN
      go_wp2_with fail
      refine wp_region_held_drew (S := fun w' => w'.cell? ⟨g1, k * 2, none⟩ = some (.string X) ∧ w'.cell? ⟨g1, k * 2 + 1, none⟩ = some (.slice q1 YN u1) ∧ w'.cell? ⟨g2, k * 2, none⟩ = some (.string X) ∧ w'.cell? ⟨g2, k * 2 + 1, none⟩ = some (.slice q2 YN u2)) (by kernel_rfl) (HK.out _ (Below.refl _ _).drew) (fun hHeld => ?_)
      refine wpAnyH_take (i := 0) (v := (.slice (some ⟨g1, 0, none⟩) GN c1)) rfl (by kernel_rfl) (by kernel_rfl) (by kernel_rfl) (fun _ _ _ h => h) (Or.inl ⟨by rfl, ?_⟩) (by assumption) ?_
      · intro w' hSw
        (try dsimp only at hSw)
        go_simp <;> first | exact i64_in (by omega) (by omega) | exact u32_in (by omega) (by omega) | exact u32_add _ _ | (rw [Int.tmod_eq_emod_of_nonneg (by omega)]; omega) | (rw [Int.tdiv_eq_ediv_of_nonneg (by omega)]; omega) | omega
      (try simp only [Act.put, List.setIfInBounds_toArray, List.set_cons_zero, List.set_cons_succ])
      refine wpAnyH_take (i := 1) (v := (.int .i64 (k : Int))) rfl (by kernel_rfl) (by kernel_rfl) (by kernel_rfl) (fun _ _ _ h => h) (Or.inl ⟨by rfl, ?_⟩) (by assumption) ?_
      · intro w' hSw
        (try dsimp only at hSw)
        go_simp <;> first | exact i64_in (by omega) (by omega) | exact u32_in (by omega) (by omega) | exact u32_add _ _ | (rw [Int.tmod_eq_emod_of_nonneg (by omega)]; omega) | (rw [Int.tdiv_eq_ediv_of_nonneg (by omega)]; omega) | omega
      (try simp only [Act.put, List.setIfInBounds_toArray, List.set_cons_zero, List.set_cons_succ])
      refine wpAnyH_take (i := 2) (v := (.pointer (some ⟨g1, k * 2, none⟩))) rfl (by kernel_rfl) (by kernel_rfl) (by kernel_rfl) (fun _ _ _ h => h) (Or.inl ⟨by rfl, ?_⟩) (by assumption) ?_
      · intro w' hSw
        (try dsimp only at hSw)
        go_simp <;> first | exact i64_in (by omega) (by omega) | exact u32_in (by omega) (by omega) | exact u32_add _ _ | (rw [Int.tmod_eq_emod_of_nonneg (by omega)]; omega) | (rw [Int.tdiv_eq_ediv_of_nonneg (by omega)]; omega) | omega
      (try simp only [Act.put, List.setIfInBounds_toArray, List.set_cons_zero, List.set_cons_succ])
      refine wpAnyH_take (i := 3) (v := (.pointer (some ⟨g1, k * 2, none⟩))) rfl (by kernel_rfl) (by kernel_rfl) (by kernel_rfl) (fun _ _ _ h => h) (Or.inl ⟨by rfl, ?_⟩) (by assumption) ?_
      · intro w' hSw
        (try dsimp only at hSw)
        go_simp <;> first | exact i64_in (by omega) (by omega) | exact u32_in (by omega) (by omega) | exact u32_add _ _ | (rw [Int.tmod_eq_emod_of_nonneg (by omega)]; omega) | (rw [Int.tdiv_eq_ediv_of_nonneg (by omega)]; omega) | omega
      (try simp only [Act.put, List.setIfInBounds_toArray, List.set_cons_zero, List.set_cons_succ])
      refine wpAnyH_take (i := 4) (v := (.string X)) rfl (by kernel_rfl) (by kernel_rfl) (by kernel_rfl) (fun _ _ _ h => h) (Or.inl ⟨by rfl, ?_⟩) (by assumption) ?_
      · intro w' hSw
        (try dsimp only at hSw)
        (obtain ⟨hS1, hS2, hS3, hS4⟩ := hSw; go_simp)
      (try simp only [Act.put, List.setIfInBounds_toArray, List.set_cons_zero, List.set_cons_succ])
      refine wpAnyH_take (i := 5) (v := (.slice (some ⟨g2, 0, none⟩) GN c2)) rfl (by kernel_rfl) (by kernel_rfl) (by kernel_rfl) (fun _ _ _ h => h) (Or.inl ⟨by rfl, ?_⟩) (by assumption) ?_
      · intro w' hSw
        (try dsimp only at hSw)
        go_simp <;> first | exact i64_in (by omega) (by omega) | exact u32_in (by omega) (by omega) | exact u32_add _ _ | (rw [Int.tmod_eq_emod_of_nonneg (by omega)]; omega) | (rw [Int.tdiv_eq_ediv_of_nonneg (by omega)]; omega) | omega
      (try simp only [Act.put, List.setIfInBounds_toArray, List.set_cons_zero, List.set_cons_succ])
      refine wpAnyH_take (i := 6) (v := (.int .i64 (k : Int))) rfl (by kernel_rfl) (by kernel_rfl) (by kernel_rfl) (fun _ _ _ h => h) (Or.inl ⟨by rfl, ?_⟩) (by assumption) ?_
      · intro w' hSw
        (try dsimp only at hSw)
        go_simp <;> first | exact i64_in (by omega) (by omega) | exact u32_in (by omega) (by omega) | exact u32_add _ _ | (rw [Int.tmod_eq_emod_of_nonneg (by omega)]; omega) | (rw [Int.tdiv_eq_ediv_of_nonneg (by omega)]; omega) | omega
      (try simp only [Act.put, List.setIfInBounds_toArray, List.set_cons_zero, List.set_cons_succ])
      refine wpAnyH_take (i := 7) (v := (.pointer (some ⟨g2, k * 2, none⟩))) rfl (by kernel_rfl) (by kernel_rfl) (by kernel_rfl) (fun _ _ _ h => h) (Or.inl ⟨by rfl, ?_⟩) (by assumption) ?_
      · intro w' hSw
        (try dsimp only at hSw)
        go_simp <;> first | exact i64_in (by omega) (by omega) | exact u32_in (by omega) (by omega) | exact u32_add _ _ | (rw [Int.tmod_eq_emod_of_nonneg (by omega)]; omega) | (rw [Int.tdiv_eq_ediv_of_nonneg (by omega)]; omega) | omega
      (try simp only [Act.put, List.setIfInBounds_toArray, List.set_cons_zero, List.set_cons_succ])
      refine wpAnyH_take (i := 8) (v := (.pointer (some ⟨g2, k * 2, none⟩))) rfl (by kernel_rfl) (by kernel_rfl) (by kernel_rfl) (fun _ _ _ h => h) (Or.inl ⟨by rfl, ?_⟩) (by assumption) ?_
      · intro w' hSw
        (try dsimp only at hSw)
        go_simp <;> first | exact i64_in (by omega) (by omega) | exact u32_in (by omega) (by omega) | exact u32_add _ _ | (rw [Int.tmod_eq_emod_of_nonneg (by omega)]; omega) | (rw [Int.tdiv_eq_ediv_of_nonneg (by omega)]; omega) | omega
      (try simp only [Act.put, List.setIfInBounds_toArray, List.set_cons_zero, List.set_cons_succ])
      refine wpAnyH_take (i := 9) (v := (.string X)) rfl (by kernel_rfl) (by kernel_rfl) (by kernel_rfl) (fun _ _ _ h => h) (Or.inl ⟨by rfl, ?_⟩) (by assumption) ?_
      · intro w' hSw
        (try dsimp only at hSw)
        (obtain ⟨hS1, hS2, hS3, hS4⟩ := hSw; go_simp)
      (try simp only [Act.put, List.setIfInBounds_toArray, List.set_cons_zero, List.set_cons_succ])
      refine wpAnyH_take (i := 10) (v := (.bool false)) rfl (by kernel_rfl) (by kernel_rfl) (by kernel_rfl) (fun _ _ _ h => h) (Or.inl ⟨by rfl, ?_⟩) (by assumption) ?_
      · intro w' hSw
        (try dsimp only at hSw)
        go_simp <;> first | exact i64_in (by omega) (by omega) | exact u32_in (by omega) (by omega) | exact u32_add _ _ | (rw [Int.tmod_eq_emod_of_nonneg (by omega)]; omega) | (rw [Int.tdiv_eq_ediv_of_nonneg (by omega)]; omega) | omega
      (try simp only [Act.put, List.setIfInBounds_toArray, List.set_cons_zero, List.set_cons_succ])
      refine wpAnyH_take (i := 11) (v := (.bool false)) rfl (by kernel_rfl) (by kernel_rfl) (by kernel_rfl) (fun _ _ _ h => h) (Or.inl ⟨by rfl, ?_⟩) (by assumption) ?_
      · intro w' hSw
        (try dsimp only at hSw)
        go_simp <;> first | exact i64_in (by omega) (by omega) | exact u32_in (by omega) (by omega) | exact u32_add _ _ | (rw [Int.tmod_eq_emod_of_nonneg (by omega)]; omega) | (rw [Int.tdiv_eq_ediv_of_nonneg (by omega)]; omega) | omega
      (try simp only [Act.put, List.setIfInBounds_toArray, List.set_cons_zero, List.set_cons_succ])
      refine wpAnyH_take (i := 12) (v := (.slice (some ⟨g1, 0, none⟩) GN c1)) rfl (by kernel_rfl) (by kernel_rfl) (by kernel_rfl) (fun _ _ _ h => h) (Or.inl ⟨by kernel_rfl, ?_⟩) (by assumption) ?_
      · intro w' hSw
        (try dsimp only at hSw)
        go_simp
      (try simp only [Act.put, List.setIfInBounds_toArray, List.set_cons_zero, List.set_cons_succ])
      refine wpAnyH_take (i := 13) (v := (.int .i64 (k : Int))) rfl (by kernel_rfl) (by kernel_rfl) (by kernel_rfl) (fun _ _ _ h => h) (Or.inl ⟨by kernel_rfl, ?_⟩) (by assumption) ?_
      · intro w' hSw
        (try dsimp only at hSw)
        go_simp
      (try simp only [Act.put, List.setIfInBounds_toArray, List.set_cons_zero, List.set_cons_succ])
      refine wpAnyH_take (i := 14) (v := (.pointer (some ⟨g1, k * 2, none⟩))) rfl (by kernel_rfl) (by kernel_rfl) (by kernel_rfl) (fun _ _ _ h => h) (Or.inl ⟨by kernel_rfl, ?_⟩) (by assumption) ?_
      · intro w' hSw
        (try dsimp only at hSw)
        go_simp
      (try simp only [Act.put, List.setIfInBounds_toArray, List.set_cons_zero, List.set_cons_succ])
      refine wpAnyH_take (i := 15) (v := (.pointer (some ⟨g1, k * 2 + 1, none⟩))) rfl (by kernel_rfl) (by kernel_rfl) (by kernel_rfl) (fun _ _ _ h => h) (Or.inl ⟨by kernel_rfl, ?_⟩) (by assumption) ?_
      · intro w' hSw
        (try dsimp only at hSw)
        go_simp
      (try simp only [Act.put, List.setIfInBounds_toArray, List.set_cons_zero, List.set_cons_succ])
      refine wpAnyH_take (i := 16) (v := (.slice q1 YN u1)) rfl (by kernel_rfl) (by kernel_rfl) (by kernel_rfl) (fun _ _ _ h => h) (Or.inl ⟨by kernel_rfl, ?_⟩) (by assumption) ?_
      · intro w' hSw
        (try dsimp only at hSw)
        (obtain ⟨hS1, hS2, hS3, hS4⟩ := hSw; go_simp)
      (try simp only [Act.put, List.setIfInBounds_toArray, List.set_cons_zero, List.set_cons_succ])
      refine wpAnyH_take (i := 17) (v := (.slice (some ⟨g2, 0, none⟩) GN c2)) rfl (by kernel_rfl) (by kernel_rfl) (by kernel_rfl) (fun _ _ _ h => h) (Or.inl ⟨by kernel_rfl, ?_⟩) (by assumption) ?_
      · intro w' hSw
        (try dsimp only at hSw)
        go_simp
      (try simp only [Act.put, List.setIfInBounds_toArray, List.set_cons_zero, List.set_cons_succ])
      refine wpAnyH_take (i := 18) (v := (.int .i64 (k : Int))) rfl (by kernel_rfl) (by kernel_rfl) (by kernel_rfl) (fun _ _ _ h => h) (Or.inl ⟨by kernel_rfl, ?_⟩) (by assumption) ?_
      · intro w' hSw
        (try dsimp only at hSw)
        go_simp
      (try simp only [Act.put, List.setIfInBounds_toArray, List.set_cons_zero, List.set_cons_succ])
      refine wpAnyH_take (i := 19) (v := (.pointer (some ⟨g2, k * 2, none⟩))) rfl (by kernel_rfl) (by kernel_rfl) (by kernel_rfl) (fun _ _ _ h => h) (Or.inl ⟨by kernel_rfl, ?_⟩) (by assumption) ?_
      · intro w' hSw
        (try dsimp only at hSw)
        go_simp
      (try simp only [Act.put, List.setIfInBounds_toArray, List.set_cons_zero, List.set_cons_succ])
      refine wpAnyH_take (i := 20) (v := (.pointer (some ⟨g2, k * 2 + 1, none⟩))) rfl (by kernel_rfl) (by kernel_rfl) (by kernel_rfl) (fun _ _ _ h => h) (Or.inl ⟨by kernel_rfl, ?_⟩) (by assumption) ?_
      · intro w' hSw
        (try dsimp only at hSw)
        go_simp
      (try simp only [Act.put, List.setIfInBounds_toArray, List.set_cons_zero, List.set_cons_succ])
      refine wpAnyH_take (i := 21) (v := (.slice q2 YN u2)) rfl (by kernel_rfl) (by kernel_rfl) (by kernel_rfl) (fun _ _ _ h => h) (Or.inl ⟨by kernel_rfl, ?_⟩) (by assumption) ?_
      · intro w' hSw
        (try dsimp only at hSw)
        (obtain ⟨hS1, hS2, hS3, hS4⟩ := hSw; go_simp)
      (try simp only [Act.put, List.setIfInBounds_toArray, List.set_cons_zero, List.set_cons_succ])
      refine wpAnyH_ready (rs := [22]) (by kernel_rfl) (by simp) ?_
      refine AllReadyH.cons rfl (fun K hK => ?_) AllReadyH.nil
      go_simp
      refine Calls.mono (SP.out _ (Below.refl _ _).drew) ?_
      rintro e w2 ⟨rfl, hb2⟩
      have B2 := (Below.refl wr.heap.size wr).drew.trans hb2
      refine hK.out _ _ (HK.out _ B2) (fun hHeld => ?_)
      clear hK
      (try simp only [Act.put, List.setIfInBounds_toArray, List.set_cons_zero, List.set_cons_succ])
      refine wpAnyH_ready (rs := [23]) (by kernel_rfl) (by simp) ?_
      refine AllReadyH.cons rfl (fun K hK => ?_) AllReadyH.nil
      go_simp
      refine hK.out _ _ (HK.out _ B2) (fun hHeld => ?_)
      clear hK
      (try simp only [Act.put, List.setIfInBounds_toArray, List.set_cons_zero, List.set_cons_succ])
      refine wpAnyH_ready (rs := [24]) (by kernel_rfl) (by simp) ?_
      refine AllReadyH.cons rfl (fun K hK => ?_) AllReadyH.nil
      go_simp
      refine hK.out _ _ (HK.out _ B2) (fun hHeld => ?_)
      clear hK
      (try simp only [Act.put, List.setIfInBounds_toArray, List.set_cons_zero, List.set_cons_succ])
      refine wpAnyH_done (by kernel_rfl) ?_ _
      go_wp2
      go_roundw
      case rel => exact ⟨k + 1, by omega, by go_num, HNX.out.trans (B2.mono HNX.out.size)⟩
      case measure => simp [intOf]; omega
    · have HNX := hide hnx
      clear hnx
      go_wp2
      go_ret
      exact ⟨rfl, HNX.out⟩
end Go.Proofs.Ytfmmfophdfjopaa
namespace Go.Proofs.Ytfmmfophdfjopaa
open Go.RowKit
theorem run_appAny (w : World) (base n : Nat) (v : Value) (xs : List Value) (ty : TypeId) (s : ByteArray) (hown : w.ownsRow base 5 1 v n xs) (hbytes : n + s.size ≤ 140737488355328) (hbase : base ≤ w.heap.size) :
    ∃ v' w', (Builtin.append_ #[42, 9] ty #[v, .string s]).run Try.prog w = .ok v' w' ∧ w'.ownsRow base 5 1 v' (n + s.size) (xs ++ s.data.toList.map ub) ∧ Grew w w' v v' := by
  rcases hown.2 with ⟨rfl, rfl⟩ | ⟨g, cap, cur, rfl, _⟩
  · obtain ⟨i0, hi, hz0, hz1, hz2⟩ := info_parts info5
    obtain ⟨v', w', hr, ho, hg, hn⟩ := Lib.run_append_own_string (P := Try.prog) w base 42 9 ty 5 i0 Try.underlying42 Try.underlying9 hi hz0 hz1 hz2 _ 0 xs hown s (by unfold maxLen; omega) hbytes hbase
    refine ⟨v', w', hr, ho, hg, ?_⟩
    by_cases hs : s.size = 0
    · rw [hn.2 ⟨rfl, hs⟩]; exact .inl rfl
    · have h2 := run_append_nil_string (P := Try.prog) w 42 9 ty 5 i0 (.int .u8 0) Try.underlying42 Try.underlying9 hi hz0 s (by omega) (by omega) (by rw [hz2]; omega)
      rw [hr] at h2
      injection h2 with h2 h3
      exact .inr ⟨w.heap.size, by rw [h2]; rfl, Nat.le_refl _⟩
  · exact run_appStr w base g n cap xs ty s hown hbytes hbase
theorem wpList_appAny {w : World} {ops : Array Oper} {rest : List Oper} {o : Oper} {a : Act} {Q : Exit → Act → World → Prop} (hgd : o.guard = none) (sl x : Operand)
    (ho : o.op = .call { callee := .builtin .append, args := #[sl, x], argTypes := #[42, 9] })
    (base n : Nat) (v : Value) (xs : List Value) (s : ByteArray) (hs : a.eval sl = v) (hx : a.eval x = .string s) (hown : w.ownsRow base 5 1 v n xs) (hbytes : n + s.size ≤ 140737488355328) (hbase : base ≤ w.heap.size)
    (h : ∀ v' w', w'.ownsRow base 5 1 v' (n + s.size) (xs ++ s.data.toList.map ub) → Grew w w' v v' → wpList Try.prog ops Q rest (a.put o.dst v') w') : wpList Try.prog ops Q (o :: rest) a w := by
  refine wpList_plain hgd fun K hK => ?_
  obtain ⟨v', w', hr, h2, h3⟩ := run_appAny w base n v xs o.type s hown hbytes hbase
  unfold Oper.wp execOp
  simp only [ho, resolve, invoke, builtin, Sem.run_bind, Sem.run_pure, Result.andThen_ok, List.map_toArray, List.map_cons, List.map_nil, hs, hx, hr]
  exact hK _ _ (h v' w' h2 h3)
/-- two rows apart -/
def Apart (a b : Value) : Prop := a.ownBlock = none ∨ a.ownBlock ≠ b.ownBlock
theorem Apart.symm {a b : Value} (h : Apart a b) : Apart b a := by
  unfold Apart at *
  rcases h with h | h
  · cases hb : b.ownBlock with
    | none => exact .inl rfl
    | some x => right; rw [h]; simp
  · exact .inr (Ne.symm h)
theorem Apart.grew {w w' : World} {a b b' : Value} {base e s n : Nat} {x : List Value} (h : Apart a b) (ho : w.ownsRow base e s a n x) (hg : Grew w w' b b') : Apart a b' ∧ w'.ownsRow base e s a n x := by
  refine ⟨?_, ho.kept hg.by' h⟩
  unfold Apart at *
  rcases h with h | h
  · exact .inl h
  · right
    rcases hg.at' with e | ⟨k, e, hk⟩
    · rw [e]; exact h
    · rw [e]
      intro he
      have := (ho.lt k he).2
      omega
theorem own_shape {w : World} {base e s n : Nat} {v : Value} {x : List Value} (h : w.ownsRow base e s v n x) : ∃ a c, v = .slice a n c := by
  rcases h.2 with ⟨rfl, rfl⟩ | ⟨g, cap, cur, rfl, _⟩
  · exact ⟨_, _, rfl⟩
  · exact ⟨_, _, rfl⟩
theorem encD_take (gs : List GR) (j : Nat) (h : j < gs.length) : encD (gs.take (j + 1)) = encD (gs.take j) ++ recL gs[j].2 := by
  rw [List.take_succ_eq_append_getElem h, encD_snoc]
theorem encN_step (gs : List GR) (j : Nat) (h : j < gs.length) : encN gs (j + 1) = encN gs j ++ gs[j].1.data.toList ++ dig 4 (encD (gs.take j)).length := by
  rw [encN, List.getD_eq_getElem?_getD, List.getElem?_eq_getElem h, Option.getD_some]
theorem encD_le (gs : List GR) (j : Nat) : (encD (gs.take j)).length ≤ (encD gs).length := by
  have : encD gs = encD (gs.take j) ++ encD (gs.drop j) := by unfold encD; rw [← List.flatMap_append, List.take_append_drop]
  rw [this, List.length_append]; omega
end Go.Proofs.Ytfmmfophdfjopaa
namespace Go.Proofs.Ytfmmfophdfjopaa
open Go.RowKit
theorem allUp_at {k : Nat} {x : ByteArray} (h : allUp k x = true) {i : Nat} (hi : i + 1 < x.size / (k + 4)) : (Op.bytesLess (rdeH k x (i + 1)).toList (rdeH k x i).toList || (rdeH k x (i + 1)).toList == (rdeH k x i).toList) = false := by
  unfold allUp at h
  rw [List.all_eq_true] at h
  have := h (i + 1) (List.mem_range.2 hi)
  unfold upB at this
  rw [decide_eq_false (by omega : ¬ i + 1 = 0), Bool.false_or, show i + 1 - 1 = i by omega] at this
  rw [eq_beq]
  unfold lessS at this
  rw [Bool.or_comm]
  simpa using this
end Go.Proofs.Ytfmmfophdfjopaa
namespace Go.Proofs.Ytfmmfophdfjopaa
open Go.RowKit
/-- a slice's three parts -/
abbrev SQ := Option Addr × Nat × Nat
/-- a group in memory: its hash, and the slice of its pairs -/
abbrev GQ := ByteArray × SQ
def LiesG (b off : Nat) (w : World) (ps : List GQ) : Prop := ∀ i (h : i < ps.length), w.cell? ⟨b, off + i * 2, none⟩ = some (.string ps[i].1) ∧ w.cell? ⟨b, off + i * 2 + 1, none⟩ = some (.slice ps[i].2.1 ps[i].2.2.1 ps[i].2.2.2)
theorem LiesG.below {b off : Nat} {w w' : World} {ps : List GQ} (h : LiesG b off w ps) (hb : b < w.heap.size) (hw : Below w.heap.size w w') : LiesG b off w' ps := fun i hi => by
  rw [hw.cell (by exact hb), hw.cell (by exact hb)]; exact h i hi
set_option maxHeartbeats 1000000 in
set_option maxRecDepth 100000 in
theorem groupHash_any (k : ByteArray) (v : SQ) (w : World) : Calls Try.prog 31 #[.agg #[.string k, .slice v.1 v.2.1 v.2.2]] w fun e w' => e = .returned (.string k) ∧ Below w.heap.size w w' := by
  go_enter Try.func31, Try.ntmps31
  go_wp2
  go_ret
  refine ⟨rfl, ?_⟩
  first | exact Below.refl _ _ | exact (Below.refl _ w).alloc (Nat.le_refl _) _
theorem gq_at {ps : List GQ} {i : Nat} (h : i < ps.length) : ps.getD i default = ps[i] := by simp [List.getD, h]
end Go.Proofs.Ytfmmfophdfjopaa
namespace Go.Proofs.Ytfmmfophdfjopaa
open Go.RowKit
/-- the group of a hash, or none -/
def grpFor (ps : List GQ) (x : ByteArray) : Option GQ := ps.find? (fun p => decide (p.1 = x))
theorem grpFor_some {ps : List GQ} {x : ByteArray} {i : Nat} (hr : Rises ps.length (fun t => (ps.getD t default).1)) (hi : i < ps.length) (e : (ps.getD i default).1 = x) : grpFor ps x = some ps[i] := by
  unfold grpFor
  rw [List.find?_eq_some_iff_getElem]
  rw [gq_at hi] at e
  refine ⟨by simpa using e, i, hi, rfl, fun j hj => ?_⟩
  simp only [Bool.not_eq_true', decide_eq_false_iff_not]
  intro e2
  have := hr.inj (i := j) (j := i) (by omega) hi (by show (ps.getD j default).1 = (ps.getD i default).1; rw [gq_at (by omega), gq_at hi, e2, e])
  omega
theorem grpFor_none {ps : List GQ} {x : ByteArray} (h : ∀ t, t < ps.length → (ps.getD t default).1 ≠ x) : grpFor ps x = none := by
  unfold grpFor
  rw [List.find?_eq_none]
  intro p hp
  obtain ⟨i, hi, rfl⟩ := List.getElem_of_mem hp
  have := h i hi
  rw [gq_at hi] at this
  simpa using this
def grpForV (ps : List GQ) (x : ByteArray) : Value := match grpFor ps x with | some p => .agg #[.string p.1, .slice p.2.1 p.2.2.1 p.2.2.2] | none => .agg #[.string ⟨#[]⟩, .slice none 0 0]
def grpForB (ps : List GQ) (x : ByteArray) : Bool := (grpFor ps x).isSome
end Go.Proofs.Ytfmmfophdfjopaa
namespace Go.Proofs.Ytfmmfophdfjopaa
open Go.RowKit
theorem dcG_small (m : Int) (x d : ByteArray) : (dcG m x d).length ≤ x.size ∧ ∀ g ∈ dcG m x d, g.2.length ≤ 512 := by
  unfold dcG
  by_cases h : riE m x = 0
  · rw [if_pos h]
    cases hk : dcOk m x d with
    | none => exact ⟨Nat.zero_le _, fun g hg => by cases hg⟩
    | some l =>
      unfold dcOk at hk
      split at hk
      · rename_i l' q h'
        split at hk
        · simp only [Option.some.injEq] at hk
          subst hk
          obtain ⟨_, f2, _, f4⟩ := ch_facts _ _ _ (Nat.le_refl _) (dec_ch _ _ h')
          refine ⟨by rw [Option.getD_some, f2]; exact Nat.div_le_self _ _, fun g hg => ?_⟩
          rw [Option.getD_some] at hg
          obtain ⟨i, hi, rfl⟩ := List.getElem_of_mem hg
          exact (fine (f4 i hi).2).1
        · cases hk
      · cases hk
  · rw [if_neg h]
    exact ⟨Nat.zero_le _, fun g hg => by cases hg⟩
end Go.Proofs.Ytfmmfophdfjopaa
namespace Go.Proofs.Ytfmmfophdfjopaa
open Go.RowKit
/-- the hashes of a chunk's groups rise, and each group's pairs fit -/
theorem dcG_rise {m : Int} {x d : ByteArray} (h : dcE m x d = 0) : Rises (dcG m x d).length (fun i => ((dcG m x d).getD i default).1) ∧ ∀ g ∈ dcG m x d, errL g.2 = 0 := by
  by_cases hr : riE m x = 0
  · cases hk : dcOk m x d with
    | none => rw [(dc_no hr hk).1] at h; omega
    | some l =>
      rw [(dc_yes hr hk).2]
      obtain ⟨hm, hq, hau, _⟩ := ri_inv hr
      unfold dcOk at hk
      split at hk
      · rename_i l' q h'
        split at hk
        · simp only [Option.some.injEq] at hk
          subst hk
          obtain ⟨_, f2, _, f4⟩ := ch_facts _ _ _ (Nat.le_refl _) (dec_ch _ _ h')
          constructor
          · intro i hi
            have hi0 : i < l'.length := by omega
            have hu := allUp_at hau (i := i) (by omega)
            rw [Bool.or_eq_false_iff] at hu
            have e1 : (l'.getD i default).1 = rdeH m.toNat x i := by rw [List.getD_eq_getElem?_getD, List.getElem?_eq_getElem hi0]; exact (f4 i hi0).1
            have e2 : (l'.getD (i + 1) default).1 = rdeH m.toNat x (i + 1) := by rw [List.getD_eq_getElem?_getD, List.getElem?_eq_getElem hi]; exact (f4 (i + 1) hi).1
            show lessS (l'.getD i default).1 (l'.getD (i + 1) default).1 = true
            rw [e1, e2]
            rcases lessS_total (rdeH m.toNat x i) (rdeH m.toNat x (i + 1)) with e | e | e
            · rw [e, eq_beq] at hu; simp at hu
            · exact e
            · have := hu.1
              unfold lessS at e
              rw [e] at this; cases this
          · intro g hg
            obtain ⟨i, hi, rfl⟩ := List.getElem_of_mem hg
            exact (f4 i hi).2
        · cases hk
      · cases hk
  · rw [(dc_index hr).1] at h; exact absurd h hr
def slOf : Value → SQ
  | .slice a n c => (a, n, c)
  | _ => (none, 0, 0)
/-- groups in memory, as a list of hashes and slices -/
theorem GroupsAt.quads {w : World} {base : Nat} {v : Value} {gs : List GR} (h : GroupsAt w base v gs) : ∃ (qs : List GQ) (ao : Option Addr) (g cap : Nat), qs.length = gs.length ∧ v = .slice ao qs.length cap ∧ (0 < qs.length → ao = some ⟨g, 0, none⟩) ∧ (0 < qs.length → g < w.heap.size) ∧ LiesG g 0 w qs ∧
    ∀ i (hi : i < gs.length) (hq : i < qs.length), qs[i].1 = gs[i].1 ∧ w.ownsRow base 55 2 (.slice qs[i].2.1 qs[i].2.2.1 qs[i].2.2.2) gs[i].2.length (pc gs[i].2) := by
  obtain ⟨ts, rfl, h2, h3⟩ := h
  have hsl : ∀ t ∈ ts, t.2 = .slice (slOf t.2).1 (slOf t.2).2.1 (slOf t.2).2.2 := fun t ht => by
    obtain ⟨a, g, c, e, _⟩ := own_pairs (h3 t ht)
    rw [e]; rfl
  refine ⟨ts.map (fun t => (t.1.1, slOf t.2)), ?_⟩
  simp only [List.length_map]
  have hown : ∀ i (hi : i < (ts.map Prod.fst).length) (hq : i < (ts.map (fun t => (t.1.1, slOf t.2))).length), (ts.map (fun t => (t.1.1, slOf t.2)))[i].1 = (ts.map Prod.fst)[i].1 ∧ w.ownsRow base 55 2 (.slice (ts.map (fun t => (t.1.1, slOf t.2)))[i].2.1 (ts.map (fun t => (t.1.1, slOf t.2)))[i].2.2.1 (ts.map (fun t => (t.1.1, slOf t.2)))[i].2.2.2) (ts.map Prod.fst)[i].2.length (pc (ts.map Prod.fst)[i].2) := by
    intro i hi hq
    have hi' : i < ts.length := by simpa using hi
    rw [List.getElem_map, List.getElem_map]
    exact ⟨rfl, by rw [← hsl _ (List.getElem_mem hi')]; exact h3 _ (List.getElem_mem hi')⟩
  rcases h2.2 with ⟨rfl, h0⟩ | ⟨g, cap, cur, rfl, hg, hblk, _⟩
  · obtain rfl := List.length_eq_zero_iff.1 h0
    exact ⟨none, 0, 0, trivial, rfl, fun k => by simp at k, fun k => by simp at k, fun i hi => by simp at hi, fun i hi => by simp at hi⟩
  · refine ⟨some ⟨g, 0, none⟩, g, cap, trivial, rfl, fun _ => rfl, fun _ => row_lt h2, fun i hi => ?_, fun i hi hq => hown i (by simpa using hi) (by simpa using hq)⟩
    have hi' : i < ts.length := by simpa using hi
    rw [Nat.zero_add, List.getElem_map]
    refine ⟨?_, ?_⟩
    · rw [h2.cellAt (i * 2) (by omega), (gcell_at ts i hi').1]
    · rw [h2.cellAt (i * 2 + 1) (by omega), (gcell_at ts i hi').2, ← hsl _ (List.getElem_mem hi')]
/-- the value of a key under a hash -/
def lkV (gs : List GR) (h k : ByteArray) : Option ByteArray := match gs.find? (fun g => decide (g.1 = h)) with
  | some g => (pairFor g.2 k).map Prod.snd
  | none => none
theorem lk_some {gs : List GR} {h k : ByteArray} {i : Nat} (hr : Rises gs.length (fun t => (gs.getD t default).1)) (hi : i < gs.length) (e : gs[i].1 = h) : lkV gs h k = (pairFor gs[i].2 k).map Prod.snd := by
  have hf : gs.find? (fun g => decide (g.1 = h)) = some gs[i] := by
    rw [List.find?_eq_some_iff_getElem]
    refine ⟨by simpa using e, i, hi, rfl, fun j hj => ?_⟩
    simp only [Bool.not_eq_true', decide_eq_false_iff_not]
    intro e2
    have hj' : j < gs.length := by omega
    have := hr.inj (i := j) (j := i) hj' hi (by
      show (gs.getD j default).1 = (gs.getD i default).1
      rw [List.getD_eq_getElem?_getD, List.getElem?_eq_getElem hj', List.getD_eq_getElem?_getD, List.getElem?_eq_getElem hi, Option.getD_some, Option.getD_some, e2, e])
    omega
  unfold lkV; rw [hf]
theorem lk_none {gs : List GR} {h k : ByteArray} (hn : ∀ i (hi : i < gs.length), gs[i].1 ≠ h) : lkV gs h k = none := by
  have hf : gs.find? (fun g => decide (g.1 = h)) = none := by
    rw [List.find?_eq_none]
    intro p hp
    obtain ⟨i, hi, rfl⟩ := List.getElem_of_mem hp
    simpa using hn i hi
  unfold lkV; rw [hf]
/-- the group that find finds, or none -/
theorem found_group {w : World} {base : Nat} {gs : List GR} {qs : List GQ} {h k : ByteArray} (hr : Rises gs.length (fun t => (gs.getD t default).1)) (he : ∀ g ∈ gs, errL g.2 = 0) (hl : qs.length = gs.length)
    (hq : ∀ i (hi : i < gs.length) (hq : i < qs.length), qs[i].1 = gs[i].1 ∧ w.ownsRow base 55 2 (.slice qs[i].2.1 qs[i].2.2.1 qs[i].2.2.2) gs[i].2.length (pc gs[i].2)) :
    Rises qs.length (fun t => (qs.getD t default).1) ∧ ∃ (X : ByteArray) (ps : List KV) (ao : Option Addr) (b cap : Nat), grpForV qs h = .agg #[.string X, .slice ao ps.length cap] ∧ (0 < ps.length → ao = some ⟨b, 0, none⟩) ∧ (0 < ps.length → b < w.heap.size) ∧ LiesP b 0 w ps ∧ ps.length ≤ 512 ∧ Rises ps.length (fun i => (ps.getD i default).1) ∧ lkV gs h k = (pairFor ps k).map Prod.snd := by
  have hks : ∀ i, i < gs.length → (qs.getD i default).1 = (gs.getD i default).1 := fun i hi => by
    rw [gq_at (by omega), List.getD_eq_getElem?_getD, List.getElem?_eq_getElem hi, Option.getD_some]
    exact (hq i hi (by omega)).1
  have hrq : Rises qs.length (fun t => (qs.getD t default).1) := fun i hi => by
    have := hr i (by omega)
    simp only at this ⊢
    rw [hks i (by omega), hks (i + 1) (by omega)]; exact this
  refine ⟨hrq, ?_⟩
  by_cases hx : ∃ i, ∃ (hi : i < gs.length), gs[i].1 = h
  · obtain ⟨i, hi, e⟩ := hx
    have hiq : i < qs.length := by omega
    obtain ⟨q1, q2⟩ := hq i hi hiq
    obtain ⟨ao, g, cap, e2, a1, a2, a3⟩ := own_pairs q2
    have hf := fine (he _ (List.getElem_mem hi))
    refine ⟨qs[i].1, gs[i].2, ao, g, cap, ?_, a1, a2, a3, hf.1, keys_rise (he _ (List.getElem_mem hi)), lk_some hr hi e⟩
    unfold grpForV
    rw [grpFor_some hrq hiq (by rw [gq_at hiq, q1, e])]
    simp only
    rw [e2]
  · refine ⟨⟨#[]⟩, [], none, 0, 0, ?_, fun k => by simp at k, fun k => by simp at k, fun i hi => by simp at hi, by simp, fun i hi => by simp at hi, ?_⟩
    · unfold grpForV
      rw [grpFor_none (fun t ht e => hx ⟨t, by omega, by rw [gq_at ht, (hq t (by omega) ht).1] at e; exact e⟩)]
      rfl
    · rw [lk_none (fun i hi e => hx ⟨i, hi, e⟩)]; rfl
/-- what both Lookups answer -/
def lkE (m : Int) (x d h k : ByteArray) : Int := if dcE m x d = 0 then if (h.size : Int) = m then if 1 ≤ k.size ∧ k.size ≤ 255 then 0 else 32 else 34 else dcE m x d
def lkO (m : Int) (x d h k : ByteArray) : Option ByteArray := if lkE m x d h k = 0 then lkV (dcG m x d) h k else none
def lkA (m : Int) (x d h k : ByteArray) : Value := .tuple #[.string ((lkO m x d h k).getD ⟨#[]⟩), .bool (lkO m x d h k).isSome, .int .i64 (lkE m x d h k)]
theorem lk_err {m : Int} {x d h k : ByteArray} {E : Int} (e : lkE m x d h k = E) (hE : E ≠ 0) : lkA m x d h k = .tuple #[.string ⟨#[]⟩, .bool false, .int .i64 E] := by
  unfold lkA lkO; rw [e, if_neg hE]; rfl
theorem lk_ok {m : Int} {x d h k : ByteArray} (e : lkE m x d h k = 0) : lkA m x d h k = .tuple #[.string ((lkV (dcG m x d) h k).getD ⟨#[]⟩), .bool (lkV (dcG m x d) h k).isSome, .int .i64 0] := by
  unfold lkA lkO; rw [e, if_pos rfl]
end Go.Proofs.Ytfmmfophdfjopaa
