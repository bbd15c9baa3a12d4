import Derived.Test.YtfmmfophdfjopaaGRySame
namespace Go.Proofs.Ytfmmfophdfjopaa
open Go.RowKit
/-- pairs that can be read behind a slice -/
def PLies (w : World) (s : SQ) (ps : List KV) : Prop := ∃ b off, s.2.1 = ps.length ∧ (0 < ps.length → s.1 = some ⟨b, off, none⟩) ∧ (0 < ps.length → b < w.heap.size) ∧ LiesP b off w ps
/-- groups that can be read behind a slice -/
def GLies (w : World) (v : Value) (gs : List GR) : Prop := ∃ (qs : List GQ) (ao : Option Addr) (g off cap : Nat), qs.length = gs.length ∧ v = .slice ao qs.length cap ∧ (0 < qs.length → ao = some ⟨g, off, none⟩) ∧ (0 < qs.length → g < w.heap.size) ∧ LiesG g off w qs ∧
    ∀ i (hi : i < gs.length) (hq : i < qs.length), qs[i].1 = gs[i].1 ∧ PLies w qs[i].2 gs[i].2
theorem PLies.below {w w' : World} {s : SQ} {ps : List KV} (h : PLies w s ps) (hb : Below w.heap.size w w') : PLies w' s ps := by
  obtain ⟨b, off, h1, h2, h3, h4⟩ := h
  refine ⟨b, off, h1, h2, fun z => Nat.lt_of_lt_of_le (h3 z) hb.size, fun i hi => ?_⟩
  exact h4.below (h3 (by omega)) hb i hi
theorem GLies.below {w w' : World} {v : Value} {gs : List GR} (h : GLies w v gs) (hb : Below w.heap.size w w') : GLies w' v gs := by
  obtain ⟨qs, ao, g, off, cap, h1, h2, h3, h4, h5, h6⟩ := h
  refine ⟨qs, ao, g, off, cap, h1, h2, h3, fun z => Nat.lt_of_lt_of_le (h4 z) hb.size, fun i hi => h5.below (h4 (by omega)) hb i hi, fun i hi hq => ⟨(h6 i hi hq).1, (h6 i hi hq).2.below hb⟩⟩
theorem own_plies {w : World} {base : Nat} {s : SQ} {ps : List KV} (h : w.ownsRow base 55 2 (.slice s.1 s.2.1 s.2.2) ps.length (pc ps)) : PLies w s ps := by
  obtain ⟨ao, g, cap, e, h1, h2, h3⟩ := own_pairs h
  simp only [Value.slice.injEq] at e
  exact ⟨g, 0, e.2.1, fun z => e.1.trans (h1 z), h2, h3⟩
theorem GroupsAt.lies {w : World} {base : Nat} {v : Value} {gs : List GR} (h : GroupsAt w base v gs) : GLies w v gs := by
  obtain ⟨qs, ao, g, cap, h1, h2, h3, h4, h5, h6⟩ := h.quads
  exact ⟨qs, ao, g, 0, cap, h1, h2, h3, h4, h5, fun i hi hq => ⟨(h6 i hi hq).1, own_plies (h6 i hi hq).2⟩⟩
set_option maxHeartbeats 1000000 in
set_option maxRecDepth 100000 in
set_option linter.unusedSimpArgs false in
/-- rise of groups -/
theorem riseG_any (ao : Option Addr) (b off cap : Nat) (ps : List GQ) (i : Nat) (w : World) (hi : i < ps.length) (hlen : ps.length ≤ 1099511627776000) (hao : ao = some ⟨b, off, none⟩) (hb : b < w.heap.size) (hl : LiesG b off w ps) :
    Calls Try.prog 30 #[.slice ao ps.length cap, .int .i64 (i : Int), .func (.func 31) #[] #[]] w fun e w' => e = .returned (.int .i64 (if i = 0 then 1 else if ps[i].1 = (ps.getD (i - 1) default).1 then 0 else if lessS ps[i].1 (ps.getD (i - 1) default).1 then -1 else 1)) ∧ Below w.heap.size w w' := by
  subst hao
  by_cases h0 : i = 0
  · subst h0
    go_enter Try.func30, Try.ntmps30
    go_wp2
    go_ret
    exact ⟨rfl, Below.refl _ _⟩
  · obtain ⟨j, rfl⟩ : ∃ j, i = j + 1 := ⟨i - 1, by omega⟩
    have hj : j < ps.length := by omega
    obtain ⟨g0, g1⟩ := hl (j + 1) hi
    obtain ⟨g2, g3⟩ := hl j hj
    rw [if_neg h0, show j + 1 - 1 = j by omega, List.getD_eq_getElem?_getD, List.getElem?_eq_getElem hj, Option.getD_some]
    have HS : Hid (∀ w', Below w.heap.size w w' → w'.cell? ⟨b, off + (j + 1) * 2, none⟩ = some (.string ps[j + 1].1) ∧ w'.cell? ⟨b, off + (j + 1) * 2 + 1, none⟩ = some (.slice ps[j + 1].2.1 ps[j + 1].2.2.1 ps[j + 1].2.2.2) ∧ w'.cell? ⟨b, off + j * 2, none⟩ = some (.string ps[j].1) ∧ w'.cell? ⟨b, off + j * 2 + 1, none⟩ = some (.slice ps[j].2.1 ps[j].2.2.1 ps[j].2.2.2)) := fun w' hw => by
      rw [hw.cell (by exact hb), hw.cell (by exact hb), hw.cell (by exact hb), hw.cell (by exact hb)]
      exact ⟨g0, g1, g2, g3⟩
    clear g0 g1 g2 g3 hl
    generalize ps[j + 1].1 = K1 at *
    generalize ps[j + 1].2 = V1 at *
    generalize ps[j].1 = K0 at *
    generalize ps[j].2 = V0 at *
    have hil : ((j + 1 : Nat) : Int) < (ps.length : Int) := by omega
    generalize ps.length = N at *
    clear h0
    have CM := hide (fun w' => compare_any K1 K0 w')
    generalize (if K1 = K0 then (0 : Int) else if lessS K1 K0 = true then -1 else 1) = Z at *
    have hz : (((j + 1 : Nat) : Int) == 0) = false := by simp; omega
    go_enter Try.func30, Try.ntmps30
    go_wp2
    refine wp_region_held_drew (S := fun w' => w'.cell? ⟨b, off + (j + 1) * 2, none⟩ = some (.string K1) ∧ w'.cell? ⟨b, off + (j + 1) * 2 + 1, none⟩ = some (.slice V1.1 V1.2.1 V1.2.2) ∧ w'.cell? ⟨b, off + j * 2, none⟩ = some (.string K0) ∧ w'.cell? ⟨b, off + j * 2 + 1, none⟩ = some (.slice V0.1 V0.2.1 V0.2.2)) (by kernel_rfl) (HS.out _ (Below.refl _ _).drew) (fun hHeld => ?_)
    refine wpAnyH_take (i := 0) (v := (.func (.func 31) #[] #[])) rfl (by kernel_rfl) (by kernel_rfl) (by kernel_rfl) (fun _ _ _ h => h) (Or.inl ⟨by rfl, ?_⟩) (by assumption) ?_
    · intro w' hSw
      (try dsimp only at hSw)
      go_simp <;> first | exact i64_in (by omega) (by omega) | exact u32_in (by omega) (by omega) | exact u32_add _ _ | (rw [Int.tmod_eq_emod_of_nonneg (by omega)]; omega) | (rw [Int.tdiv_eq_ediv_of_nonneg (by omega)]; omega) | omega
    (try simp only [Act.put, List.setIfInBounds_toArray, List.set_cons_zero, List.set_cons_succ])
    refine wpAnyH_take (i := 1) (v := (.slice (some ⟨b, off, none⟩) N cap)) rfl (by kernel_rfl) (by kernel_rfl) (by kernel_rfl) (fun _ _ _ h => h) (Or.inl ⟨by rfl, ?_⟩) (by assumption) ?_
    · intro w' hSw
      (try dsimp only at hSw)
      go_simp <;> first | exact i64_in (by omega) (by omega) | exact u32_in (by omega) (by omega) | exact u32_add _ _ | (rw [Int.tmod_eq_emod_of_nonneg (by omega)]; omega) | (rw [Int.tdiv_eq_ediv_of_nonneg (by omega)]; omega) | omega
    (try simp only [Act.put, List.setIfInBounds_toArray, List.set_cons_zero, List.set_cons_succ])
    refine wpAnyH_take (i := 2) (v := (.int .i64 ((j + 1 : Nat) : Int))) rfl (by kernel_rfl) (by kernel_rfl) (by kernel_rfl) (fun _ _ _ h => h) (Or.inl ⟨by rfl, ?_⟩) (by assumption) ?_
    · intro w' hSw
      (try dsimp only at hSw)
      go_simp <;> first | exact i64_in (by omega) (by omega) | exact u32_in (by omega) (by omega) | exact u32_add _ _ | (rw [Int.tmod_eq_emod_of_nonneg (by omega)]; omega) | (rw [Int.tdiv_eq_ediv_of_nonneg (by omega)]; omega) | omega
    (try simp only [Act.put, List.setIfInBounds_toArray, List.set_cons_zero, List.set_cons_succ])
    refine wpAnyH_take (i := 3) (v := (.pointer (some ⟨b, off + (j + 1) * 2, none⟩))) rfl (by kernel_rfl) (by kernel_rfl) (by kernel_rfl) (fun _ _ _ h => h) (Or.inl ⟨by rfl, ?_⟩) (by assumption) ?_
    · intro w' hSw
      (try dsimp only at hSw)
      go_simp <;> first | exact i64_in (by omega) (by omega) | exact u32_in (by omega) (by omega) | exact u32_add _ _ | (rw [Int.tmod_eq_emod_of_nonneg (by omega)]; omega) | (rw [Int.tdiv_eq_ediv_of_nonneg (by omega)]; omega) | omega
    (try simp only [Act.put, List.setIfInBounds_toArray, List.set_cons_zero, List.set_cons_succ])
    refine wpAnyH_take (i := 4) (v := (.agg #[.string K1, .slice V1.1 V1.2.1 V1.2.2])) rfl (by kernel_rfl) (by kernel_rfl) (by kernel_rfl) (fun _ _ _ h => h) (Or.inl ⟨by rfl, ?_⟩) (by assumption) ?_
    · intro w' hSw
      (try dsimp only at hSw)
      (obtain ⟨hS1, hS2, hS3, hS4⟩ := hSw; go_simp)
    (try simp only [Act.put, List.setIfInBounds_toArray, List.set_cons_zero, List.set_cons_succ])
    refine wpAnyH_take (i := 6) (v := (.func (.func 31) #[] #[])) rfl (by kernel_rfl) (by kernel_rfl) (by kernel_rfl) (fun _ _ _ h => h) (Or.inl ⟨by rfl, ?_⟩) (by assumption) ?_
    · intro w' hSw
      (try dsimp only at hSw)
      go_simp <;> first | exact i64_in (by omega) (by omega) | exact u32_in (by omega) (by omega) | exact u32_add _ _ | (rw [Int.tmod_eq_emod_of_nonneg (by omega)]; omega) | (rw [Int.tdiv_eq_ediv_of_nonneg (by omega)]; omega) | omega
    (try simp only [Act.put, List.setIfInBounds_toArray, List.set_cons_zero, List.set_cons_succ])
    refine wpAnyH_take (i := 7) (v := (.slice (some ⟨b, off, none⟩) N cap)) rfl (by kernel_rfl) (by kernel_rfl) (by kernel_rfl) (fun _ _ _ h => h) (Or.inl ⟨by rfl, ?_⟩) (by assumption) ?_
    · intro w' hSw
      (try dsimp only at hSw)
      go_simp <;> first | exact i64_in (by omega) (by omega) | exact u32_in (by omega) (by omega) | exact u32_add _ _ | (rw [Int.tmod_eq_emod_of_nonneg (by omega)]; omega) | (rw [Int.tdiv_eq_ediv_of_nonneg (by omega)]; omega) | omega
    (try simp only [Act.put, List.setIfInBounds_toArray, List.set_cons_zero, List.set_cons_succ])
    refine wpAnyH_take (i := 8) (v := (.int .i64 ((j + 1 : Nat) : Int))) rfl (by kernel_rfl) (by kernel_rfl) (by kernel_rfl) (fun _ _ _ h => h) (Or.inl ⟨by rfl, ?_⟩) (by assumption) ?_
    · intro w' hSw
      (try dsimp only at hSw)
      go_simp <;> first | exact i64_in (by omega) (by omega) | exact u32_in (by omega) (by omega) | exact u32_add _ _ | (rw [Int.tmod_eq_emod_of_nonneg (by omega)]; omega) | (rw [Int.tdiv_eq_ediv_of_nonneg (by omega)]; omega) | omega
    (try simp only [Act.put, List.setIfInBounds_toArray, List.set_cons_zero, List.set_cons_succ])
    refine wpAnyH_take (i := 9) (v := (.int .i64 (j : Int))) rfl (by kernel_rfl) (by kernel_rfl) (by kernel_rfl) (fun _ _ _ h => h) (Or.inl ⟨by rfl, ?_⟩) (by assumption) ?_
    · intro w' hSw
      (try dsimp only at hSw)
      go_simp <;> first | exact i64_in (by omega) (by omega) | exact u32_in (by omega) (by omega) | exact u32_add _ _ | (rw [Int.tmod_eq_emod_of_nonneg (by omega)]; omega) | (rw [Int.tdiv_eq_ediv_of_nonneg (by omega)]; omega) | omega
    (try simp only [Act.put, List.setIfInBounds_toArray, List.set_cons_zero, List.set_cons_succ])
    refine wpAnyH_take (i := 10) (v := (.pointer (some ⟨b, off + j * 2, none⟩))) rfl (by kernel_rfl) (by kernel_rfl) (by kernel_rfl) (fun _ _ _ h => h) (Or.inl ⟨by rfl, ?_⟩) (by assumption) ?_
    · intro w' hSw
      (try dsimp only at hSw)
      go_simp <;> first | exact i64_in (by omega) (by omega) | exact u32_in (by omega) (by omega) | exact u32_add _ _ | (rw [Int.tmod_eq_emod_of_nonneg (by omega)]; omega) | (rw [Int.tdiv_eq_ediv_of_nonneg (by omega)]; omega) | omega
    (try simp only [Act.put, List.setIfInBounds_toArray, List.set_cons_zero, List.set_cons_succ])
    refine wpAnyH_take (i := 11) (v := (.agg #[.string K0, .slice V0.1 V0.2.1 V0.2.2])) rfl (by kernel_rfl) (by kernel_rfl) (by kernel_rfl) (fun _ _ _ h => h) (Or.inl ⟨by rfl, ?_⟩) (by assumption) ?_
    · intro w' hSw
      (try dsimp only at hSw)
      (obtain ⟨hS1, hS2, hS3, hS4⟩ := hSw; go_simp)
    (try simp only [Act.put, List.setIfInBounds_toArray, List.set_cons_zero, List.set_cons_succ])
    refine wpAnyH_ready (rs := [5]) (by kernel_rfl) (by simp) ?_
    refine AllReadyH.cons rfl (fun K hK => ?_) AllReadyH.nil
    go_simp
    refine Calls.mono (groupHash_any _ _ _) ?_
    rintro e w1 ⟨rfl, hb1⟩
    have B1 := (Below.refl w.heap.size w).drew.trans hb1
    refine hK.out _ _ (HS.out _ B1) (fun hHeld => ?_)
    clear hK K
    (try simp only [Act.put, List.setIfInBounds_toArray, List.set_cons_zero, List.set_cons_succ])
    refine wpAnyH_ready (rs := [12]) (by kernel_rfl) (by simp) ?_
    refine AllReadyH.cons rfl (fun K hK => ?_) AllReadyH.nil
    go_simp
    refine Calls.mono (groupHash_any _ _ _) ?_
    rintro e w2 ⟨rfl, hb2⟩
    have B2 := B1.trans (hb2.mono B1.size)
    refine hK.out _ _ (HS.out _ B2) (fun hHeld => ?_)
    clear hK K
    (try simp only [Act.put, List.setIfInBounds_toArray, List.set_cons_zero, List.set_cons_succ])
    refine wpAnyH_ready (rs := [13]) (by kernel_rfl) (by simp) ?_
    refine AllReadyH.cons rfl (fun K hK => ?_) AllReadyH.nil
    go_simp
    refine Calls.mono (CM.out _) ?_
    rintro e w3 ⟨rfl, rfl⟩
    refine hK.out _ _ (HS.out _ B2) (fun hHeld => ?_)
    clear hK K
    (try simp only [Act.put, List.setIfInBounds_toArray, List.set_cons_zero, List.set_cons_succ])
    refine wpAnyH_ready (rs := [14]) (by kernel_rfl) (by simp) ?_
    refine AllReadyH.cons rfl (fun K hK => ?_) AllReadyH.nil
    go_simp
    refine hK.out _ _ hHeld (fun hHeld => ?_)
    clear hK K
    (try simp only [Act.put, List.setIfInBounds_toArray, List.set_cons_zero, List.set_cons_succ])
    refine wpAnyH_done (by kernel_rfl) ?_ _
    go_wp2
    go_ret
    exact ⟨rfl, B2⟩
end Go.Proofs.Ytfmmfophdfjopaa
namespace Go.Proofs.Ytfmmfophdfjopaa
open Go.RowKit
/-- what is wrong with group i -/
def gBad (k : Int) (gs : List GR) (i : Nat) : Int :=
  if ((gs.getD i default).1.size : Int) = k then
    if i ≠ 0 ∧ ((gs.getD i default).1 = (gs.getD (i - 1) default).1 ∨ lessS (gs.getD i default).1 (gs.getD (i - 1) default).1 = true) then 37 else errL (gs.getD i default).2
  else 34
def gWrong (k : Int) (gs : List GR) : Int := (((List.range gs.length).map (gBad k gs)).find? (fun e => decide (e ≠ 0))).getD 0
def egE (k : Int) (gs : List GR) : Int := if 1 ≤ k ∧ k ≤ 16 then if gWrong k gs = 0 then if 65536 < (encD gs).length then 3 else 0 else gWrong k gs else 30
def egS (k : Int) (gs : List GR) : Int := if egE k gs = 0 then ((encD gs).length : Int) else 0
theorem gr_at {gs : List GR} {i : Nat} (h : i < gs.length) : gs.getD i default = gs[i] := by simp [List.getD, h]
theorem eg_bad {k : Int} {gs : List GR} {i : Nat} (hk : 1 ≤ k ∧ k ≤ 16) (hi : i < gs.length) (h0 : ∀ j, j < i → gBad k gs j = 0) (hne : gBad k gs i ≠ 0) : egE k gs = gBad k gs i ∧ egS k gs = 0 := by
  have e : gWrong k gs = gBad k gs i := by unfold gWrong; rw [find_first hi h0 hne]; rfl
  have e2 : egE k gs = gBad k gs i := by unfold egE; rw [if_pos hk, e, if_neg hne]
  exact ⟨e2, by unfold egS; rw [e2, if_neg hne]⟩
theorem eg_big {k : Int} {gs : List GR} (hk : 1 ≤ k ∧ k ≤ 16) (h0 : ∀ j, j < gs.length → gBad k gs j = 0) (hz : 65536 < (encD gs).length) : egE k gs = 3 ∧ egS k gs = 0 := by
  have e : gWrong k gs = 0 := by unfold gWrong; rw [find_none h0]; rfl
  have e2 : egE k gs = 3 := by unfold egE; rw [if_pos hk, if_pos e, if_pos hz]
  exact ⟨e2, by unfold egS; rw [e2]; rfl⟩
theorem eg_ok {k : Int} {gs : List GR} (hk : 1 ≤ k ∧ k ≤ 16) (h0 : ∀ j, j < gs.length → gBad k gs j = 0) (hz : ¬ 65536 < (encD gs).length) : egE k gs = 0 ∧ egS k gs = ((encD gs).length : Int) := by
  have e : gWrong k gs = 0 := by unfold gWrong; rw [find_none h0]; rfl
  have e2 : egE k gs = 0 := by unfold egE; rw [if_pos hk, if_pos e, if_neg hz]
  exact ⟨e2, by unfold egS; rw [e2, if_pos rfl]⟩
theorem eg_width {k : Int} {gs : List GR} (hk : ¬ (1 ≤ k ∧ k ≤ 16)) : egE k gs = 30 ∧ egS k gs = 0 := by
  have e2 : egE k gs = 30 := by unfold egE; rw [if_neg hk]
  exact ⟨e2, by unfold egS; rw [e2]; rfl⟩
theorem gBad_hash {k : Int} {gs : List GR} {i : Nat} (hi : i < gs.length) (h : ¬ (gs[i].1.size : Int) = k) : gBad k gs i = 34 := by
  unfold gBad; rw [gr_at hi, if_neg h]
theorem gBad_up {k : Int} {gs : List GR} {i : Nat} (hi : i < gs.length) (h : (gs[i].1.size : Int) = k) (h2 : i ≠ 0 ∧ (gs[i].1 = (gs.getD (i - 1) default).1 ∨ lessS gs[i].1 (gs.getD (i - 1) default).1 = true)) : gBad k gs i = 37 := by
  unfold gBad; rw [gr_at hi, if_pos h, if_pos h2]
theorem gBad_rec {k : Int} {gs : List GR} {i : Nat} (hi : i < gs.length) (h : (gs[i].1.size : Int) = k) (h2 : ¬ (i ≠ 0 ∧ (gs[i].1 = (gs.getD (i - 1) default).1 ∨ lessS gs[i].1 (gs.getD (i - 1) default).1 = true))) : gBad k gs i = errL gs[i].2 := by
  unfold gBad; rw [gr_at hi, if_pos h, if_neg h2]
theorem rise_le {i : Nat} {a b : ByteArray} : ((if i = 0 then (1 : Int) else if a = b then 0 else if lessS a b then -1 else 1) ≤ 0) ↔ (i ≠ 0 ∧ (a = b ∨ lessS a b = true)) := by
  by_cases h0 : i = 0
  · simp [h0]
  · rw [if_neg h0]
    by_cases h1 : a = b
    · simp [h0, h1]
    · rw [if_neg h1]
      by_cases h2 : lessS a b = true
      · simp [h0, h2]
      · simp only [Bool.not_eq_true] at h2; simp [h0, h1, h2]
theorem encD_small {k : Int} {gs : List GR} : ∀ j, j ≤ gs.length → (∀ t, t < j → gBad k gs t = 0) → (encD (gs.take j)).length ≤ j * 65536 := by
  intro j
  induction j with
  | zero => intro _ _; simp [encD]
  | succ j ih =>
    intro hj h
    rw [encD_take gs j (by omega), List.length_append, recL_len]
    have h1 := ih (by omega) (fun t ht => h t (by omega))
    have h2 := h j (by omega)
    have h3 : errL gs[j].2 = 0 := by
      by_cases a : (gs[j].1.size : Int) = k
      · by_cases b : (j ≠ 0 ∧ (gs[j].1 = (gs.getD (j - 1) default).1 ∨ lessS gs[j].1 (gs.getD (j - 1) default).1 = true))
        · rw [gBad_up (by omega) a b] at h2; omega
        · rw [gBad_rec (by omega) a b] at h2; exact h2
      · rw [gBad_hash (by omega) a] at h2; omega
    have := (fine h3).2.2.1
    rw [Nat.succ_mul]
    omega
set_option maxHeartbeats 1000000 in
set_option maxRecDepth 100000 in
set_option linter.unusedSimpArgs false in
/-- weighGroups -/
theorem weighGroups_any (k : Int) (v : Value) (gs : List GR) (w : World) (hg : GLies w v gs) (hlen : gs.length ≤ 1048576) (hps : ∀ g ∈ gs, g.2.length ≤ 1048576) :
    Calls Try.prog 21 #[.int .i64 k, v] w fun e w' => e = .returned (.tuple #[.int .i64 (egS k gs), .int .i64 (egE k gs)]) ∧ Below w.heap.size w w' := by
  by_cases hk : 1 ≤ k ∧ k ≤ 16
  · obtain ⟨qs, ao, g, off, cap, hql, rfl, h3, h4, h5, h6⟩ := hg
    have HK := hide hk
    have HL := hide h5
    have H6 := hide h6
    have WD := hide (fun w' => isHashWidth_any k w')
    rw [decide_eq_true hk] at WD
    clear hk h5 h6
    rw [hql] at h3 h4 ⊢
    go_enter Try.func21, Try.ntmps21
    go_wp2_with fail
    refine Calls.mono (WD.out _) ?_
    rintro e w0 ⟨rfl, rfl⟩
    go_wp2_with fail
    go_loopw [6, 16] (fun a i wr => ∃ j : Nat, j ≤ gs.length ∧ i = .int .i64 (j : Int) ∧ a = .int .i64 ((encD (gs.take j)).length : Int) ∧ (∀ t, t < j → gBad k gs t = 0) ∧ Below w.heap.size w wr) (fun _ i _ => gs.length - (intOf i).toNat)
    case atStart => exact ⟨0, Nat.zero_le _, rfl, rfl, fun t ht => by omega, Below.refl _ _⟩
    case round =>
      obtain ⟨j, hj, rfl, rfl, hno, hnx⟩ := hrel
      have hsm := encD_small j hj hno
      have hjj : j * 65536 ≤ 68719476736 := by omega
      have HNO := hide hno
      have HNX := hide hnx
      by_cases hlt : j < gs.length
      · have hjq : j < qs.length := by omega
        have x0 := h3 (by omega)
        have x1 := h4 (by omega)
        subst x0
        have hliw := HL.out.below x1 hnx
        obtain ⟨c0, c1⟩ := hliw j hjq
        obtain ⟨e1, e2⟩ := H6.out j hlt hjq
        have hed := encD_take gs j hlt
        have RG := hide (fun w' (hb : Below wr.heap.size wr w') => riseG_any (some ⟨g, off, none⟩) g off cap qs j w' hjq (by omega) rfl (Nat.lt_of_lt_of_le (Nat.lt_of_lt_of_le x1 hnx.size) hb.size) (hliw.below (Nat.lt_of_lt_of_le x1 hnx.size) hb))
        rw [hql] at RG
        obtain ⟨pb, po, y1, y2, y3, y4⟩ := e2.below hnx
        have hpl := hps gs[j] (List.getElem_mem hlt)
        have WG := hide (fun w' (hb : Below wr.heap.size wr w') => weigh_any qs[j].2.1 pb po qs[j].2.2.2 gs[j].2 w' y2 (fun z => Nat.lt_of_lt_of_le (y3 z) hb.size) (by omega) (fun i hi => y4.below (y3 (by omega)) hb i hi))
        have hpre : (qs.getD (j - 1) default).1 = (gs.getD (j - 1) default).1 := by
          rw [gq_at (by omega), gr_at (by omega)]; exact (H6.out (j - 1) (by omega) (by omega)).1
        rw [hpre, e1] at RG
        rw [← y1] at WG
        rw [e1] at c0
        have NX := hide (fun w' (hb : Below wr.heap.size wr w') => hnx.trans (hb.mono hnx.size))
        have EB := hide (fun h => eg_bad (i := j) HK.out hlt HNO.out h)
        have HH := hide (gBad_hash (k := k) hlt)
        have HU := hide (gBad_up (k := k) hlt)
        have HC := hide (gBad_rec (k := k) hlt)
        have RL := hide (rise_le (i := j) (a := gs[j].1) (b := (gs.getD (j - 1) default).1))
        have hsz := hnx.size
        have HFI := hide (fun (h : errL (gs[j]'hlt).2 = 0) => (fine h).2.2.1)
        have HRL := hide (recL_len gs[j].2)
        have HWO := hide (wSize_ok (ps := gs[j].2))
        have HED := hide hed
        have hji : (j : Int) < (gs.length : Int) := by omega
        clear hno hnx hliw y1 y2 y3 y4 e1 e2 hpre hpl hed
        generalize (if j = 0 then (1 : Int) else if gs[j].1 = (gs.getD (j - 1) default).1 then 0 else if lessS gs[j].1 (gs.getD (j - 1) default).1 = true then -1 else 1) = Z at *
        generalize gs[j].1 = H at *
        generalize qs[j].2 = SQ1 at *
        generalize recL gs[j].2 = RLL at *
        generalize sizeL gs[j].2 = SZ at *
        generalize hERR : errL gs[j].2 = ERR at *
        generalize wSize gs[j].2 = WS at *
        obtain ⟨WA, hWA⟩ : ∃ WA, WA = wr.alloc (.cells #[.string H, .slice SQ1.1 SQ1.2.1 SQ1.2.2] 41) := ⟨_, rfl⟩
        have sA : WA.heap.size = wr.heap.size + 1 := by rw [hWA]; simp
        have bA : Below wr.heap.size wr WA := by rw [hWA]; exact (Below.refl _ wr).alloc (Nat.le_refl _) _
        have p0 : WA.cell? ⟨wr.heap.size, 0, none⟩ = some (.string H) := by rw [hWA]; simp
        have p1 : WA.cell? ⟨wr.heap.size, 1, none⟩ = some (.slice SQ1.1 SQ1.2.1 SQ1.2.2) := by rw [hWA]; simp
        have KEY := hide (fun w2 (hb : Below WA.heap.size WA w2) => (⟨bA.trans (hb.mono (by omega)), (hb.cell (by rw [sA]; exact Nat.lt_succ_self _)).trans p1⟩ : Below wr.heap.size wr w2 ∧ w2.cell? ⟨wr.heap.size, 1, none⟩ = some (.slice SQ1.1 SQ1.2.1 SQ1.2.2)))
        have BA := hide bA
        clear bA
        by_cases hz : (H.size : Int) = k
        · have hzb : ((H.size : Int) != k) = false := by rw [hz]; simp
          by_cases hZ : Z ≤ 0
          · have hg37 := HU.out hz (RL.out.1 hZ)
            have E := hide (EB.out (by rw [hg37]; omega))
            rw [hg37] at E
            clear hz HU HC HH hg37
            go_wp2_with fail
            rw [← hWA]
            refine Calls.mono (RG.out _ BA.out) ?_
            rintro e w2 ⟨rfl, hb2⟩
            have B2 := hide (NX.out _ (KEY.out w2 hb2).1)
            clear hb2
            go_wp2_with fail
            go_ret2
            exact ⟨by rw [E.out.1, E.out.2]; rfl, B2.out⟩
          · have hgr := HC.out hz (fun h => hZ (RL.out.2 h))
            have HGR := hide hgr
            by_cases he : ERR = 0
            · have HNO2 : Hid (∀ t, t < j + 1 → gBad k gs t = 0) := fun t ht => by
                rcases Nat.lt_or_ge t j with h9 | h9
                · exact HNO.out t h9
                · obtain rfl : t = j := by omega
                  rw [HGR.out]; exact he
              have hw := HWO.out he
              have hf := HFI.out he
              have hrl := HRL.out
              clear hz HU HC HH hgr
              subst he
              subst hw
              go_wp2_with fail
              rw [← hWA]
              refine Calls.mono (RG.out _ BA.out) ?_
              rintro e w2 ⟨rfl, hb2⟩
              obtain ⟨B2, c2⟩ := KEY.out w2 hb2
              have HB2 := hide B2
              clear hb2 B2
              go_wp2_with fail
              refine Calls.mono (WG.out _ HB2.out) ?_
              rintro e w3 ⟨rfl, hb3⟩
              have B3 := hide (NX.out _ (HB2.out.trans (hb3.mono HB2.out.size)))
              clear hb3
              go_wp2_with fail
              go_roundw
              case rel =>
                refine ⟨j + 1, by omega, by go_num, ?_, HNO2.out, B3.out⟩
                rw [HED.out, List.length_append, hrl]
                go_num
              case measure => simp [intOf]; omega
            · have E := hide (EB.out (by rw [HGR.out]; exact he))
              rw [HGR.out] at E
              have hne : (ERR != 0) = true := by simpa using he
              clear hz HU HC HH hgr
              go_wp2_with fail
              rw [← hWA]
              refine Calls.mono (RG.out _ BA.out) ?_
              rintro e w2 ⟨rfl, hb2⟩
              obtain ⟨B2, c2⟩ := KEY.out w2 hb2
              have HB2 := hide B2
              clear hb2 B2
              go_wp2_with fail
              refine Calls.mono (WG.out _ HB2.out) ?_
              rintro e w3 ⟨rfl, hb3⟩
              have B3 := hide (NX.out _ (HB2.out.trans (hb3.mono HB2.out.size)))
              clear hb3
              go_wp2_with fail
              go_ret2
              exact ⟨by rw [E.out.1, E.out.2]; rfl, B3.out⟩
        · have hzb : ((H.size : Int) != k) = true := by simpa using hz
          have E := hide (EB.out (by rw [HH.out hz]; omega))
          rw [HH.out hz] at E
          clear hz HU HC HH
          have B1 := hide (NX.out _ BA.out)
          go_wp2_with fail
          go_ret2
          exact ⟨by rw [E.out.1, E.out.2]; rfl, by rw [← hWA]; exact B1.out⟩
      · obtain rfl : j = gs.length := by omega
        rw [List.take_length] at hsm ⊢
        clear hno hnx
        by_cases hbig : 65536 < (encD gs).length
        · have E := hide (eg_big HK.out HNO.out hbig)
          have hbi : (65536 : Int) < ((encD gs).length : Int) := by omega
          go_wp2_with fail
          go_ret2
          exact ⟨by rw [E.out.1, E.out.2]; rfl, HNX.out⟩
        · have E := hide (eg_ok HK.out HNO.out hbig)
          have hbi : ¬ (65536 : Int) < ((encD gs).length : Int) := by omega
          go_wp2_with fail
          go_ret2
          exact ⟨by rw [E.out.1, E.out.2]; rfl, HNX.out⟩
  · obtain ⟨e1, e2⟩ := eg_width (gs := gs) hk
    rw [e1, e2]
    have WD := hide (fun w' => isHashWidth_any k w')
    rw [decide_eq_false hk] at WD
    go_enter Try.func21, Try.ntmps21
    go_wp2_with fail
    refine Calls.mono (WD.out _) ?_
    rintro e w0 ⟨rfl, rfl⟩
    go_wp2_with fail
    go_ret2
    exact ⟨rfl, Below.refl _ _⟩
end Go.Proofs.Ytfmmfophdfjopaa
namespace Go.Proofs.Ytfmmfophdfjopaa
open Go.RowKit
def egI (k : Int) (gs : List GR) : ByteArray := if egE k gs = 0 then strOf (encN gs gs.length) else ⟨#[]⟩
def egD (k : Int) (gs : List GR) : ByteArray := if egE k gs = 0 then strOf (encD gs) else ⟨#[]⟩
def egC (k : Int) (gs : List GR) : Value := .agg #[.string (egI k gs), .string (egD k gs)]
/-- what groups that Encode takes are -/
theorem eg_inv {k : Int} {gs : List GR} (h : egE k gs = 0) : (1 ≤ k ∧ k ≤ 16) ∧ (∀ i (hi : i < gs.length), (gs[i].1.size : Int) = k ∧ errL gs[i].2 = 0 ∧ ¬ (i ≠ 0 ∧ (gs[i].1 = (gs.getD (i - 1) default).1 ∨ lessS gs[i].1 (gs.getD (i - 1) default).1 = true))) ∧ (encD gs).length ≤ 65536 := by
  by_cases hk : 1 ≤ k ∧ k ≤ 16
  · by_cases hw : gWrong k gs = 0
    · have hall : ∀ j, j < gs.length → gBad k gs j = 0 := by
        intro j
        induction j using Nat.strongRecOn with
        | ind j ih =>
          intro hj
          by_cases hb : gBad k gs j = 0
          · exact hb
          · have := (eg_bad hk hj (fun i hi => ih i hi (by omega)) hb).1
            rw [h] at this
            exact this.symm
      refine ⟨hk, fun i hi => ?_, ?_⟩
      · have hb := hall i hi
        by_cases a : (gs[i].1.size : Int) = k
        · by_cases b : (i ≠ 0 ∧ (gs[i].1 = (gs.getD (i - 1) default).1 ∨ lessS gs[i].1 (gs.getD (i - 1) default).1 = true))
          · rw [gBad_up hi a b] at hb; omega
          · rw [gBad_rec hi a b] at hb; exact ⟨a, hb, b⟩
        · rw [gBad_hash hi a] at hb; omega
      · unfold egE at h
        rw [if_pos hk, if_pos hw] at h
        by_cases hz : 65536 < (encD gs).length
        · rw [if_pos hz] at h; omega
        · omega
    · unfold egE at h
      rw [if_pos hk, if_neg hw] at h
      exact absurd h hw
  · rw [(eg_width hk).1] at h; omega
set_option maxHeartbeats 1000000 in
set_option maxRecDepth 100000 in
set_option linter.unusedSimpArgs false in
/-- Encode -/
theorem encode_any (k : Int) (v : Value) (gs : List GR) (w : World) (hg : GLies w v gs) (hlen : gs.length ≤ 1048576) (hps : ∀ g ∈ gs, g.2.length ≤ 1048576) :
    Calls Try.prog 6 #[.int .i64 k, v] w fun e w' => e = .returned (.tuple #[egC k gs, .int .i64 (egE k gs)]) ∧ Below w.heap.size w w' := by
  have WG := hide (fun w' (hb : Below w.heap.size w w') => weighGroups_any k v gs w' (hg.below hb) hlen hps)
  obtain ⟨W0, hW0⟩ : ∃ W0, W0 = w.alloc (.cells #[.string ⟨#[]⟩, .string ⟨#[]⟩] 27) := ⟨_, rfl⟩
  have s0 : W0.heap.size = w.heap.size + 1 := by rw [hW0]; simp
  have b0w : Below w.heap.size w W0 := by rw [hW0]; exact (Below.refl _ w).alloc (Nat.le_refl _) _
  have HB0 := hide b0w
  have KC : Hid (∀ w', Below W0.heap.size W0 w' → w'.cell? ⟨w.heap.size, 0, none⟩ = some (.string ⟨#[]⟩) ∧ w'.cell? ⟨w.heap.size, 1, none⟩ = some (.string ⟨#[]⟩) ∧ w'.frozen? ⟨w.heap.size, 0, none⟩ = false ∧ w'.frozen? ⟨w.heap.size, 1, none⟩ = false) := fun w' hb => by
    rw [hb.cell (by rw [s0]; exact Nat.lt_succ_self _), hb.cell (by rw [s0]; exact Nat.lt_succ_self _), hb.frozen (by rw [s0]; exact Nat.lt_succ_self _), hb.frozen (by rw [s0]; exact Nat.lt_succ_self _), hW0]
    exact ⟨by simp, by simp, by simp, by simp⟩
  clear b0w
  by_cases hE : egE k gs = 0
  · obtain ⟨hk, hin, hD⟩ := eg_inv hE
    obtain ⟨i0, hi, hz0, hz1, hz2⟩ := info_parts info5
    obtain ⟨qs, ao, g, off, cap, hql, rfl, h3, h4, h5, h6⟩ := hg
    rw [hql] at h3 h4 WG ⊢
    have eC : egC k gs = .agg #[.string (strOf (encN gs gs.length)), .string (strOf (encD gs))] := by unfold egC egI egD; rw [if_pos hE, if_pos hE]
    have eS : egS k gs = ((encD gs).length : Int) := by unfold egS; rw [if_pos hE]
    rw [eC, hE]
    rw [hE, eS] at WG
    have HL := hide h5
    have H6 := hide h6
    have HIN := hide hin
    obtain ⟨kn, rfl⟩ : ∃ kn : Nat, k = (kn : Int) := ⟨k.toNat, by omega⟩
    have hk1 : 1 ≤ kn := by omega
    have hk2 : kn ≤ 16 := by omega
    have hmul : (gs.length : Int) * ((kn : Int) + 4) = ((gs.length * (kn + 4) : Nat) : Int) := by push_cast; rfl
    have hmb : gs.length * (kn + 4) ≤ 20971520 := Nat.mul_le_mul (show gs.length ≤ 1048576 by omega) (show kn + 4 ≤ 20 by omega)
    obtain ⟨MM, hMM⟩ : ∃ MM, MM = gs.length * (kn + 4) := ⟨_, rfl⟩
    rw [← hMM] at hmul hmb
    clear h5 h6 hin hE eC eS hk hMM
    go_enter Try.func6, Try.ntmps6
    go_wp2_with fail
    rw [← hW0]
    refine Calls.mono (WG.out _ HB0.out) ?_
    rintro e w1 ⟨rfl, hb1⟩
    have s1 := hb1.size
    have HB1 := hide (hb1)
    clear hb1
    go_wp2_with (at_make; refine wpList_make_own _ rfl _ _ 42 rfl w1.heap.size 5 i0 (.int .u8 0) 1 Try.underlying42 hi hz0 hz1 _ _ _ MM rfl rfl (by omega) (by rw [hz2]; omega) (by unfold maxLen; omega) (Nat.le_refl _) ?_)
    intro w2 hown2 hgrow2
    have B2 : Below w1.heap.size w1 w2 := (Below.refl _ w1).grown hgrow2 (Nat.le_refl _) (by simp)
    have s2 := B2.size
    have O2 := hide hown2
    have HB2 := hide B2
    have lt2 := (hown2.lt w1.heap.size rfl).2
    clear hown2 hgrow2 B2
    go_wp2_with (at_make; refine wpList_make_own _ rfl _ _ 42 rfl w1.heap.size 5 i0 (.int .u8 0) 1 Try.underlying42 hi hz0 hz1 _ _ _ (encD gs).length rfl rfl (by omega) (by rw [hz2]; omega) (by unfold maxLen; omega) s2 ?_)
    intro w3 hown3 hgrow3
    have B3 : Below w1.heap.size w1 w3 := HB2.out.grown hgrow3 s2 (by simp)
    have O23 := hide (O2.out.kept hgrow3 (.inr (by simp [Value.ownBlock])))
    have O3 := hide hown3
    have HB3 := hide B3
    have hne3 : Apart (.slice (some ⟨w2.heap.size, 0, none⟩) 0 (encD gs).length) (.slice (some ⟨w1.heap.size, 0, none⟩) 0 MM) := .inr (by simp [Value.ownBlock]; omega)
    clear hown3 hgrow3 B3
    go_wp2_with fail
    go_loopw [8, 9, 32] (fun vi vd i wr => ∃ j : Nat, j ≤ gs.length ∧ i = .int .i64 (j : Int) ∧ (encN gs j).length = j * (kn + 4) ∧ wr.ownsRow w1.heap.size 5 1 vi (encN gs j).length ((encN gs j).map ub) ∧ wr.ownsRow w1.heap.size 5 1 vd (encD (gs.take j)).length ((encD (gs.take j)).map ub) ∧ Apart vd vi ∧ Below w1.heap.size w1 wr)
      (fun _ _ i _ => gs.length - (intOf i).toNat)
    case atStart => exact ⟨0, by omega, rfl, by simp [encN], O23.out, O3.out, hne3, HB3.out⟩
    case round =>
      obtain ⟨j, hj, rfl, hln, hoi, hod, hap, hnx⟩ := hrel
      have hsz := hnx.size
      have hlD := encD_le gs j
      have hlnb : (encN gs j).length ≤ 20971520 := by
        rw [hln]
        exact Nat.mul_le_mul (show j ≤ 1048576 by omega) (show kn + 4 ≤ 20 by omega)
      have HLN := hide hln
      have HOI := hide hoi
      have HOD := hide hod
      have HAP := hide hap
      have HNX := hide hnx
      have bw : Below w.heap.size w wr := HB0.out.trans ((HB1.out.trans (hnx.mono s1)).mono (by omega))
      have BW := hide bw
      by_cases hlt : j < gs.length
      · obtain ⟨ad, cd, rfl⟩ := own_shape hod
        have hjq : j < qs.length := by omega
        have x0 := h3 (by omega)
        have x1 := h4 (by omega)
        subst x0
        obtain ⟨c0, c1⟩ := HL.out.below x1 bw j hjq
        obtain ⟨e1, e2⟩ := H6.out j hlt hjq
        obtain ⟨hz, herr, _⟩ := HIN.out j hlt
        obtain ⟨pb, po, y1, y2, y3, y4⟩ := e2
        obtain ⟨fl, fp, fz, fs⟩ := fine herr
        have HFS := hide fs
        have y5 := y3 fp
        have WR := hide (fun (v' : Value) (w' : World) (hb : Below w.heap.size w w') (hs : w1.heap.size ≤ w'.heap.size) (ho : w'.ownsRow w1.heap.size 5 1 v' (encD (gs.take j)).length ((encD (gs.take j)).map ub)) => write_any w1.heap.size v' _ _ qs[j].2.1 pb po qs[j].2.2.2 gs[j].2 w' ho (by omega) hs y2 (fun _ => by omega) fl HFS.out (y4.below y5 hb))
        rw [← y1] at WR
        have HED := hide (encD_take gs j hlt)
        have HEN := hide (encN_step gs j hlt)
        have hle2 := encD_le gs (j + 1)
        have HRL := hide (recL_len gs[j].2)
        rw [HED.out, List.length_append, HRL.out] at hle2
        have hji : (j : Int) < (gs.length : Int) := by omega
        have hu : IntKind.u32.wrap ((encD (gs.take j)).length : Int) = ((encD (gs.take j)).length : Int) := by simp [IntKind.wrap, IntKind.signed, IntKind.bits]; omega
        rw [e1] at c0
        clear hoi hod hap hnx hln bw e1 y1 y2 y3 y4 fs fp herr fz
        generalize gs[j].1 = H at *
        generalize qs[j].2 = SQ1 at *
        generalize recL gs[j].2 = RLL at *
        generalize sizeL gs[j].2 = SZ at *
        obtain ⟨WA, hWA⟩ : ∃ WA, WA = wr.alloc (.cells #[.string H, .slice SQ1.1 SQ1.2.1 SQ1.2.2] 41) := ⟨_, rfl⟩
        have sA : WA.heap.size = wr.heap.size + 1 := by rw [hWA]; simp
        have bA : Below wr.heap.size wr WA := by rw [hWA]; exact (Below.refl _ wr).alloc (Nat.le_refl _) _
        have p1 : WA.cell? ⟨wr.heap.size, 1, none⟩ = some (.slice SQ1.1 SQ1.2.1 SQ1.2.2) := by rw [hWA]; simp
        have OIA := hide (own_below HOI.out bA)
        have ODA := hide (own_below HOD.out bA)
        have NA := hide (HNX.out.trans (bA.mono hsz))
        have s0A : w1.heap.size ≤ WA.heap.size := by omega
        have hne1 : ∀ t, t = some wr.heap.size → True := fun _ _ => trivial
        clear hne1
        rw [hWA] at OIA
        go_wp2_with (at_builtin; refine wpList_appAny rfl _ _ rfl w1.heap.size _ _ _ H rfl rfl OIA.out (by omega) (by rw [← hWA]; exact s0A) ?_)
        rw [← hWA]
        rw [← hWA] at OIA
        intro v3 w3 o3 G3
        have s3 := G3.size
        have s03 := Nat.le_trans s0A s3
        have q1 : w3.cell? ⟨wr.heap.size, 1, none⟩ = some (.slice SQ1.1 SQ1.2.1 SQ1.2.2) := (G3.cell 1 (by omega) (own_ne' HOI.out (Nat.le_refl _))).trans p1
        have hv3 : v3.ownBlock ≠ some wr.heap.size := G3.ne (by omega) (own_ne' HOI.out (Nat.le_refl _))
        have O3 := hide o3
        have AD3 := hide (HAP.out.grew ODA.out G3)
        have N3 := hide (NA.out.trans (G3.below s0A (fun t ht => (OIA.out.lt t ht).1)))
        have P4 := hide (put32_any (encD (gs.take j)).length w1.heap.size v3 _ _ w3 o3 (by omega) s03)
        clear o3 G3
        go_wp2_with fail
        refine Calls.mono P4.out ?_
        rintro e w4 ⟨v4, rfl, o4, G4⟩
        have s4 := G4.size
        have s04 := Nat.le_trans s03 s4
        have q2 : w4.cell? ⟨wr.heap.size, 1, none⟩ = some (.slice SQ1.1 SQ1.2.1 SQ1.2.2) := (G4.cell 1 (by omega) hv3).trans q1
        have O4 := hide o4
        have AD4 := hide (AD3.out.1.grew AD3.out.2 G4)
        have N4 := hide (N3.out.trans (G4.below s03 (fun t ht => (O3.out.lt t ht).1)))
        clear o4 G4 q1
        go_wp2_with fail
        refine Calls.mono (WR.out _ _ (HB0.out.trans ((HB1.out.trans (N4.out.mono s1)).mono (by omega))) s04 AD4.out.2) ?_
        rintro e w5 ⟨v5, rfl, o5, G5⟩
        have O5 := hide o5
        have AD5 := hide (AD4.out.1.symm.grew O4.out G5)
        have N5 := hide (N4.out.trans (G5.below s04 (fun t ht => (AD4.out.2.lt t ht).1)))
        clear o5 G5
        go_wp2_with fail
        go_roundw
        case rel =>
          refine ⟨j + 1, by omega, by go_num, ?_, ?_, ?_, AD5.out.1.symm, N5.out⟩
          · rw [HEN.out]; simp only [List.length_append, dig_len, HLN.out, size_data]; rw [Nat.add_mul]; omega
          · have := AD5.out.2
            rw [HEN.out]
            simp only [List.map_append, List.length_append, dig_len, size_data] at this ⊢
            exact this
          · have := O5.out
            rw [HED.out]
            simp only [List.map_append, List.length_append] at this ⊢
            rw [HRL.out]
            exact this
        case measure => simp [intOf]; omega
      · obtain rfl : j = gs.length := by omega
        rw [List.take_length] at HOD
        obtain ⟨kc0, kc1, kf0, kf1⟩ := KC.out wr (HB1.out.trans (hnx.mono s1))
        have hc1 := own_conv (P := Try.prog) (src := 42) (dst := 9) (l := encN gs gs.length) HOI.out (by omega) Try.underlying42 Try.underlying5 Try.underlying9
        have hc2 := own_conv (P := Try.prog) (src := 42) (dst := 9) (l := encD gs) HOD.out (by omega) Try.underlying42 Try.underlying5 Try.underlying9
        have hwz : w.heap.size < wr.heap.size := by omega
        clear hoi hod hap hnx hln bw
        go_wp2_with fail
        refine bodyPost_ret (v := .tuple #[.agg #[.string (strOf (encN gs gs.length)), .string (strOf (encD gs))], .int .i64 0]) ?_ rfl ⟨rfl, ?_⟩
        · rw [results_cell_tmp rfl]
          go_simp
        · exact (BW.out.setCell (Nat.le_refl _) _).setCell (Nat.le_refl _) _
  · have HE := hide hE
    have eC : egC k gs = .agg #[.string ⟨#[]⟩, .string ⟨#[]⟩] := by unfold egC egI egD; rw [if_neg hE, if_neg hE]
    rw [eC]
    have hne : (egE k gs != 0) = true := by simpa using hE
    clear hE eC
    generalize egE k gs = E at *
    go_enter Try.func6, Try.ntmps6
    go_wp2_with fail
    rw [← hW0]
    refine Calls.mono (WG.out _ HB0.out) ?_
    rintro e w1 ⟨rfl, hb1⟩
    obtain ⟨kc0, kc1, kf0, kf1⟩ := KC.out w1 hb1
    have HB1 := hide (HB0.out.trans (hb1.mono (by omega)))
    have s1 := hb1.size
    clear hb1 hW0
    go_wp2_with fail
    refine bodyPost_ret (v := .tuple #[.agg #[.string ⟨#[]⟩, .string ⟨#[]⟩], .int .i64 E]) ?_ rfl ⟨rfl, ?_⟩
    · rw [results_cell_tmp rfl]
      go_simp
    · exact (HB1.out.setCell (by simp) _).setCell (by simp) _
end Go.Proofs.Ytfmmfophdfjopaa
