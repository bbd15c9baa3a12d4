import Derived.Test.YtfmmfophdfjopaaGDgPlain
import Derived.Lib.AppendStr
namespace Go.Proofs.Ytfmmfophdfjopaa
open Go.RowKit
set_option maxRecDepth 100000 in
theorem cmpString_any (a b : ByteArray) (w : World) :
    Calls Try.prog 46 #[.string a, .string b] w fun e w' => e = .returned (.int .i64 (Lib.compareBytes a.data.toList b.data.toList)) ∧ w = w' := by
  go_enter Try.func46, Try.ntmps46
  go_wp2
  rw [run_callFunc_extern Try.func47 (by kernel_rfl) (by kernel_rfl) (by kernel_rfl) (e := Extern.BytealgCompare.compare) (by kernel_rfl), Lib.run_compareString]
  simp only [Result.andThen]
  rw [Oper.upon_value]
  go_wp2
  go_ret
  exact ⟨rfl, rfl⟩
set_option maxRecDepth 100000 in
theorem compare_any (a b : ByteArray) (w : World) :
    Calls Try.prog 41 #[.string a, .string b] w fun e w' => e = .returned (.int .i64 (if a = b then 0 else if lessS a b then -1 else 1)) ∧ w = w' := by
  rw [← cmpS]
  go_enter Try.func41, Try.ntmps41
  go_wp2_with fail
  refine Calls.mono (cmpString_any _ _ _) ?_
  rintro e w' ⟨rfl, rfl⟩
  go_wp2
  go_ret
  exact ⟨rfl, rfl⟩
set_option maxRecDepth 100000 in
theorem isKey_any (k : ByteArray) (w : World) : Calls Try.prog 43 #[.string k] w fun e w' => e = .returned (.bool (decide (1 ≤ k.size ∧ k.size ≤ 255))) ∧ w = w' := by
  go_enter Try.func43, Try.ntmps43
  go_wp2
  all_goals go_ret
  all_goals refine ⟨ret_bool ?_, rfl⟩
  · rw [decide_eq_decide]; omega
  · symm; rw [Bool.and_eq_false_iff, decide_eq_false_iff_not]; omega
set_option maxRecDepth 100000 in
theorem pairKey_any (k v : ByteArray) (w : World) : Calls Try.prog 45 #[.agg #[.string k, .string v]] w fun e w' => e = .returned (.string k) ∧ Below w.heap.size w w' := by
  go_enter Try.func45, Try.ntmps45
  go_wp2
  go_ret
  refine ⟨rfl, ?_⟩
  first | exact Below.refl _ _ | exact (Below.refl _ w).alloc (Nat.le_refl _) _
/-- pairs lie in a row -/
def LiesP (b off : Nat) (w : World) (ps : List KV) : Prop := ∀ i (h : i < ps.length), w.cell? ⟨b, off + i * 2, none⟩ = some (.string ps[i].1) ∧ w.cell? ⟨b, off + i * 2 + 1, none⟩ = some (.string ps[i].2)
set_option maxHeartbeats 1000000 in
set_option maxRecDepth 100000 in
set_option linter.unusedSimpArgs false in
/-- rise of pairs -/
theorem riseP_any (ao : Option Addr) (b off cap : Nat) (ps : List KV) (i : Nat) (w : World) (hi : i < ps.length) (hlen : ps.length ≤ 1099511627776000) (hao : ao = some ⟨b, off, none⟩) (hb : b < w.heap.size) (hl : LiesP b off w ps) :
    Calls Try.prog 44 #[.slice ao ps.length cap, .int .i64 (i : Int), .func (.func 45) #[] #[]] w fun e w' => e = .returned (.int .i64 (if i = 0 then 1 else if ps[i].1 = (ps.getD (i - 1) default).1 then 0 else if lessS ps[i].1 (ps.getD (i - 1) default).1 then -1 else 1)) ∧ Below w.heap.size w w' := by
  subst hao
  by_cases h0 : i = 0
  · subst h0
    go_enter Try.func44, Try.ntmps44
    go_wp2
    go_ret
    exact ⟨rfl, Below.refl _ _⟩
  · obtain ⟨j, rfl⟩ : ∃ j, i = j + 1 := ⟨i - 1, by omega⟩
    have hj : j < ps.length := by omega
    obtain ⟨g0, g1⟩ := hl (j + 1) hi
    obtain ⟨g2, g3⟩ := hl j hj
    rw [if_neg h0, show j + 1 - 1 = j by omega, List.getD_eq_getElem?_getD, List.getElem?_eq_getElem hj, Option.getD_some]
    have HS : Hid (∀ w', Below w.heap.size w w' → w'.cell? ⟨b, off + (j + 1) * 2, none⟩ = some (.string ps[j + 1].1) ∧ w'.cell? ⟨b, off + (j + 1) * 2 + 1, none⟩ = some (.string ps[j + 1].2) ∧ w'.cell? ⟨b, off + j * 2, none⟩ = some (.string ps[j].1) ∧ w'.cell? ⟨b, off + j * 2 + 1, none⟩ = some (.string ps[j].2)) := fun w' hw => by
      rw [hw.cell (by exact hb), hw.cell (by exact hb), hw.cell (by exact hb), hw.cell (by exact hb)]
      exact ⟨g0, g1, g2, g3⟩
    clear g0 g1 g2 g3 hl
    generalize ps[j + 1].1 = K1 at *
    generalize ps[j + 1].2 = V1 at *
    generalize ps[j].1 = K0 at *
    generalize ps[j].2 = V0 at *
    have hil : ((j + 1 : Nat) : Int) < (ps.length : Int) := by omega
    generalize ps.length = N at *
    clear h0
    have CM := hide (fun w' => compare_any K1 K0 w')
    generalize (if K1 = K0 then (0 : Int) else if lessS K1 K0 = true then -1 else 1) = Z at *
    have hz : (((j + 1 : Nat) : Int) == 0) = false := by simp; omega
    go_enter Try.func44, Try.ntmps44
    go_wp2
    refine wp_region_held_drew (S := fun w' => w'.cell? ⟨b, off + (j + 1) * 2, none⟩ = some (.string K1) ∧ w'.cell? ⟨b, off + (j + 1) * 2 + 1, none⟩ = some (.string V1) ∧ w'.cell? ⟨b, off + j * 2, none⟩ = some (.string K0) ∧ w'.cell? ⟨b, off + j * 2 + 1, none⟩ = some (.string V0)) (by kernel_rfl) (HS.out _ (Below.refl _ _).drew) (fun hHeld => ?_)
    refine wpAnyH_take (i := 0) (v := (.func (.func 45) #[] #[])) rfl (by kernel_rfl) (by kernel_rfl) (by kernel_rfl) (fun _ _ _ h => h) (Or.inl ⟨by rfl, ?_⟩) (by assumption) ?_
    · intro w' hSw
      (try dsimp only at hSw)
      go_simp <;> first | exact i64_in (by omega) (by omega) | exact u32_in (by omega) (by omega) | exact u32_add _ _ | (rw [Int.tmod_eq_emod_of_nonneg (by omega)]; omega) | (rw [Int.tdiv_eq_ediv_of_nonneg (by omega)]; omega) | omega
    (try simp only [Act.put, List.setIfInBounds_toArray, List.set_cons_zero, List.set_cons_succ])
    refine wpAnyH_take (i := 1) (v := (.slice (some ⟨b, off, none⟩) N cap)) rfl (by kernel_rfl) (by kernel_rfl) (by kernel_rfl) (fun _ _ _ h => h) (Or.inl ⟨by rfl, ?_⟩) (by assumption) ?_
    · intro w' hSw
      (try dsimp only at hSw)
      go_simp <;> first | exact i64_in (by omega) (by omega) | exact u32_in (by omega) (by omega) | exact u32_add _ _ | (rw [Int.tmod_eq_emod_of_nonneg (by omega)]; omega) | (rw [Int.tdiv_eq_ediv_of_nonneg (by omega)]; omega) | omega
    (try simp only [Act.put, List.setIfInBounds_toArray, List.set_cons_zero, List.set_cons_succ])
    refine wpAnyH_take (i := 2) (v := (.int .i64 ((j + 1 : Nat) : Int))) rfl (by kernel_rfl) (by kernel_rfl) (by kernel_rfl) (fun _ _ _ h => h) (Or.inl ⟨by rfl, ?_⟩) (by assumption) ?_
    · intro w' hSw
      (try dsimp only at hSw)
      go_simp <;> first | exact i64_in (by omega) (by omega) | exact u32_in (by omega) (by omega) | exact u32_add _ _ | (rw [Int.tmod_eq_emod_of_nonneg (by omega)]; omega) | (rw [Int.tdiv_eq_ediv_of_nonneg (by omega)]; omega) | omega
    (try simp only [Act.put, List.setIfInBounds_toArray, List.set_cons_zero, List.set_cons_succ])
    refine wpAnyH_take (i := 3) (v := (.pointer (some ⟨b, off + (j + 1) * 2, none⟩))) rfl (by kernel_rfl) (by kernel_rfl) (by kernel_rfl) (fun _ _ _ h => h) (Or.inl ⟨by rfl, ?_⟩) (by assumption) ?_
    · intro w' hSw
      (try dsimp only at hSw)
      go_simp <;> first | exact i64_in (by omega) (by omega) | exact u32_in (by omega) (by omega) | exact u32_add _ _ | (rw [Int.tmod_eq_emod_of_nonneg (by omega)]; omega) | (rw [Int.tdiv_eq_ediv_of_nonneg (by omega)]; omega) | omega
    (try simp only [Act.put, List.setIfInBounds_toArray, List.set_cons_zero, List.set_cons_succ])
    refine wpAnyH_take (i := 4) (v := (.agg #[.string K1, .string V1])) rfl (by kernel_rfl) (by kernel_rfl) (by kernel_rfl) (fun _ _ _ h => h) (Or.inl ⟨by rfl, ?_⟩) (by assumption) ?_
    · intro w' hSw
      (try dsimp only at hSw)
      (obtain ⟨hS1, hS2, hS3, hS4⟩ := hSw; go_simp)
    (try simp only [Act.put, List.setIfInBounds_toArray, List.set_cons_zero, List.set_cons_succ])
    refine wpAnyH_take (i := 6) (v := (.func (.func 45) #[] #[])) rfl (by kernel_rfl) (by kernel_rfl) (by kernel_rfl) (fun _ _ _ h => h) (Or.inl ⟨by rfl, ?_⟩) (by assumption) ?_
    · intro w' hSw
      (try dsimp only at hSw)
      go_simp <;> first | exact i64_in (by omega) (by omega) | exact u32_in (by omega) (by omega) | exact u32_add _ _ | (rw [Int.tmod_eq_emod_of_nonneg (by omega)]; omega) | (rw [Int.tdiv_eq_ediv_of_nonneg (by omega)]; omega) | omega
    (try simp only [Act.put, List.setIfInBounds_toArray, List.set_cons_zero, List.set_cons_succ])
    refine wpAnyH_take (i := 7) (v := (.slice (some ⟨b, off, none⟩) N cap)) rfl (by kernel_rfl) (by kernel_rfl) (by kernel_rfl) (fun _ _ _ h => h) (Or.inl ⟨by rfl, ?_⟩) (by assumption) ?_
    · intro w' hSw
      (try dsimp only at hSw)
      go_simp <;> first | exact i64_in (by omega) (by omega) | exact u32_in (by omega) (by omega) | exact u32_add _ _ | (rw [Int.tmod_eq_emod_of_nonneg (by omega)]; omega) | (rw [Int.tdiv_eq_ediv_of_nonneg (by omega)]; omega) | omega
    (try simp only [Act.put, List.setIfInBounds_toArray, List.set_cons_zero, List.set_cons_succ])
    refine wpAnyH_take (i := 8) (v := (.int .i64 ((j + 1 : Nat) : Int))) rfl (by kernel_rfl) (by kernel_rfl) (by kernel_rfl) (fun _ _ _ h => h) (Or.inl ⟨by rfl, ?_⟩) (by assumption) ?_
    · intro w' hSw
      (try dsimp only at hSw)
      go_simp <;> first | exact i64_in (by omega) (by omega) | exact u32_in (by omega) (by omega) | exact u32_add _ _ | (rw [Int.tmod_eq_emod_of_nonneg (by omega)]; omega) | (rw [Int.tdiv_eq_ediv_of_nonneg (by omega)]; omega) | omega
    (try simp only [Act.put, List.setIfInBounds_toArray, List.set_cons_zero, List.set_cons_succ])
    refine wpAnyH_take (i := 9) (v := (.int .i64 (j : Int))) rfl (by kernel_rfl) (by kernel_rfl) (by kernel_rfl) (fun _ _ _ h => h) (Or.inl ⟨by rfl, ?_⟩) (by assumption) ?_
    · intro w' hSw
      (try dsimp only at hSw)
      go_simp <;> first | exact i64_in (by omega) (by omega) | exact u32_in (by omega) (by omega) | exact u32_add _ _ | (rw [Int.tmod_eq_emod_of_nonneg (by omega)]; omega) | (rw [Int.tdiv_eq_ediv_of_nonneg (by omega)]; omega) | omega
    (try simp only [Act.put, List.setIfInBounds_toArray, List.set_cons_zero, List.set_cons_succ])
    refine wpAnyH_take (i := 10) (v := (.pointer (some ⟨b, off + j * 2, none⟩))) rfl (by kernel_rfl) (by kernel_rfl) (by kernel_rfl) (fun _ _ _ h => h) (Or.inl ⟨by rfl, ?_⟩) (by assumption) ?_
    · intro w' hSw
      (try dsimp only at hSw)
      go_simp <;> first | exact i64_in (by omega) (by omega) | exact u32_in (by omega) (by omega) | exact u32_add _ _ | (rw [Int.tmod_eq_emod_of_nonneg (by omega)]; omega) | (rw [Int.tdiv_eq_ediv_of_nonneg (by omega)]; omega) | omega
    (try simp only [Act.put, List.setIfInBounds_toArray, List.set_cons_zero, List.set_cons_succ])
    refine wpAnyH_take (i := 11) (v := (.agg #[.string K0, .string V0])) rfl (by kernel_rfl) (by kernel_rfl) (by kernel_rfl) (fun _ _ _ h => h) (Or.inl ⟨by rfl, ?_⟩) (by assumption) ?_
    · intro w' hSw
      (try dsimp only at hSw)
      (obtain ⟨hS1, hS2, hS3, hS4⟩ := hSw; go_simp)
    (try simp only [Act.put, List.setIfInBounds_toArray, List.set_cons_zero, List.set_cons_succ])
    refine wpAnyH_ready (rs := [5]) (by kernel_rfl) (by simp) ?_
    refine AllReadyH.cons rfl (fun K hK => ?_) AllReadyH.nil
    go_simp
    refine Calls.mono (pairKey_any _ _ _) ?_
    rintro e w1 ⟨rfl, hb1⟩
    have B1 := (Below.refl w.heap.size w).drew.trans hb1
    refine hK.out _ _ (HS.out _ B1) (fun hHeld => ?_)
    clear hK K
    (try simp only [Act.put, List.setIfInBounds_toArray, List.set_cons_zero, List.set_cons_succ])
    refine wpAnyH_ready (rs := [12]) (by kernel_rfl) (by simp) ?_
    refine AllReadyH.cons rfl (fun K hK => ?_) AllReadyH.nil
    go_simp
    refine Calls.mono (pairKey_any _ _ _) ?_
    rintro e w2 ⟨rfl, hb2⟩
    have B2 := B1.trans (hb2.mono B1.size)
    refine hK.out _ _ (HS.out _ B2) (fun hHeld => ?_)
    clear hK K
    (try simp only [Act.put, List.setIfInBounds_toArray, List.set_cons_zero, List.set_cons_succ])
    refine wpAnyH_ready (rs := [13]) (by kernel_rfl) (by simp) ?_
    refine AllReadyH.cons rfl (fun K hK => ?_) AllReadyH.nil
    go_simp
    refine Calls.mono (CM.out _) ?_
    rintro e w3 ⟨rfl, rfl⟩
    refine hK.out _ _ (HS.out _ B2) (fun hHeld => ?_)
    clear hK K
    (try simp only [Act.put, List.setIfInBounds_toArray, List.set_cons_zero, List.set_cons_succ])
    refine wpAnyH_ready (rs := [14]) (by kernel_rfl) (by simp) ?_
    refine AllReadyH.cons rfl (fun K hK => ?_) AllReadyH.nil
    go_simp
    refine hK.out _ _ hHeld (fun hHeld => ?_)
    clear hK K
    (try simp only [Act.put, List.setIfInBounds_toArray, List.set_cons_zero, List.set_cons_succ])
    refine wpAnyH_done (by kernel_rfl) ?_ _
    go_wp2
    go_ret
    exact ⟨rfl, B2⟩
theorem LiesP.below {b off : Nat} {w w' : World} {ps : List KV} (h : LiesP b off w ps) (hb : b < w.heap.size) (hw : Below w.heap.size w w') : LiesP b off w' ps := fun i hi => by
  rw [hw.cell (by exact hb), hw.cell (by exact hb)]; exact h i hi
theorem ne0 {n : Nat} (h : 0 < n) : ((n : Int) == 0) = false := by
  rw [beq_eq_false_iff_ne]; omega
theorem getD_at {ps : List KV} {i : Nat} (hi : i < ps.length) : ps.getD i default = ps[i] := by
  rw [List.getD_eq_getElem?_getD, List.getElem?_eq_getElem hi, Option.getD_some]
set_option maxHeartbeats 1000000 in
set_option maxRecDepth 100000 in
/-- checkPair -/
theorem checkPair_any (b off cap : Nat) (ps : List KV) (i : Nat) (w : World) (hi : i < ps.length) (hlen : ps.length ≤ 1099511627776000) (hb : b < w.heap.size) (hl : LiesP b off w ps) :
    Calls Try.prog 40 #[.slice (some ⟨b, off, none⟩) ps.length cap, .int .i64 (i : Int)] w fun e w' => e = .returned (.int .i64 (badAt ps i)) ∧ Below w.heap.size w w' := by
  have R := hide (fun w' (hw : Below w.heap.size w w') => riseP_any (some ⟨b, off, none⟩) b off cap ps i w' hi hlen rfl (Nat.lt_of_lt_of_le hb hw.size) (hl.below hb hw))
  obtain ⟨g0, g1⟩ := hl i hi
  unfold badAt badP
  rw [getD_at hi]
  have hil : (i : Int) < (ps.length : Int) := by omega
  by_cases h1 : ps[i].1.size = 0 ∨ 255 < ps[i].1.size
  · rw [if_pos h1]
    have hk : decide (1 ≤ ps[i].1.size ∧ ps[i].1.size ≤ 255) = false := by rw [decide_eq_false_iff_not]; omega
    clear h1 R hl
    generalize ps[i].1 = K1 at *
    generalize ps[i].2 = V1 at *
    generalize ps.length = N at *
    go_enter Try.func40, Try.ntmps40
    go_wp2_with fail
    refine Calls.mono (isKey_any _ _) ?_
    rintro e w' ⟨rfl, rfl⟩
    go_wp2
    go_ret
    exact ⟨rfl, Below.refl _ _⟩
  · rw [if_neg h1]
    have hk : decide (1 ≤ ps[i].1.size ∧ ps[i].1.size ≤ 255) = true := by rw [decide_eq_true_eq]; omega
    clear h1
    by_cases h2 : 4096 < ps[i].2.size
    · rw [if_pos h2]
      have h2' : (4096 : Int) < (ps[i].2.size : Int) := by omega
      clear R hl h2
      generalize ps[i].1 = K1 at *
      generalize ps[i].2 = V1 at *
      generalize ps.length = N at *
      go_enter Try.func40, Try.ntmps40
      go_wp2_with fail
      refine Calls.mono (isKey_any _ _) ?_
      rintro e w' ⟨rfl, rfl⟩
      go_wp2
      go_ret
      exact ⟨rfl, Below.refl _ _⟩
    · rw [if_neg h2]
      have h2' : (ps[i].2.size : Int) ≤ 4096 := by omega
      clear h2 hl
      obtain ⟨Z, hZ⟩ : ∃ Z : Int, Z = if i = 0 then 1 else if ps[i].1 = (ps.getD (i - 1) default).1 then 0 else if lessS ps[i].1 (ps.getD (i - 1) default).1 then -1 else 1 := ⟨_, rfl⟩
      rw [← hZ] at R
      have hE : badQ (if i = 0 then (none : Option ByteArray) else some (ps.getD (i - 1) default).1) ps[i].1 = if Z = 0 then 35 else if Z < 0 then 37 else 0 := by
        rw [hZ]
        by_cases h0 : i = 0
        · rw [if_pos h0, if_pos h0]; rfl
        · rw [if_neg h0, if_neg h0, badQ]
          by_cases h3 : ps[i].1 = (ps.getD (i - 1) default).1
          · rw [if_pos h3, if_pos h3]; rfl
          · rw [if_neg h3, if_neg h3]
            by_cases h4 : lessS ps[i].1 (ps.getD (i - 1) default).1 = true
            · rw [if_pos h4, if_pos h4]; rfl
            · rw [if_neg h4, if_neg h4]; rfl
      rw [hE]
      clear hE hZ
      obtain ⟨E, hE⟩ : ∃ E : Int, E = if Z = 0 then 35 else if Z < 0 then 37 else 0 := ⟨_, rfl⟩
      rw [← hE]
      have HE := hide hE
      clear hE
      generalize ps[i].1 = K1 at *
      generalize ps[i].2 = V1 at *
      generalize ps.length = N at *
      go_enter Try.func40, Try.ntmps40
      go_wp2_with fail
      refine Calls.mono (isKey_any _ _) ?_
      rintro e w' ⟨rfl, rfl⟩
      go_wp2_with fail
      refine Calls.mono (R.out w (Below.refl _ _)) ?_
      rintro e w1 ⟨rfl, hb1⟩
      by_cases h5 : Z = 0
      · have e5 : E = 35 := by rw [HE.out, if_pos h5]
        have HE5 := hide e5
        clear e5
        subst h5
        go_wp2
        go_ret
        exact ⟨by rw [HE5.out]; rfl, hb1⟩
      · by_cases h6 : Z < 0
        · have HE5 : Hid (E = 37) := by rw [HE.out, if_neg h5, if_pos h6]; exact rfl
          go_wp2
          go_ret
          exact ⟨by rw [HE5.out]; rfl, hb1⟩
        · have HE5 : Hid (E = 0) := by rw [HE.out, if_neg h5, if_neg h6]; exact rfl
          go_wp2
          go_ret
          exact ⟨by rw [HE5.out]; rfl, hb1⟩
set_option maxHeartbeats 1000000 in
set_option maxRecDepth 100000 in
/-- weigh -/
theorem weigh_any (ao : Option Addr) (b off cap : Nat) (ps : List KV) (w : World) (hao : 0 < ps.length → ao = some ⟨b, off, none⟩) (hb : 0 < ps.length → b < w.heap.size) (hlen : ps.length ≤ 1099511627776000) (hl : LiesP b off w ps) :
    Calls Try.prog 26 #[.slice ao ps.length cap] w fun e w' => e = .returned (.tuple #[.int .i64 (wSize ps), .int .i64 (errL ps)]) ∧ Below w.heap.size w w' := by
  by_cases hg : ps.length = 0 ∨ 512 < ps.length
  · rw [wSize_bad (by rw [(wrong_group hg).2]; omega), (wrong_group hg).2]
    have hN : ((ps.length : Int) == 0) = true ∨ (((ps.length : Int) == 0) = false ∧ (512 : Int) < (ps.length : Int)) := by
      rcases Nat.eq_zero_or_pos ps.length with h | h
      · left; rw [h]; rfl
      · right; exact ⟨ne0 h, by omega⟩
    clear hao hb hl hg
    generalize ps.length = N at *
    go_enter Try.func26, Try.ntmps26
    rcases hN with h0 | ⟨h0, h1⟩
    · go_wp2
      go_ret2
      exact ⟨rfl, Below.refl _ _⟩
    · go_wp2
      go_ret2
      exact ⟨rfl, Below.refl _ _⟩
  · have hpos : 0 < ps.length := by omega
    have h5 : (ps.length : Int) ≤ 512 := by omega
    obtain rfl := hao hpos
    have hb := hb hpos
    have h0 := ne0 hpos
    go_enter Try.func26, Try.ntmps26
    go_wp2
    go_loopw [4, 18] (fun z i wr => ∃ k : Nat, k ≤ ps.length ∧ i = .int .i64 (k : Int) ∧ z = .int .i64 ((2 + sizeL (ps.take k) : Nat) : Int) ∧ (∀ j, j < k → badAt ps j = 0) ∧ Below w.heap.size w wr)
      (fun _ i _ => ps.length - (intOf i).toNat)
    case atStart => exact ⟨0, by omega, rfl, rfl, fun j hj => by omega, Below.refl _ _⟩
    case round =>
      obtain ⟨k, hk, rfl, rfl, hok, hnx⟩ := hrel
      have hsz := hnx.size
      by_cases hlt : k < ps.length
      · have hl' := hl.below hb hnx
        have hb' : b < wr.heap.size := Nat.lt_of_lt_of_le hb hsz
        obtain ⟨g0, g1⟩ := hl' k hlt
        have hN := size_small (Nat.le_of_lt hlt) hok
        have C := hide (fun w' (hw : Below wr.heap.size wr w') => checkPair_any b off cap ps k w' hlt hlen (Nat.lt_of_lt_of_le hb' hw.size) (hl'.below hb' hw))
        have HA := hide ((Below.refl wr.heap.size wr).alloc (Nat.le_refl _) (.cells #[.string ps[k].1, .string ps[k].2] 55))
        have HT := hide (sizeL_take ps k hlt)
        have HOK := hide hok
        have HGR := hide hg
        have HNX := hide hnx
        have HL := hide hl
        have hki : (k : Int) < (ps.length : Int) := by omega
        by_cases hbad : badAt ps k = 0
        · have hsm := badAt_small hlt hbad
          have HB := hide hbad
          rw [hbad] at C
          clear hok hbad hl hl' hg hnx hao
          generalize hK : ps[k].1 = K1 at *
          generalize hV : ps[k].2 = V1 at *
          have HK := hide hK
          clear hK hV
          generalize hZ : sizeL (ps.take k) = Z at *
          have HZ := hide hZ
          clear hZ
          go_wp2_with fail
          refine Calls.mono (C.out _ HA.out) ?_
          rintro e w1 ⟨rfl, hb1⟩
          have c0 : w1.cell? ⟨wr.heap.size, 0, none⟩ = some (.string K1) := by rw [hb1.cell (by simp)]; simp
          have c1 : w1.cell? ⟨wr.heap.size, 1, none⟩ = some (.string V1) := by rw [hb1.cell (by simp)]; simp
          go_wp2
          go_roundw
          case rel =>
            refine ⟨k + 1, by omega, by go_num, by rw [HT.out]; go_num, fun j hj => ?_, ?_⟩
            · rcases Nat.lt_or_ge j k with h | h
              · exact HOK.out j h
              · obtain rfl : j = k := by omega
                exact HB.out
            · have h1 := HNX.out.trans (HA.out.mono hsz)
              exact h1.trans (hb1.mono h1.size)
          case measure => simp [intOf]; omega
        · have HF := hide ((wrong_at hg hlt hok hbad).2)
          have HF2 := hide (wSize_bad (ps := ps) (by rw [(wrong_at hg hlt hok hbad).2]; exact hbad))
          have hne : (badAt ps k != 0) = true := by simpa using hbad
          generalize badAt ps k = E at *
          clear hok hbad hl hl' hg hnx hao
          generalize hK : ps[k].1 = K1 at *
          generalize hV : ps[k].2 = V1 at *
          clear hK hV HT
          generalize sizeL (ps.take k) = Z at *
          go_wp2_with fail
          refine Calls.mono (C.out _ HA.out) ?_
          rintro e w1 ⟨rfl, hb1⟩
          go_wp2
          go_ret2
          refine ⟨by rw [HF.out, HF2.out]; rfl, ?_⟩
          have h1 := HNX.out.trans (HA.out.mono hsz)
          exact h1.trans (hb1.mono h1.size)
      · obtain rfl : k = ps.length := by omega
        have hN := size_small (Nat.le_refl _) hok
        rw [List.take_length] at hN
        have HF := hide ((wrong_none hg hok).2)
        rw [List.take_length]
        have HS := hide (wSize_ok (ps := ps))
        have HS2 := hide (wSize_bad (ps := ps))
        have HNX := hide hnx
        clear hok hnx hl hg hao hlt
        have HS3 : Hid (65536 < 2 + sizeL ps → errL ps = 3) := fun h => by rw [HF.out, if_pos h]
        have HS4 : Hid (¬ 65536 < 2 + sizeL ps → errL ps = 0) := fun h => by rw [HF.out, if_neg h]
        clear HF
        generalize sizeL ps = Z at *
        by_cases hbig : 65536 < 2 + Z
        · have hb3 : (65536 : Int) < ((2 + Z : Nat) : Int) := by omega
          go_wp2
          go_ret2
          exact ⟨by rw [HS3.out hbig, HS2.out (by rw [HS3.out hbig]; omega)]; rfl, HNX.out⟩
        · have hb3 : ((2 + Z : Nat) : Int) ≤ 65536 := by omega
          go_wp2
          go_ret2
          exact ⟨by rw [HS.out (HS4.out hbig), HS4.out hbig]; rfl, HNX.out⟩
end Go.Proofs.Ytfmmfophdfjopaa
namespace Go.Proofs.Ytfmmfophdfjopaa
open Go.RowKit
theorem strCells_ub (s : ByteArray) : Lib.strCells s = s.data.toList.map ub := rfl
/-- append of a text to a row that is there: it lies where it lay, or anew -/
theorem run_appStr (w : World) (base g n cap : Nat) (xs : List Value) (ty : TypeId) (s : ByteArray) (hown : w.ownsRow base 5 1 (.slice (some ⟨g, 0, none⟩) n cap) n xs) (hbytes : n + s.size ≤ 140737488355328) (hbase : base ≤ w.heap.size) :
    ∃ v' w', (Builtin.append_ #[42, 9] ty #[.slice (some ⟨g, 0, none⟩) n cap, .string s]).run Try.prog w = .ok v' w' ∧ w'.ownsRow base 5 1 v' (n + s.size) (xs ++ s.data.toList.map ub) ∧ Grew w w' (.slice (some ⟨g, 0, none⟩) n cap) v' := by
  obtain ⟨i0, hi, hz0, hz1, hz2⟩ := info_parts info5
  obtain ⟨v', w', hr, ho, hg, hn⟩ := Lib.run_append_own_string (P := Try.prog) w base 42 9 ty 5 i0 Try.underlying42 Try.underlying9 hi hz0 hz1 hz2 _ n xs hown s (by unfold maxLen; omega) hbytes hbase
  refine ⟨v', w', hr, ho, hg, ?_⟩
  rcases hown.2 with ⟨h0, _⟩ | ⟨g', cap', cur, h0, hbg, hgg, hnc, hcm, hcs, htake⟩
  · cases h0
  · injection h0 with h1 h2 h3
    injection h1 with h1
    injection h1 with h1
    subst h1; subst h3
    by_cases hroom : n + s.size ≤ cap
    · have h2 := Lib.run_append_room_string (P := Try.prog) w 42 9 ty 5 i0 Try.underlying42 Try.underlying9 hi hz1 g n cap cur hgg s hroom (by omega)
      rw [hr] at h2
      injection h2 with h2 h3
      exact .inl (by rw [h2]; rfl)
    · have h2 := Lib.run_append_grow_string (P := Try.prog) w 42 9 ty 5 i0 (.int .u8 0) Try.underlying42 Try.underlying9 hi hz0 ⟨g, 0, none⟩ n cap xs (by rw [hz1]; exact hown.1) (hown.cells (g := g) rfl) s (by omega) (by omega) (by rw [hz2]; exact growslice_fits (by omega) (by omega))
      rw [hr] at h2
      injection h2 with h2 h3
      exact .inr ⟨w.heap.size, by rw [h2]; rfl, Nat.le_refl _⟩
theorem wpList_appStr {w : World} {ops : Array Oper} {rest : List Oper} {o : Oper} {a : Act} {Q : Exit → Act → World → Prop} (hgd : o.guard = none) (sl x : Operand)
    (ho : o.op = .call { callee := .builtin .append, args := #[sl, x], argTypes := #[42, 9] })
    (base g n cap : Nat) (xs : List Value) (s : ByteArray) (hs : a.eval sl = .slice (some ⟨g, 0, none⟩) n cap) (hx : a.eval x = .string s) (hown : w.ownsRow base 5 1 (.slice (some ⟨g, 0, none⟩) n cap) n xs) (hbytes : n + s.size ≤ 140737488355328) (hbase : base ≤ w.heap.size)
    (h : ∀ v' w', w'.ownsRow base 5 1 v' (n + s.size) (xs ++ s.data.toList.map ub) → Grew w w' (.slice (some ⟨g, 0, none⟩) n cap) v' → wpList Try.prog ops Q rest (a.put o.dst v') w') : wpList Try.prog ops Q (o :: rest) a w := by
  refine wpList_plain hgd fun K hK => ?_
  obtain ⟨v', w', hr, h2, h3⟩ := run_appStr w base g n cap xs o.type s hown hbytes hbase
  unfold Oper.wp execOp
  simp only [ho, resolve, invoke, builtin, Sem.run_bind, Sem.run_pure, Result.andThen_ok, List.map_toArray, List.map_cons, List.map_nil, hs, hx, hr]
  exact hK _ _ (h v' w' h2 h3)
set_option maxRecDepth 100000 in
theorem len64_16 (w : World) : Calls Try.prog 32 #[.int .u64 65535] w fun e w' => e = .returned (.int .i64 16) ∧ w = w' := by
  go_enter Try.func32, Try.ntmps32
  go_wp2
  go_ret
  exact ⟨by kernel_rfl, rfl⟩
set_option maxHeartbeats 1000000 in
set_option maxRecDepth 100000 in
/-- put of two bytes -/
theorem put16_any (n : Nat) (base : Nat) (v : Value) (m : Nat) (xs : List Value) (w : World) (hown0 : w.ownsRow base 5 1 v m xs) (hm : m ≤ 70368744177664) (hbase : base ≤ w.heap.size) :
    Calls Try.prog 33 #[v, .int .u16 (n : Int)] w fun e w' => ∃ v', e = .returned v' ∧ w'.ownsRow base 5 1 v' (m + 2) (xs ++ (dig 2 n).map ub) ∧ Grew w w' v v' := by
  obtain ⟨i0, hi, hz0, hz1, hz2⟩ := info_parts info5
  go_enter Try.func33, Try.ntmps33
  go_wp2_with (go_at_call 32; refine Calls.mono (len64_16 _) ?_; rintro e w' ⟨rfl, rfl⟩)
  go_loopw [0, 5] (fun v1 i wr => ∃ k : Nat, k ≤ 2 ∧ i = .int .i64 (8 - 8 * (k : Int)) ∧
      wr.ownsRow base 5 1 v1 (m + k) (xs ++ ((dig 2 n).take k).map ub) ∧ Grew w wr v v1)
    (fun _ i _ => (intOf i + 8).toNat)
  case atStart => exact ⟨0, by omega, rfl, by simpa using hown0, Grew.refl _ _⟩
  case round =>
    obtain ⟨k, hk, rfl, hown, hg⟩ := hrel
    have hsz := hg.size
    by_cases h4 : k = 2
    · subst h4
      go_wp2
      go_ret
      refine ⟨_, rfl, ?_, hg⟩
      rwa [List.take_of_length_le (by rw [dig_len]; omega)] at hown
    · obtain ⟨b, hb⟩ : ∃ b, b = UInt8.ofNat (n / 2 ^ (8 - 8 * k)) := ⟨_, rfl⟩
      have e1 : (dig 2 n).take (k + 1) = (dig 2 n).take k ++ [b] := by
        rw [dig_two, hb]
        have : k = 0 ∨ k = 1 := by omega
        rcases this with rfl | rfl <;> simp
      have hq : ((n : Int) / 2 ^ (8 - 8 * (k : Int)).toNat) = ((n / 2 ^ (8 - 8 * k) : Nat) : Int) := by
        rw [show (8 - 8 * (k : Int)).toNat = 8 - 8 * k by omega]; norm_cast
      have hk3 : (k : Int) ≤ 1 := by omega
      have hb8 := hb ▸ u8_nat (n / 2 ^ (8 - 8 * k))
      generalize n / 2 ^ (8 - 8 * k) = N at *
      have HB := hide hb
      clear hb
      have E1 := hide e1
      clear e1
      go_wp2_with (at_builtin; refine wpList_append_own_at _ rfl _ _ 42 rfl base 5 i0 (.int .u8 0) 1 1 Try.underlying42 hi hz0 hz1 hz2 rfl (by decide) _ _ _ rfl (hown.alloc _) ⟨wr.heap.size, 0, none⟩ 1 1 [ub b] rfl rfl (cell_one_new _ _ _) (one_of rfl) (by unfold maxLen; omega) (by omega) (by simp; omega) ?_; intro v1 w2 hown2 hgrow2 hnil2 hat2)
      go_roundw
      case rel =>
        refine ⟨k + 1, by omega, by go_num, ?_, ?_⟩
        · rw [E1.out, List.map_append, ← List.append_assoc]
          exact hown2
        · exact (hg.alloc _).app hgrow2 hat2
      case measure => simp [intOf]; omega
theorem bor16 (a b : Nat) (ha : a < 256) (hb : b < 256) : bits .or .u16 ((a : Int) * 256) (b : Int) = ((a * 256 + b : Nat) : Int) := by
  have hx : 2 ^ 8 * a + b = 2 ^ 8 * a ||| b := Nat.two_pow_add_eq_or_of_lt (by omega) a
  have o : ∀ c : Nat, c < 65536 → (BitVec.ofInt 16 (c : Int)).toNat = c := fun c hc => by
    rw [BitVec.ofInt_natCast, BitVec.toNat_ofNat]; exact Nat.mod_eq_of_lt (by omega)
  show IntKind.u16.wrap ((BitVec.ofInt 16 ((a : Int) * 256) ||| BitVec.ofInt 16 (b : Int)).toNat : Int) = _
  rw [show (a : Int) * 256 = ((256 * a : Nat) : Int) by omega, BitVec.toNat_or, o (256 * a) (by omega), o b (by omega)]
  rw [show 256 * a = 2 ^ 8 * a by omega, ← hx]
  simp [IntKind.wrap, IntKind.signed, IntKind.bits]; omega
set_option maxHeartbeats 1000000 in
set_option maxRecDepth 100000 in
/-- take of at most two bytes -/
theorem take16_any (s : ByteArray) (hs : s.size ≤ 2) (w : World) :
    Calls Try.prog 38 #[.string s] w fun e w' => e = .returned (.int .u16 (val s.data.toList : Int)) ∧ w = w' := by
  go_enter Try.func38, Try.ntmps38
  go_wp2
  go_loopw [3, 7] (fun n i wr => ∃ k : Nat, k ≤ s.size ∧ i = .int .i64 (k : Int) ∧ n = .int .u16 (val (s.data.toList.take k) : Int) ∧ w = wr)
    (fun _ i _ => s.size - (intOf i).toNat)
  case atStart => exact ⟨0, by omega, rfl, rfl, rfl⟩
  case round =>
    obtain ⟨k, hk, rfl, rfl, rfl⟩ := hrel
    by_cases hlt : k < s.size
    · have hx : ∀ w', (Instr.index 9 (.string s) (.int .i64 (k : Int))).run Try.prog w' = .ok (.int .u8 (s[k].toNat : Int)) w' := fun w' => ix_str w' s k hlt
      have hX : s[k].toNat < 256 := s[k].toNat_lt
      have hv := val_take s.data.toList k (by rw [size_data]; exact hlt)
      rw [show s.data.toList[k]'(by rw [size_data]; exact hlt) = s[k] from rfl] at hv
      have hN : val (s.data.toList.take k) < 256 := by
        refine Nat.lt_of_lt_of_le (val_lt _) ?_
        rw [List.length_take, size_data, Nat.min_eq_left hk]
        exact Nat.pow_le_pow_right (by omega) (show k ≤ 1 by omega)
      generalize s[k].toNat = X at *
      generalize val (s.data.toList.take k) = N at *
      have HV := hide hv
      clear hv
      have hor := bor16 N X hN hX
      go_wp2
      go_roundw
      case rel => exact ⟨k + 1, by omega, by go_num, by rw [HV.out]; norm_cast, trivial⟩
      case measure => simp [intOf]; omega
    · obtain rfl : k = s.size := by omega
      go_wp2
      go_ret
      rw [List.take_of_length_le (by simp)]
      exact ⟨rfl, rfl⟩
end Go.Proofs.Ytfmmfophdfjopaa
namespace Go.Proofs.Ytfmmfophdfjopaa
open Go.RowKit
theorem row_some {w : World} {base : Nat} {v : Value} {n : Nat} {xs : List Value} (h : w.ownsRow base 5 1 v n xs) (hn : 0 < n) : ∃ g cap, v = .slice (some ⟨g, 0, none⟩) n cap ∧ base ≤ g := by
  rcases h.2 with ⟨_, h0⟩ | ⟨g, cap, cur, rfl, hg, _⟩
  · omega
  · exact ⟨g, cap, rfl, hg⟩
theorem Grew.cell {w w' : World} {v v' : Value} (h : Grew w w' v v') {b : Nat} (j : Nat) (hb : b < w.heap.size) (hne : v.ownBlock ≠ some b) : w'.cell? ⟨b, j, none⟩ = w.cell? ⟨b, j, none⟩ :=
  World.cell?_of_block (h.by'.block b hb (fun e => hne e.symm))
theorem LiesP.grew {b off : Nat} {w w' : World} {v v' : Value} {ps : List KV} (h : LiesP b off w ps) (hg : Grew w w' v v') (hb : b < w.heap.size) (hne : v.ownBlock ≠ some b) : LiesP b off w' ps := fun i hi => by
  rw [hg.cell _ hb hne, hg.cell _ hb hne]; exact h i hi
theorem Grew.ne {w w' : World} {v v' : Value} (h : Grew w w' v v') {b : Nat} (hb : b < w.heap.size) (hne : v.ownBlock ≠ some b) : v'.ownBlock ≠ some b := by
  rcases h.at' with e | ⟨k, e, hk⟩
  · rw [e]; exact hne
  · rw [e]; intro h; injection h with h; omega
theorem own_ne {w : World} {base b : Nat} {v : Value} {n : Nat} {xs : List Value} {e sz : Nat} (h : w.ownsRow base e sz v n xs) (hb : b < base) : v.ownBlock ≠ some b := fun he => by
  have := (h.lt b he).1; omega
theorem own_ne' {w : World} {base b : Nat} {v : Value} {n : Nat} {xs : List Value} {e sz : Nat} (h : w.ownsRow base e sz v n xs) (hb : w.heap.size ≤ b) : v.ownBlock ≠ some b := fun he => by
  have := (h.lt b he).2; omega
theorem u16_in {x : Int} (h0 : 0 ≤ x) (h1 : x < 65536) : IntKind.u16.wrap x = x := by
  simp [IntKind.wrap, IntKind.signed, IntKind.bits]; omega
set_option maxHeartbeats 2000000 in
set_option maxRecDepth 100000 in
/-- write -/
theorem write_any (base : Nat) (v : Value) (m : Nat) (xs : List Value) (ao : Option Addr) (b off cap : Nat) (ps : List KV) (w : World) (hown0 : w.ownsRow base 5 1 v m xs) (hm : m ≤ 1099511627776) (hbase : base ≤ w.heap.size)
    (hao : 0 < ps.length → ao = some ⟨b, off, none⟩) (hb : 0 < ps.length → b < base) (hlen : ps.length ≤ 512) (hsm : ∀ i (h : i < ps.length), ps[i].1.size ≤ 255 ∧ ps[i].2.size ≤ 4096) (hl : LiesP b off w ps) :
    Calls Try.prog 23 #[v, .slice ao ps.length cap] w fun e w' => ∃ v', e = .returned v' ∧ w'.ownsRow base 5 1 v' (m + (2 + sizeL ps)) (xs ++ (recL ps).map ub) ∧ Grew w w' v v' := by
  have P0 := hide (put16_any ps.length base v m xs w hown0 (by omega) hbase)
  have hu : IntKind.u16.wrap (ps.length : Int) = (ps.length : Int) := u16_in (by omega) (by omega)
  go_enter Try.func23, Try.ntmps23
  go_wp2_with fail
  refine Calls.mono P0.out ?_
  rintro e w1 ⟨v1, rfl, hown1, hg1⟩
  go_wp2_with fail
  go_loopw [0, 14] (fun vr i wr => ∃ k : Nat, k ≤ ps.length ∧ i = .int .i64 (k : Int) ∧ wr.ownsRow base 5 1 vr (m + (2 + sizeL (ps.take k))) (xs ++ (dig 2 ps.length ++ bodyL (ps.take k)).map ub) ∧ Grew w wr v vr)
    (fun _ i _ => ps.length - (intOf i).toNat)
  case atStart => exact ⟨0, by omega, rfl, by simpa [sizeL, bodyL] using hown1, hg1⟩
  case round =>
    obtain ⟨k, hk, rfl, hown, hg⟩ := hrel
    have hsz := hg.size
    by_cases hlt : k < ps.length
    · have hpos : 0 < ps.length := by omega
      obtain rfl := hao hpos
      have hbb := hb hpos
      have hne := own_ne hown0 hbb
      obtain ⟨g0, g1⟩ := hl.grew hg (by omega) hne k hlt
      have hz : sizeL (ps.take k) ≤ k * 4357 := by
        have : ∀ j, j ≤ ps.length → sizeL (ps.take j) ≤ j * 4357 := fun j => by
          induction j with
          | zero => intro _; simp [sizeL]
          | succ j ih =>
            intro hj
            rw [sizeL_take ps j (by omega)]
            have := ih (by omega)
            have := hsm j (by omega)
            omega
        exact this k hk
      have hs := hsm k hlt
      have hT := sizeL_take ps k hlt
      have hB := bodyL_take ps k hlt
      have hki : (k : Int) < (ps.length : Int) := by omega
      unfold pairL at hB
      generalize ps[k].1 = K1 at *
      generalize ps[k].2 = V1 at *
      have HT := hide hT
      have HB := hide hB
      clear hT hB
      generalize sizeL (ps.take k) = Z at *
      generalize hXS : xs ++ (dig 2 ps.length ++ bodyL (ps.take k)).map ub = XS at *
      have HXS := hide hXS
      clear hXS
      have hun1 : IntKind.u16.wrap (K1.size : Int) = (K1.size : Int) := u16_in (by omega) (by omega)
      have hun2 : IntKind.u32.wrap (V1.size : Int) = (V1.size : Int) := u32_in (by omega) (by omega)
      have HOWN := hide hown
      have HG := hide hg
      have HL := hide hl
      have HSM := hide hsm
      clear hl hsm hg hao hb hown1 hg1
      obtain ⟨WA, hWA⟩ : ∃ WA, WA = wr.alloc (.cells #[.string K1, .string V1] 55) := ⟨_, rfl⟩
      have hWAs : WA.heap.size = wr.heap.size + 1 := by rw [hWA]; simp
      have c0 : WA.cell? ⟨wr.heap.size, 0, none⟩ = some (.string K1) := by rw [hWA]; simp
      have c1 : WA.cell? ⟨wr.heap.size, 1, none⟩ = some (.string V1) := by rw [hWA]; simp
      have oA : WA.ownsRow base 5 1 u0 (m + (2 + Z)) XS := by rw [hWA]; exact hown.alloc _
      have gA : Grew w WA v u0 := by rw [hWA]; exact HG.out.alloc _
      have nA : u0.ownBlock ≠ some wr.heap.size := own_ne' hown (Nat.le_refl _)
      clear hown
      have OA := hide oA
      have GA := hide gA
      have NA := hide nA
      clear oA gA nA
      have C1 := hide (put16_any K1.size base u0 (m + (2 + Z)) XS WA OA.out (by omega) (by omega))
      go_wp2_with fail
      rw [← hWA]
      refine Calls.mono C1.out ?_
      rintro e w2 ⟨v2, rfl, o2, G2⟩
      have c20 : w2.cell? ⟨wr.heap.size, 0, none⟩ = some (.string K1) := by rw [G2.cell _ (by omega) NA.out]; exact c0
      have c21 : w2.cell? ⟨wr.heap.size, 1, none⟩ = some (.string V1) := by rw [G2.cell _ (by omega) NA.out]; exact c1
      have n2 := G2.ne (b := wr.heap.size) (by omega) NA.out
      have s2 := G2.size
      have C2 := hide (put32_any V1.size base v2 _ _ w2 o2 (by omega) (by omega))
      have GG2 := hide (GA.out.trans G2)
      have N2 := hide n2
      clear o2 G2 n2
      go_wp2_with fail
      refine Calls.mono C2.out ?_
      rintro e w3 ⟨v3, rfl, o3, G3⟩
      have c30 : w3.cell? ⟨wr.heap.size, 0, none⟩ = some (.string K1) := by rw [G3.cell _ (by omega) N2.out]; exact c20
      have c31 : w3.cell? ⟨wr.heap.size, 1, none⟩ = some (.string V1) := by rw [G3.cell _ (by omega) N2.out]; exact c21
      have n3 := G3.ne (b := wr.heap.size) (by omega) N2.out
      have s3 := G3.size
      obtain ⟨g3, cap3, rfl, hg3⟩ := row_some o3 (by omega)
      have GG3 := hide (GG2.out.trans G3)
      have N3 := hide n3
      have O3 := hide o3
      clear o3 G3 n3
      go_wp2_with (first
        | (at_builtin; refine wpList_appStr rfl _ _ rfl base g3 _ cap3 _ K1 rfl rfl O3.out (by omega) (by omega) ?_; intro v4 w4 o4 G4; obtain ⟨g4, cap4, rfl, hg4⟩ := row_some o4 (by omega); have c41 : w4.cell? ⟨wr.heap.size, 1, none⟩ = some (.string V1) := (G4.cell _ (by omega) N3.out).trans c31; have s4 := G4.size; have GG4 := hide (GG3.out.trans G4); have O4 := hide o4; clear o4 G4)
        | (at_builtin; refine wpList_appStr rfl _ _ rfl base g4 _ cap4 _ V1 rfl rfl O4.out (by omega) (by omega) ?_; intro v5 w5 o5 G5; have GG5 := hide (GG4.out.trans G5); have O5 := hide o5; clear o5 G5))
      go_roundw
      case rel =>
        refine ⟨k + 1, by omega, by go_num, ?_, GG5.out⟩
        have := O5.out
        rw [HT.out, HB.out]
        rw [← HXS.out] at this
        rw [show m + (2 + (Z + (6 + K1.size + V1.size))) = m + (2 + Z) + 2 + 4 + K1.size + V1.size by omega]
        simp only [List.map_append, List.append_assoc] at this ⊢
        exact this
      case measure => simp [intOf]; omega
    · obtain rfl : k = ps.length := by omega
      rw [List.take_length] at hown
      have HOWN := hide hown
      have HG := hide hg
      clear hown hg hl hsm
      go_wp2
      go_ret
      exact ⟨_, rfl, HOWN.out, HG.out⟩
theorem fine {ps : List KV} (h : errL ps = 0) : ps.length ≤ 512 ∧ 0 < ps.length ∧ 2 + sizeL ps ≤ 65536 ∧ ∀ i (h : i < ps.length), ps[i].1.size ≤ 255 ∧ ps[i].2.size ≤ 4096 := by
  by_cases hg : ps.length = 0 ∨ 512 < ps.length
  · rw [(wrong_group hg).2] at h; omega
  · have hall : ∀ j, j < ps.length → badAt ps j = 0 := by
      intro j
      induction j using Nat.strongRecOn with
      | ind j ih =>
        intro hj
        by_cases hb : badAt ps j = 0
        · exact hb
        · have := (wrong_at hg hj (fun i hi => ih i hi (by omega)) hb).2
          rw [h] at this
          exact this.symm
    have e := (wrong_none hg hall).2
    rw [h] at e
    refine ⟨by omega, by omega, ?_, fun i hi => ⟨(badAt_small hi (hall i hi)).2.1, (badAt_small hi (hall i hi)).2.2⟩⟩
    by_cases hz : 65536 < 2 + sizeL ps
    · rw [if_pos hz] at e; omega
    · omega
/-- what both Records answer -/
def recS (ps : List KV) : ByteArray := if errL ps = 0 then strOf (recL ps) else ⟨#[]⟩
theorem recS_ok {ps : List KV} (h : errL ps = 0) : recS ps = strOf (recL ps) := by unfold recS; rw [if_pos h]
theorem recS_bad {ps : List KV} (h : errL ps ≠ 0) : recS ps = ⟨#[]⟩ := by unfold recS; rw [if_neg h]
set_option maxHeartbeats 2000000 in
set_option maxRecDepth 100000 in
/-- Record -/
theorem record_any (ao : Option Addr) (b off cap : Nat) (ps : List KV) (w : World) (hao : 0 < ps.length → ao = some ⟨b, off, none⟩) (hb : 0 < ps.length → b < w.heap.size) (hlen : ps.length ≤ 1099511627776000) (hl : LiesP b off w ps) :
    Calls Try.prog 27 #[.slice ao ps.length cap] w fun e w' => e = .returned (.tuple #[.string (recS ps), .int .i64 (errL ps)]) ∧ Below w.heap.size w w' := by
  have W := hide (weigh_any ao b off cap ps w hao hb hlen hl)
  by_cases he : errL ps = 0
  · obtain ⟨h5, hpos, hz, hsm⟩ := fine he
    obtain ⟨i0, hi, hz0, hz1, hz2⟩ := info_parts info5
    rw [he, recS_ok he]
    rw [wSize_ok he, he] at W
    obtain rfl := hao hpos
    have hb' := hb hpos
    have hlen2 := recL_len ps
    have HSM := hide hsm
    have HL := hide hl
    clear hsm hl hao hb he
    generalize sizeL ps = Z at *
    go_enter Try.func27, Try.ntmps27
    go_wp2_with fail
    refine Calls.mono W.out ?_
    rintro e w1 ⟨rfl, hb1⟩
    have s1 := hb1.size
    go_wp2_with (at_make; refine wpList_make_own _ rfl _ _ 42 rfl w1.heap.size 5 i0 (.int .u8 0) 1 Try.underlying42 hi hz0 hz1 _ _ _ (2 + Z) rfl rfl (by omega) (by rw [hz2]; omega) (by unfold maxLen; omega) (Nat.le_refl _) ?_)
    intro w2 hown2 hgrow2
    have B2 : Below w1.heap.size w1 w2 := (Below.refl _ w1).grown hgrow2 (Nat.le_refl _) (by simp)
    have B12 := hb1.trans (B2.mono s1)
    have s2 := B2.size
    have C := hide (write_any w1.heap.size _ 0 [] (some ⟨b, off, none⟩) b off cap ps w2 hown2 (by omega) s2 (fun _ => rfl) (fun _ => by omega) h5 HSM.out (HL.out.below hb' B12))
    go_wp2_with fail
    refine Calls.mono C.out ?_
    rintro e w3 ⟨v3, rfl, o3, G3⟩
    have hc := own_conv (P := Try.prog) (src := 42) (dst := 9) (l := recL ps) o3 (by rw [recL_len]; omega) Try.underlying42 Try.underlying5 Try.underlying9
    have B3 := B12.trans (G3.below (B := w.heap.size) (by omega) (fun k hk => by have := (hown2.lt k hk).1; omega))
    have HB3 := hide B3
    clear B3 G3 o3 hown2 hgrow2
    go_wp2
    go_ret2
    exact ⟨rfl, HB3.out⟩
  · have HE := hide he
    rw [recS_bad he]
    rw [wSize_bad he] at W
    have hne : (errL ps != 0) = true := by simpa using he
    clear hl hao hb
    generalize errL ps = E at *
    clear he
    go_enter Try.func27, Try.ntmps27
    go_wp2_with fail
    refine Calls.mono W.out ?_
    rintro e w1 ⟨rfl, hb1⟩
    go_wp2_with fail
    go_ret2
    exact ⟨rfl, hb1⟩
end Go.Proofs.Ytfmmfophdfjopaa
