import Derived.Test.YtjibhdcnibgegaaRnTake
import Derived.Test.YtjibhdcnibgegaaRpPlain
namespace Go.Proofs.Ytjibhdcnibgegaa
open Go.RowKit
set_option maxRecDepth 100000 in
theorem cmpString_any (a b : ByteArray) (w : World) :
    Calls Try.prog 66 #[.string a, .string b] w fun e w' => e = .returned (.int .i64 (Lib.compareBytes a.data.toList b.data.toList)) ∧ w = w' := by
  go_enter Try.func66, Try.ntmps66
  go_wp2
  rw [run_callFunc_extern Try.func67 (by kernel_rfl) (by kernel_rfl) (by kernel_rfl) (e := Extern.BytealgCompare.compare) (by kernel_rfl), Lib.run_compareString]
  simp only [Result.andThen]
  rw [Oper.upon_value]
  go_wp2
  go_ret
  exact ⟨rfl, rfl⟩
set_option maxRecDepth 100000 in
theorem compare_any (a b : ByteArray) (w : World) :
    Calls Try.prog 62 #[.string a, .string b] w fun e w' => e = .returned (.int .i64 (if a = b then 0 else if lessS a b then -1 else 1)) ∧ w = w' := by
  rw [← cmpS]
  go_enter Try.func62, Try.ntmps62
  go_wp2_with fail
  refine Calls.mono (cmpString_any _ _ _) ?_
  rintro e w' ⟨rfl, rfl⟩
  go_wp2
  go_ret
  exact ⟨rfl, rfl⟩
set_option maxRecDepth 100000 in
theorem isKey_any (k : ByteArray) (w : World) : Calls Try.prog 47 #[.string k] w fun e w' => e = .returned (.bool (decide (1 ≤ k.size ∧ k.size ≤ 255))) ∧ w = w' := by
  go_enter Try.func47, Try.ntmps47
  go_wp2
  all_goals go_ret
  all_goals refine ⟨ret_bool ?_, rfl⟩
  · rw [decide_eq_decide]; omega
  · symm; rw [Bool.and_eq_false_iff, decide_eq_false_iff_not]; omega
set_option maxRecDepth 100000 in
theorem pairKey_any (k v : ByteArray) (w : World) : Calls Try.prog 51 #[.agg #[.string k, .string v]] w fun e w' => e = .returned (.string k) ∧ Below w.heap.size w w' := by
  go_enter Try.func51, Try.ntmps51
  go_wp2
  go_ret
  refine ⟨rfl, ?_⟩
  first | exact Below.refl _ _ | exact (Below.refl _ w).alloc (Nat.le_refl _) _
/-- pairs lie in a row -/
def LiesP (b off : Nat) (w : World) (ps : List KV) : Prop := ∀ i (h : i < ps.length), w.cell? ⟨b, off + i * 2, none⟩ = some (.string ps[i].1) ∧ w.cell? ⟨b, off + i * 2 + 1, none⟩ = some (.string ps[i].2)
set_option maxHeartbeats 1000000 in
set_option maxRecDepth 100000 in
set_option linter.unusedSimpArgs false in
/-- rise of pairs -/
theorem riseP_any (ao : Option Addr) (b off cap : Nat) (ps : List KV) (i : Nat) (w : World) (hi : i < ps.length) (hlen : ps.length ≤ 1099511627776000) (hao : ao = some ⟨b, off, none⟩) (hb : b < w.heap.size) (hl : LiesP b off w ps) :
    Calls Try.prog 65 #[.slice ao ps.length cap, .int .i64 (i : Int), .func (.func 51) #[] #[]] w fun e w' => e = .returned (.int .i64 (if i = 0 then 1 else if ps[i].1 = (ps.getD (i - 1) default).1 then 0 else if lessS ps[i].1 (ps.getD (i - 1) default).1 then -1 else 1)) ∧ Below w.heap.size w w' := by
  subst hao
  by_cases h0 : i = 0
  · subst h0
    go_enter Try.func65, Try.ntmps65
    go_wp2
    go_ret
    exact ⟨rfl, Below.refl _ _⟩
  · obtain ⟨j, rfl⟩ : ∃ j, i = j + 1 := ⟨i - 1, by omega⟩
    have hj : j < ps.length := by omega
    obtain ⟨g0, g1⟩ := hl (j + 1) hi
    obtain ⟨g2, g3⟩ := hl j hj
    rw [if_neg h0, show j + 1 - 1 = j by omega, List.getD_eq_getElem?_getD, List.getElem?_eq_getElem hj, Option.getD_some]
    have HS : Hid (∀ w', Below w.heap.size w w' → w'.cell? ⟨b, off + (j + 1) * 2, none⟩ = some (.string ps[j + 1].1) ∧ w'.cell? ⟨b, off + (j + 1) * 2 + 1, none⟩ = some (.string ps[j + 1].2) ∧ w'.cell? ⟨b, off + j * 2, none⟩ = some (.string ps[j].1) ∧ w'.cell? ⟨b, off + j * 2 + 1, none⟩ = some (.string ps[j].2)) := fun w' hw => by
      rw [hw.cell (by exact hb), hw.cell (by exact hb), hw.cell (by exact hb), hw.cell (by exact hb)]
      exact ⟨g0, g1, g2, g3⟩
    clear g0 g1 g2 g3 hl
    generalize ps[j + 1].1 = K1 at *
    generalize ps[j + 1].2 = V1 at *
    generalize ps[j].1 = K0 at *
    generalize ps[j].2 = V0 at *
    have hil : ((j + 1 : Nat) : Int) < (ps.length : Int) := by omega
    generalize ps.length = N at *
    clear h0
    have CM := hide (fun w' => compare_any K1 K0 w')
    generalize (if K1 = K0 then (0 : Int) else if lessS K1 K0 = true then -1 else 1) = Z at *
    have hz : (((j + 1 : Nat) : Int) == 0) = false := by simp; omega
    go_enter Try.func65, Try.ntmps65
    go_wp2
    refine wp_region_held_drew (S := fun w' => w'.cell? ⟨b, off + (j + 1) * 2, none⟩ = some (.string K1) ∧ w'.cell? ⟨b, off + (j + 1) * 2 + 1, none⟩ = some (.string V1) ∧ w'.cell? ⟨b, off + j * 2, none⟩ = some (.string K0) ∧ w'.cell? ⟨b, off + j * 2 + 1, none⟩ = some (.string V0)) (by kernel_rfl) (HS.out _ (Below.refl _ _).drew) (fun hHeld => ?_)
    refine wpAnyH_take (i := 0) (v := (.func (.func 51) #[] #[])) rfl (by kernel_rfl) (by kernel_rfl) (by kernel_rfl) (fun _ _ _ h => h) (Or.inl ⟨by rfl, ?_⟩) (by assumption) ?_
    · intro w' hSw
      (try dsimp only at hSw)
      go_simp <;> first | exact i64_in (by omega) (by omega) | exact u32_in (by omega) (by omega) | exact u32_add _ _ | (rw [Int.tmod_eq_emod_of_nonneg (by omega)]; omega) | (rw [Int.tdiv_eq_ediv_of_nonneg (by omega)]; omega) | omega
    (try simp only [Act.put, List.setIfInBounds_toArray, List.set_cons_zero, List.set_cons_succ])
    refine wpAnyH_take (i := 1) (v := (.slice (some ⟨b, off, none⟩) N cap)) rfl (by kernel_rfl) (by kernel_rfl) (by kernel_rfl) (fun _ _ _ h => h) (Or.inl ⟨by rfl, ?_⟩) (by assumption) ?_
    · intro w' hSw
      (try dsimp only at hSw)
      go_simp <;> first | exact i64_in (by omega) (by omega) | exact u32_in (by omega) (by omega) | exact u32_add _ _ | (rw [Int.tmod_eq_emod_of_nonneg (by omega)]; omega) | (rw [Int.tdiv_eq_ediv_of_nonneg (by omega)]; omega) | omega
    (try simp only [Act.put, List.setIfInBounds_toArray, List.set_cons_zero, List.set_cons_succ])
    refine wpAnyH_take (i := 2) (v := (.int .i64 ((j + 1 : Nat) : Int))) rfl (by kernel_rfl) (by kernel_rfl) (by kernel_rfl) (fun _ _ _ h => h) (Or.inl ⟨by rfl, ?_⟩) (by assumption) ?_
    · intro w' hSw
      (try dsimp only at hSw)
      go_simp <;> first | exact i64_in (by omega) (by omega) | exact u32_in (by omega) (by omega) | exact u32_add _ _ | (rw [Int.tmod_eq_emod_of_nonneg (by omega)]; omega) | (rw [Int.tdiv_eq_ediv_of_nonneg (by omega)]; omega) | omega
    (try simp only [Act.put, List.setIfInBounds_toArray, List.set_cons_zero, List.set_cons_succ])
    refine wpAnyH_take (i := 3) (v := (.pointer (some ⟨b, off + (j + 1) * 2, none⟩))) rfl (by kernel_rfl) (by kernel_rfl) (by kernel_rfl) (fun _ _ _ h => h) (Or.inl ⟨by rfl, ?_⟩) (by assumption) ?_
    · intro w' hSw
      (try dsimp only at hSw)
      go_simp <;> first | exact i64_in (by omega) (by omega) | exact u32_in (by omega) (by omega) | exact u32_add _ _ | (rw [Int.tmod_eq_emod_of_nonneg (by omega)]; omega) | (rw [Int.tdiv_eq_ediv_of_nonneg (by omega)]; omega) | omega
    (try simp only [Act.put, List.setIfInBounds_toArray, List.set_cons_zero, List.set_cons_succ])
    refine wpAnyH_take (i := 4) (v := (.agg #[.string K1, .string V1])) rfl (by kernel_rfl) (by kernel_rfl) (by kernel_rfl) (fun _ _ _ h => h) (Or.inl ⟨by rfl, ?_⟩) (by assumption) ?_
    · intro w' hSw
      (try dsimp only at hSw)
      (obtain ⟨hS1, hS2, hS3, hS4⟩ := hSw; go_simp)
    (try simp only [Act.put, List.setIfInBounds_toArray, List.set_cons_zero, List.set_cons_succ])
    refine wpAnyH_take (i := 6) (v := (.func (.func 51) #[] #[])) rfl (by kernel_rfl) (by kernel_rfl) (by kernel_rfl) (fun _ _ _ h => h) (Or.inl ⟨by rfl, ?_⟩) (by assumption) ?_
    · intro w' hSw
      (try dsimp only at hSw)
      go_simp <;> first | exact i64_in (by omega) (by omega) | exact u32_in (by omega) (by omega) | exact u32_add _ _ | (rw [Int.tmod_eq_emod_of_nonneg (by omega)]; omega) | (rw [Int.tdiv_eq_ediv_of_nonneg (by omega)]; omega) | omega
    (try simp only [Act.put, List.setIfInBounds_toArray, List.set_cons_zero, List.set_cons_succ])
    refine wpAnyH_take (i := 7) (v := (.slice (some ⟨b, off, none⟩) N cap)) rfl (by kernel_rfl) (by kernel_rfl) (by kernel_rfl) (fun _ _ _ h => h) (Or.inl ⟨by rfl, ?_⟩) (by assumption) ?_
    · intro w' hSw
      (try dsimp only at hSw)
      go_simp <;> first | exact i64_in (by omega) (by omega) | exact u32_in (by omega) (by omega) | exact u32_add _ _ | (rw [Int.tmod_eq_emod_of_nonneg (by omega)]; omega) | (rw [Int.tdiv_eq_ediv_of_nonneg (by omega)]; omega) | omega
    (try simp only [Act.put, List.setIfInBounds_toArray, List.set_cons_zero, List.set_cons_succ])
    refine wpAnyH_take (i := 8) (v := (.int .i64 ((j + 1 : Nat) : Int))) rfl (by kernel_rfl) (by kernel_rfl) (by kernel_rfl) (fun _ _ _ h => h) (Or.inl ⟨by rfl, ?_⟩) (by assumption) ?_
    · intro w' hSw
      (try dsimp only at hSw)
      go_simp <;> first | exact i64_in (by omega) (by omega) | exact u32_in (by omega) (by omega) | exact u32_add _ _ | (rw [Int.tmod_eq_emod_of_nonneg (by omega)]; omega) | (rw [Int.tdiv_eq_ediv_of_nonneg (by omega)]; omega) | omega
    (try simp only [Act.put, List.setIfInBounds_toArray, List.set_cons_zero, List.set_cons_succ])
    refine wpAnyH_take (i := 9) (v := (.int .i64 (j : Int))) rfl (by kernel_rfl) (by kernel_rfl) (by kernel_rfl) (fun _ _ _ h => h) (Or.inl ⟨by rfl, ?_⟩) (by assumption) ?_
    · intro w' hSw
      (try dsimp only at hSw)
      go_simp <;> first | exact i64_in (by omega) (by omega) | exact u32_in (by omega) (by omega) | exact u32_add _ _ | (rw [Int.tmod_eq_emod_of_nonneg (by omega)]; omega) | (rw [Int.tdiv_eq_ediv_of_nonneg (by omega)]; omega) | omega
    (try simp only [Act.put, List.setIfInBounds_toArray, List.set_cons_zero, List.set_cons_succ])
    refine wpAnyH_take (i := 10) (v := (.pointer (some ⟨b, off + j * 2, none⟩))) rfl (by kernel_rfl) (by kernel_rfl) (by kernel_rfl) (fun _ _ _ h => h) (Or.inl ⟨by rfl, ?_⟩) (by assumption) ?_
    · intro w' hSw
      (try dsimp only at hSw)
      go_simp <;> first | exact i64_in (by omega) (by omega) | exact u32_in (by omega) (by omega) | exact u32_add _ _ | (rw [Int.tmod_eq_emod_of_nonneg (by omega)]; omega) | (rw [Int.tdiv_eq_ediv_of_nonneg (by omega)]; omega) | omega
    (try simp only [Act.put, List.setIfInBounds_toArray, List.set_cons_zero, List.set_cons_succ])
    refine wpAnyH_take (i := 11) (v := (.agg #[.string K0, .string V0])) rfl (by kernel_rfl) (by kernel_rfl) (by kernel_rfl) (fun _ _ _ h => h) (Or.inl ⟨by rfl, ?_⟩) (by assumption) ?_
    · intro w' hSw
      (try dsimp only at hSw)
      (obtain ⟨hS1, hS2, hS3, hS4⟩ := hSw; go_simp)
    (try simp only [Act.put, List.setIfInBounds_toArray, List.set_cons_zero, List.set_cons_succ])
    refine wpAnyH_ready (rs := [5]) (by kernel_rfl) (by simp) ?_
    refine AllReadyH.cons rfl (fun K hK => ?_) AllReadyH.nil
    go_simp
    refine Calls.mono (pairKey_any _ _ _) ?_
    rintro e w1 ⟨rfl, hb1⟩
    have B1 := (Below.refl w.heap.size w).drew.trans hb1
    refine hK.out _ _ (HS.out _ B1) (fun hHeld => ?_)
    clear hK K
    (try simp only [Act.put, List.setIfInBounds_toArray, List.set_cons_zero, List.set_cons_succ])
    refine wpAnyH_ready (rs := [12]) (by kernel_rfl) (by simp) ?_
    refine AllReadyH.cons rfl (fun K hK => ?_) AllReadyH.nil
    go_simp
    refine Calls.mono (pairKey_any _ _ _) ?_
    rintro e w2 ⟨rfl, hb2⟩
    have B2 := B1.trans (hb2.mono B1.size)
    refine hK.out _ _ (HS.out _ B2) (fun hHeld => ?_)
    clear hK K
    (try simp only [Act.put, List.setIfInBounds_toArray, List.set_cons_zero, List.set_cons_succ])
    refine wpAnyH_ready (rs := [13]) (by kernel_rfl) (by simp) ?_
    refine AllReadyH.cons rfl (fun K hK => ?_) AllReadyH.nil
    go_simp
    refine Calls.mono (CM.out _) ?_
    rintro e w3 ⟨rfl, rfl⟩
    refine hK.out _ _ (HS.out _ B2) (fun hHeld => ?_)
    clear hK K
    (try simp only [Act.put, List.setIfInBounds_toArray, List.set_cons_zero, List.set_cons_succ])
    refine wpAnyH_ready (rs := [14]) (by kernel_rfl) (by simp) ?_
    refine AllReadyH.cons rfl (fun K hK => ?_) AllReadyH.nil
    go_simp
    refine hK.out _ _ hHeld (fun hHeld => ?_)
    clear hK K
    (try simp only [Act.put, List.setIfInBounds_toArray, List.set_cons_zero, List.set_cons_succ])
    refine wpAnyH_done (by kernel_rfl) ?_ _
    go_wp2
    go_ret
    exact ⟨rfl, B2⟩
theorem LiesP.below {b off : Nat} {w w' : World} {ps : List KV} (h : LiesP b off w ps) (hb : b < w.heap.size) (hw : Below w.heap.size w w') : LiesP b off w' ps := fun i hi => by
  rw [hw.cell (by exact hb), hw.cell (by exact hb)]; exact h i hi
theorem ne0 {n : Nat} (h : 0 < n) : ((n : Int) == 0) = false := by
  rw [beq_eq_false_iff_ne]; omega
theorem getD_at {ps : List KV} {i : Nat} (hi : i < ps.length) : ps.getD i default = ps[i] := by
  rw [List.getD_eq_getElem?_getD, List.getElem?_eq_getElem hi, Option.getD_some]
set_option maxHeartbeats 1000000 in
set_option maxRecDepth 100000 in
/-- checkPair -/
theorem checkPair_any (b off cap : Nat) (ps : List KV) (i : Nat) (w : World) (hi : i < ps.length) (hlen : ps.length ≤ 1099511627776000) (hb : b < w.heap.size) (hl : LiesP b off w ps) :
    Calls Try.prog 56 #[.slice (some ⟨b, off, none⟩) ps.length cap, .int .i64 (i : Int)] w fun e w' => e = .returned (.int .i64 (badAt ps i)) ∧ Below w.heap.size w w' := by
  have R := hide (fun w' (hw : Below w.heap.size w w') => riseP_any (some ⟨b, off, none⟩) b off cap ps i w' hi hlen rfl (Nat.lt_of_lt_of_le hb hw.size) (hl.below hb hw))
  obtain ⟨g0, g1⟩ := hl i hi
  unfold badAt badP
  rw [getD_at hi]
  have hil : (i : Int) < (ps.length : Int) := by omega
  by_cases h1 : ps[i].1.size = 0 ∨ 255 < ps[i].1.size
  · rw [if_pos h1]
    have hk : decide (1 ≤ ps[i].1.size ∧ ps[i].1.size ≤ 255) = false := by rw [decide_eq_false_iff_not]; omega
    clear h1 R hl
    generalize ps[i].1 = K1 at *
    generalize ps[i].2 = V1 at *
    generalize ps.length = N at *
    go_enter Try.func56, Try.ntmps56
    go_wp2_with fail
    refine Calls.mono (isKey_any _ _) ?_
    rintro e w' ⟨rfl, rfl⟩
    go_wp2
    go_ret
    exact ⟨rfl, Below.refl _ _⟩
  · rw [if_neg h1]
    have hk : decide (1 ≤ ps[i].1.size ∧ ps[i].1.size ≤ 255) = true := by rw [decide_eq_true_eq]; omega
    clear h1
    by_cases h2 : 4096 < ps[i].2.size
    · rw [if_pos h2]
      have h2' : (4096 : Int) < (ps[i].2.size : Int) := by omega
      clear R hl h2
      generalize ps[i].1 = K1 at *
      generalize ps[i].2 = V1 at *
      generalize ps.length = N at *
      go_enter Try.func56, Try.ntmps56
      go_wp2_with fail
      refine Calls.mono (isKey_any _ _) ?_
      rintro e w' ⟨rfl, rfl⟩
      go_wp2
      go_ret
      exact ⟨rfl, Below.refl _ _⟩
    · rw [if_neg h2]
      have h2' : (ps[i].2.size : Int) ≤ 4096 := by omega
      clear h2 hl
      obtain ⟨Z, hZ⟩ : ∃ Z : Int, Z = if i = 0 then 1 else if ps[i].1 = (ps.getD (i - 1) default).1 then 0 else if lessS ps[i].1 (ps.getD (i - 1) default).1 then -1 else 1 := ⟨_, rfl⟩
      rw [← hZ] at R
      have hE : badQ (if i = 0 then (none : Option ByteArray) else some (ps.getD (i - 1) default).1) ps[i].1 = if Z = 0 then 35 else if Z < 0 then 37 else 0 := by
        rw [hZ]
        by_cases h0 : i = 0
        · rw [if_pos h0, if_pos h0]; rfl
        · rw [if_neg h0, if_neg h0, badQ]
          by_cases h3 : ps[i].1 = (ps.getD (i - 1) default).1
          · rw [if_pos h3, if_pos h3]; rfl
          · rw [if_neg h3, if_neg h3]
            by_cases h4 : lessS ps[i].1 (ps.getD (i - 1) default).1 = true
            · rw [if_pos h4, if_pos h4]; rfl
            · rw [if_neg h4, if_neg h4]; rfl
      rw [hE]
      clear hE hZ
      obtain ⟨E, hE⟩ : ∃ E : Int, E = if Z = 0 then 35 else if Z < 0 then 37 else 0 := ⟨_, rfl⟩
      rw [← hE]
      have HE := hide hE
      clear hE
      generalize ps[i].1 = K1 at *
      generalize ps[i].2 = V1 at *
      generalize ps.length = N at *
      go_enter Try.func56, Try.ntmps56
      go_wp2_with fail
      refine Calls.mono (isKey_any _ _) ?_
      rintro e w' ⟨rfl, rfl⟩
      go_wp2_with fail
      refine Calls.mono (R.out w (Below.refl _ _)) ?_
      rintro e w1 ⟨rfl, hb1⟩
      by_cases h5 : Z = 0
      · have e5 : E = 35 := by rw [HE.out, if_pos h5]
        have HE5 := hide e5
        clear e5
        subst h5
        go_wp2
        go_ret
        exact ⟨by rw [HE5.out]; rfl, hb1⟩
      · by_cases h6 : Z < 0
        · have HE5 : Hid (E = 37) := by rw [HE.out, if_neg h5, if_pos h6]; exact rfl
          go_wp2
          go_ret
          exact ⟨by rw [HE5.out]; rfl, hb1⟩
        · have HE5 : Hid (E = 0) := by rw [HE.out, if_neg h5, if_neg h6]; exact rfl
          go_wp2
          go_ret
          exact ⟨by rw [HE5.out]; rfl, hb1⟩
set_option maxHeartbeats 1000000 in
set_option maxRecDepth 100000 in
/-- weigh -/
theorem weigh_any (ao : Option Addr) (b off cap : Nat) (ps : List KV) (w : World) (hao : 0 < ps.length → ao = some ⟨b, off, none⟩) (hb : 0 < ps.length → b < w.heap.size) (hlen : ps.length ≤ 1099511627776000) (hl : LiesP b off w ps) :
    Calls Try.prog 39 #[.slice ao ps.length cap] w fun e w' => e = .returned (.tuple #[.int .i64 (wSize ps), .int .i64 (errL ps)]) ∧ Below w.heap.size w w' := by
  by_cases hg : ps.length = 0 ∨ 512 < ps.length
  · rw [wSize_bad (by rw [(wrong_group hg).2]; omega), (wrong_group hg).2]
    have hN : ((ps.length : Int) == 0) = true ∨ (((ps.length : Int) == 0) = false ∧ (512 : Int) < (ps.length : Int)) := by
      rcases Nat.eq_zero_or_pos ps.length with h | h
      · left; rw [h]; rfl
      · right; exact ⟨ne0 h, by omega⟩
    clear hao hb hl hg
    generalize ps.length = N at *
    go_enter Try.func39, Try.ntmps39
    rcases hN with h0 | ⟨h0, h1⟩
    · go_wp2
      go_ret2
      exact ⟨rfl, Below.refl _ _⟩
    · go_wp2
      go_ret2
      exact ⟨rfl, Below.refl _ _⟩
  · have hpos : 0 < ps.length := by omega
    have h5 : (ps.length : Int) ≤ 512 := by omega
    obtain rfl := hao hpos
    have hb := hb hpos
    have h0 := ne0 hpos
    go_enter Try.func39, Try.ntmps39
    go_wp2
    go_loopw [4, 18] (fun z i wr => ∃ k : Nat, k ≤ ps.length ∧ i = .int .i64 (k : Int) ∧ z = .int .i64 ((2 + sizeL (ps.take k) : Nat) : Int) ∧ (∀ j, j < k → badAt ps j = 0) ∧ Below w.heap.size w wr)
      (fun _ i _ => ps.length - (intOf i).toNat)
    case atStart => exact ⟨0, by omega, rfl, rfl, fun j hj => by omega, Below.refl _ _⟩
    case round =>
      obtain ⟨k, hk, rfl, rfl, hok, hnx⟩ := hrel
      have hsz := hnx.size
      by_cases hlt : k < ps.length
      · have hl' := hl.below hb hnx
        have hb' : b < wr.heap.size := Nat.lt_of_lt_of_le hb hsz
        obtain ⟨g0, g1⟩ := hl' k hlt
        have hN := size_small (Nat.le_of_lt hlt) hok
        have C := hide (fun w' (hw : Below wr.heap.size wr w') => checkPair_any b off cap ps k w' hlt hlen (Nat.lt_of_lt_of_le hb' hw.size) (hl'.below hb' hw))
        have HA := hide ((Below.refl wr.heap.size wr).alloc (Nat.le_refl _) (.cells #[.string ps[k].1, .string ps[k].2] 81))
        have HT := hide (sizeL_take ps k hlt)
        have HOK := hide hok
        have HGR := hide hg
        have HNX := hide hnx
        have HL := hide hl
        have hki : (k : Int) < (ps.length : Int) := by omega
        by_cases hbad : badAt ps k = 0
        · have hsm := badAt_small hlt hbad
          have HB := hide hbad
          rw [hbad] at C
          clear hok hbad hl hl' hg hnx hao
          generalize hK : ps[k].1 = K1 at *
          generalize hV : ps[k].2 = V1 at *
          have HK := hide hK
          clear hK hV
          generalize hZ : sizeL (ps.take k) = Z at *
          have HZ := hide hZ
          clear hZ
          go_wp2_with fail
          refine Calls.mono (C.out _ HA.out) ?_
          rintro e w1 ⟨rfl, hb1⟩
          have c0 : w1.cell? ⟨wr.heap.size, 0, none⟩ = some (.string K1) := by rw [hb1.cell (by simp)]; simp
          have c1 : w1.cell? ⟨wr.heap.size, 1, none⟩ = some (.string V1) := by rw [hb1.cell (by simp)]; simp
          go_wp2
          go_roundw
          case rel =>
            refine ⟨k + 1, by omega, by go_num, by rw [HT.out]; go_num, fun j hj => ?_, ?_⟩
            · rcases Nat.lt_or_ge j k with h | h
              · exact HOK.out j h
              · obtain rfl : j = k := by omega
                exact HB.out
            · have h1 := HNX.out.trans (HA.out.mono hsz)
              exact h1.trans (hb1.mono h1.size)
          case measure => simp [intOf]; omega
        · have HF := hide ((wrong_at hg hlt hok hbad).2)
          have HF2 := hide (wSize_bad (ps := ps) (by rw [(wrong_at hg hlt hok hbad).2]; exact hbad))
          have hne : (badAt ps k != 0) = true := by simpa using hbad
          generalize badAt ps k = E at *
          clear hok hbad hl hl' hg hnx hao
          generalize hK : ps[k].1 = K1 at *
          generalize hV : ps[k].2 = V1 at *
          clear hK hV HT
          generalize sizeL (ps.take k) = Z at *
          go_wp2_with fail
          refine Calls.mono (C.out _ HA.out) ?_
          rintro e w1 ⟨rfl, hb1⟩
          go_wp2
          go_ret2
          refine ⟨by rw [HF.out, HF2.out]; rfl, ?_⟩
          have h1 := HNX.out.trans (HA.out.mono hsz)
          exact h1.trans (hb1.mono h1.size)
      · obtain rfl : k = ps.length := by omega
        have hN := size_small (Nat.le_refl _) hok
        rw [List.take_length] at hN
        have HF := hide ((wrong_none hg hok).2)
        rw [List.take_length]
        have HS := hide (wSize_ok (ps := ps))
        have HS2 := hide (wSize_bad (ps := ps))
        have HNX := hide hnx
        clear hok hnx hl hg hao hlt
        have HS3 : Hid (65536 < 2 + sizeL ps → errL ps = 3) := fun h => by rw [HF.out, if_pos h]
        have HS4 : Hid (¬ 65536 < 2 + sizeL ps → errL ps = 0) := fun h => by rw [HF.out, if_neg h]
        clear HF
        generalize sizeL ps = Z at *
        by_cases hbig : 65536 < 2 + Z
        · have hb3 : (65536 : Int) < ((2 + Z : Nat) : Int) := by omega
          go_wp2
          go_ret2
          exact ⟨by rw [HS3.out hbig, HS2.out (by rw [HS3.out hbig]; omega)]; rfl, HNX.out⟩
        · have hb3 : ((2 + Z : Nat) : Int) ≤ 65536 := by omega
          go_wp2
          go_ret2
          exact ⟨by rw [HS.out (HS4.out hbig), HS4.out hbig]; rfl, HNX.out⟩
end Go.Proofs.Ytjibhdcnibgegaa
