import Derived.Test.YtnphdbmacccblabMaLink
namespace Go.Proofs.Ytnphdbmacccblab
open Go.RowKit
theorem mm_wf {a b : Int} (ha : adr a = true) (hb : adr b = true) : (Lit.int .i64 (min a b)).wf = true ∧ (Lit.int .i64 (max a b)).wf = true := by
  obtain ⟨h1, h2⟩ := adr_t.1 ha
  obtain ⟨h3, h4⟩ := adr_t.1 hb
  exact ⟨wf_adr (by omega) (by omega), wf_adr (by omega) (by omega)⟩
set_option maxHeartbeats 4000000 in
set_option maxRecDepth 100000 in
set_option linter.unusedSimpArgs false in
set_option linter.unusedVariables false in
theorem isCut_any {w : World} {S : Nat → Prop} {R M : Nat} {v : Value} {lim : Int} {s : Nat} {L : List Lt} {n : Nat} {C : Int → Int → Bool} (h : MlX w S R M v lim s L n C) (a b : Int) (ha : adr a = true) (hb : adr b = true) :
    Calls Try.prog 37 #[.pointer (some ⟨R, 0, none⟩), .int .i64 a, .int .i64 b] w fun e w' => e = .returned (.bool (C (min a b) (max a b))) ∧ Below w.heap.size w w' := by
  obtain ⟨q1, q2⟩ := mm_wf ha hb
  obtain ⟨B0, hB0⟩ : ∃ B0, B0 = w.heap.size := ⟨_, rfl⟩
  rw [← hB0]
  have HB := hide hB0
  clear hB0
  have SC : Hid (∀ X : World, Below B0 w X → X.cell? ⟨R, 3, none⟩ = some (.map (some M)) ∧ (Instr.lookup 49 (.map (some M)) (lkV (min a b) (max a b)) true).run Try.prog X = .ok (.tuple #[.agg #[], .bool (C (min a b) (max a b))]) X) := fun X hX => ⟨(h.below (HB.out ▸ hX)).c3, (h.below (HB.out ▸ hX)).map.look q1 q2⟩
  have D0 : Below B0 w w.drew := ⟨rfl, rfl, rfl, Nat.le_refl _, fun _ _ => rfl⟩
  clear h q1 q2
  generalize C (min a b) (max a b) = cc at *
  go_enter Try.func37, Try.ntmps37
  go_wp2_with fail
  refine wp_region_held_drew (S := fun X => Below B0 w X) (by kernel_rfl) D0 (fun hHeld => ?_)
  refine wpAnyH_take (i := 0) (v := (.pointer (some ⟨R, 0, none⟩))) rfl (by kernel_rfl) (by kernel_rfl) (by kernel_rfl) (fun _ _ _ h => h) (Or.inl ⟨by rfl, ?_⟩) (by assumption) ?_
  · intro w' hSw
    (try dsimp only at hSw)
    go_simp
  (try simp only [Act.put, List.setIfInBounds_toArray, List.set_cons_zero, List.set_cons_succ])
  refine wpAnyH_take (i := 1) (v := (.pointer (some ⟨R, 0, none⟩))) rfl (by kernel_rfl) (by kernel_rfl) (by kernel_rfl) (fun _ _ _ h => h) (Or.inl ⟨by rfl, ?_⟩) (by assumption) ?_
  · intro w' hSw
    (try dsimp only at hSw)
    go_simp
  (try simp only [Act.put, List.setIfInBounds_toArray, List.set_cons_zero, List.set_cons_succ])
  refine wpAnyH_take (i := 2) (v := (.pointer (some ⟨R, 3, none⟩))) rfl (by kernel_rfl) (by kernel_rfl) (by kernel_rfl) (fun _ _ _ h => h) (Or.inl ⟨by rfl, ?_⟩) (by assumption) ?_
  · intro w' hSw
    (try dsimp only at hSw)
    go_simp
  (try simp only [Act.put, List.setIfInBounds_toArray, List.set_cons_zero, List.set_cons_succ])
  refine wpAnyH_take (i := 3) (v := (.map (some M))) rfl (by kernel_rfl) (by kernel_rfl) (by kernel_rfl) (fun _ _ _ h => h) (Or.inl ⟨by rfl, ?_⟩) (by assumption) ?_
  · intro w' hSw
    (try dsimp only at hSw)
    (have y0 := (SC.out _ hSw).1; go_simp)
  (try simp only [Act.put, List.setIfInBounds_toArray, List.set_cons_zero, List.set_cons_succ])
  refine wpAnyH_take (i := 4) (v := (.int .i64 a)) rfl (by kernel_rfl) (by kernel_rfl) (by kernel_rfl) (fun _ _ _ h => h) (Or.inl ⟨by rfl, ?_⟩) (by assumption) ?_
  · intro w' hSw
    (try dsimp only at hSw)
    go_simp
  (try simp only [Act.put, List.setIfInBounds_toArray, List.set_cons_zero, List.set_cons_succ])
  refine wpAnyH_take (i := 5) (v := (.int .i64 b)) rfl (by kernel_rfl) (by kernel_rfl) (by kernel_rfl) (fun _ _ _ h => h) (Or.inl ⟨by rfl, ?_⟩) (by assumption) ?_
  · intro w' hSw
    (try dsimp only at hSw)
    go_simp
  (try simp only [Act.put, List.setIfInBounds_toArray, List.set_cons_zero, List.set_cons_succ])
  refine wpAnyH_ready (rs := [6, 11]) (by kernel_rfl) (by simp) ?_
  refine AllReadyH.cons rfl (fun K hK => ?_) (AllReadyH.cons rfl (fun K hK => ?_) AllReadyH.nil)
  · go_simp
    refine Calls.mono (mbetween_any _ _ _) ?_
    rintro e w1 ⟨rfl, hb1⟩
    have b1 : Below B0 w w1 := D0.trans (hb1.mono (by rw [HB.out]; exact Nat.le_refl _))
    have B1 := hide b1
    clear hb1 b1
    refine hK.out _ _ (B1.out) (fun hHeld => ?_)
    clear hK
    (try simp only [Act.put, List.setIfInBounds_toArray, List.set_cons_zero, List.set_cons_succ])
    refine wpAnyH_take (i := 7) (v := (.tuple #[.agg #[], .bool cc])) rfl (by kernel_rfl) (by kernel_rfl) (by kernel_rfl) (fun _ _ _ h => h) (Or.inl ⟨by rfl, ?_⟩) (by assumption) ?_
    · intro w' hSw
      (try dsimp only at hSw)
      (have y0 := (SC.out _ hSw).2; go_simp)
    (try simp only [Act.put, List.setIfInBounds_toArray, List.set_cons_zero, List.set_cons_succ])
    refine wpAnyH_take (i := 8) (v := (.tuple #[.agg #[], .bool cc])) rfl (by kernel_rfl) (by kernel_rfl) (by kernel_rfl) (fun _ _ _ h => h) (Or.inl ⟨by rfl, ?_⟩) (by assumption) ?_
    · intro w' hSw
      (try dsimp only at hSw)
      go_simp
    (try simp only [Act.put, List.setIfInBounds_toArray, List.set_cons_zero, List.set_cons_succ])
    refine wpAnyH_take (i := 9) (v := (.agg #[])) rfl (by kernel_rfl) (by kernel_rfl) (by kernel_rfl) (fun _ _ _ h => h) (Or.inl ⟨by rfl, ?_⟩) (by assumption) ?_
    · intro w' hSw
      (try dsimp only at hSw)
      go_simp
    (try simp only [Act.put, List.setIfInBounds_toArray, List.set_cons_zero, List.set_cons_succ])
    refine wpAnyH_take (i := 10) (v := (.bool cc)) rfl (by kernel_rfl) (by kernel_rfl) (by kernel_rfl) (fun _ _ _ h => h) (Or.inl ⟨by rfl, ?_⟩) (by assumption) ?_
    · intro w' hSw
      (try dsimp only at hSw)
      go_simp
    (try simp only [Act.put, List.setIfInBounds_toArray, List.set_cons_zero, List.set_cons_succ])
    refine wpAnyH_ready (rs := [11]) (by kernel_rfl) (by simp) ?_
    refine AllReadyH.cons rfl (fun K hK => ?_) AllReadyH.nil
    go_simp
    have B2 : Hid (Below B0 w (w1.alloc (.cells #[] 82))) := B1.out.alloc (by rw [HB.out]; exact B1.out.size) _
    refine hK.out _ _ (B2.out) (fun hHeld => ?_)
    clear hK
    (try simp only [Act.put, List.setIfInBounds_toArray, List.set_cons_zero, List.set_cons_succ])
    refine wpAnyH_ready (rs := [12]) (by kernel_rfl) (by simp) ?_
    refine AllReadyH.cons rfl (fun K hK => ?_) AllReadyH.nil
    go_simp
    refine hK.out _ _ (B2.out) (fun hHeld => ?_)
    clear hK
    (try simp only [Act.put, List.setIfInBounds_toArray, List.set_cons_zero, List.set_cons_succ])
    refine wpAnyH_ready (rs := [13]) (by kernel_rfl) (by simp) ?_
    refine AllReadyH.cons rfl (fun K hK => ?_) AllReadyH.nil
    go_simp
    refine hK.out _ _ (B2.out) (fun hHeld => ?_)
    clear hK
    (try simp only [Act.put, List.setIfInBounds_toArray, List.set_cons_zero, List.set_cons_succ])
    refine wpAnyH_done (by kernel_rfl) ?_ _
    go_wp2_with fail
    go_ret
    exact ⟨rfl, B2.out⟩
  · go_simp
    have B1 : Hid (Below B0 w (w.drew.alloc (.cells #[] 82))) := D0.alloc (by rw [HB.out]; exact Nat.le_refl _) _
    refine hK.out _ _ (B1.out) (fun hHeld => ?_)
    clear hK
    (try simp only [Act.put, List.setIfInBounds_toArray, List.set_cons_zero, List.set_cons_succ])
    refine wpAnyH_ready (rs := [6]) (by kernel_rfl) (by simp) ?_
    refine AllReadyH.cons rfl (fun K hK => ?_) AllReadyH.nil
    go_simp
    refine Calls.mono (mbetween_any _ _ _) ?_
    rintro e w1 ⟨rfl, hb1⟩
    have b1 : Below B0 w w1 := B1.out.trans (hb1.mono (by rw [HB.out]; simp [World.size_alloc]))
    have B2 := hide b1
    clear b1
    have x0 : w1.heap[w.heap.size]? = some (.cells #[] 82) := (hb1.block _ (by simp [World.size_alloc])).trans (heap_last w.drew _)
    clear hb1
    refine hK.out _ _ (B2.out) (fun hHeld => ?_)
    clear hK
    (try simp only [Act.put, List.setIfInBounds_toArray, List.set_cons_zero, List.set_cons_succ])
    refine wpAnyH_take (i := 7) (v := (.tuple #[.agg #[], .bool cc])) rfl (by kernel_rfl) (by kernel_rfl) (by kernel_rfl) (fun _ _ _ h => h) (Or.inl ⟨by rfl, ?_⟩) (by assumption) ?_
    · intro w' hSw
      (try dsimp only at hSw)
      (have y0 := (SC.out _ hSw).2; go_simp)
    (try simp only [Act.put, List.setIfInBounds_toArray, List.set_cons_zero, List.set_cons_succ])
    refine wpAnyH_take (i := 8) (v := (.tuple #[.agg #[], .bool cc])) rfl (by kernel_rfl) (by kernel_rfl) (by kernel_rfl) (fun _ _ _ h => h) (Or.inl ⟨by rfl, ?_⟩) (by assumption) ?_
    · intro w' hSw
      (try dsimp only at hSw)
      go_simp
    (try simp only [Act.put, List.setIfInBounds_toArray, List.set_cons_zero, List.set_cons_succ])
    refine wpAnyH_take (i := 9) (v := (.agg #[])) rfl (by kernel_rfl) (by kernel_rfl) (by kernel_rfl) (fun _ _ _ h => h) (Or.inl ⟨by rfl, ?_⟩) (by assumption) ?_
    · intro w' hSw
      (try dsimp only at hSw)
      go_simp
    (try simp only [Act.put, List.setIfInBounds_toArray, List.set_cons_zero, List.set_cons_succ])
    refine wpAnyH_take (i := 10) (v := (.bool cc)) rfl (by kernel_rfl) (by kernel_rfl) (by kernel_rfl) (fun _ _ _ h => h) (Or.inl ⟨by rfl, ?_⟩) (by assumption) ?_
    · intro w' hSw
      (try dsimp only at hSw)
      go_simp
    (try simp only [Act.put, List.setIfInBounds_toArray, List.set_cons_zero, List.set_cons_succ])
    refine wpAnyH_ready (rs := [12]) (by kernel_rfl) (by simp) ?_
    refine AllReadyH.cons rfl (fun K hK => ?_) AllReadyH.nil
    go_simp
    refine hK.out _ _ (B2.out) (fun hHeld => ?_)
    clear hK
    (try simp only [Act.put, List.setIfInBounds_toArray, List.set_cons_zero, List.set_cons_succ])
    refine wpAnyH_ready (rs := [13]) (by kernel_rfl) (by simp) ?_
    refine AllReadyH.cons rfl (fun K hK => ?_) AllReadyH.nil
    go_simp
    refine hK.out _ _ (B2.out) (fun hHeld => ?_)
    clear hK
    (try simp only [Act.put, List.setIfInBounds_toArray, List.set_cons_zero, List.set_cons_succ])
    refine wpAnyH_done (by kernel_rfl) ?_ _
    go_wp2_with fail
    go_ret
    exact ⟨rfl, B2.out⟩
def ckE (a b : Int) : Int := if adr a = true ∧ adr b = true ∧ a ≠ b then 0 else 1
set_option maxHeartbeats 4000000 in
set_option maxRecDepth 100000 in
set_option linter.unusedSimpArgs false in
set_option linter.unusedVariables false in
theorem check_nil (a b : Int) (w : World) : Calls Try.prog 47 #[.pointer none, .int .i64 a, .int .i64 b] w fun e w' => e = .returned (.int .i64 2) ∧ w = w' := by
  have NO := hide (none_nil w)
  go_enter Try.func47, Try.ntmps47
  go_wp2_with (first | (go_at_call 15; refine Calls.mono NO.out ?_; rintro e w1 ⟨rfl, rfl⟩))
  go_ret
  exact ⟨rfl, rfl⟩
set_option maxHeartbeats 4000000 in
set_option maxRecDepth 100000 in
set_option linter.unusedSimpArgs false in
set_option linter.unusedVariables false in
theorem check_any {w : World} {S : Nat → Prop} {R M : Nat} {v : Value} {lim : Int} {s : Nat} {L : List Lt} {n : Nat} {C : Int → Int → Bool} (h : MlX w S R M v lim s L n C) (hl : 1 ≤ lim) (a b : Int) :
    Calls Try.prog 47 #[.pointer (some ⟨R, 0, none⟩), .int .i64 a, .int .i64 b] w fun e w' => e = .returned (.int .i64 (ckE a b)) ∧ w = w' := by
  have NO := hide (none_any h hl)
  clear h
  by_cases ea : adr a = true
  case neg =>
    rw [Bool.not_eq_true] at ea
    go_enter Try.func47, Try.ntmps47
    go_wp2_with (first | (go_at_call 15; refine Calls.mono NO.out ?_; rintro e w1 ⟨rfl, rfl⟩) | (go_at_call 36; refine Calls.mono (isAddress_any _ _) ?_; rintro e w1 ⟨rfl, rfl⟩))
    go_ret
    exact ⟨by simp [ckE, ea], rfl⟩
  by_cases eb : adr b = true
  case neg =>
    rw [Bool.not_eq_true] at eb
    go_enter Try.func47, Try.ntmps47
    go_wp2_with (first | (go_at_call 15; refine Calls.mono NO.out ?_; rintro e w1 ⟨rfl, rfl⟩) | (go_at_call 36; refine Calls.mono (isAddress_any _ _) ?_; rintro e w1 ⟨rfl, rfl⟩))
    go_ret
    exact ⟨by simp [ckE, eb], rfl⟩
  by_cases hab : a = b
  case pos =>
    subst hab
    go_enter Try.func47, Try.ntmps47
    go_wp2_with (first | (go_at_call 15; refine Calls.mono NO.out ?_; rintro e w1 ⟨rfl, rfl⟩) | (go_at_call 36; refine Calls.mono (isAddress_any _ _) ?_; rintro e w1 ⟨rfl, rfl⟩))
    go_ret
    exact ⟨by simp [ckE, ea], rfl⟩
  have hab2 : (a == b) = false := by simp [hab]
  go_enter Try.func47, Try.ntmps47
  go_wp2_with (first | (go_at_call 15; refine Calls.mono NO.out ?_; rintro e w1 ⟨rfl, rfl⟩) | (go_at_call 36; refine Calls.mono (isAddress_any _ _) ?_; rintro e w1 ⟨rfl, rfl⟩))
  go_ret
  exact ⟨by simp [ckE, ea, eb, hab], rfl⟩
set_option maxHeartbeats 4000000 in
set_option maxRecDepth 100000 in
set_option linter.unusedSimpArgs false in
set_option linter.unusedVariables false in
theorem cut_nil (a b : Int) (w : World) : Calls Try.prog 26 #[.pointer none, .int .i64 a, .int .i64 b] w fun e w' => e = .returned (.int .i64 2) ∧ w = w' := by
  have CK := hide (check_nil a b w)
  go_enter Try.func26, Try.ntmps26
  go_wp2_with (first | (go_at_call 47; refine Calls.mono CK.out ?_; rintro e w1 ⟨rfl, rfl⟩))
  go_ret
  exact ⟨rfl, rfl⟩
set_option maxHeartbeats 4000000 in
set_option maxRecDepth 100000 in
set_option linter.unusedSimpArgs false in
set_option linter.unusedVariables false in
theorem cut_bad {w : World} {S : Nat → Prop} {R M : Nat} {v : Value} {lim : Int} {s : Nat} {L : List Lt} {n : Nat} {C : Int → Int → Bool} (h : MlX w S R M v lim s L n C) (hl : 1 ≤ lim) (a b : Int) (he : ckE a b = 1) : Calls Try.prog 26 #[.pointer (some ⟨R, 0, none⟩), .int .i64 a, .int .i64 b] w fun e w' => e = .returned (.int .i64 1) ∧ w = w' := by
  have CK := check_any h hl a b
  rw [he] at CK
  have CK := hide CK
  clear h he
  go_enter Try.func26, Try.ntmps26
  go_wp2_with (first | (go_at_call 47; refine Calls.mono CK.out ?_; rintro e w1 ⟨rfl, rfl⟩))
  go_ret
  exact ⟨rfl, rfl⟩
set_option maxHeartbeats 4000000 in
set_option maxRecDepth 100000 in
set_option linter.unusedSimpArgs false in
set_option linter.unusedVariables false in
theorem cut_ok {w : World} {S : Nat → Prop} {R M : Nat} {v : Value} {lim : Int} {s : Nat} {L : List Lt} {n : Nat} {C : Int → Int → Bool} (h : MlX w S R M v lim s L n C) (hl : 1 ≤ lim) (a b : Int) (he : ckE a b = 0) (hn : n < maxLen) : Calls Try.prog 26 #[.pointer (some ⟨R, 0, none⟩), .int .i64 a, .int .i64 b] w fun e w' => e = .returned (.int .i64 0) ∧ MlX w' S R M v lim s L (n + 1) (cutUp C (min a b) (max a b) true) ∧ Kp w w' S := by
  have CK := check_any h hl a b
  rw [he] at CK
  have CK := hide CK
  have had : adr a = true ∧ adr b = true := by
    unfold ckE at he
    split at he
    · rename_i hh
      exact ⟨hh.1, hh.2.1⟩
    · simp at he
  obtain ⟨q1, q2⟩ := mm_wf had.1 had.2
  clear he had
  have SC : Hid (∀ X : World, Below w.heap.size w X → X.cell? ⟨R, 3, none⟩ = some (.map (some M))) := fun X hX => (h.below hX).c3
  have D0 : Below w.heap.size w w.drew := ⟨rfl, rfl, rfl, Nat.le_refl _, fun _ _ => rfl⟩
  have HX := hide h
  clear h
  go_enter Try.func26, Try.ntmps26
  go_wp2_with (first | (go_at_call 47; refine Calls.mono CK.out ?_; rintro e w1 ⟨rfl, rfl⟩))
  refine wp_region_held_drew (S := fun X => X.cell? ⟨R, 3, none⟩ = some (.map (some M))) (by kernel_rfl) (SC.out _ D0) (fun hHeld => ?_)
  refine wpAnyH_take (i := 0) (v := (.pointer (some ⟨R, 0, none⟩))) rfl (by kernel_rfl) (by kernel_rfl) (by kernel_rfl) (fun _ _ _ h => h) (Or.inl ⟨by rfl, ?_⟩) (by assumption) ?_
  · intro w' hSw
    (try dsimp only at hSw)
    go_simp
  (try simp only [Act.put, List.setIfInBounds_toArray, List.set_cons_zero, List.set_cons_succ])
  refine wpAnyH_take (i := 1) (v := (.pointer (some ⟨R, 0, none⟩))) rfl (by kernel_rfl) (by kernel_rfl) (by kernel_rfl) (fun _ _ _ h => h) (Or.inl ⟨by rfl, ?_⟩) (by assumption) ?_
  · intro w' hSw
    (try dsimp only at hSw)
    go_simp
  (try simp only [Act.put, List.setIfInBounds_toArray, List.set_cons_zero, List.set_cons_succ])
  refine wpAnyH_take (i := 2) (v := (.pointer (some ⟨R, 3, none⟩))) rfl (by kernel_rfl) (by kernel_rfl) (by kernel_rfl) (fun _ _ _ h => h) (Or.inl ⟨by rfl, ?_⟩) (by assumption) ?_
  · intro w' hSw
    (try dsimp only at hSw)
    go_simp
  (try simp only [Act.put, List.setIfInBounds_toArray, List.set_cons_zero, List.set_cons_succ])
  refine wpAnyH_take (i := 4) (v := (.int .i64 a)) rfl (by kernel_rfl) (by kernel_rfl) (by kernel_rfl) (fun _ _ _ h => h) (Or.inl ⟨by rfl, ?_⟩) (by assumption) ?_
  · intro w' hSw
    (try dsimp only at hSw)
    go_simp
  (try simp only [Act.put, List.setIfInBounds_toArray, List.set_cons_zero, List.set_cons_succ])
  refine wpAnyH_take (i := 5) (v := (.int .i64 b)) rfl (by kernel_rfl) (by kernel_rfl) (by kernel_rfl) (fun _ _ _ h => h) (Or.inl ⟨by rfl, ?_⟩) (by assumption) ?_
  · intro w' hSw
    (try dsimp only at hSw)
    go_simp
  (try simp only [Act.put, List.setIfInBounds_toArray, List.set_cons_zero, List.set_cons_succ])
  refine wpAnyH_take (i := 3) (v := (.map (some M))) rfl (by kernel_rfl) (by kernel_rfl) (by kernel_rfl) (fun _ _ _ h => h) (Or.inl ⟨by rfl, ?_⟩) (by assumption) ?_
  · intro w' hSw
    (try dsimp only at hSw)
    go_simp
  (try simp only [Act.put, List.setIfInBounds_toArray, List.set_cons_zero, List.set_cons_succ])
  refine wpAnyH_take (i := 7) (v := (.agg #[])) rfl (by kernel_rfl) (by kernel_rfl) (by kernel_rfl) (fun _ _ _ h => h) (Or.inl ⟨by rfl, ?_⟩) (by assumption) ?_
  · intro w' hSw
    (try dsimp only at hSw)
    go_simp
  (try simp only [Act.put, List.setIfInBounds_toArray, List.set_cons_zero, List.set_cons_succ])
  refine wpAnyH_ready (rs := [6]) (by kernel_rfl) (by simp) ?_
  refine AllReadyH.cons rfl (fun K hK => ?_) AllReadyH.nil
  go_simp
  refine Calls.mono (mbetween_any _ _ _) ?_
  rintro e w1 ⟨rfl, hb1⟩
  have H1 := hide (HX.out.below (D0.trans hb1))
  have B1 : Hid (Below w.heap.size w w1) := D0.trans hb1
  clear hb1
  refine hK.out _ _ (H1.out.c3) (fun hHeld => ?_)
  clear hK
  (try simp only [Act.put, List.setIfInBounds_toArray, List.set_cons_zero, List.set_cons_succ])
  obtain ⟨X', R1, R2, R3⟩ := H1.out.map.put hn q1 q2
  refine wpAnyH_ready (rs := [8]) (by kernel_rfl) (by simp) ?_
  refine AllReadyH.cons rfl (fun K hK => ?_) AllReadyH.nil
  go_simp
  have H2 : Hid (MlX X' S R M v lim s L (n + 1) (cutUp C (min a b) (max a b) true)) := ⟨(R3.block _ (blk_lt H1.out.blk) (fun e => H1.out.nRM (by cases e; rfl))).trans H1.out.blk, own_kp H1.out.row (Kp.of_grown R3) (fun k e ek => H1.out.nvM (by rw [e, ek])), R2, H1.out.sR, H1.out.sM, H1.out.sv, fun k e => Nat.lt_of_lt_of_le (H1.out.sb k e) R3.size⟩
  have K2 : Hid (Kp w X' S) := (Kp.of_below B1.out S).trans (Kp.of_grown R3) (fun k e => by cases e; exact Or.inl H1.out.sM)
  clear R1 R2 R3
  refine hK.out _ _ (H2.out.c3) (fun hHeld => ?_)
  clear hK
  (try simp only [Act.put, List.setIfInBounds_toArray, List.set_cons_zero, List.set_cons_succ])
  refine wpAnyH_done (by kernel_rfl) ?_ _
  go_wp2_with fail
  go_ret
  exact ⟨rfl, H2.out, K2.out⟩
set_option maxHeartbeats 4000000 in
set_option maxRecDepth 100000 in
set_option linter.unusedSimpArgs false in
set_option linter.unusedVariables false in
theorem heal_nil (a b : Int) (w : World) : Calls Try.prog 28 #[.pointer none, .int .i64 a, .int .i64 b] w fun e w' => e = .returned (.int .i64 2) ∧ w = w' := by
  have CK := hide (check_nil a b w)
  go_enter Try.func28, Try.ntmps28
  go_wp2_with (first | (go_at_call 47; refine Calls.mono CK.out ?_; rintro e w1 ⟨rfl, rfl⟩))
  go_ret
  exact ⟨rfl, rfl⟩
set_option maxHeartbeats 4000000 in
set_option maxRecDepth 100000 in
set_option linter.unusedSimpArgs false in
set_option linter.unusedVariables false in
theorem heal_bad {w : World} {S : Nat → Prop} {R M : Nat} {v : Value} {lim : Int} {s : Nat} {L : List Lt} {n : Nat} {C : Int → Int → Bool} (h : MlX w S R M v lim s L n C) (hl : 1 ≤ lim) (a b : Int) (he : ckE a b = 1) : Calls Try.prog 28 #[.pointer (some ⟨R, 0, none⟩), .int .i64 a, .int .i64 b] w fun e w' => e = .returned (.int .i64 1) ∧ w = w' := by
  have CK := check_any h hl a b
  rw [he] at CK
  have CK := hide CK
  clear h he
  go_enter Try.func28, Try.ntmps28
  go_wp2_with (first | (go_at_call 47; refine Calls.mono CK.out ?_; rintro e w1 ⟨rfl, rfl⟩))
  go_ret
  exact ⟨rfl, rfl⟩
set_option maxHeartbeats 4000000 in
set_option maxRecDepth 100000 in
set_option linter.unusedSimpArgs false in
set_option linter.unusedVariables false in
theorem heal_ok {w : World} {S : Nat → Prop} {R M : Nat} {v : Value} {lim : Int} {s : Nat} {L : List Lt} {n : Nat} {C : Int → Int → Bool} (h : MlX w S R M v lim s L n C) (hl : 1 ≤ lim) (a b : Int) (he : ckE a b = 0) : Calls Try.prog 28 #[.pointer (some ⟨R, 0, none⟩), .int .i64 a, .int .i64 b] w fun e w' => e = .returned (.int .i64 0) ∧ MlX w' S R M v lim s L n (cutUp C (min a b) (max a b) false) ∧ Kp w w' S := by
  have CK := check_any h hl a b
  rw [he] at CK
  have CK := hide CK
  have had : adr a = true ∧ adr b = true := by
    unfold ckE at he
    split at he
    · rename_i hh
      exact ⟨hh.1, hh.2.1⟩
    · simp at he
  obtain ⟨q1, q2⟩ := mm_wf had.1 had.2
  clear he had
  have SC : Hid (∀ X : World, Below w.heap.size w X → X.cell? ⟨R, 3, none⟩ = some (.map (some M))) := fun X hX => (h.below hX).c3
  have D0 : Below w.heap.size w w.drew := ⟨rfl, rfl, rfl, Nat.le_refl _, fun _ _ => rfl⟩
  have HX := hide h
  clear h
  go_enter Try.func28, Try.ntmps28
  go_wp2_with (first | (go_at_call 47; refine Calls.mono CK.out ?_; rintro e w1 ⟨rfl, rfl⟩))
  refine wp_region_held_drew (S := fun X => X.cell? ⟨R, 3, none⟩ = some (.map (some M))) (by kernel_rfl) (SC.out _ D0) (fun hHeld => ?_)
  refine wpAnyH_take (i := 0) (v := (.pointer (some ⟨R, 0, none⟩))) rfl (by kernel_rfl) (by kernel_rfl) (by kernel_rfl) (fun _ _ _ h => h) (Or.inl ⟨by rfl, ?_⟩) (by assumption) ?_
  · intro w' hSw
    (try dsimp only at hSw)
    go_simp
  (try simp only [Act.put, List.setIfInBounds_toArray, List.set_cons_zero, List.set_cons_succ])
  refine wpAnyH_take (i := 1) (v := (.pointer (some ⟨R, 0, none⟩))) rfl (by kernel_rfl) (by kernel_rfl) (by kernel_rfl) (fun _ _ _ h => h) (Or.inl ⟨by rfl, ?_⟩) (by assumption) ?_
  · intro w' hSw
    (try dsimp only at hSw)
    go_simp
  (try simp only [Act.put, List.setIfInBounds_toArray, List.set_cons_zero, List.set_cons_succ])
  refine wpAnyH_take (i := 2) (v := (.pointer (some ⟨R, 3, none⟩))) rfl (by kernel_rfl) (by kernel_rfl) (by kernel_rfl) (fun _ _ _ h => h) (Or.inl ⟨by rfl, ?_⟩) (by assumption) ?_
  · intro w' hSw
    (try dsimp only at hSw)
    go_simp
  (try simp only [Act.put, List.setIfInBounds_toArray, List.set_cons_zero, List.set_cons_succ])
  refine wpAnyH_take (i := 4) (v := (.int .i64 a)) rfl (by kernel_rfl) (by kernel_rfl) (by kernel_rfl) (fun _ _ _ h => h) (Or.inl ⟨by rfl, ?_⟩) (by assumption) ?_
  · intro w' hSw
    (try dsimp only at hSw)
    go_simp
  (try simp only [Act.put, List.setIfInBounds_toArray, List.set_cons_zero, List.set_cons_succ])
  refine wpAnyH_take (i := 5) (v := (.int .i64 b)) rfl (by kernel_rfl) (by kernel_rfl) (by kernel_rfl) (fun _ _ _ h => h) (Or.inl ⟨by rfl, ?_⟩) (by assumption) ?_
  · intro w' hSw
    (try dsimp only at hSw)
    go_simp
  (try simp only [Act.put, List.setIfInBounds_toArray, List.set_cons_zero, List.set_cons_succ])
  refine wpAnyH_take (i := 3) (v := (.map (some M))) rfl (by kernel_rfl) (by kernel_rfl) (by kernel_rfl) (fun _ _ _ h => h) (Or.inl ⟨by rfl, ?_⟩) (by assumption) ?_
  · intro w' hSw
    (try dsimp only at hSw)
    go_simp
  (try simp only [Act.put, List.setIfInBounds_toArray, List.set_cons_zero, List.set_cons_succ])
  refine wpAnyH_ready (rs := [6]) (by kernel_rfl) (by simp) ?_
  refine AllReadyH.cons rfl (fun K hK => ?_) AllReadyH.nil
  go_simp
  refine Calls.mono (mbetween_any _ _ _) ?_
  rintro e w1 ⟨rfl, hb1⟩
  have H1 := hide (HX.out.below (D0.trans hb1))
  have B1 : Hid (Below w.heap.size w w1) := D0.trans hb1
  clear hb1
  refine hK.out _ _ (H1.out.c3) (fun hHeld => ?_)
  clear hK
  (try simp only [Act.put, List.setIfInBounds_toArray, List.set_cons_zero, List.set_cons_succ])
  obtain ⟨X', R1, R2, R3⟩ := H1.out.map.del q1 q2 0
  refine wpAnyH_ready (rs := [7]) (by kernel_rfl) (by simp) ?_
  refine AllReadyH.cons rfl (fun K hK => ?_) AllReadyH.nil
  go_simp
  have H2 : Hid (MlX X' S R M v lim s L n (cutUp C (min a b) (max a b) false)) := ⟨(R3.block _ (blk_lt H1.out.blk) (fun e => H1.out.nRM (by cases e; rfl))).trans H1.out.blk, own_kp H1.out.row (Kp.of_grown R3) (fun k e ek => H1.out.nvM (by rw [e, ek])), R2, H1.out.sR, H1.out.sM, H1.out.sv, fun k e => Nat.lt_of_lt_of_le (H1.out.sb k e) R3.size⟩
  have K2 : Hid (Kp w X' S) := (Kp.of_below B1.out S).trans (Kp.of_grown R3) (fun k e => by cases e; exact Or.inl H1.out.sM)
  clear R1 R2 R3
  refine hK.out _ _ (H2.out.c3) (fun hHeld => ?_)
  clear hK
  (try simp only [Act.put, List.setIfInBounds_toArray, List.set_cons_zero, List.set_cons_succ])
  refine wpAnyH_done (by kernel_rfl) ?_ _
  go_wp2_with fail
  go_ret
  exact ⟨rfl, H2.out, K2.out⟩
end Go.Proofs.Ytnphdbmacccblab
