import Derived.Test.YtpleakkhbfhdkaaCaCnt
namespace Go.Proofs.Ytpleakkhbfhdkaa.Cn
open Go.RowKit
theorem exec_bl {ρ : Operand → Value} {o : Oper} {w : World} (ty : TypeId) (parts : Array (Nat × Operand)) (ho : o.op = .build ty parts) (A : Array Value) (hb : Try.prog.built ty (parts.map fun (i, x) => (i, ρ x)).toList = some A) : (execOp ρ o).run Try.prog w = .ok (.value (.agg A)) w := by
  unfold execOp
  simp only [ho, Sem.run_bind, Sem.run_pure]
  have := run_build w ty _ A hb
  rw [this]
  rfl
set_option maxHeartbeats 8000000 in
set_option maxRecDepth 100000 in
set_option linter.unusedSimpArgs false in
set_option linter.unusedVariables false in
theorem message_fetch {w : World} {P A : Nat} {ty : TypeId} {u : Ru} {r : Rd} (h : RdAt w P A ty u r) :
    Calls Try.prog 105 #[.pointer (some ⟨P, 0, none⟩)] w fun e w' => e = .returned (.agg (mgV (mesP .fetch r))) ∧ Below w.heap.size w w' := by
  obtain ⟨B, hB⟩ : ∃ B, B = w.heap.size := ⟨_, rfl⟩
  obtain ⟨W0, hW0⟩ : ∃ W0, W0 = w.alloc (.cells (mgV mg0) 44) := ⟨_, rfl⟩
  have b0 : Hid (Below w.heap.size w W0) := by rw [hW0]; exact (Below.refl _ w).alloc (Nat.le_refl _) _
  have m0 : Hid (MgAt W0 B mg0) := by rw [hW0, hB]; exact MgAt.new w mg0
  have HB := hide hB
  have r0 : Hid (RdAt W0 P A ty u r) := h.below b0.out
  have hne : P ≠ B := by have := blk_lt h.ob; omega
  have F : Hid (∀ X : World, X.heap[P]? = W0.heap[P]? → X.cell? ⟨P, 4, none⟩ = some (.int .i64 r.num) ∧ X.cell? ⟨P, 6, none⟩ = some (.int .i64 r.ver)) := fun X hX => by
    obtain ⟨_, _, _, _, x4, _, x6, _⟩ := r0.out.cells
    unfold World.cell? at *
    rw [hX]
    exact ⟨x4, x6⟩
  clear h
  go_enter Try.func105, Try.ntmps105
  go_upto_region 1 with fail
  rw [show (#[.int .i64 0, .int .i64 0, .int .i64 0, .int .i64 0, .int .i64 0, .int .i64 0, .int .i64 0, .int .i64 0, .int .i64 0, .string ⟨#[]⟩, .string ⟨#[]⟩] : Array Value) = mgV mg0 from rfl]
  rw [← hW0, ← HB.out]
  clear hW0 hB
  refine wp_region_held_drew (S := fun X => X.heap[P]? = W0.heap[P]?) (by kernel_rfl) rfl (fun hHeld => ?_)
  refine wpAnyH_take (i := 0) (v := (.pointer (some ⟨P, 0, none⟩))) rfl (by kernel_rfl) (by kernel_rfl) (by kernel_rfl) (fun _ _ _ h => h) (Or.inl ⟨by kernel_rfl, ?_⟩) (by assumption) ?_
  · intro w' hSw
    (try dsimp only at hSw)
    go_simp
  (try simp only [Act.put, List.getElem_toArray, List.getElem_cons_zero, List.getElem_cons_succ, List.setIfInBounds_toArray, List.set_cons_zero, List.set_cons_succ])
  refine wpAnyH_take (i := 1) (v := (.pointer (some ⟨P, 0, none⟩))) rfl (by kernel_rfl) (by kernel_rfl) (by kernel_rfl) (fun _ _ _ h => h) (Or.inl ⟨by kernel_rfl, ?_⟩) (by assumption) ?_
  · intro w' hSw
    (try dsimp only at hSw)
    go_simp
  (try simp only [Act.put, List.getElem_toArray, List.getElem_cons_zero, List.getElem_cons_succ, List.setIfInBounds_toArray, List.set_cons_zero, List.set_cons_succ])
  refine wpAnyH_take (i := 2) (v := (.pointer (some ⟨P, 0, none⟩))) rfl (by kernel_rfl) (by kernel_rfl) (by kernel_rfl) (fun _ _ _ h => h) (Or.inl ⟨by kernel_rfl, ?_⟩) (by assumption) ?_
  · intro w' hSw
    (try dsimp only at hSw)
    go_simp
  (try simp only [Act.put, List.getElem_toArray, List.getElem_cons_zero, List.getElem_cons_succ, List.setIfInBounds_toArray, List.set_cons_zero, List.set_cons_succ])
  refine wpAnyH_take (i := 3) (v := (.pointer (some ⟨P, 4, none⟩))) rfl (by kernel_rfl) (by kernel_rfl) (by kernel_rfl) (fun _ _ _ h => h) (Or.inl ⟨by kernel_rfl, ?_⟩) (by assumption) ?_
  · intro w' hSw
    (try dsimp only at hSw)
    go_simp
  (try simp only [Act.put, List.getElem_toArray, List.getElem_cons_zero, List.getElem_cons_succ, List.setIfInBounds_toArray, List.set_cons_zero, List.set_cons_succ])
  refine wpAnyH_take (i := 4) (v := (.pointer (some ⟨P, 4, none⟩))) rfl (by kernel_rfl) (by kernel_rfl) (by kernel_rfl) (fun _ _ _ h => h) (Or.inl ⟨by kernel_rfl, ?_⟩) (by assumption) ?_
  · intro w' hSw
    (try dsimp only at hSw)
    go_simp
  (try simp only [Act.put, List.getElem_toArray, List.getElem_cons_zero, List.getElem_cons_succ, List.setIfInBounds_toArray, List.set_cons_zero, List.set_cons_succ])
  refine wpAnyH_take (i := 5) (v := (.int .i64 r.num)) rfl (by kernel_rfl) (by kernel_rfl) (by kernel_rfl) (fun _ _ _ h => h) (Or.inl ⟨by kernel_rfl, ?_⟩) (by assumption) ?_
  · intro w' hSw
    (try dsimp only at hSw)
    (have z := (F.out _ hSw).1; go_simp)
  (try simp only [Act.put, List.getElem_toArray, List.getElem_cons_zero, List.getElem_cons_succ, List.setIfInBounds_toArray, List.set_cons_zero, List.set_cons_succ])
  refine wpAnyH_take (i := 6) (v := (.pointer (some ⟨P, 0, none⟩))) rfl (by kernel_rfl) (by kernel_rfl) (by kernel_rfl) (fun _ _ _ h => h) (Or.inl ⟨by kernel_rfl, ?_⟩) (by assumption) ?_
  · intro w' hSw
    (try dsimp only at hSw)
    go_simp
  (try simp only [Act.put, List.getElem_toArray, List.getElem_cons_zero, List.getElem_cons_succ, List.setIfInBounds_toArray, List.set_cons_zero, List.set_cons_succ])
  refine wpAnyH_take (i := 7) (v := (.pointer (some ⟨P, 0, none⟩))) rfl (by kernel_rfl) (by kernel_rfl) (by kernel_rfl) (fun _ _ _ h => h) (Or.inl ⟨by kernel_rfl, ?_⟩) (by assumption) ?_
  · intro w' hSw
    (try dsimp only at hSw)
    go_simp
  (try simp only [Act.put, List.getElem_toArray, List.getElem_cons_zero, List.getElem_cons_succ, List.setIfInBounds_toArray, List.set_cons_zero, List.set_cons_succ])
  refine wpAnyH_take (i := 8) (v := (.pointer (some ⟨P, 0, none⟩))) rfl (by kernel_rfl) (by kernel_rfl) (by kernel_rfl) (fun _ _ _ h => h) (Or.inl ⟨by kernel_rfl, ?_⟩) (by assumption) ?_
  · intro w' hSw
    (try dsimp only at hSw)
    go_simp
  (try simp only [Act.put, List.getElem_toArray, List.getElem_cons_zero, List.getElem_cons_succ, List.setIfInBounds_toArray, List.set_cons_zero, List.set_cons_succ])
  refine wpAnyH_take (i := 9) (v := (.pointer (some ⟨P, 4, none⟩))) rfl (by kernel_rfl) (by kernel_rfl) (by kernel_rfl) (fun _ _ _ h => h) (Or.inl ⟨by kernel_rfl, ?_⟩) (by assumption) ?_
  · intro w' hSw
    (try dsimp only at hSw)
    go_simp
  (try simp only [Act.put, List.getElem_toArray, List.getElem_cons_zero, List.getElem_cons_succ, List.setIfInBounds_toArray, List.set_cons_zero, List.set_cons_succ])
  refine wpAnyH_take (i := 10) (v := (.pointer (some ⟨P, 6, none⟩))) rfl (by kernel_rfl) (by kernel_rfl) (by kernel_rfl) (fun _ _ _ h => h) (Or.inl ⟨by kernel_rfl, ?_⟩) (by assumption) ?_
  · intro w' hSw
    (try dsimp only at hSw)
    go_simp
  (try simp only [Act.put, List.getElem_toArray, List.getElem_cons_zero, List.getElem_cons_succ, List.setIfInBounds_toArray, List.set_cons_zero, List.set_cons_succ])
  refine wpAnyH_take (i := 11) (v := (.int .i64 r.ver)) rfl (by kernel_rfl) (by kernel_rfl) (by kernel_rfl) (fun _ _ _ h => h) (Or.inl ⟨by kernel_rfl, ?_⟩) (by assumption) ?_
  · intro w' hSw
    (try dsimp only at hSw)
    (have z := (F.out _ hSw).2; go_simp)
  (try simp only [Act.put, List.getElem_toArray, List.getElem_cons_zero, List.getElem_cons_succ, List.setIfInBounds_toArray, List.set_cons_zero, List.set_cons_succ])
  refine wpAnyH_take (i := 12) (v := (.agg (mgV (mesP .fetch r)))) rfl (by kernel_rfl) (by kernel_rfl) (by kernel_rfl) (fun _ _ _ h => h) (Or.inl ⟨by kernel_rfl, ?_⟩) (by assumption) ?_
  · intro w' hSw
    (try dsimp only at hSw)
    (exact exec_bl 44 #[(0, .const (.int .i64 3)), (4, .tmp 8), (6, .tmp 14)] rfl _ (by kernel_rfl))
  (try simp only [Act.put, List.getElem_toArray, List.getElem_cons_zero, List.getElem_cons_succ, List.setIfInBounds_toArray, List.set_cons_zero, List.set_cons_succ])
  refine wpAnyH_ready (rs := [13]) (by kernel_rfl) (by simp) ?_
  refine AllReadyH.cons rfl (fun K hK => ?_) AllReadyH.nil
  refine wp_store_row 44 (.tmp 2) (.tmp 15) rfl B (mgV (mesP .fetch r)) rfl rfl 44 (mgV mg0) m0.out mg_info rfl (mg_one _) ?_
  refine hK.out _ _ ((setRow_other _ _ _ _ hne)) (fun hHeld => ?_)
  clear hK
  (try simp only [Act.put, List.setIfInBounds_toArray, List.set_cons_zero, List.set_cons_succ])
  refine wpAnyH_done (by kernel_rfl) ?_ _
  go_wp2_with fail
  refine bodyPost_ret (v := .agg (mgV (mesP .fetch r))) (res_row1 Try.results105 _ _ _ B rfl _ (setRow_heap _ _ _ _ _ _ m0.out) Try.underlying44 mg_info) rfl ⟨rfl, ?_⟩
  exact ((Kp.of_below b0.out non).drew.row (Or.inr (by rw [HB.out]; exact Nat.le_refl _)) _).below
set_option maxHeartbeats 8000000 in
set_option maxRecDepth 100000 in
set_option linter.unusedSimpArgs false in
set_option linter.unusedVariables false in
theorem message_swap {w : World} {P A : Nat} {ty : TypeId} {u : Ru} {r : Rd} (h : RdAt w P A ty u r) :
    Calls Try.prog 111 #[.pointer (some ⟨P, 0, none⟩)] w fun e w' => e = .returned (.agg (mgV (mesP .swap r))) ∧ Below w.heap.size w w' := by
  obtain ⟨B, hB⟩ : ∃ B, B = w.heap.size := ⟨_, rfl⟩
  obtain ⟨W0, hW0⟩ : ∃ W0, W0 = w.alloc (.cells (mgV mg0) 44) := ⟨_, rfl⟩
  have b0 : Hid (Below w.heap.size w W0) := by rw [hW0]; exact (Below.refl _ w).alloc (Nat.le_refl _) _
  have m0 : Hid (MgAt W0 B mg0) := by rw [hW0, hB]; exact MgAt.new w mg0
  have HB := hide hB
  have r0 : Hid (RdAt W0 P A ty u r) := h.below b0.out
  have hne : P ≠ B := by have := blk_lt h.ob; omega
  have F : Hid (∀ X : World, X.heap[P]? = W0.heap[P]? → X.cell? ⟨P, 4, none⟩ = some (.int .i64 r.num) ∧ X.cell? ⟨P, 6, none⟩ = some (.int .i64 r.ver)) := fun X hX => by
    obtain ⟨_, _, _, _, x4, _, x6, _⟩ := r0.out.cells
    unfold World.cell? at *
    rw [hX]
    exact ⟨x4, x6⟩
  clear h
  go_enter Try.func111, Try.ntmps111
  go_upto_region 1 with fail
  rw [show (#[.int .i64 0, .int .i64 0, .int .i64 0, .int .i64 0, .int .i64 0, .int .i64 0, .int .i64 0, .int .i64 0, .int .i64 0, .string ⟨#[]⟩, .string ⟨#[]⟩] : Array Value) = mgV mg0 from rfl]
  rw [← hW0, ← HB.out]
  clear hW0 hB
  refine wp_region_held_drew (S := fun X => X.heap[P]? = W0.heap[P]?) (by kernel_rfl) rfl (fun hHeld => ?_)
  refine wpAnyH_take (i := 0) (v := (.pointer (some ⟨P, 0, none⟩))) rfl (by kernel_rfl) (by kernel_rfl) (by kernel_rfl) (fun _ _ _ h => h) (Or.inl ⟨by kernel_rfl, ?_⟩) (by assumption) ?_
  · intro w' hSw
    (try dsimp only at hSw)
    go_simp
  (try simp only [Act.put, List.getElem_toArray, List.getElem_cons_zero, List.getElem_cons_succ, List.setIfInBounds_toArray, List.set_cons_zero, List.set_cons_succ])
  refine wpAnyH_take (i := 1) (v := (.pointer (some ⟨P, 0, none⟩))) rfl (by kernel_rfl) (by kernel_rfl) (by kernel_rfl) (fun _ _ _ h => h) (Or.inl ⟨by kernel_rfl, ?_⟩) (by assumption) ?_
  · intro w' hSw
    (try dsimp only at hSw)
    go_simp
  (try simp only [Act.put, List.getElem_toArray, List.getElem_cons_zero, List.getElem_cons_succ, List.setIfInBounds_toArray, List.set_cons_zero, List.set_cons_succ])
  refine wpAnyH_take (i := 2) (v := (.pointer (some ⟨P, 0, none⟩))) rfl (by kernel_rfl) (by kernel_rfl) (by kernel_rfl) (fun _ _ _ h => h) (Or.inl ⟨by kernel_rfl, ?_⟩) (by assumption) ?_
  · intro w' hSw
    (try dsimp only at hSw)
    go_simp
  (try simp only [Act.put, List.getElem_toArray, List.getElem_cons_zero, List.getElem_cons_succ, List.setIfInBounds_toArray, List.set_cons_zero, List.set_cons_succ])
  refine wpAnyH_take (i := 3) (v := (.pointer (some ⟨P, 4, none⟩))) rfl (by kernel_rfl) (by kernel_rfl) (by kernel_rfl) (fun _ _ _ h => h) (Or.inl ⟨by kernel_rfl, ?_⟩) (by assumption) ?_
  · intro w' hSw
    (try dsimp only at hSw)
    go_simp
  (try simp only [Act.put, List.getElem_toArray, List.getElem_cons_zero, List.getElem_cons_succ, List.setIfInBounds_toArray, List.set_cons_zero, List.set_cons_succ])
  refine wpAnyH_take (i := 4) (v := (.pointer (some ⟨P, 4, none⟩))) rfl (by kernel_rfl) (by kernel_rfl) (by kernel_rfl) (fun _ _ _ h => h) (Or.inl ⟨by kernel_rfl, ?_⟩) (by assumption) ?_
  · intro w' hSw
    (try dsimp only at hSw)
    go_simp
  (try simp only [Act.put, List.getElem_toArray, List.getElem_cons_zero, List.getElem_cons_succ, List.setIfInBounds_toArray, List.set_cons_zero, List.set_cons_succ])
  refine wpAnyH_take (i := 5) (v := (.int .i64 r.num)) rfl (by kernel_rfl) (by kernel_rfl) (by kernel_rfl) (fun _ _ _ h => h) (Or.inl ⟨by kernel_rfl, ?_⟩) (by assumption) ?_
  · intro w' hSw
    (try dsimp only at hSw)
    (have z := (F.out _ hSw).1; go_simp)
  (try simp only [Act.put, List.getElem_toArray, List.getElem_cons_zero, List.getElem_cons_succ, List.setIfInBounds_toArray, List.set_cons_zero, List.set_cons_succ])
  refine wpAnyH_take (i := 6) (v := (.pointer (some ⟨P, 0, none⟩))) rfl (by kernel_rfl) (by kernel_rfl) (by kernel_rfl) (fun _ _ _ h => h) (Or.inl ⟨by kernel_rfl, ?_⟩) (by assumption) ?_
  · intro w' hSw
    (try dsimp only at hSw)
    go_simp
  (try simp only [Act.put, List.getElem_toArray, List.getElem_cons_zero, List.getElem_cons_succ, List.setIfInBounds_toArray, List.set_cons_zero, List.set_cons_succ])
  refine wpAnyH_take (i := 7) (v := (.pointer (some ⟨P, 0, none⟩))) rfl (by kernel_rfl) (by kernel_rfl) (by kernel_rfl) (fun _ _ _ h => h) (Or.inl ⟨by kernel_rfl, ?_⟩) (by assumption) ?_
  · intro w' hSw
    (try dsimp only at hSw)
    go_simp
  (try simp only [Act.put, List.getElem_toArray, List.getElem_cons_zero, List.getElem_cons_succ, List.setIfInBounds_toArray, List.set_cons_zero, List.set_cons_succ])
  refine wpAnyH_take (i := 8) (v := (.pointer (some ⟨P, 0, none⟩))) rfl (by kernel_rfl) (by kernel_rfl) (by kernel_rfl) (fun _ _ _ h => h) (Or.inl ⟨by kernel_rfl, ?_⟩) (by assumption) ?_
  · intro w' hSw
    (try dsimp only at hSw)
    go_simp
  (try simp only [Act.put, List.getElem_toArray, List.getElem_cons_zero, List.getElem_cons_succ, List.setIfInBounds_toArray, List.set_cons_zero, List.set_cons_succ])
  refine wpAnyH_take (i := 9) (v := (.pointer (some ⟨P, 4, none⟩))) rfl (by kernel_rfl) (by kernel_rfl) (by kernel_rfl) (fun _ _ _ h => h) (Or.inl ⟨by kernel_rfl, ?_⟩) (by assumption) ?_
  · intro w' hSw
    (try dsimp only at hSw)
    go_simp
  (try simp only [Act.put, List.getElem_toArray, List.getElem_cons_zero, List.getElem_cons_succ, List.setIfInBounds_toArray, List.set_cons_zero, List.set_cons_succ])
  refine wpAnyH_take (i := 10) (v := (.pointer (some ⟨P, 6, none⟩))) rfl (by kernel_rfl) (by kernel_rfl) (by kernel_rfl) (fun _ _ _ h => h) (Or.inl ⟨by kernel_rfl, ?_⟩) (by assumption) ?_
  · intro w' hSw
    (try dsimp only at hSw)
    go_simp
  (try simp only [Act.put, List.getElem_toArray, List.getElem_cons_zero, List.getElem_cons_succ, List.setIfInBounds_toArray, List.set_cons_zero, List.set_cons_succ])
  refine wpAnyH_take (i := 11) (v := (.int .i64 r.ver)) rfl (by kernel_rfl) (by kernel_rfl) (by kernel_rfl) (fun _ _ _ h => h) (Or.inl ⟨by kernel_rfl, ?_⟩) (by assumption) ?_
  · intro w' hSw
    (try dsimp only at hSw)
    (have z := (F.out _ hSw).2; go_simp)
  (try simp only [Act.put, List.getElem_toArray, List.getElem_cons_zero, List.getElem_cons_succ, List.setIfInBounds_toArray, List.set_cons_zero, List.set_cons_succ])
  refine wpAnyH_take (i := 12) (v := (.agg (mgV (mesP .swap r)))) rfl (by kernel_rfl) (by kernel_rfl) (by kernel_rfl) (fun _ _ _ h => h) (Or.inl ⟨by kernel_rfl, ?_⟩) (by assumption) ?_
  · intro w' hSw
    (try dsimp only at hSw)
    (exact exec_bl 44 #[(0, .const (.int .i64 5)), (4, .tmp 8), (5, .const (.int .i64 1)), (6, .tmp 14)] rfl _ (by kernel_rfl))
  (try simp only [Act.put, List.getElem_toArray, List.getElem_cons_zero, List.getElem_cons_succ, List.setIfInBounds_toArray, List.set_cons_zero, List.set_cons_succ])
  refine wpAnyH_ready (rs := [13]) (by kernel_rfl) (by simp) ?_
  refine AllReadyH.cons rfl (fun K hK => ?_) AllReadyH.nil
  refine wp_store_row 44 (.tmp 2) (.tmp 15) rfl B (mgV (mesP .swap r)) rfl rfl 44 (mgV mg0) m0.out mg_info rfl (mg_one _) ?_
  refine hK.out _ _ ((setRow_other _ _ _ _ hne)) (fun hHeld => ?_)
  clear hK
  (try simp only [Act.put, List.setIfInBounds_toArray, List.set_cons_zero, List.set_cons_succ])
  refine wpAnyH_done (by kernel_rfl) ?_ _
  go_wp2_with fail
  refine bodyPost_ret (v := .agg (mgV (mesP .swap r))) (res_row1 Try.results111 _ _ _ B rfl _ (setRow_heap _ _ _ _ _ _ m0.out) Try.underlying44 mg_info) rfl ⟨rfl, ?_⟩
  exact ((Kp.of_below b0.out non).drew.row (Or.inr (by rw [HB.out]; exact Nat.le_refl _)) _).below
set_option maxHeartbeats 8000000 in
set_option maxRecDepth 100000 in
set_option linter.unusedSimpArgs false in
set_option linter.unusedVariables false in
theorem anew_any {w : World} {P A : Nat} {ty : TypeId} {u : Ru} {r : Rd} (h : RdAt w P A ty u r) (h1 : 1 ≤ u.n) (h16 : u.n ≤ 16) :
    Calls Try.prog 89 #[.pointer (some ⟨P, 0, none⟩)] w fun e w' => ∃ A', e = .returned (.agg (rdA u (rd0 u r.num r.kind r.ver) A')) ∧ w'.heap[A']? = some (.cells (anc (rd0 u r.num r.kind r.ver).al).toArray 134) ∧ w.heap.size ≤ A' ∧ Below w.heap.size w w' := by
  obtain ⟨B, hB⟩ : ∃ B, B = w.heap.size := ⟨_, rfl⟩
  obtain ⟨W0, hW0⟩ : ∃ W0, W0 = w.alloc (.cells rdZ 86) := ⟨_, rfl⟩
  have b0 : Hid (Below w.heap.size w W0) := by rw [hW0]; exact (Below.refl _ w).alloc (Nat.le_refl _) _
  have m0 : Hid (W0.heap[B]? = some (.cells rdZ 86)) := by rw [hW0, hB]; exact heap_last w _
  have HB := hide hB
  have r0 : Hid (RdAt W0 P A ty u r) := h.below b0.out
  have hne : P ≠ B := by have := blk_lt h.ob; omega
  have F : Hid (∀ X : World, X.heap[P]? = W0.heap[P]? → (X.cell? ⟨P, 0, none⟩ = some (.int .i64 (u.n : Int)) ∧ X.cell? ⟨P, 1, none⟩ = some (.int .i64 u.rs) ∧ X.cell? ⟨P, 2, none⟩ = some (.int .i64 u.lm) ∧ X.cell? ⟨P, 3, none⟩ = some (.int .i64 u.pt)) ∧ (X.cell? ⟨P, 4, none⟩ = some (.int .i64 r.num) ∧ X.cell? ⟨P, 5, none⟩ = some (.int .i64 r.kind) ∧ X.cell? ⟨P, 6, none⟩ = some (.int .i64 r.ver))) := fun X hX => by
    obtain ⟨x0, x1, x2, x3, x4, x5, x6, _⟩ := r0.out.cells
    unfold World.cell? at *
    rw [hX]
    exact ⟨⟨x0, x1, x2, x3⟩, ⟨x4, x5, x6⟩⟩
  clear h
  go_enter Try.func89, Try.ntmps89
  go_upto_region 1 with fail
  rw [show (#[.int .i64 0, .int .i64 0, .int .i64 0, .int .i64 0, .int .i64 0, .int .i64 0, .int .i64 0, .slice none 0 0, .int .i64 0, .int .i64 0] : Array Value) = rdZ from rfl]
  rw [← hW0, ← HB.out]
  clear hW0 hB
  refine wp_region_held_drew (S := fun X => X.heap[P]? = W0.heap[P]?) (by kernel_rfl) rfl (fun hHeld => ?_)
  refine wpAnyH_take (i := 0) (v := (.pointer (some ⟨P, 0, none⟩))) rfl (by kernel_rfl) (by kernel_rfl) (by kernel_rfl) (fun _ _ _ h => h) (Or.inl ⟨by kernel_rfl, ?_⟩) (by assumption) ?_
  · intro w' hSw
    (try dsimp only at hSw)
    go_simp
  (try simp only [Act.put, List.getElem_toArray, List.getElem_cons_zero, List.getElem_cons_succ, List.setIfInBounds_toArray, List.set_cons_zero, List.set_cons_succ])
  refine wpAnyH_take (i := 1) (v := (.pointer (some ⟨P, 0, none⟩))) rfl (by kernel_rfl) (by kernel_rfl) (by kernel_rfl) (fun _ _ _ h => h) (Or.inl ⟨by kernel_rfl, ?_⟩) (by assumption) ?_
  · intro w' hSw
    (try dsimp only at hSw)
    go_simp
  (try simp only [Act.put, List.getElem_toArray, List.getElem_cons_zero, List.getElem_cons_succ, List.setIfInBounds_toArray, List.set_cons_zero, List.set_cons_succ])
  refine wpAnyH_take (i := 2) (v := (.pointer (some ⟨P, 0, none⟩))) rfl (by kernel_rfl) (by kernel_rfl) (by kernel_rfl) (fun _ _ _ h => h) (Or.inl ⟨by kernel_rfl, ?_⟩) (by assumption) ?_
  · intro w' hSw
    (try dsimp only at hSw)
    go_simp
  (try simp only [Act.put, List.getElem_toArray, List.getElem_cons_zero, List.getElem_cons_succ, List.setIfInBounds_toArray, List.set_cons_zero, List.set_cons_succ])
  refine wpAnyH_take (i := 3) (v := (.agg (ruA u))) rfl (by kernel_rfl) (by kernel_rfl) (by kernel_rfl) (fun _ _ _ h => h) (Or.inl ⟨by kernel_rfl, ?_⟩) (by assumption) ?_
  · intro w' hSw
    (try dsimp only at hSw)
    (obtain ⟨z0, z1, z2, z3⟩ := (F.out _ hSw).1; unfold ruA; go_simp)
  (try simp only [Act.put, List.getElem_toArray, List.getElem_cons_zero, List.getElem_cons_succ, List.setIfInBounds_toArray, List.set_cons_zero, List.set_cons_succ])
  refine wpAnyH_take (i := 4) (v := (.pointer (some ⟨P, 0, none⟩))) rfl (by kernel_rfl) (by kernel_rfl) (by kernel_rfl) (fun _ _ _ h => h) (Or.inl ⟨by kernel_rfl, ?_⟩) (by assumption) ?_
  · intro w' hSw
    (try dsimp only at hSw)
    go_simp
  (try simp only [Act.put, List.getElem_toArray, List.getElem_cons_zero, List.getElem_cons_succ, List.setIfInBounds_toArray, List.set_cons_zero, List.set_cons_succ])
  refine wpAnyH_take (i := 5) (v := (.pointer (some ⟨P, 0, none⟩))) rfl (by kernel_rfl) (by kernel_rfl) (by kernel_rfl) (fun _ _ _ h => h) (Or.inl ⟨by kernel_rfl, ?_⟩) (by assumption) ?_
  · intro w' hSw
    (try dsimp only at hSw)
    go_simp
  (try simp only [Act.put, List.getElem_toArray, List.getElem_cons_zero, List.getElem_cons_succ, List.setIfInBounds_toArray, List.set_cons_zero, List.set_cons_succ])
  refine wpAnyH_take (i := 6) (v := (.pointer (some ⟨P, 4, none⟩))) rfl (by kernel_rfl) (by kernel_rfl) (by kernel_rfl) (fun _ _ _ h => h) (Or.inl ⟨by kernel_rfl, ?_⟩) (by assumption) ?_
  · intro w' hSw
    (try dsimp only at hSw)
    go_simp
  (try simp only [Act.put, List.getElem_toArray, List.getElem_cons_zero, List.getElem_cons_succ, List.setIfInBounds_toArray, List.set_cons_zero, List.set_cons_succ])
  refine wpAnyH_take (i := 7) (v := (.agg (jbA r.num r.kind r.ver))) rfl (by kernel_rfl) (by kernel_rfl) (by kernel_rfl) (fun _ _ _ h => h) (Or.inl ⟨by kernel_rfl, ?_⟩) (by assumption) ?_
  · intro w' hSw
    (try dsimp only at hSw)
    (obtain ⟨z0, z1, z2⟩ := (F.out _ hSw).2; unfold jbA; go_simp)
  (try simp only [Act.put, List.getElem_toArray, List.getElem_cons_zero, List.getElem_cons_succ, List.setIfInBounds_toArray, List.set_cons_zero, List.set_cons_succ])
  have NR := hide (newRound_any u r.num r.kind r.ver W0.drew h1 h16)
  refine wpAnyH_ready (rs := [8]) (by kernel_rfl) (by simp) ?_
  refine AllReadyH.cons rfl (fun K hK => ?_) AllReadyH.nil
  go_simp
  refine Calls.mono NR.out ?_
  rintro e W1 ⟨A', rfl, hA, hle, hb⟩
  have b1 : Below W0.heap.size W0 W1 := (show Below W0.heap.size W0 W0.drew from ⟨rfl, rfl, rfl, Nat.le_refl _, fun _ _ => rfl⟩).trans hb
  have B1 := hide b1
  have m1 : Hid (W1.heap[B]? = some (.cells rdZ 86)) := (b1.block _ (blk_lt m0.out)).trans m0.out
  have hAB : Hid (A' ≠ B) := fun e => by have := blk_lt m0.out; have : W0.heap.size ≤ A' := hle; omega
  have hAl : Hid (w.heap.size ≤ A') := by have : W0.heap.size ≤ A' := hle; have := b0.out.size; exact Nat.le_trans b0.out.size ‹W0.heap.size ≤ A'›
  have HA := hide hA
  clear hb hA hle b1 NR hHeld
  refine hK.out _ _ ((B1.out.block _ (blk_lt r0.out.ob))) (fun hHeld => ?_)
  clear hK
  (try simp only [Act.put, List.setIfInBounds_toArray, List.set_cons_zero, List.set_cons_succ])
  refine wpAnyH_ready (rs := [9]) (by kernel_rfl) (by simp) ?_
  refine AllReadyH.cons rfl (fun K hK => ?_) AllReadyH.nil
  refine wp_store_row 86 (.tmp 2) (.tmp 11) rfl B (rdA u (rd0 u r.num r.kind r.ver) A') rfl rfl 86 rdZ m1.out rd_info rfl (rd_one _ _ _) ?_
  refine hK.out _ _ (((setRow_other _ _ _ _ hne).trans (B1.out.block _ (blk_lt r0.out.ob)))) (fun hHeld => ?_)
  clear hK
  (try simp only [Act.put, List.setIfInBounds_toArray, List.set_cons_zero, List.set_cons_succ])
  refine wpAnyH_done (by kernel_rfl) ?_ _
  go_wp2_with fail
  refine bodyPost_ret (v := .agg (rdA u (rd0 u r.num r.kind r.ver) A')) (res_row1 Try.results89 _ _ _ B rfl _ (setRow_heap _ _ _ _ _ _ m1.out) Try.underlying86 rd_info) rfl ⟨A', rfl, (setRow_other _ _ _ _ hAB.out).trans HA.out, hAl.out, ?_⟩
  exact (((Kp.of_below b0.out non).trans (Kp.of_below B1.out non) (fun _ f => f.elim)).row (Or.inr (by rw [HB.out]; exact Nat.le_refl _)) _).below
end Go.Proofs.Ytpleakkhbfhdkaa.Cn
namespace Go.Proofs.Ytpleakkhbfhdkaa.Cn
open Go.RowKit
theorem RdAt.drewN {w : World} {P A : Nat} {ty : TypeId} {u : Ru} {r : Rd} (h : RdAt w P A ty u r) (n : Nat) : RdAt (w.drewN n) P A ty u r := h.keep ((Kp.refl w non).drewN n) (fun f => f) (fun f => f)
def paceV (u : Ru) (r : Rd) (g : Int) : Int := if (r.tk + 1) % u.rs = 0 then (if r.sd < u.lm then 1 else g) else 0
def ftkV (u : Ru) (r : Rd) : Int := if u.pt ≤ r.tk + 1 then 3 else if (r.tk + 1) % u.rs = 0 then 1 else 0
set_option maxHeartbeats 8000000 in
set_option maxRecDepth 100000 in
set_option linter.unusedSimpArgs false in
set_option linter.unusedVariables false in
theorem pace_any {w : World} {P A : Nat} {ty : TypeId} {u : Ru} {r : Rd} (h : RdAt w P A ty u r) (g : Int) (h0 : 0 ≤ r.tk) (h1 : r.tk ≤ 1000000000000000) (hs : 1 ≤ u.rs) (hs1 : u.rs ≤ 1000000000000000) :
    Calls Try.prog 102 #[.pointer (some ⟨P, 0, none⟩), .int .i64 g] w fun e w' => e = .returned (.int .i64 (paceV u r g)) ∧ RdAt w' P A ty u { r with tk := r.tk + 1 } ∧ Kp w w' (fun k => k = P) := by
  have c8 := h.cells.2.2.2.2.2.2.2.2.1
  have z8 : w.frozen? ⟨P, 8, none⟩ = false := fz_row h.ob 8
  obtain ⟨W1, hW1⟩ : ∃ W1, W1 = w.setCell ⟨P, 8, none⟩ (.int .i64 (r.tk + 1)) := ⟨_, rfl⟩
  have R1 : Hid (RdAt W1 P A ty u { r with tk := r.tk + 1 }) := by rw [hW1]; exact h.setTk _
  have K1 : Hid (Kp w W1 (fun k => k = P)) := by rw [hW1]; exact (Kp.refl w (fun k => k = P)).set (Or.inl rfl) _ _
  obtain ⟨_, x1, x2, _, _, _, _, _, x8, x9⟩ := R1.out.cells
  have e : Int.tmod (r.tk + 1) u.rs = (r.tk + 1) % u.rs := Int.tmod_eq_emod_of_nonneg (by omega)
  have g1 : 0 ≤ (r.tk + 1) % u.rs := Int.emod_nonneg _ (by omega)
  have g2 : (r.tk + 1) % u.rs < u.rs := Int.emod_lt_of_pos _ (by omega)
  have HV : Hid (paceV u r g = if (r.tk + 1) % u.rs = 0 then (if r.sd < u.lm then 1 else g) else 0) := rfl
  obtain ⟨q, hq⟩ : ∃ q, (r.tk + 1) % u.rs = q := ⟨_, rfl⟩
  rw [hq] at e g1 g2 HV
  have hb0 : ¬ u.rs = 0 := by omega
  have hb1 : ¬ u.rs = -1 := by omega
  have W8 : IntKind.i64.wrap q = q := i64_in (by omega) (by omega)
  obtain ⟨t, ht⟩ : ∃ t, t = r.tk + 1 := ⟨_, rfl⟩
  have HT := hide ht
  have wt : wrap64 (r.tk + 1) = t := by rw [ht]; exact wrap_in (by omega) (by omega)
  rw [← ht] at e
  change W1.cell? ⟨P, 8, none⟩ = some (.int .i64 (r.tk + 1)) at x8
  rw [← ht] at x8 hW1
  have W9 : wrap64 q = q := wrap_in (by omega) (by omega)
  replace hW1 := hide hW1
  change W1.cell? ⟨P, 9, none⟩ = some (.int .i64 r.sd) at x9
  clear h ht hq g1 g2
  generalize paceV u r g = V at *
  go_enter Try.func102, Try.ntmps102
  go_upto_region 2 with fail
  first | rw [← HT.out] | skip
  rw [← hW1.out]
  clear hW1 c8 z8 wt
  by_cases hq0 : q = 0
  case neg =>
    have q0 : (q != 0) = true := by simpa using hq0
    rw [if_neg hq0] at HV
    clear hq0
    go_quiet (fail)
    go_wp2_with fail
    go_ret
    exact ⟨by rw [HV.out]; rfl, R1.out.drewN _, K1.out.drewN _⟩
  case pos =>
    subst hq0
    rw [if_pos rfl] at HV
    have q0 : ((0 : Int) != 0) = false := rfl
    by_cases hl : r.sd < u.lm
    case pos =>
      rw [if_pos hl] at HV
      have q1 : decide (r.sd < u.lm) = true := decide_eq_true hl
      clear hl
      go_quiet (fail)
      go_wp2_with fail
      go_quiet (fail)
      go_wp2_with fail
      go_ret
      exact ⟨by rw [HV.out]; rfl, (R1.out.drewN _).drewN _, (K1.out.drewN _).drewN _⟩
    case neg =>
      rw [if_neg hl] at HV
      have q1 : decide (r.sd < u.lm) = false := decide_eq_false hl
      clear hl
      go_quiet (fail)
      go_wp2_with fail
      go_quiet (fail)
      go_wp2_with fail
      go_ret
      exact ⟨by rw [HV.out]; rfl, (R1.out.drewN _).drewN _, (K1.out.drewN _).drewN _⟩
set_option maxHeartbeats 8000000 in
set_option maxRecDepth 100000 in
set_option linter.unusedSimpArgs false in
set_option linter.unusedVariables false in
theorem tick_fetch {w : World} {P A : Nat} {ty : TypeId} {u : Ru} {r : Rd} (h : RdAt w P A ty u r) (h0 : 0 ≤ r.tk) (h1 : r.tk ≤ 1000000000000000) (hs : 1 ≤ u.rs) (hs1 : u.rs ≤ 1000000000000000) :
    Calls Try.prog 108 #[.pointer (some ⟨P, 0, none⟩)] w fun e w' => e = .returned (.int .i64 (ftkV u r)) ∧ RdAt w' P A ty u { r with tk := r.tk + 1 } ∧ Kp w w' (fun k => k = P) := by
  have c8 := h.cells.2.2.2.2.2.2.2.2.1
  have z8 : w.frozen? ⟨P, 8, none⟩ = false := fz_row h.ob 8
  obtain ⟨W1, hW1⟩ : ∃ W1, W1 = w.setCell ⟨P, 8, none⟩ (.int .i64 (r.tk + 1)) := ⟨_, rfl⟩
  have R1 : Hid (RdAt W1 P A ty u { r with tk := r.tk + 1 }) := by rw [hW1]; exact h.setTk _
  have K1 : Hid (Kp w W1 (fun k => k = P)) := by rw [hW1]; exact (Kp.refl w (fun k => k = P)).set (Or.inl rfl) _ _
  obtain ⟨_, x1, _, x3, _, _, _, _, x8, _⟩ := R1.out.cells
  have e : Int.tmod (r.tk + 1) u.rs = (r.tk + 1) % u.rs := Int.tmod_eq_emod_of_nonneg (by omega)
  have g1 : 0 ≤ (r.tk + 1) % u.rs := Int.emod_nonneg _ (by omega)
  have g2 : (r.tk + 1) % u.rs < u.rs := Int.emod_lt_of_pos _ (by omega)
  have HV : Hid (ftkV u r = if u.pt ≤ r.tk + 1 then 3 else if (r.tk + 1) % u.rs = 0 then 1 else 0) := rfl
  obtain ⟨q, hq⟩ : ∃ q, (r.tk + 1) % u.rs = q := ⟨_, rfl⟩
  rw [hq] at e g1 g2 HV
  have hb0 : ¬ u.rs = 0 := by omega
  have hb1 : ¬ u.rs = -1 := by omega
  have W8 : IntKind.i64.wrap q = q := i64_in (by omega) (by omega)
  obtain ⟨t, ht⟩ : ∃ t, t = r.tk + 1 := ⟨_, rfl⟩
  have HT := hide ht
  have wt : wrap64 (r.tk + 1) = t := by rw [ht]; exact wrap_in (by omega) (by omega)
  rw [← ht] at e HV
  change W1.cell? ⟨P, 8, none⟩ = some (.int .i64 (r.tk + 1)) at x8
  rw [← ht] at x8 hW1
  have W9 : wrap64 q = q := wrap_in (by omega) (by omega)
  replace hW1 := hide hW1
  clear h ht hq g1 g2
  generalize ftkV u r = V at *
  go_enter Try.func108, Try.ntmps108
  go_upto_region 2 with fail
  first | rw [← HT.out] | skip
  rw [← hW1.out]
  clear hW1 c8 z8 wt
  by_cases hp : u.pt ≤ t
  case pos =>
    rw [if_pos hp] at HV
    have q1 : decide (u.pt ≤ t) = true := decide_eq_true hp
    clear hp
    go_quiet (fail)
    go_wp2_with fail
    go_ret
    exact ⟨by rw [HV.out]; rfl, R1.out.drewN _, K1.out.drewN _⟩
  case neg =>
    rw [if_neg hp] at HV
    have q1 : decide (u.pt ≤ t) = false := decide_eq_false hp
    clear hp
    by_cases hq0 : q = 0
    case pos =>
      subst hq0
      rw [if_pos rfl] at HV
      have q0 : ((0 : Int) == 0) = true := rfl
      go_quiet (fail)
      go_wp2_with fail
      go_quiet (fail)
      go_wp2_with fail
      go_ret
      exact ⟨by rw [HV.out]; rfl, (R1.out.drewN _).drewN _, (K1.out.drewN _).drewN _⟩
    case neg =>
      rw [if_neg hq0] at HV
      have q0 : (q == 0) = false := by simpa using hq0
      clear hq0
      go_quiet (fail)
      go_wp2_with fail
      go_quiet (fail)
      go_wp2_with fail
      go_ret
      exact ⟨by rw [HV.out]; rfl, (R1.out.drewN _).drewN _, (K1.out.drewN _).drewN _⟩
set_option maxHeartbeats 4000000 in
set_option maxRecDepth 100000 in
theorem tick_swap {w : World} {P A : Nat} {ty : TypeId} {u : Ru} {r : Rd} (h : RdAt w P A ty u r) (h0 : 0 ≤ r.tk) (h1 : r.tk ≤ 1000000000000000) (hs : 1 ≤ u.rs) (hs1 : u.rs ≤ 1000000000000000) :
    Calls Try.prog 112 #[.pointer (some ⟨P, 0, none⟩)] w fun e w' => e = .returned (.int .i64 (paceV u r 3)) ∧ RdAt w' P A ty u { r with tk := r.tk + 1 } ∧ Kp w w' (fun k => k = P) := by
  have PA := hide (pace_any h 3 h0 h1 hs hs1)
  clear h h0 h1 hs hs1
  generalize paceV u r 3 = V at *
  go_enter Try.func112, Try.ntmps112
  go_wp2_with fail
  refine Calls.mono PA.out ?_
  rintro e W1 ⟨rfl, h1, h2⟩
  go_wp2_with fail
  go_ret
  exact ⟨rfl, h1, h2⟩
set_option maxHeartbeats 4000000 in
set_option maxRecDepth 100000 in
theorem tick_back {w : World} {P A : Nat} {ty : TypeId} {u : Ru} {r : Rd} (h : RdAt w P A ty u r) (h0 : 0 ≤ r.tk) (h1 : r.tk ≤ 1000000000000000) (hs : 1 ≤ u.rs) (hs1 : u.rs ≤ 1000000000000000) :
    Calls Try.prog 100 #[.pointer (some ⟨P, 0, none⟩)] w fun e w' => e = .returned (.int .i64 (paceV u r 6)) ∧ RdAt w' P A ty u { r with tk := r.tk + 1 } ∧ Kp w w' (fun k => k = P) := by
  have PA := hide (pace_any h 6 h0 h1 hs hs1)
  clear h h0 h1 hs hs1
  generalize paceV u r 6 = V at *
  go_enter Try.func100, Try.ntmps100
  go_wp2_with fail
  refine Calls.mono PA.out ?_
  rintro e W1 ⟨rfl, h1, h2⟩
  go_wp2_with fail
  go_ret
  exact ⟨rfl, h1, h2⟩
set_option maxHeartbeats 4000000 in
set_option maxRecDepth 100000 in
theorem tick_look {w : World} {P A : Nat} {ty : TypeId} {u : Ru} {r : Rd} (h : RdAt w P A ty u r) (h0 : 0 ≤ r.tk) (h1 : r.tk ≤ 1000000000000000) (hs : 1 ≤ u.rs) (hs1 : u.rs ≤ 1000000000000000) :
    Calls Try.prog 119 #[.pointer (some ⟨P, 0, none⟩)] w fun e w' => e = .returned (.int .i64 (paceV u r 6)) ∧ RdAt w' P A ty u { r with tk := r.tk + 1 } ∧ Kp w w' (fun k => k = P) := by
  have PA := hide (pace_any h 6 h0 h1 hs hs1)
  clear h h0 h1 hs hs1
  generalize paceV u r 6 = V at *
  go_enter Try.func119, Try.ntmps119
  go_wp2_with fail
  refine Calls.mono PA.out ?_
  rintro e W1 ⟨rfl, h1, h2⟩
  go_wp2_with fail
  go_ret
  exact ⟨rfl, h1, h2⟩
end Go.Proofs.Ytpleakkhbfhdkaa.Cn
