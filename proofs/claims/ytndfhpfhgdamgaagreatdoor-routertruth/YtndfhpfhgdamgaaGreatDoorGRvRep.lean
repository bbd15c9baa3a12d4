import Derived.Test.YtndfhpfhgdamgaaGreatDoorGRvGet
namespace Go.Proofs.YtndfhpfhgdamgaaGreatDoor.Cn
open Go.RowKit
theorem op_info : (Tryz.prog.info? 60).map (·.size) = some 15 := by kernel_rfl
theorem kp_setRow (W : World) (b : Nat) (A : Array Value) : Kp W (W.setRow b A) (fun j => j = b) := ⟨rfl, rfl, rfl, by simp [World.setRow], fun j _ hj => by simp only [World.setRow, Array.getElem?_modify]; rw [if_neg (fun e => hj e.symm)]⟩
theorem wpList_ldRH {w : World} {ops : Array Oper} {rest : List Oper} {o : Oper} {a : Act} {Q : Exit → Act → World → Prop} (hw : Region.wanted o (yielded ops a.tmps) = true) (ty : TypeId) (x : Operand) (ho : o.op = .load ty x) (b : Nat) (hx : a.eval x = .pointer (some ⟨b, 0, none⟩)) (t : TypeId) (A : Array Value) (hO : w.heap[b]? = some (.cells A t)) {fs} (hu : Tryz.prog.underlying ty = some (.struct fs)) (hi : (Tryz.prog.info? ty).map (·.size) = some A.size)
    (h : wpList Tryz.prog ops Q rest (a.put o.dst (.agg A)) w) : wpList Tryz.prog ops Q (o :: rest) a w := by
  have hl : (Instr.loadAt ty (.pointer (some ⟨b, 0, none⟩))).run Tryz.prog w = .ok (.agg A) w := by
    simp only [Instr.loadAt, Instr.sureAddr, Sem.run_bind, Sem.run_pure, Result.andThen]
    exact run_loadVar_row _ _ t ty A (0, 0) _ hO hu rfl hi
  refine BigFrame.wpList_want hw fun K hK => ?_
  unfold Oper.wp execOp
  simp only [ho, Sem.run_bind, Sem.run_pure, Result.andThen_ok, hx, hl]
  exact hK _ _ h
set_option maxHeartbeats 16000000 in
set_option maxRecDepth 100000 in
set_option linter.unusedSimpArgs false in
set_option linter.unusedVariables false in
theorem step_rep {w : World} {B : Nat} {vw : Value} {o : Op2} {Ans : Mg → Prop} {Q : World → Prop} (h6 : o.kd = 6) (b1 : w.cell? ⟨B, 1, none⟩ = some vw)
    (AN : ∀ X, Kp w X non → ∃ m, Ans m ∧ Calls Tryz.prog 29 #[vw, .agg (opV o)] X fun e w' => e = .returned (.tuple #[.agg (mgV m), .bool true]) ∧ Kp X w' non)
    (TI : ∀ m, Ans m → ∀ X, Kp w X non → Calls Tryz.prog 44 #[.pointer (some ⟨B, 0, none⟩), .agg (mgV m)] X fun e w' => e = .returned (.bool true) ∧ Q w') :
    Calls Tryz.prog 19 #[.pointer (some ⟨B, 0, none⟩), .agg (opV o)] w fun e w' => e = .returned (.bool true) ∧ Q w' := by
  obtain ⟨OB, hOB⟩ : ∃ OB, OB = w.heap.size := ⟨_, rfl⟩
  obtain ⟨W0, hW0⟩ : ∃ W0, W0 = w.alloc (.cells (opV o) 60) := ⟨_, rfl⟩
  have k0 : Kp w W0 non := by rw [hW0]; exact (Kp.refl w non).alloc _
  have ob : W0.heap[OB]? = some (.cells (opV o) 60) := by rw [hW0, hOB]; exact heap_last _ _
  obtain ⟨o0, _, _, _⟩ := op_cells ob
  rw [h6] at o0
  have C0 : Hid (W0.cell? ⟨B, 1, none⟩ = some vw ∧ W0.heap[OB]? = some (.cells (opV o) 60)) := ⟨(k0.cell (b := B) (World.block_lt_of_cell? w _ b1) (fun f => f)).trans b1, ob⟩
  have HBlt : Hid (B < W0.heap.size) := World.block_lt_of_cell? W0 _ C0.out.1
  have HOl : Hid (OB < W0.heap.size) := blk_lt ob
  have KD : Hid (Kp w W0.drew non) := k0.drew
  have HOB := hide hOB
  have HAN := hide AN
  have HTI := hide TI
  clear h6 b1 AN TI k0 ob hOB
  go_enter Tryz.func19, Tryz.ntmps19
  go_upto_region 1 with fail
  rw [← hW0, ← HOB.out]
  clear hW0
  go_upto_region 20 with fail
  clear o0
  refine wp_region_held_drew (S := fun X => X.cell? ⟨B, 1, none⟩ = some vw ∧ X.heap[OB]? = some (.cells (opV o) 60)) (by kernel_rfl) C0.out (fun hHeld => ?_)
  refine wpAnyH_take (i := 0) (v := (.pointer (some ⟨B, 0, none⟩))) rfl (by kernel_rfl) (by kernel_rfl) (by kernel_rfl) (fun _ _ _ h => h) (Or.inl ⟨by rfl, ?_⟩) (by assumption) ?_
  · intro w' hSw
    (try dsimp only at hSw)
    go_simp
  (try simp only [Act.put, List.getElem_toArray, List.getElem_cons_zero, List.getElem_cons_succ, List.setIfInBounds_toArray, List.set_cons_zero, List.set_cons_succ])
  refine wpAnyH_take (i := 1) (v := (.pointer (some ⟨B, 0, none⟩))) rfl (by kernel_rfl) (by kernel_rfl) (by kernel_rfl) (fun _ _ _ h => h) (Or.inl ⟨by rfl, ?_⟩) (by assumption) ?_
  · intro w' hSw
    (try dsimp only at hSw)
    go_simp
  (try simp only [Act.put, List.getElem_toArray, List.getElem_cons_zero, List.getElem_cons_succ, List.setIfInBounds_toArray, List.set_cons_zero, List.set_cons_succ])
  refine wpAnyH_take (i := 2) (v := (.pointer (some ⟨B, 1, none⟩))) rfl (by kernel_rfl) (by kernel_rfl) (by kernel_rfl) (fun _ _ _ h => h) (Or.inl ⟨by rfl, ?_⟩) (by assumption) ?_
  · intro w' hSw
    (try dsimp only at hSw)
    go_simp
  (try simp only [Act.put, List.getElem_toArray, List.getElem_cons_zero, List.getElem_cons_succ, List.setIfInBounds_toArray, List.set_cons_zero, List.set_cons_succ])
  refine wpAnyH_take (i := 3) (v := vw) rfl (by kernel_rfl) (by kernel_rfl) (by kernel_rfl) (fun _ _ _ h => h) (Or.inl ⟨by rfl, ?_⟩) (by assumption) ?_
  · intro w' hSw
    (try dsimp only at hSw)
    (have hs1 := hSw.1; go_simp)
  (try simp only [Act.put, List.getElem_toArray, List.getElem_cons_zero, List.getElem_cons_succ, List.setIfInBounds_toArray, List.set_cons_zero, List.set_cons_succ])
  refine wpAnyH_take (i := 4) (v := (.agg (opV o))) rfl (by kernel_rfl) (by kernel_rfl) (by kernel_rfl) (fun _ _ _ h => h) (Or.inl ⟨by rfl, ?_⟩) (by assumption) ?_
  · intro w' hSw
    (try dsimp only at hSw)
    (exact exec_ldR 60 (.tmp 3) rfl rfl _ hSw.2 Tryz.underlying60 op_info)
  (try simp only [Act.put, List.getElem_toArray, List.getElem_cons_zero, List.getElem_cons_succ, List.setIfInBounds_toArray, List.set_cons_zero, List.set_cons_succ])
  refine wpAnyH_ready (rs := [5, 9]) (by kernel_rfl) (by simp) ?_
  refine AllReadyH.cons rfl (fun K hK => ?_) (AllReadyH.cons rfl (fun K hK => ?_) AllReadyH.nil)
  · obtain ⟨m, hm, AN0⟩ := HAN.out W0.drew KD.out
    go_simp
    refine Calls.mono AN0 ?_
    rintro e W2 ⟨rfl, k2⟩
    have C2 : Hid (W2.cell? ⟨B, 1, none⟩ = some vw ∧ W2.heap[OB]? = some (.cells (opV o) 60)) := ⟨(k2.cell (b := B) HBlt.out (fun f => f)).trans C0.out.1, (k2.block _ HOl.out (fun f => f)).trans C0.out.2⟩
    have K2 : Hid (Kp w W2 non) := KD.out.trans k2 (fun _ f => f.elim)
    obtain ⟨MB, hMB⟩ : ∃ MB, MB = W2.heap.size := ⟨_, rfl⟩
    obtain ⟨W3, hW3⟩ : ∃ W3, W3 = W2.alloc (.cells (mgV mg0) 58) := ⟨_, rfl⟩
    have k3 : Kp W2 W3 non := by rw [hW3]; exact (Kp.refl W2 non).alloc _
    have M3 : Hid (W3.heap[MB]? = some (.cells (mgV mg0) 58)) := by rw [hW3, hMB]; exact heap_last _ _
    have C3 : Hid (W3.cell? ⟨B, 1, none⟩ = some vw ∧ W3.heap[OB]? = some (.cells (opV o) 60)) := ⟨(k3.cell (b := B) (World.block_lt_of_cell? W2 _ C2.out.1) (fun f => f)).trans C2.out.1, (k3.block _ (blk_lt C2.out.2) (fun f => f)).trans C2.out.2⟩
    have K3 : Hid (Kp w W3 non) := K2.out.trans k3 (fun _ f => f.elim)
    have GE : Hid (w.heap.size ≤ MB) := by rw [hMB]; exact K2.out.size
    have BM : Hid (B ≠ MB) := by have := World.block_lt_of_cell? W2 _ C2.out.1; simp only at this; intro e; omega
    have OM : Hid (OB ≠ MB) := by have := blk_lt C2.out.2; intro e; omega
    have HMB := hide hMB
    clear k2 k3 AN0 hMB
    refine hK.out _ _ (C2.out) (fun hHeld => ?_)
    clear hK
    (try simp only [Act.put, List.setIfInBounds_toArray, List.set_cons_zero, List.set_cons_succ])
    refine wpAnyH_take (i := 6) (v := (.tuple #[.agg (mgV m), .bool true])) rfl (by kernel_rfl) (by kernel_rfl) (by kernel_rfl) (fun _ _ _ h => h) (Or.inl ⟨by rfl, ?_⟩) (by assumption) ?_
    · intro w' hSw
      (try dsimp only at hSw)
      go_simp
    (try simp only [Act.put, List.getElem_toArray, List.getElem_cons_zero, List.getElem_cons_succ, List.setIfInBounds_toArray, List.set_cons_zero, List.set_cons_succ])
    refine wpAnyH_take (i := 7) (v := (.agg (mgV m))) rfl (by kernel_rfl) (by kernel_rfl) (by kernel_rfl) (fun _ _ _ h => h) (Or.inl ⟨by rfl, ?_⟩) (by assumption) ?_
    · intro w' hSw
      (try dsimp only at hSw)
      go_simp
    (try simp only [Act.put, List.getElem_toArray, List.getElem_cons_zero, List.getElem_cons_succ, List.setIfInBounds_toArray, List.set_cons_zero, List.set_cons_succ])
    refine wpAnyH_take (i := 8) (v := (.bool true)) rfl (by kernel_rfl) (by kernel_rfl) (by kernel_rfl) (fun _ _ _ h => h) (Or.inl ⟨by rfl, ?_⟩) (by assumption) ?_
    · intro w' hSw
      (try dsimp only at hSw)
      go_simp
    (try simp only [Act.put, List.getElem_toArray, List.getElem_cons_zero, List.getElem_cons_succ, List.setIfInBounds_toArray, List.set_cons_zero, List.set_cons_succ])
    refine wpAnyH_ready (rs := [9]) (by kernel_rfl) (by simp) ?_
    refine AllReadyH.cons rfl (fun K hK => ?_) AllReadyH.nil
    go_simp
    change K _ (W2.alloc (.cells (mgV mg0) 58))
    rw [← hW3, ← HMB.out]
    clear hW3 HMB
    refine hK.out _ _ (C3.out) (fun hHeld => ?_)
    clear hK
    (try simp only [Act.put, List.setIfInBounds_toArray, List.set_cons_zero, List.set_cons_succ])
    refine wpAnyH_ready (rs := [10]) (by kernel_rfl) (by simp) ?_
    refine AllReadyH.cons rfl (fun K hK => ?_) AllReadyH.nil
    refine wp_store_row 58 (.tmp 13) (.tmp 106) rfl MB (mgV m) (by kernel_rfl) (by kernel_rfl) 58 _ M3.out mg_info rfl (mg_one _) ?_
    obtain ⟨W4, hW4⟩ : ∃ W4, W4 = W3.setRow MB (mgV m) := ⟨_, rfl⟩
    have k4 : Kp W3 W4 (fun j => j = MB) := by rw [hW4]; exact kp_setRow _ _ _
    have M4 : Hid (W4.heap[MB]? = some (.cells (mgV m) 58)) := by rw [hW4]; exact setRow_heap _ _ _ _ _ _ M3.out
    have C4 : Hid (W4.cell? ⟨B, 1, none⟩ = some vw ∧ W4.heap[OB]? = some (.cells (opV o) 60)) := ⟨(k4.cell (b := B) (World.block_lt_of_cell? W3 _ C3.out.1) BM.out).trans C3.out.1, (k4.block _ (blk_lt C3.out.2) OM.out).trans C3.out.2⟩
    have K4 : Hid (Kp w W4 non) := K3.out.trans k4 (fun j e => Or.inr (by rw [e]; exact GE.out))
    have HM := hide hm
    rw [← hW4]
    clear hW4 k4 M3 C3 K3 hm
    refine hK.out _ _ (C4.out) (fun hHeld => ?_)
    clear hK
    (try simp only [Act.put, List.setIfInBounds_toArray, List.set_cons_zero, List.set_cons_succ])
    refine wpAnyH_ready (rs := [11]) (by kernel_rfl) (by simp) ?_
    refine AllReadyH.cons rfl (fun K hK => ?_) AllReadyH.nil
    go_simp
    refine hK.out _ _ (C4.out) (fun hHeld => ?_)
    clear hK
    (try simp only [Act.put, List.setIfInBounds_toArray, List.set_cons_zero, List.set_cons_succ])
    refine wpAnyH_done (by kernel_rfl) ?_ _
    clear C4 C0 hHeld
    go_wp2_with (refine wpList_ldRH (by kernel_rfl) 58 (.tmp 13) rfl MB rfl 58 (mgV m) M4.out Tryz.underlying58 mg_info ?_)
    refine Calls.mono (HTI.out m HM.out W4 K4.out) ?_
    rintro e W5 ⟨rfl, q5⟩
    have Q5 := hide q5
    clear q5
    go_wp2_with fail
    go_ret
    exact ⟨rfl, Q5.out⟩
  · obtain ⟨MB, hMB⟩ : ∃ MB, MB = W0.heap.size := ⟨_, rfl⟩
    obtain ⟨W2, hW2⟩ : ∃ W2, W2 = W0.drew.alloc (.cells (mgV mg0) 58) := ⟨_, rfl⟩
    have k2 : Kp W0.drew W2 non := by rw [hW2]; exact (Kp.refl W0.drew non).alloc _
    have M2 : Hid (W2.heap[MB]? = some (.cells (mgV mg0) 58)) := by rw [hW2, hMB]; exact heap_last _ _
    have C2 : Hid (W2.cell? ⟨B, 1, none⟩ = some vw ∧ W2.heap[OB]? = some (.cells (opV o) 60)) := ⟨(k2.cell (b := B) HBlt.out (fun f => f)).trans C0.out.1, (k2.block _ HOl.out (fun f => f)).trans C0.out.2⟩
    have K2 : Hid (Kp w W2 non) := KD.out.trans k2 (fun _ f => f.elim)
    have GE : Hid (w.heap.size ≤ MB) := by rw [hMB]; exact KD.out.size
    have BM : Hid (B ≠ MB) := by have h := HBlt.out; intro e; rw [e, hMB] at h; exact Nat.lt_irrefl _ h
    have OM : Hid (OB ≠ MB) := by have h := HOl.out; intro e; rw [e, hMB] at h; exact Nat.lt_irrefl _ h
    have HMB := hide hMB
    clear k2 hMB
    go_simp
    change K _ (W0.drew.alloc (.cells (mgV mg0) 58))
    rw [← hW2, ← HMB.out]
    clear hW2 HMB
    refine hK.out _ _ (C2.out) (fun hHeld => ?_)
    clear hK
    (try simp only [Act.put, List.setIfInBounds_toArray, List.set_cons_zero, List.set_cons_succ])
    refine wpAnyH_ready (rs := [5]) (by kernel_rfl) (by simp) ?_
    refine AllReadyH.cons rfl (fun K hK => ?_) AllReadyH.nil
    obtain ⟨m, hm, AN0⟩ := HAN.out W2 K2.out
    go_simp
    refine Calls.mono AN0 ?_
    rintro e W3 ⟨rfl, k3⟩
    have M3 : Hid (W3.heap[MB]? = some (.cells (mgV mg0) 58)) := (k3.block _ (blk_lt M2.out) (fun f => f)).trans M2.out
    have C3 : Hid (W3.cell? ⟨B, 1, none⟩ = some vw ∧ W3.heap[OB]? = some (.cells (opV o) 60)) := ⟨(k3.cell (b := B) (World.block_lt_of_cell? W2 _ C2.out.1) (fun f => f)).trans C2.out.1, (k3.block _ (blk_lt C2.out.2) (fun f => f)).trans C2.out.2⟩
    have K3 : Hid (Kp w W3 non) := K2.out.trans k3 (fun _ f => f.elim)
    clear k3 AN0
    refine hK.out _ _ (C3.out) (fun hHeld => ?_)
    clear hK
    (try simp only [Act.put, List.setIfInBounds_toArray, List.set_cons_zero, List.set_cons_succ])
    refine wpAnyH_take (i := 6) (v := (.tuple #[.agg (mgV m), .bool true])) rfl (by kernel_rfl) (by kernel_rfl) (by kernel_rfl) (fun _ _ _ h => h) (Or.inl ⟨by rfl, ?_⟩) (by assumption) ?_
    · intro w' hSw
      (try dsimp only at hSw)
      go_simp
    (try simp only [Act.put, List.getElem_toArray, List.getElem_cons_zero, List.getElem_cons_succ, List.setIfInBounds_toArray, List.set_cons_zero, List.set_cons_succ])
    refine wpAnyH_take (i := 7) (v := (.agg (mgV m))) rfl (by kernel_rfl) (by kernel_rfl) (by kernel_rfl) (fun _ _ _ h => h) (Or.inl ⟨by rfl, ?_⟩) (by assumption) ?_
    · intro w' hSw
      (try dsimp only at hSw)
      go_simp
    (try simp only [Act.put, List.getElem_toArray, List.getElem_cons_zero, List.getElem_cons_succ, List.setIfInBounds_toArray, List.set_cons_zero, List.set_cons_succ])
    refine wpAnyH_take (i := 8) (v := (.bool true)) rfl (by kernel_rfl) (by kernel_rfl) (by kernel_rfl) (fun _ _ _ h => h) (Or.inl ⟨by rfl, ?_⟩) (by assumption) ?_
    · intro w' hSw
      (try dsimp only at hSw)
      go_simp
    (try simp only [Act.put, List.getElem_toArray, List.getElem_cons_zero, List.getElem_cons_succ, List.setIfInBounds_toArray, List.set_cons_zero, List.set_cons_succ])
    refine wpAnyH_ready (rs := [10]) (by kernel_rfl) (by simp) ?_
    refine AllReadyH.cons rfl (fun K hK => ?_) AllReadyH.nil
    refine wp_store_row 58 (.tmp 13) (.tmp 106) rfl MB (mgV m) (by kernel_rfl) (by kernel_rfl) 58 _ M3.out mg_info rfl (mg_one _) ?_
    obtain ⟨W4, hW4⟩ : ∃ W4, W4 = W3.setRow MB (mgV m) := ⟨_, rfl⟩
    have k4 : Kp W3 W4 (fun j => j = MB) := by rw [hW4]; exact kp_setRow _ _ _
    have M4 : Hid (W4.heap[MB]? = some (.cells (mgV m) 58)) := by rw [hW4]; exact setRow_heap _ _ _ _ _ _ M3.out
    have C4 : Hid (W4.cell? ⟨B, 1, none⟩ = some vw ∧ W4.heap[OB]? = some (.cells (opV o) 60)) := ⟨(k4.cell (b := B) (World.block_lt_of_cell? W3 _ C3.out.1) BM.out).trans C3.out.1, (k4.block _ (blk_lt C3.out.2) OM.out).trans C3.out.2⟩
    have K4 : Hid (Kp w W4 non) := K3.out.trans k4 (fun j e => Or.inr (by rw [e]; exact GE.out))
    have HM := hide hm
    rw [← hW4]
    clear hW4 k4 M3 C3 K3 hm
    refine hK.out _ _ (C4.out) (fun hHeld => ?_)
    clear hK
    (try simp only [Act.put, List.setIfInBounds_toArray, List.set_cons_zero, List.set_cons_succ])
    refine wpAnyH_ready (rs := [11]) (by kernel_rfl) (by simp) ?_
    refine AllReadyH.cons rfl (fun K hK => ?_) AllReadyH.nil
    go_simp
    refine hK.out _ _ (C4.out) (fun hHeld => ?_)
    clear hK
    (try simp only [Act.put, List.setIfInBounds_toArray, List.set_cons_zero, List.set_cons_succ])
    refine wpAnyH_done (by kernel_rfl) ?_ _
    clear C4 C0 hHeld
    go_wp2_with (refine wpList_ldRH (by kernel_rfl) 58 (.tmp 13) rfl MB rfl 58 (mgV m) M4.out Tryz.underlying58 mg_info ?_)
    refine Calls.mono (HTI.out m HM.out W4 K4.out) ?_
    rintro e W5 ⟨rfl, q5⟩
    have Q5 := hide q5
    clear q5
    go_wp2_with fail
    go_ret
    exact ⟨rfl, Q5.out⟩
set_option maxHeartbeats 16000000 in
set_option maxRecDepth 100000 in
set_option linter.unusedSimpArgs false in
set_option linter.unusedVariables false in
theorem step_repno {w : World} {B : Nat} {vw : Value} {o : Op2} {Ans : Mg → Prop} {Q : World → Prop} (h6 : o.kd = 6) (b1 : w.cell? ⟨B, 1, none⟩ = some vw)
    (AN : ∀ X, Kp w X non → ∃ m, Ans m ∧ Calls Tryz.prog 29 #[vw, .agg (opV o)] X fun e w' => e = .returned (.tuple #[.agg (mgV m), .bool false]) ∧ Kp X w' non)
    (TI : ∀ m, Ans m → ∀ X, Kp w X non → Q X) :
    Calls Tryz.prog 19 #[.pointer (some ⟨B, 0, none⟩), .agg (opV o)] w fun e w' => e = .returned (.bool true) ∧ Q w' := by
  obtain ⟨OB, hOB⟩ : ∃ OB, OB = w.heap.size := ⟨_, rfl⟩
  obtain ⟨W0, hW0⟩ : ∃ W0, W0 = w.alloc (.cells (opV o) 60) := ⟨_, rfl⟩
  have k0 : Kp w W0 non := by rw [hW0]; exact (Kp.refl w non).alloc _
  have ob : W0.heap[OB]? = some (.cells (opV o) 60) := by rw [hW0, hOB]; exact heap_last _ _
  obtain ⟨o0, _, _, _⟩ := op_cells ob
  rw [h6] at o0
  have C0 : Hid (W0.cell? ⟨B, 1, none⟩ = some vw ∧ W0.heap[OB]? = some (.cells (opV o) 60)) := ⟨(k0.cell (b := B) (World.block_lt_of_cell? w _ b1) (fun f => f)).trans b1, ob⟩
  have HBlt : Hid (B < W0.heap.size) := World.block_lt_of_cell? W0 _ C0.out.1
  have HOl : Hid (OB < W0.heap.size) := blk_lt ob
  have KD : Hid (Kp w W0.drew non) := k0.drew
  have HOB := hide hOB
  have HAN := hide AN
  have HTI := hide TI
  clear h6 b1 AN TI k0 ob hOB
  go_enter Tryz.func19, Tryz.ntmps19
  go_upto_region 1 with fail
  rw [← hW0, ← HOB.out]
  clear hW0
  go_upto_region 20 with fail
  clear o0
  refine wp_region_held_drew (S := fun X => X.cell? ⟨B, 1, none⟩ = some vw ∧ X.heap[OB]? = some (.cells (opV o) 60)) (by kernel_rfl) C0.out (fun hHeld => ?_)
  refine wpAnyH_take (i := 0) (v := (.pointer (some ⟨B, 0, none⟩))) rfl (by kernel_rfl) (by kernel_rfl) (by kernel_rfl) (fun _ _ _ h => h) (Or.inl ⟨by rfl, ?_⟩) (by assumption) ?_
  · intro w' hSw
    (try dsimp only at hSw)
    go_simp
  (try simp only [Act.put, List.getElem_toArray, List.getElem_cons_zero, List.getElem_cons_succ, List.setIfInBounds_toArray, List.set_cons_zero, List.set_cons_succ])
  refine wpAnyH_take (i := 1) (v := (.pointer (some ⟨B, 0, none⟩))) rfl (by kernel_rfl) (by kernel_rfl) (by kernel_rfl) (fun _ _ _ h => h) (Or.inl ⟨by rfl, ?_⟩) (by assumption) ?_
  · intro w' hSw
    (try dsimp only at hSw)
    go_simp
  (try simp only [Act.put, List.getElem_toArray, List.getElem_cons_zero, List.getElem_cons_succ, List.setIfInBounds_toArray, List.set_cons_zero, List.set_cons_succ])
  refine wpAnyH_take (i := 2) (v := (.pointer (some ⟨B, 1, none⟩))) rfl (by kernel_rfl) (by kernel_rfl) (by kernel_rfl) (fun _ _ _ h => h) (Or.inl ⟨by rfl, ?_⟩) (by assumption) ?_
  · intro w' hSw
    (try dsimp only at hSw)
    go_simp
  (try simp only [Act.put, List.getElem_toArray, List.getElem_cons_zero, List.getElem_cons_succ, List.setIfInBounds_toArray, List.set_cons_zero, List.set_cons_succ])
  refine wpAnyH_take (i := 3) (v := vw) rfl (by kernel_rfl) (by kernel_rfl) (by kernel_rfl) (fun _ _ _ h => h) (Or.inl ⟨by rfl, ?_⟩) (by assumption) ?_
  · intro w' hSw
    (try dsimp only at hSw)
    (have hs1 := hSw.1; go_simp)
  (try simp only [Act.put, List.getElem_toArray, List.getElem_cons_zero, List.getElem_cons_succ, List.setIfInBounds_toArray, List.set_cons_zero, List.set_cons_succ])
  refine wpAnyH_take (i := 4) (v := (.agg (opV o))) rfl (by kernel_rfl) (by kernel_rfl) (by kernel_rfl) (fun _ _ _ h => h) (Or.inl ⟨by rfl, ?_⟩) (by assumption) ?_
  · intro w' hSw
    (try dsimp only at hSw)
    (exact exec_ldR 60 (.tmp 3) rfl rfl _ hSw.2 Tryz.underlying60 op_info)
  (try simp only [Act.put, List.getElem_toArray, List.getElem_cons_zero, List.getElem_cons_succ, List.setIfInBounds_toArray, List.set_cons_zero, List.set_cons_succ])
  refine wpAnyH_ready (rs := [5, 9]) (by kernel_rfl) (by simp) ?_
  refine AllReadyH.cons rfl (fun K hK => ?_) (AllReadyH.cons rfl (fun K hK => ?_) AllReadyH.nil)
  · obtain ⟨m, hm, AN0⟩ := HAN.out W0.drew KD.out
    go_simp
    refine Calls.mono AN0 ?_
    rintro e W2 ⟨rfl, k2⟩
    have C2 : Hid (W2.cell? ⟨B, 1, none⟩ = some vw ∧ W2.heap[OB]? = some (.cells (opV o) 60)) := ⟨(k2.cell (b := B) HBlt.out (fun f => f)).trans C0.out.1, (k2.block _ HOl.out (fun f => f)).trans C0.out.2⟩
    have K2 : Hid (Kp w W2 non) := KD.out.trans k2 (fun _ f => f.elim)
    obtain ⟨MB, hMB⟩ : ∃ MB, MB = W2.heap.size := ⟨_, rfl⟩
    obtain ⟨W3, hW3⟩ : ∃ W3, W3 = W2.alloc (.cells (mgV mg0) 58) := ⟨_, rfl⟩
    have k3 : Kp W2 W3 non := by rw [hW3]; exact (Kp.refl W2 non).alloc _
    have M3 : Hid (W3.heap[MB]? = some (.cells (mgV mg0) 58)) := by rw [hW3, hMB]; exact heap_last _ _
    have C3 : Hid (W3.cell? ⟨B, 1, none⟩ = some vw ∧ W3.heap[OB]? = some (.cells (opV o) 60)) := ⟨(k3.cell (b := B) (World.block_lt_of_cell? W2 _ C2.out.1) (fun f => f)).trans C2.out.1, (k3.block _ (blk_lt C2.out.2) (fun f => f)).trans C2.out.2⟩
    have K3 : Hid (Kp w W3 non) := K2.out.trans k3 (fun _ f => f.elim)
    have GE : Hid (w.heap.size ≤ MB) := by rw [hMB]; exact K2.out.size
    have BM : Hid (B ≠ MB) := by have := World.block_lt_of_cell? W2 _ C2.out.1; simp only at this; intro e; omega
    have OM : Hid (OB ≠ MB) := by have := blk_lt C2.out.2; intro e; omega
    have HMB := hide hMB
    clear k2 k3 AN0 hMB
    refine hK.out _ _ (C2.out) (fun hHeld => ?_)
    clear hK
    (try simp only [Act.put, List.setIfInBounds_toArray, List.set_cons_zero, List.set_cons_succ])
    refine wpAnyH_take (i := 6) (v := (.tuple #[.agg (mgV m), .bool false])) rfl (by kernel_rfl) (by kernel_rfl) (by kernel_rfl) (fun _ _ _ h => h) (Or.inl ⟨by rfl, ?_⟩) (by assumption) ?_
    · intro w' hSw
      (try dsimp only at hSw)
      go_simp
    (try simp only [Act.put, List.getElem_toArray, List.getElem_cons_zero, List.getElem_cons_succ, List.setIfInBounds_toArray, List.set_cons_zero, List.set_cons_succ])
    refine wpAnyH_take (i := 7) (v := (.agg (mgV m))) rfl (by kernel_rfl) (by kernel_rfl) (by kernel_rfl) (fun _ _ _ h => h) (Or.inl ⟨by rfl, ?_⟩) (by assumption) ?_
    · intro w' hSw
      (try dsimp only at hSw)
      go_simp
    (try simp only [Act.put, List.getElem_toArray, List.getElem_cons_zero, List.getElem_cons_succ, List.setIfInBounds_toArray, List.set_cons_zero, List.set_cons_succ])
    refine wpAnyH_take (i := 8) (v := (.bool false)) rfl (by kernel_rfl) (by kernel_rfl) (by kernel_rfl) (fun _ _ _ h => h) (Or.inl ⟨by rfl, ?_⟩) (by assumption) ?_
    · intro w' hSw
      (try dsimp only at hSw)
      go_simp
    (try simp only [Act.put, List.getElem_toArray, List.getElem_cons_zero, List.getElem_cons_succ, List.setIfInBounds_toArray, List.set_cons_zero, List.set_cons_succ])
    refine wpAnyH_ready (rs := [9]) (by kernel_rfl) (by simp) ?_
    refine AllReadyH.cons rfl (fun K hK => ?_) AllReadyH.nil
    go_simp
    change K _ (W2.alloc (.cells (mgV mg0) 58))
    rw [← hW3, ← HMB.out]
    clear hW3 HMB
    refine hK.out _ _ (C3.out) (fun hHeld => ?_)
    clear hK
    (try simp only [Act.put, List.setIfInBounds_toArray, List.set_cons_zero, List.set_cons_succ])
    refine wpAnyH_ready (rs := [10]) (by kernel_rfl) (by simp) ?_
    refine AllReadyH.cons rfl (fun K hK => ?_) AllReadyH.nil
    refine wp_store_row 58 (.tmp 13) (.tmp 106) rfl MB (mgV m) (by kernel_rfl) (by kernel_rfl) 58 _ M3.out mg_info rfl (mg_one _) ?_
    obtain ⟨W4, hW4⟩ : ∃ W4, W4 = W3.setRow MB (mgV m) := ⟨_, rfl⟩
    have k4 : Kp W3 W4 (fun j => j = MB) := by rw [hW4]; exact kp_setRow _ _ _
    have M4 : Hid (W4.heap[MB]? = some (.cells (mgV m) 58)) := by rw [hW4]; exact setRow_heap _ _ _ _ _ _ M3.out
    have C4 : Hid (W4.cell? ⟨B, 1, none⟩ = some vw ∧ W4.heap[OB]? = some (.cells (opV o) 60)) := ⟨(k4.cell (b := B) (World.block_lt_of_cell? W3 _ C3.out.1) BM.out).trans C3.out.1, (k4.block _ (blk_lt C3.out.2) OM.out).trans C3.out.2⟩
    have K4 : Hid (Kp w W4 non) := K3.out.trans k4 (fun j e => Or.inr (by rw [e]; exact GE.out))
    have HM := hide hm
    rw [← hW4]
    clear hW4 k4 M3 C3 K3 hm
    refine hK.out _ _ (C4.out) (fun hHeld => ?_)
    clear hK
    (try simp only [Act.put, List.setIfInBounds_toArray, List.set_cons_zero, List.set_cons_succ])
    refine wpAnyH_ready (rs := [11]) (by kernel_rfl) (by simp) ?_
    refine AllReadyH.cons rfl (fun K hK => ?_) AllReadyH.nil
    go_simp
    refine hK.out _ _ (C4.out) (fun hHeld => ?_)
    clear hK
    (try simp only [Act.put, List.setIfInBounds_toArray, List.set_cons_zero, List.set_cons_succ])
    refine wpAnyH_done (by kernel_rfl) ?_ _
    clear C4 C0 hHeld
    go_wp2_with fail
    go_ret
    exact ⟨rfl, HTI.out m HM.out W4 K4.out⟩
  · obtain ⟨MB, hMB⟩ : ∃ MB, MB = W0.heap.size := ⟨_, rfl⟩
    obtain ⟨W2, hW2⟩ : ∃ W2, W2 = W0.drew.alloc (.cells (mgV mg0) 58) := ⟨_, rfl⟩
    have k2 : Kp W0.drew W2 non := by rw [hW2]; exact (Kp.refl W0.drew non).alloc _
    have M2 : Hid (W2.heap[MB]? = some (.cells (mgV mg0) 58)) := by rw [hW2, hMB]; exact heap_last _ _
    have C2 : Hid (W2.cell? ⟨B, 1, none⟩ = some vw ∧ W2.heap[OB]? = some (.cells (opV o) 60)) := ⟨(k2.cell (b := B) HBlt.out (fun f => f)).trans C0.out.1, (k2.block _ HOl.out (fun f => f)).trans C0.out.2⟩
    have K2 : Hid (Kp w W2 non) := KD.out.trans k2 (fun _ f => f.elim)
    have GE : Hid (w.heap.size ≤ MB) := by rw [hMB]; exact KD.out.size
    have BM : Hid (B ≠ MB) := by have h := HBlt.out; intro e; rw [e, hMB] at h; exact Nat.lt_irrefl _ h
    have OM : Hid (OB ≠ MB) := by have h := HOl.out; intro e; rw [e, hMB] at h; exact Nat.lt_irrefl _ h
    have HMB := hide hMB
    clear k2 hMB
    go_simp
    change K _ (W0.drew.alloc (.cells (mgV mg0) 58))
    rw [← hW2, ← HMB.out]
    clear hW2 HMB
    refine hK.out _ _ (C2.out) (fun hHeld => ?_)
    clear hK
    (try simp only [Act.put, List.setIfInBounds_toArray, List.set_cons_zero, List.set_cons_succ])
    refine wpAnyH_ready (rs := [5]) (by kernel_rfl) (by simp) ?_
    refine AllReadyH.cons rfl (fun K hK => ?_) AllReadyH.nil
    obtain ⟨m, hm, AN0⟩ := HAN.out W2 K2.out
    go_simp
    refine Calls.mono AN0 ?_
    rintro e W3 ⟨rfl, k3⟩
    have M3 : Hid (W3.heap[MB]? = some (.cells (mgV mg0) 58)) := (k3.block _ (blk_lt M2.out) (fun f => f)).trans M2.out
    have C3 : Hid (W3.cell? ⟨B, 1, none⟩ = some vw ∧ W3.heap[OB]? = some (.cells (opV o) 60)) := ⟨(k3.cell (b := B) (World.block_lt_of_cell? W2 _ C2.out.1) (fun f => f)).trans C2.out.1, (k3.block _ (blk_lt C2.out.2) (fun f => f)).trans C2.out.2⟩
    have K3 : Hid (Kp w W3 non) := K2.out.trans k3 (fun _ f => f.elim)
    clear k3 AN0
    refine hK.out _ _ (C3.out) (fun hHeld => ?_)
    clear hK
    (try simp only [Act.put, List.setIfInBounds_toArray, List.set_cons_zero, List.set_cons_succ])
    refine wpAnyH_take (i := 6) (v := (.tuple #[.agg (mgV m), .bool false])) rfl (by kernel_rfl) (by kernel_rfl) (by kernel_rfl) (fun _ _ _ h => h) (Or.inl ⟨by rfl, ?_⟩) (by assumption) ?_
    · intro w' hSw
      (try dsimp only at hSw)
      go_simp
    (try simp only [Act.put, List.getElem_toArray, List.getElem_cons_zero, List.getElem_cons_succ, List.setIfInBounds_toArray, List.set_cons_zero, List.set_cons_succ])
    refine wpAnyH_take (i := 7) (v := (.agg (mgV m))) rfl (by kernel_rfl) (by kernel_rfl) (by kernel_rfl) (fun _ _ _ h => h) (Or.inl ⟨by rfl, ?_⟩) (by assumption) ?_
    · intro w' hSw
      (try dsimp only at hSw)
      go_simp
    (try simp only [Act.put, List.getElem_toArray, List.getElem_cons_zero, List.getElem_cons_succ, List.setIfInBounds_toArray, List.set_cons_zero, List.set_cons_succ])
    refine wpAnyH_take (i := 8) (v := (.bool false)) rfl (by kernel_rfl) (by kernel_rfl) (by kernel_rfl) (fun _ _ _ h => h) (Or.inl ⟨by rfl, ?_⟩) (by assumption) ?_
    · intro w' hSw
      (try dsimp only at hSw)
      go_simp
    (try simp only [Act.put, List.getElem_toArray, List.getElem_cons_zero, List.getElem_cons_succ, List.setIfInBounds_toArray, List.set_cons_zero, List.set_cons_succ])
    refine wpAnyH_ready (rs := [10]) (by kernel_rfl) (by simp) ?_
    refine AllReadyH.cons rfl (fun K hK => ?_) AllReadyH.nil
    refine wp_store_row 58 (.tmp 13) (.tmp 106) rfl MB (mgV m) (by kernel_rfl) (by kernel_rfl) 58 _ M3.out mg_info rfl (mg_one _) ?_
    obtain ⟨W4, hW4⟩ : ∃ W4, W4 = W3.setRow MB (mgV m) := ⟨_, rfl⟩
    have k4 : Kp W3 W4 (fun j => j = MB) := by rw [hW4]; exact kp_setRow _ _ _
    have M4 : Hid (W4.heap[MB]? = some (.cells (mgV m) 58)) := by rw [hW4]; exact setRow_heap _ _ _ _ _ _ M3.out
    have C4 : Hid (W4.cell? ⟨B, 1, none⟩ = some vw ∧ W4.heap[OB]? = some (.cells (opV o) 60)) := ⟨(k4.cell (b := B) (World.block_lt_of_cell? W3 _ C3.out.1) BM.out).trans C3.out.1, (k4.block _ (blk_lt C3.out.2) OM.out).trans C3.out.2⟩
    have K4 : Hid (Kp w W4 non) := K3.out.trans k4 (fun j e => Or.inr (by rw [e]; exact GE.out))
    have HM := hide hm
    rw [← hW4]
    clear hW4 k4 M3 C3 K3 hm
    refine hK.out _ _ (C4.out) (fun hHeld => ?_)
    clear hK
    (try simp only [Act.put, List.setIfInBounds_toArray, List.set_cons_zero, List.set_cons_succ])
    refine wpAnyH_ready (rs := [11]) (by kernel_rfl) (by simp) ?_
    refine AllReadyH.cons rfl (fun K hK => ?_) AllReadyH.nil
    go_simp
    refine hK.out _ _ (C4.out) (fun hHeld => ?_)
    clear hK
    (try simp only [Act.put, List.setIfInBounds_toArray, List.set_cons_zero, List.set_cons_succ])
    refine wpAnyH_done (by kernel_rfl) ?_ _
    clear C4 C0 hHeld
    go_wp2_with fail
    go_ret
    exact ⟨rfl, HTI.out m HM.out W4 K4.out⟩
end Go.Proofs.YtndfhpfhgdamgaaGreatDoor.Cn
namespace Go.Proofs.YtndfhpfhgdamgaaGreatDoor.Cn
open Go.RowKit
/-- a step of kind 6: nothing was sent, or an answer to one message that was sent is taken -/
theorem step_reply {w : World} {T : Nat → Prop} {R base B : Nat} {k : Dk} {o : Op2} {Q : World → Prop} (hd : DkAt w base T B R k) (h6 : o.kd = 6) (hwl : k.went.length ≤ 1000000000000) (hn : tkOk o.n)
    (TN : k.went = [] → ∀ X, Kp w X non → Q X)
    (TI : ∀ (j : Nat) (hj : j < k.went.length) (X : World), Kp w X non → Calls Tryz.prog 44 #[.pointer (some ⟨B, 0, none⟩), .agg (mgV (ansM k.went[j] o.m))] X fun e w' => e = .returned (.bool true) ∧ Q w') :
    Calls Tryz.prog 19 #[.pointer (some ⟨B, 0, none⟩), .agg (opV o)] w fun e w' => e = .returned (.bool true) ∧ Q w' := by
  obtain ⟨vw, vk, vd, hx, hT⟩ := hd
  have b1 : w.cell? ⟨B, 1, none⟩ = some vw := by rw [cell_row hx.blk]; rfl
  rcases Nat.eq_zero_or_pos k.went.length with h0 | h0
  · have he : k.went = [] := List.eq_nil_of_length_eq_zero h0
    obtain ⟨ba, cp, hv⟩ := own_sl hx.fw
    rw [h0] at hv
    subst hv
    exact step_repno (Ans := fun m => m = mg0) h6 b1 (fun X _ => ⟨mg0, rfl, answer_none o ba cp⟩) (fun _ _ X kx => TN he X kx)
  · refine step_rep (Ans := fun m => ∃ (j : Nat) (hj : j < k.went.length), m = ansM k.went[j] o.m) h6 b1 (fun X kx => ?_) ?_
    · have ho := own_kp hx.fw kx (fun _ _ f => f)
      rcases ho.2 with ⟨hv, hz⟩ | ⟨g, cap, cur, hv, hr⟩
      · omega
      · subst hv
        obtain ⟨j, hj, hc⟩ := answer_any o ho h0 hwl hn
        exact ⟨_, ⟨j, hj, rfl⟩, hc⟩
    · rintro m ⟨j, hj, rfl⟩ X kx
      exact TI j hj X kx
end Go.Proofs.YtndfhpfhgdamgaaGreatDoor.Cn
namespace Go.Proofs.YtndfhpfhgdamgaaGreatDoor.Cn
open Go.RowKit
/-- what the desk knows of the router's gets -/
structure Inv (gs : List Gt) (v : Rv) (k : Dk) : Prop where
  last : v.last = (k.keys.length : Int)
  dl : k.done.length = k.keys.length
  opn : ∀ g ∈ gs, 1 ≤ g.tk ∧ g.tk ≤ (k.keys.length : Int) ∧ k.done[(g.tk - 1).toNat]? = some false ∧ k.keys[(g.tk - 1).toNat]? = some g.key
  cls : ∀ i : Nat, k.done[i]? = some false → ∃ g ∈ gs, g.tk = (i : Int) + 1
  snt : ∀ g ∈ gs, ∀ q : Nat, q < g.asked → ∃ x ∈ k.went, x.kind = 11 ∧ x.id = g.tk ∧ x.td = atL g.ow q ∧ x.key = g.key
theorem Inv.wnt {gs : List Gt} {v : Rv} {k : Dk} (h : Inv gs v k) (L : List Mg) : Inv gs v (k.wnt L) :=
  ⟨h.last, h.dl, h.opn, h.cls, fun g hg q hq => by
    obtain ⟨x, hx, r⟩ := h.snt g hg q hq
    exact ⟨x, List.mem_append_left _ hx, r⟩⟩
theorem Inv.d {gs : List Gt} {v : Rv} {k : Dk} (h : Inv gs v k) (v' : Rv) (e : v'.last = v.last) : Inv gs v' k := ⟨e.trans h.last, h.dl, h.opn, h.cls, h.snt⟩
theorem Inv.oc {gs : List Gt} {v : Rv} {k : Dk} (h : Inv gs v k) {g : Gt} (hg : g ∈ gs) {o : Oc} (h1 : o.tk = g.tk) (h2 : o.key = g.key) : okOc k o := by
  obtain ⟨a, b, c, d⟩ := h.opn g hg
  unfold okOc
  rw [h1, h2]
  exact ⟨a, b, c, d⟩
theorem Inv.fin {gs : List Gt} {v : Rv} {k : Dk} (h : Inv gs v k) {g : Gt} (hg : g ∈ gs) : Inv (gone gs g.tk) v (k.mark (g.tk - 1).toNat) := by
  have hgo := h.opn g hg
  refine ⟨h.last, ?_, fun g' hg' => ?_, fun i hi => ?_, fun g' hg' q hq => ?_⟩
  · simp only [Dk.mark, List.length_set]
    exact h.dl
  · unfold gone at hg'
    obtain ⟨m1, m2⟩ := List.mem_filter.1 hg'
    have hne : g'.tk ≠ g.tk := by simpa using m2
    obtain ⟨a, b, c, d⟩ := h.opn g' m1
    refine ⟨a, b, ?_, d⟩
    simp only [Dk.mark]
    rw [List.getElem?_set_ne (by omega)]
    exact c
  · simp only [Dk.mark] at hi
    by_cases e : (g.tk - 1).toNat = i
    · rw [e, List.getElem?_set] at hi
      simp at hi
    · rw [List.getElem?_set_ne e] at hi
      obtain ⟨g', m1, m2⟩ := h.cls i hi
      refine ⟨g', ?_, m2⟩
      unfold gone
      refine List.mem_filter.2 ⟨m1, ?_⟩
      have : g'.tk ≠ g.tk := by omega
      simpa using this
  · unfold gone at hg'
    exact h.snt g' (List.mem_filter.1 hg').1 q hq
theorem Inv.next {gs : List Gt} {v : Rv} {k : Dk} (h : Inv gs v k) (hs : (gs.map fun g => g.tk).Pairwise (· < ·)) {g : Gt} (hg : g ∈ gs) (now : Int) : Inv (askd gs g.tk now) v (k.wnt [getMg (askG now g)]) := by
  have e0 : ∀ g' ∈ askd gs g.tk now, ∃ g0 ∈ gs, (g' = g0 ∧ g0.tk ≠ g.tk) ∨ (g' = askG now g ∧ g0 = g) := fun g' hg' => by
    unfold askd at hg'
    obtain ⟨g0, m1, m2⟩ := List.mem_map.1 hg'
    by_cases e : g0.tk = g.tk
    · have e2 : g0 = g := by
        have f1 := findG_of hs m1
        have f2 := findG_of hs hg
        rw [e, f2] at f1
        exact (Option.some.inj f1).symm
      rw [if_pos e] at m2
      exact ⟨g0, m1, Or.inr ⟨by rw [← m2, e2], e2⟩⟩
    · rw [if_neg e] at m2
      exact ⟨g0, m1, Or.inl ⟨m2.symm, e⟩⟩
  refine ⟨h.last, h.dl, fun g' hg' => ?_, fun i hi => ?_, fun g' hg' q hq => ?_⟩
  · obtain ⟨g0, m1, ⟨rfl, _⟩ | ⟨rfl, rfl⟩⟩ := e0 g' hg'
    · exact h.opn _ m1
    · exact h.opn g0 m1
  · obtain ⟨g0, m1, m2⟩ := h.cls i hi
    by_cases e : g0.tk = g.tk
    · exact ⟨askG now g0, List.mem_map.2 ⟨g0, m1, if_pos e⟩, m2⟩
    · exact ⟨g0, List.mem_map.2 ⟨g0, m1, if_neg e⟩, m2⟩
  · obtain ⟨g0, m1, ⟨rfl, _⟩ | ⟨rfl, rfl⟩⟩ := e0 g' hg'
    · obtain ⟨x, hx, r⟩ := h.snt _ m1 q hq
      exact ⟨x, List.mem_append_left _ hx, r⟩
    · by_cases e : q < g0.asked
      · obtain ⟨x, hx, r⟩ := h.snt _ m1 q e
        exact ⟨x, List.mem_append_left _ hx, r⟩
      · have eq : q = g0.asked := by
          have : q < g0.asked + 1 := hq
          omega
        subst eq
        exact ⟨_, List.mem_append_right _ (List.mem_singleton.2 rfl), rfl, rfl, rfl, rfl⟩
theorem wnt_nil (k : Dk) : k.wnt [] = k := by simp [Dk.wnt]
theorem mark_wnt (k : Dk) (i : Nat) (L : List Mg) : (k.mark i).wnt L = (k.wnt L).mark i := rfl
theorem ends_wnt (L : List Mg) : ∀ (E : List Oc) (k : Dk), (k.ends E).wnt L = (k.wnt L).ends E
  | [], _ => rfl
  | o :: r, k => ends_wnt L r (k.mark (o.tk - 1).toNat)
/-- one get goes on: to its next owner, or to its end -/
theorem Inv.goes {gs : List Gt} {v : Rv} {k : Dk} (h : Inv gs v k) (hs : (gs.map fun g => g.tk).Pairwise (· < ·)) {g : Gt} (hg : g ∈ gs) (now : Int) : Inv (goG gs now g) v ((k.wnt (goM now g)).ends (goE g)) ∧ okEnds k (goE g) ∧ ∀ o ∈ goE g, lost o := by
  unfold goG goM goE
  by_cases e : g.asked = g.ow.length
  · rw [if_pos e, if_pos e, if_pos e, wnt_nil]
    refine ⟨h.fin hg, ⟨h.oc hg rfl rfl, trivial⟩, fun o ho => ?_⟩
    rw [List.mem_singleton.1 ho]
    exact ⟨rfl, rfl, rfl, rfl⟩
  · rw [if_neg e, if_neg e, if_neg e]
    exact ⟨h.next hs hg now, trivial, fun o ho => absurd ho (by simp)⟩
theorem ansG_mem {gs : List Gt} {m : Mg} {g : Gt} (h : ansG gs m = some g) : g ∈ gs ∧ okAns m g = true ∧ g.tk = m.id := by
  unfold ansG at h
  obtain ⟨h1, h2⟩ := Option.filter_eq_some_iff.1 h
  obtain ⟨a, b⟩ := findG_mem h1
  exact ⟨a, h2, b⟩
/-- a message that is taken -/
theorem Inv.take {gs : List Gt} {v : Rv} {k : Dk} (h : Inv gs v k) (hs : (gs.map fun g => g.tk).Pairwise (· < ·)) (now : Int) (m : Mg) : Inv (takeG gs now m) v ((k.ends (takeO gs m)).wnt (takeM gs now m)) ∧ okEnds k (takeO gs m) ∧ tookOk k m (takeO gs m) := by
  unfold takeG takeO takeM
  cases hA : ansG gs m with
  | none => exact ⟨by rw [wnt_nil]; exact h, trivial, Or.inl rfl⟩
  | some g =>
    obtain ⟨hg, ho, ht⟩ := ansG_mem hA
    unfold okAns at ho
    simp only [Bool.and_eq_true, decide_eq_true_eq, List.contains_iff_mem] at ho
    obtain ⟨⟨o1, o2⟩, o3⟩ := ho
    have hx : ∃ x ∈ k.went, x.kind = 11 ∧ x.id = g.tk ∧ x.td = m.fr ∧ x.key = g.key := by
      obtain ⟨q, hq, e⟩ := List.getElem_of_mem o3
      rw [List.length_take] at hq
      obtain ⟨x, hx, r1, r2, r3, r4⟩ := h.snt g hg q (by omega)
      refine ⟨x, hx, r1, r2, ?_, r4⟩
      rw [r3, ← e, List.getElem_take]
      unfold atL
      rw [List.getD_eq_getElem?_getD, List.getElem?_eq_getElem (by omega)]
      rfl
    simp only [hearG, hearE, hearM]
    by_cases c0 : m.code = 0
    · rw [if_pos (Or.inl c0), if_pos c0, if_pos (Or.inl c0), wnt_nil]
      refine ⟨h.fin hg, ⟨h.oc hg rfl rfl, trivial⟩, Or.inr ⟨_, rfl, Or.inr ⟨ht, o2, c0.symm, rfl, rfl, Or.inl ⟨c0, rfl⟩, hx⟩⟩⟩
    · by_cases c1 : m.code = 144
      · rw [if_pos (Or.inr c1), if_neg c0, if_pos c1, if_pos (Or.inr c1), wnt_nil]
        refine ⟨h.fin hg, ⟨h.oc hg rfl rfl, trivial⟩, Or.inr ⟨_, rfl, Or.inr ⟨ht, o2, c1.symm, rfl, rfl, Or.inr ⟨c1, rfl⟩, hx⟩⟩⟩
      · rw [if_neg (fun q : m.code = 0 ∨ m.code = 144 => q.elim c0 c1), if_neg c0, if_neg c1, if_neg (fun q : m.code = 0 ∨ m.code = 144 => q.elim c0 c1)]
        by_cases c2 : m.fr = lastA g
        · simp only [if_pos c2]
          obtain ⟨a, b, c⟩ := h.goes hs hg now
          refine ⟨by rw [ends_wnt]; exact a, b, ?_⟩
          unfold goE at c ⊢
          split
          · exact Or.inr ⟨_, rfl, Or.inl rfl⟩
          · exact Or.inl rfl
        · simp only [if_neg c2, wnt_nil]
          exact ⟨h, trivial, Or.inl rfl⟩
end Go.Proofs.YtndfhpfhgdamgaaGreatDoor.Cn
