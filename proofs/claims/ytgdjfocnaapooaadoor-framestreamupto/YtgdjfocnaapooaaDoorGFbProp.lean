import Derived.Test.YtgdjfocnaapooaaDoorGFsFirst
namespace Go.Proofs.YtgdjfocnaapooaaDoor
open Go.RowKit
theorem letP_at (k q : Nat) (h : q < (bodyF k).length) : (letL k)[q]'(by unfold letL; rw [List.length_map]; exact h) = letF (bodyF k)[q] := by simp [letL]
theorem mod_in (n : Int) (top : Nat) : 0 ≤ n % ((top : Int) + 1) ∧ n % ((top : Int) + 1) ≤ (top : Int) := by
  have h1 := Int.emod_nonneg n (show (top : Int) + 1 ≠ 0 by omega)
  have h2 := Int.emod_lt_of_pos n (show 0 < (top : Int) + 1 by omega)
  omega
set_option maxHeartbeats 16000000 in
set_option maxRecDepth 100000 in
set_option linter.unusedSimpArgs false in
/-- Proper: a message that may be -/
theorem proper_any (m : MM) (w : World) (hT : TabK w) :
    Calls Tryd.prog 18 #[.agg (msgV m)] w fun e w' => ∃ (m' : MM) (k : Nat), 1 ≤ k ∧ k ≤ 16 ∧ FitAll m' k ∧ e = .returned (.agg (msgV m')) ∧ Below w.heap.size w w' := by
  obtain ⟨W0, hW0⟩ : ∃ W0, W0 = (w.alloc (.cells (msgV m) 27)).alloc (.cells #[.int .i64 0, .int .i64 0, .int .i64 0, .int .i64 0, .int .i64 0, .int .i64 0, .int .i64 0, .int .i64 0, .int .i64 0, .string ⟨#[]⟩, .string ⟨#[]⟩] 27) := ⟨_, rfl⟩
  have b0 : Below w.heap.size w W0 := by rw [hW0]; exact ((Below.refl _ w).alloc (Nat.le_refl _) _).alloc (by simp) _
  have s0 : W0.heap.size = w.heap.size + 2 := by rw [hW0]; simp
  have hC0 : W0.heap[w.heap.size]? = some (.cells (msgV m) 27) := by
    rw [hW0, Below.heap_alloc _ _ _ (by simp)]
    exact heap_last w _
  have hM0 : W0.heap[w.heap.size + 1]? = some (.cells (msgV (mm0 0)) 27) := by
    have e := heap_last (w.alloc (.cells (msgV m) 27)) (.cells (msgV (mm0 0)) 27)
    rw [show (w.alloc (.cells (msgV m) 27)).heap.size = w.heap.size + 1 by simp] at e
    rw [hW0]
    exact e
  have KC : Hid (∀ w', Below W0.heap.size W0 w' → w'.heap[w.heap.size]? = some (.cells (msgV m) 27) ∧ w'.heap[w.heap.size + 1]? = some (.cells (msgV (mm0 0)) 27) ∧ Below w.heap.size w w' ∧ TabK w') := fun w' hb => ⟨(hb.block _ (by omega)).trans hC0, (hb.block _ (by omega)).trans hM0, b0.trans (hb.mono (by omega)), hT.below (b0.trans (hb.mono (by omega)))⟩
  have ck := mod_in m.kind 15
  have CK := hide (clipped_any m.kind 15 (by omega) W0)
  have c0 : W0.cell? ⟨w.heap.size, 0, none⟩ = some (.int .i64 m.kind) := msg_at0 m W0 _ hC0 0
  obtain ⟨k, hk⟩ : ∃ k : Nat, 1 + m.kind % (((15 : Nat) : Int) + 1) = (k : Int) := ⟨(1 + m.kind % (((15 : Nat) : Int) + 1)).toNat, (Int.toNat_of_nonneg (by omega)).symm⟩
  have hk1 : 1 ≤ k := by omega
  have hk16 : k ≤ 16 := by omega
  have ke : m.kind % (((15 : Nat) : Int) + 1) = (k : Int) - 1 := by omega
  rw [ke] at CK
  have hk1i : (1 : Int) + ((k : Int) - 1) = (k : Int) := by omega
  have q0 := mod_in m.n0 65535
  have q1 := mod_in m.n1 65535
  have q2 := mod_in m.n2 9007199254740992
  have CA := hide (fun w' => clipped_any m.n0 65535 (by omega) w')
  have CB := hide (fun w' => clipped_any m.n1 65535 (by omega) w')
  have CC := hide (fun w' => clipped_any m.n2 9007199254740992 (by omega) w')
  have CE3 := hide (fun w' => clipped_any m.n3 9007199254740992 (by omega) w')
  have CE4 := hide (fun w' => clipped_any m.n4 9007199254740992 (by omega) w')
  have CE5 := hide (fun w' => clipped_any m.n5 9007199254740992 (by omega) w')
  have CE6 := hide (fun w' => clipped_any m.n6 9007199254740992 (by omega) w')
  have CE7 := hide (fun w' => clipped_any m.n7 65535 (by omega) w')
  have CE8 := hide (fun w' => cut_any m.key 255 (by omega) w')
  have CE9 := hide (fun w' => cut_any m.val 4096 (by omega) w')
  have R3 := hide (mod_in m.n3 9007199254740992)
  have R4 := hide (mod_in m.n4 9007199254740992)
  have R5 := hide (mod_in m.n5 9007199254740992)
  have R6 := hide (mod_in m.n6 9007199254740992)
  have R7 := hide (mod_in m.n7 65535)
  have R8 := hide (cutS_size m.key 255)
  have R9 := hide (cutS_size m.val 4096)
  have FA := hide (start_fit k _ _ _ q0 q1 q2)
  generalize m.n0 % (((65535 : Nat) : Int) + 1) = A at *
  generalize m.n1 % (((65535 : Nat) : Int) + 1) = B at *
  generalize m.n2 % (((9007199254740992 : Nat) : Int) + 1) = C at *
  generalize m.n3 % (((9007199254740992 : Nat) : Int) + 1) = X3 at *
  generalize m.n4 % (((9007199254740992 : Nat) : Int) + 1) = X4 at *
  generalize m.n5 % (((9007199254740992 : Nat) : Int) + 1) = X5 at *
  generalize m.n6 % (((9007199254740992 : Nat) : Int) + 1) = X6 at *
  generalize m.n7 % (((65535 : Nat) : Int) + 1) = X7 at *
  generalize cutS m.key 255 = X8 at *
  generalize cutS m.val 4096 = X9 at *
  obtain ⟨mo, hmo⟩ : ∃ mo : MM, mo = ⟨(k : Int), A, B, C, 0, 0, 0, 0, 0, ⟨#[]⟩, ⟨#[]⟩⟩ := ⟨_, rfl⟩
  rw [← hmo] at FA
  have EM : Hid (msgV mo = #[.int .i64 (k : Int), .int .i64 A, .int .i64 B, .int .i64 C, .int .i64 0, .int .i64 0, .int .i64 0, .int .i64 0, .int .i64 0, .string ⟨#[]⟩, .string ⟨#[]⟩]) := by rw [hmo]; rfl
  have B0 := hide b0
  have SZ := hide s0
  clear hC0 hM0 b0 hT hk ke ck q0 q1 q2 hmo s0
  go_enter Tryd.func18, Tryd.ntmps18
  go_upto_region 1 with fail
  rw [← hW0]
  clear hW0
  go_upto_region 2 with (refine Calls.mono CK.out ?_; rintro e wx ⟨rfl, rfl⟩)
  clear CK c0
  go_cut [4] (fun p wx => ∃ b : Nat, p = .pointer (some ⟨b, 0, none⟩) ∧ W0.heap.size ≤ b ∧ wx.heap[b]? = some (.cells (msgV mo) 27) ∧ Below W0.heap.size W0 wx)
  case first =>
    have BD : Hid (Below W0.heap.size W0 W0.drew) := (Below.refl _ W0).drew
    have HC := hide (KC.out _ BD.out).1
    refine wp_region_held_drew (S := fun x => x.heap[w.heap.size]? = some (.cells (msgV m) 27)) (by kernel_rfl) HC.out (fun hHeld => ?_)
    generalize W0.drew = Wd at *
    have BA := hide (BD.out.alloc BD.out.size (.cells (msgV (mm0 0)) 27))
    have HA := hide (KC.out _ BA.out).1
    have HZ : Hid ((Wd.alloc (.cells (msgV (mm0 0)) 27)).heap[Wd.heap.size]? = some (.cells (msgV (mm0 0)) 27)) := heap_last _ _
    have BE := hide (below_row BA.out BD.out.size (msgV mo))
    have HE := hide (KC.out _ BE.out).1
    have HF := hide (setRow_heap _ _ _ (msgV mo) _ _ HZ.out)
    refine wpAnyH_take (i := 0) (v := (.int .i64 (k : Int))) rfl (by kernel_rfl) (by kernel_rfl) (by kernel_rfl) (fun _ _ _ h => h) (Or.inl ⟨by rfl, ?_⟩) (by assumption) ?_
    · intro w' hSw
      (try dsimp only at hSw)
      go_simp <;> first | exact i64_in (by omega) (by omega) | exact u32_in (by omega) (by omega) | exact u32_add _ _ | (rw [Int.tmod_eq_emod_of_nonneg (by omega)]; omega) | (rw [Int.tdiv_eq_ediv_of_nonneg (by omega)]; omega) | omega
    (try simp only [Act.put, List.setIfInBounds_toArray, List.set_cons_zero, List.set_cons_succ])
    refine wpAnyH_take (i := 1) (v := (.pointer (some ⟨w.heap.size, 1, none⟩))) rfl (by kernel_rfl) (by kernel_rfl) (by kernel_rfl) (fun _ _ _ h => h) (Or.inl ⟨by rfl, ?_⟩) (by assumption) ?_
    · intro w' hSw
      (try dsimp only at hSw)
      go_simp <;> first | exact i64_in (by omega) (by omega) | exact u32_in (by omega) (by omega) | exact u32_add _ _ | (rw [Int.tmod_eq_emod_of_nonneg (by omega)]; omega) | (rw [Int.tdiv_eq_ediv_of_nonneg (by omega)]; omega) | omega
    (try simp only [Act.put, List.setIfInBounds_toArray, List.set_cons_zero, List.set_cons_succ])
    refine wpAnyH_take (i := 2) (v := (.int .i64 m.n0)) rfl (by kernel_rfl) (by kernel_rfl) (by kernel_rfl) (fun _ _ _ h => h) (Or.inl ⟨by rfl, ?_⟩) (by assumption) ?_
    · intro w' hSw
      (try dsimp only at hSw)
      (have hc := msg_at0 m _ _ hSw 1; simp only [msgV] at hc; go_simp)
    (try simp only [Act.put, List.setIfInBounds_toArray, List.set_cons_zero, List.set_cons_succ])
    refine wpAnyH_take (i := 4) (v := (.pointer (some ⟨w.heap.size, 2, none⟩))) rfl (by kernel_rfl) (by kernel_rfl) (by kernel_rfl) (fun _ _ _ h => h) (Or.inl ⟨by rfl, ?_⟩) (by assumption) ?_
    · intro w' hSw
      (try dsimp only at hSw)
      go_simp <;> first | exact i64_in (by omega) (by omega) | exact u32_in (by omega) (by omega) | exact u32_add _ _ | (rw [Int.tmod_eq_emod_of_nonneg (by omega)]; omega) | (rw [Int.tdiv_eq_ediv_of_nonneg (by omega)]; omega) | omega
    (try simp only [Act.put, List.setIfInBounds_toArray, List.set_cons_zero, List.set_cons_succ])
    refine wpAnyH_take (i := 5) (v := (.int .i64 m.n1)) rfl (by kernel_rfl) (by kernel_rfl) (by kernel_rfl) (fun _ _ _ h => h) (Or.inl ⟨by rfl, ?_⟩) (by assumption) ?_
    · intro w' hSw
      (try dsimp only at hSw)
      (have hc := msg_at0 m _ _ hSw 2; simp only [msgV] at hc; go_simp)
    (try simp only [Act.put, List.setIfInBounds_toArray, List.set_cons_zero, List.set_cons_succ])
    refine wpAnyH_take (i := 7) (v := (.pointer (some ⟨w.heap.size, 3, none⟩))) rfl (by kernel_rfl) (by kernel_rfl) (by kernel_rfl) (fun _ _ _ h => h) (Or.inl ⟨by rfl, ?_⟩) (by assumption) ?_
    · intro w' hSw
      (try dsimp only at hSw)
      go_simp <;> first | exact i64_in (by omega) (by omega) | exact u32_in (by omega) (by omega) | exact u32_add _ _ | (rw [Int.tmod_eq_emod_of_nonneg (by omega)]; omega) | (rw [Int.tdiv_eq_ediv_of_nonneg (by omega)]; omega) | omega
    (try simp only [Act.put, List.setIfInBounds_toArray, List.set_cons_zero, List.set_cons_succ])
    refine wpAnyH_take (i := 8) (v := (.int .i64 m.n2)) rfl (by kernel_rfl) (by kernel_rfl) (by kernel_rfl) (fun _ _ _ h => h) (Or.inl ⟨by rfl, ?_⟩) (by assumption) ?_
    · intro w' hSw
      (try dsimp only at hSw)
      (have hc := msg_at0 m _ _ hSw 3; simp only [msgV] at hc; go_simp)
    (try simp only [Act.put, List.setIfInBounds_toArray, List.set_cons_zero, List.set_cons_succ])
    refine wpAnyH_ready (rs := [3, 11]) (by kernel_rfl) (by simp) ?_
    refine AllReadyH.cons rfl (fun K hK => ?_) (AllReadyH.cons rfl (fun K hK => ?_) AllReadyH.nil)
    · skip
      go_simp
      refine Calls.mono (CA.out _) ?_
      rintro x wx ⟨rfl, rfl⟩
      refine hK.out _ _ (HC.out) (fun hHeld => ?_)
      clear hK
      (try simp only [Act.put, List.setIfInBounds_toArray, List.set_cons_zero, List.set_cons_succ])
      refine wpAnyH_ready (rs := [6, 11]) (by kernel_rfl) (by simp) ?_
      refine AllReadyH.cons rfl (fun K hK => ?_) (AllReadyH.cons rfl (fun K hK => ?_) AllReadyH.nil)
      · skip
        go_simp
        refine Calls.mono (CB.out _) ?_
        rintro x wx ⟨rfl, rfl⟩
        refine hK.out _ _ (HC.out) (fun hHeld => ?_)
        clear hK
        (try simp only [Act.put, List.setIfInBounds_toArray, List.set_cons_zero, List.set_cons_succ])
        refine wpAnyH_ready (rs := [9, 11]) (by kernel_rfl) (by simp) ?_
        refine AllReadyH.cons rfl (fun K hK => ?_) (AllReadyH.cons rfl (fun K hK => ?_) AllReadyH.nil)
        · skip
          go_simp
          refine Calls.mono (CC.out _) ?_
          rintro x wx ⟨rfl, rfl⟩
          refine hK.out _ _ (HC.out) (fun hHeld => ?_)
          clear hK
          (try simp only [Act.put, List.setIfInBounds_toArray, List.set_cons_zero, List.set_cons_succ])
          refine wpAnyH_take (i := 10) (v := (.agg (msgV mo))) rfl (by kernel_rfl) (by kernel_rfl) (by kernel_rfl) (fun _ _ _ h => h) (Or.inl ⟨by rfl, ?_⟩) (by assumption) ?_
          · intro w' hSw
            (try dsimp only at hSw)
            (rw [EM.out]; go_simp)
          (try simp only [Act.put, List.getElem_toArray, List.getElem_cons_zero, List.getElem_cons_succ, List.setIfInBounds_toArray, List.set_cons_zero, List.set_cons_succ])
          refine wpAnyH_ready (rs := [11]) (by kernel_rfl) (by simp) ?_
          refine AllReadyH.cons rfl (fun K hK => ?_) AllReadyH.nil
          go_simp
          refine hK.out _ _ (HA.out) (fun hHeld => ?_)
          clear hK
          (try simp only [Act.put, List.setIfInBounds_toArray, List.set_cons_zero, List.set_cons_succ])
          refine wpAnyH_ready (rs := [12]) (by kernel_rfl) (by simp) ?_
          refine AllReadyH.cons rfl (fun K hK => ?_) AllReadyH.nil
          rw [if_pos (by kernel_rfl)]
          refine wp_store_row 27 (.tmp 4) (.tmp 21) rfl Wd.heap.size (msgV mo) rfl (by rw [EM.out]; rfl) 27 (msgV (mm0 0)) HZ.out msg_info rfl (msg_one mo) ?_
          refine hK.out _ _ (HE.out) (fun hHeld => ?_)
          clear hK
          (try simp only [Act.put, List.setIfInBounds_toArray, List.set_cons_zero, List.set_cons_succ])
          refine wpAnyH_done (by kernel_rfl) ?_ _
          clear hHeld
          (try simp only [Act.put, List.getElem_toArray, List.getElem_cons_zero, List.getElem_cons_succ])
          go_wp2_with fail
          go_meet
          case rel => exact ⟨Wd.heap.size, rfl, BD.out.size, HF.out, BE.out⟩
        · go_simp
          refine hK.out _ _ (HA.out) (fun hHeld => ?_)
          clear hK
          (try simp only [Act.put, List.setIfInBounds_toArray, List.set_cons_zero, List.set_cons_succ])
          refine wpAnyH_ready (rs := [9]) (by kernel_rfl) (by simp) ?_
          refine AllReadyH.cons rfl (fun K hK => ?_) AllReadyH.nil
          go_simp
          refine Calls.mono (CC.out _) ?_
          rintro x wx ⟨rfl, rfl⟩
          refine hK.out _ _ (HA.out) (fun hHeld => ?_)
          clear hK
          (try simp only [Act.put, List.setIfInBounds_toArray, List.set_cons_zero, List.set_cons_succ])
          refine wpAnyH_take (i := 10) (v := (.agg (msgV mo))) rfl (by kernel_rfl) (by kernel_rfl) (by kernel_rfl) (fun _ _ _ h => h) (Or.inl ⟨by rfl, ?_⟩) (by assumption) ?_
          · intro w' hSw
            (try dsimp only at hSw)
            (rw [EM.out]; go_simp)
          (try simp only [Act.put, List.getElem_toArray, List.getElem_cons_zero, List.getElem_cons_succ, List.setIfInBounds_toArray, List.set_cons_zero, List.set_cons_succ])
          refine wpAnyH_ready (rs := [12]) (by kernel_rfl) (by simp) ?_
          refine AllReadyH.cons rfl (fun K hK => ?_) AllReadyH.nil
          rw [if_pos (by kernel_rfl)]
          refine wp_store_row 27 (.tmp 4) (.tmp 21) rfl Wd.heap.size (msgV mo) rfl (by rw [EM.out]; rfl) 27 (msgV (mm0 0)) HZ.out msg_info rfl (msg_one mo) ?_
          refine hK.out _ _ (HE.out) (fun hHeld => ?_)
          clear hK
          (try simp only [Act.put, List.setIfInBounds_toArray, List.set_cons_zero, List.set_cons_succ])
          refine wpAnyH_done (by kernel_rfl) ?_ _
          clear hHeld
          (try simp only [Act.put, List.getElem_toArray, List.getElem_cons_zero, List.getElem_cons_succ])
          go_wp2_with fail
          go_meet
          case rel => exact ⟨Wd.heap.size, rfl, BD.out.size, HF.out, BE.out⟩
      · go_simp
        refine hK.out _ _ (HA.out) (fun hHeld => ?_)
        clear hK
        (try simp only [Act.put, List.setIfInBounds_toArray, List.set_cons_zero, List.set_cons_succ])
        refine wpAnyH_ready (rs := [6]) (by kernel_rfl) (by simp) ?_
        refine AllReadyH.cons rfl (fun K hK => ?_) AllReadyH.nil
        go_simp
        refine Calls.mono (CB.out _) ?_
        rintro x wx ⟨rfl, rfl⟩
        refine hK.out _ _ (HA.out) (fun hHeld => ?_)
        clear hK
        (try simp only [Act.put, List.setIfInBounds_toArray, List.set_cons_zero, List.set_cons_succ])
        refine wpAnyH_ready (rs := [9]) (by kernel_rfl) (by simp) ?_
        refine AllReadyH.cons rfl (fun K hK => ?_) AllReadyH.nil
        go_simp
        refine Calls.mono (CC.out _) ?_
        rintro x wx ⟨rfl, rfl⟩
        refine hK.out _ _ (HA.out) (fun hHeld => ?_)
        clear hK
        (try simp only [Act.put, List.setIfInBounds_toArray, List.set_cons_zero, List.set_cons_succ])
        refine wpAnyH_take (i := 10) (v := (.agg (msgV mo))) rfl (by kernel_rfl) (by kernel_rfl) (by kernel_rfl) (fun _ _ _ h => h) (Or.inl ⟨by rfl, ?_⟩) (by assumption) ?_
        · intro w' hSw
          (try dsimp only at hSw)
          (rw [EM.out]; go_simp)
        (try simp only [Act.put, List.getElem_toArray, List.getElem_cons_zero, List.getElem_cons_succ, List.setIfInBounds_toArray, List.set_cons_zero, List.set_cons_succ])
        refine wpAnyH_ready (rs := [12]) (by kernel_rfl) (by simp) ?_
        refine AllReadyH.cons rfl (fun K hK => ?_) AllReadyH.nil
        rw [if_pos (by kernel_rfl)]
        refine wp_store_row 27 (.tmp 4) (.tmp 21) rfl Wd.heap.size (msgV mo) rfl (by rw [EM.out]; rfl) 27 (msgV (mm0 0)) HZ.out msg_info rfl (msg_one mo) ?_
        refine hK.out _ _ (HE.out) (fun hHeld => ?_)
        clear hK
        (try simp only [Act.put, List.setIfInBounds_toArray, List.set_cons_zero, List.set_cons_succ])
        refine wpAnyH_done (by kernel_rfl) ?_ _
        clear hHeld
        (try simp only [Act.put, List.getElem_toArray, List.getElem_cons_zero, List.getElem_cons_succ])
        go_wp2_with fail
        go_meet
        case rel => exact ⟨Wd.heap.size, rfl, BD.out.size, HF.out, BE.out⟩
    · go_simp
      refine hK.out _ _ (HA.out) (fun hHeld => ?_)
      clear hK
      (try simp only [Act.put, List.setIfInBounds_toArray, List.set_cons_zero, List.set_cons_succ])
      refine wpAnyH_ready (rs := [3]) (by kernel_rfl) (by simp) ?_
      refine AllReadyH.cons rfl (fun K hK => ?_) AllReadyH.nil
      go_simp
      refine Calls.mono (CA.out _) ?_
      rintro x wx ⟨rfl, rfl⟩
      refine hK.out _ _ (HA.out) (fun hHeld => ?_)
      clear hK
      (try simp only [Act.put, List.setIfInBounds_toArray, List.set_cons_zero, List.set_cons_succ])
      refine wpAnyH_ready (rs := [6]) (by kernel_rfl) (by simp) ?_
      refine AllReadyH.cons rfl (fun K hK => ?_) AllReadyH.nil
      go_simp
      refine Calls.mono (CB.out _) ?_
      rintro x wx ⟨rfl, rfl⟩
      refine hK.out _ _ (HA.out) (fun hHeld => ?_)
      clear hK
      (try simp only [Act.put, List.setIfInBounds_toArray, List.set_cons_zero, List.set_cons_succ])
      refine wpAnyH_ready (rs := [9]) (by kernel_rfl) (by simp) ?_
      refine AllReadyH.cons rfl (fun K hK => ?_) AllReadyH.nil
      go_simp
      refine Calls.mono (CC.out _) ?_
      rintro x wx ⟨rfl, rfl⟩
      refine hK.out _ _ (HA.out) (fun hHeld => ?_)
      clear hK
      (try simp only [Act.put, List.setIfInBounds_toArray, List.set_cons_zero, List.set_cons_succ])
      refine wpAnyH_take (i := 10) (v := (.agg (msgV mo))) rfl (by kernel_rfl) (by kernel_rfl) (by kernel_rfl) (fun _ _ _ h => h) (Or.inl ⟨by rfl, ?_⟩) (by assumption) ?_
      · intro w' hSw
        (try dsimp only at hSw)
        (rw [EM.out]; go_simp)
      (try simp only [Act.put, List.getElem_toArray, List.getElem_cons_zero, List.getElem_cons_succ, List.setIfInBounds_toArray, List.set_cons_zero, List.set_cons_succ])
      refine wpAnyH_ready (rs := [12]) (by kernel_rfl) (by simp) ?_
      refine AllReadyH.cons rfl (fun K hK => ?_) AllReadyH.nil
      rw [if_pos (by kernel_rfl)]
      refine wp_store_row 27 (.tmp 4) (.tmp 21) rfl Wd.heap.size (msgV mo) rfl (by rw [EM.out]; rfl) 27 (msgV (mm0 0)) HZ.out msg_info rfl (msg_one mo) ?_
      refine hK.out _ _ (HE.out) (fun hHeld => ?_)
      clear hK
      (try simp only [Act.put, List.setIfInBounds_toArray, List.set_cons_zero, List.set_cons_succ])
      refine wpAnyH_done (by kernel_rfl) ?_ _
      clear hHeld
      (try simp only [Act.put, List.getElem_toArray, List.getElem_cons_zero, List.getElem_cons_succ])
      go_wp2_with fail
      go_meet
      case rel => exact ⟨Wd.heap.size, rfl, BD.out.size, HF.out, BE.out⟩
  case rest =>
    obtain ⟨b, rfl, hb0, hO, hB⟩ := hcut
    have hz := (KC.out _ hB).2.2.2 k hk16
    have hkk : (k : Int) < 17 := by omega
    have hlt := bodyF_lt k hk16
    have hlen := bodyF_len k hk16
    obtain ⟨S, hS⟩ : ∃ S, S = strOf (letL k) := ⟨_, rfl⟩
    rw [← hS] at hz
    have hsd : S.data.toList = letL k := by rw [hS, strOf_data]
    have hsz : S.size = (bodyF k).length := by rw [hS, strOf_size]; unfold letL; rw [List.length_map]
    have HO := hide hO
    have HB := hide hB
    clear hS hO hB CA CB CC EM
    go_wp2_with fail
    clear hz
    go_loopw [6] (fun i wr => ∃ (q : Nat) (m1 : MM), q ≤ S.size ∧ i = .int .i64 (q : Int) ∧ FitAll m1 k ∧ wr.heap[b]? = some (.cells (msgV m1) 27) ∧ Below W0.heap.size W0 wr) (fun i _ => S.size - (intOf i).toNat)
    case atStart => exact ⟨0, mo, Nat.zero_le _, rfl, FA.out, HO.out, HB.out⟩
    case round =>
      clear FA HO HB
      obtain ⟨q, m1, hq, rfl, hF, hO, hB⟩ := hrel
      by_cases hql : q < S.size
      case neg =>
        obtain rfl : q = S.size := by omega
        obtain ⟨_, hR, hBw, _⟩ := KC.out _ hB
        have HB2 := hide hBw
        have FM := hide hF
        clear hBw hF CE3 CE4 CE5 CE6 CE7 CE8 CE9 R3 R4 R5 R6 R7 R8 R9
        go_wp2_with (first | (refine wpList_loadMsg rfl (.tmp 4) rfl m1 b rfl hO ?_) | (refine wpList_storeMsg rfl (.tmp 2) (.tmp 76) rfl (w.heap.size + 1) rfl m1 (mm0 0) rfl hR ?_))
        refine bodyPost_ret (v := .agg (msgV m1)) (res_msg1 Tryd.results18 _ m1 _ (w.heap.size + 1) rfl (setRow_heap _ _ _ _ _ _ hR)) rfl ⟨m1, k, hk1, hk16, FM.out, rfl, ?_⟩
        exact below_row HB2.out (by omega) _
      case pos =>
        have hqb : q < (bodyF k).length := by omega
        have hfi := hlt _ (List.getElem_mem hqb)
        have hmem := List.getElem_mem hqb
        have IXS : Hid (∀ w', (Instr.index 9 (.string S) (.int .i64 (q : Int))).run Tryd.prog w' = .ok (.int .u8 ((letF (bodyF k)[q]).toNat : Int)) w') := fun w' => by
          have hx : S[q] = letF (bodyF k)[q] := by
            have : S[q] = S.data.toList[q]'(by rw [size_data]; exact hql) := rfl
            rw [this, ← letP_at k q hqb]; simp only [hsd]
          rw [← hx]; exact ix_str w' S q hql
        generalize (bodyF k)[q] = fi at *
        have hcm := (KC.out _ hB).1
        have hqi : (q : Int) < (S.size : Int) := by omega
        have HF2 := hide hF
        have HB2 := hide hB
        have HM := hide hmem
        clear hF hB hmem
        have hall : fi = 3 ∨ fi = 4 ∨ fi = 5 ∨ fi = 6 ∨ fi = 7 ∨ fi = 8 ∨ fi = 9 := by omega
        rcases hall with rfl | rfl | rfl | rfl | rfl | rfl | rfl
        · have hxs : ∀ w', (Instr.index 9 (.string S) (.int .i64 (q : Int))).run Tryd.prog w' = .ok (.int .u8 69) w' := fun w' => IXS.out w'
          have c1 : wr.cell? ⟨w.heap.size, 4, none⟩ = some (.int .i64 m.n3) := msg_at0 m wr _ hcm 4
          have c2 : wr.cell? ⟨b, 4, none⟩ = some (.int .i64 m1.n3) := msg_at0 m1 wr _ hO 4
          have c3 : wr.frozen? ⟨b, 4, none⟩ = false := msg_frozen m1 wr _ hO 4
          have HN := hide (msg_set_num m1 3 (by omega) X3 ⟨#[]⟩ wr b hO)
          have HP := hide (HF2.out.put 3 (by omega) HM.out X3 ⟨#[]⟩ R3.out.1 R3.out.2 (Nat.zero_le _))
          have HQ := hide (below_set HB2.out (a := ⟨b, 4, none⟩) hb0 (.int .i64 X3))
          clear hcm hO IXS HF2 HB2 HM
          go_wp2_with fail
          refine Calls.mono (CE3.out _) ?_
          rintro e wx ⟨rfl, rfl⟩
          go_wp2_with fail
          go_roundw
          case rel => exact ⟨q + 1, _, by omega, by go_num, HP.out, HN.out, HQ.out⟩
          case measure => simp [intOf]; omega
        · have hxs : ∀ w', (Instr.index 9 (.string S) (.int .i64 (q : Int))).run Tryd.prog w' = .ok (.int .u8 83) w' := fun w' => IXS.out w'
          have c1 : wr.cell? ⟨w.heap.size, 5, none⟩ = some (.int .i64 m.n4) := msg_at0 m wr _ hcm 5
          have c2 : wr.cell? ⟨b, 5, none⟩ = some (.int .i64 m1.n4) := msg_at0 m1 wr _ hO 5
          have c3 : wr.frozen? ⟨b, 5, none⟩ = false := msg_frozen m1 wr _ hO 5
          have HN := hide (msg_set_num m1 4 (by omega) X4 ⟨#[]⟩ wr b hO)
          have HP := hide (HF2.out.put 4 (by omega) HM.out X4 ⟨#[]⟩ R4.out.1 R4.out.2 (Nat.zero_le _))
          have HQ := hide (below_set HB2.out (a := ⟨b, 5, none⟩) hb0 (.int .i64 X4))
          clear hcm hO IXS HF2 HB2 HM
          go_wp2_with fail
          refine Calls.mono (CE4.out _) ?_
          rintro e wx ⟨rfl, rfl⟩
          go_wp2_with fail
          go_roundw
          case rel => exact ⟨q + 1, _, by omega, by go_num, HP.out, HN.out, HQ.out⟩
          case measure => simp [intOf]; omega
        · have hxs : ∀ w', (Instr.index 9 (.string S) (.int .i64 (q : Int))).run Tryd.prog w' = .ok (.int .u8 86) w' := fun w' => IXS.out w'
          have c1 : wr.cell? ⟨w.heap.size, 6, none⟩ = some (.int .i64 m.n5) := msg_at0 m wr _ hcm 6
          have c2 : wr.cell? ⟨b, 6, none⟩ = some (.int .i64 m1.n5) := msg_at0 m1 wr _ hO 6
          have c3 : wr.frozen? ⟨b, 6, none⟩ = false := msg_frozen m1 wr _ hO 6
          have HN := hide (msg_set_num m1 5 (by omega) X5 ⟨#[]⟩ wr b hO)
          have HP := hide (HF2.out.put 5 (by omega) HM.out X5 ⟨#[]⟩ R5.out.1 R5.out.2 (Nat.zero_le _))
          have HQ := hide (below_set HB2.out (a := ⟨b, 6, none⟩) hb0 (.int .i64 X5))
          clear hcm hO IXS HF2 HB2 HM
          go_wp2_with fail
          refine Calls.mono (CE5.out _) ?_
          rintro e wx ⟨rfl, rfl⟩
          go_wp2_with fail
          go_roundw
          case rel => exact ⟨q + 1, _, by omega, by go_num, HP.out, HN.out, HQ.out⟩
          case measure => simp [intOf]; omega
        · have hxs : ∀ w', (Instr.index 9 (.string S) (.int .i64 (q : Int))).run Tryd.prog w' = .ok (.int .u8 80) w' := fun w' => IXS.out w'
          have c1 : wr.cell? ⟨w.heap.size, 7, none⟩ = some (.int .i64 m.n6) := msg_at0 m wr _ hcm 7
          have c2 : wr.cell? ⟨b, 7, none⟩ = some (.int .i64 m1.n6) := msg_at0 m1 wr _ hO 7
          have c3 : wr.frozen? ⟨b, 7, none⟩ = false := msg_frozen m1 wr _ hO 7
          have HN := hide (msg_set_num m1 6 (by omega) X6 ⟨#[]⟩ wr b hO)
          have HP := hide (HF2.out.put 6 (by omega) HM.out X6 ⟨#[]⟩ R6.out.1 R6.out.2 (Nat.zero_le _))
          have HQ := hide (below_set HB2.out (a := ⟨b, 7, none⟩) hb0 (.int .i64 X6))
          clear hcm hO IXS HF2 HB2 HM
          go_wp2_with fail
          refine Calls.mono (CE6.out _) ?_
          rintro e wx ⟨rfl, rfl⟩
          go_wp2_with fail
          go_roundw
          case rel => exact ⟨q + 1, _, by omega, by go_num, HP.out, HN.out, HQ.out⟩
          case measure => simp [intOf]; omega
        · have hxs : ∀ w', (Instr.index 9 (.string S) (.int .i64 (q : Int))).run Tryd.prog w' = .ok (.int .u8 67) w' := fun w' => IXS.out w'
          have c1 : wr.cell? ⟨w.heap.size, 8, none⟩ = some (.int .i64 m.n7) := msg_at0 m wr _ hcm 8
          have c2 : wr.cell? ⟨b, 8, none⟩ = some (.int .i64 m1.n7) := msg_at0 m1 wr _ hO 8
          have c3 : wr.frozen? ⟨b, 8, none⟩ = false := msg_frozen m1 wr _ hO 8
          have HN := hide (msg_set_num m1 7 (by omega) X7 ⟨#[]⟩ wr b hO)
          have HP := hide (HF2.out.put 7 (by omega) HM.out X7 ⟨#[]⟩ R7.out.1 R7.out.2 (Nat.zero_le _))
          have HQ := hide (below_set HB2.out (a := ⟨b, 8, none⟩) hb0 (.int .i64 X7))
          clear hcm hO IXS HF2 HB2 HM
          go_wp2_with fail
          refine Calls.mono (CE7.out _) ?_
          rintro e wx ⟨rfl, rfl⟩
          go_wp2_with fail
          go_roundw
          case rel => exact ⟨q + 1, _, by omega, by go_num, HP.out, HN.out, HQ.out⟩
          case measure => simp [intOf]; omega
        · have hxs : ∀ w', (Instr.index 9 (.string S) (.int .i64 (q : Int))).run Tryd.prog w' = .ok (.int .u8 75) w' := fun w' => IXS.out w'
          have c1 : wr.cell? ⟨w.heap.size, 9, none⟩ = some (.string m.key) := msg_at0 m wr _ hcm 9
          have c2 : wr.cell? ⟨b, 9, none⟩ = some (.string m1.key) := msg_at0 m1 wr _ hO 9
          have c3 : wr.frozen? ⟨b, 9, none⟩ = false := msg_frozen m1 wr _ hO 9
          have HN := hide (msg_set_txt m1 8 (by omega) 0 X8 wr b hO)
          have HP := hide (HF2.out.put 8 (by omega) HM.out 0 X8 (by omega) (by omega) R8.out)
          have HQ := hide (below_set HB2.out (a := ⟨b, 9, none⟩) hb0 (.string X8))
          clear hcm hO IXS HF2 HB2 HM
          go_wp2_with fail
          refine Calls.mono (CE8.out _) ?_
          rintro e wx ⟨rfl, rfl⟩
          go_wp2_with fail
          go_roundw
          case rel => exact ⟨q + 1, _, by omega, by go_num, HP.out, HN.out, HQ.out⟩
          case measure => simp [intOf]; omega
        · have hxs : ∀ w', (Instr.index 9 (.string S) (.int .i64 (q : Int))).run Tryd.prog w' = .ok (.int .u8 87) w' := fun w' => IXS.out w'
          have c1 : wr.cell? ⟨w.heap.size, 10, none⟩ = some (.string m.val) := msg_at0 m wr _ hcm 10
          have c2 : wr.cell? ⟨b, 10, none⟩ = some (.string m1.val) := msg_at0 m1 wr _ hO 10
          have c3 : wr.frozen? ⟨b, 10, none⟩ = false := msg_frozen m1 wr _ hO 10
          have HN := hide (msg_set_txt m1 9 (by omega) 0 X9 wr b hO)
          have HP := hide (HF2.out.put 9 (by omega) HM.out 0 X9 (by omega) (by omega) R9.out)
          have HQ := hide (below_set HB2.out (a := ⟨b, 10, none⟩) hb0 (.string X9))
          clear hcm hO IXS HF2 HB2 HM
          go_wp2_with fail
          refine Calls.mono (CE9.out _) ?_
          rintro e wx ⟨rfl, rfl⟩
          go_wp2_with fail
          go_roundw
          case rel => exact ⟨q + 1, _, by omega, by go_num, HP.out, HN.out, HQ.out⟩
          case measure => simp [intOf]; omega
end Go.Proofs.YtgdjfocnaapooaaDoor
namespace Go.Proofs.YtgdjfocnaapooaaDoor
open Go.RowKit
theorem enc_size (m : MM) (k : Nat) (h1 : 1 ≤ k) (h16 : k ≤ 16) (hF : FitAll m k) : 24 ≤ (encS m).size ∧ (encS m).size ≤ 4407 := by
  have hfa := hF.2
  have hlt := bodyF_lt k h16
  have eB : bodyL m = (bodyF k).flatMap (fldL m) := by unfold bodyL; rw [hF.1]; rfl
  have hbl : (bodyL m).length ≤ 4383 := by
    rw [eB]
    exact Nat.le_trans (flat_bnd m k (bodyF k) (fun i hi => ⟨(hlt i hi).2, hfa i (hlt i hi).2⟩)) (bodyF_bnd k h16)
  have hp := enc_parts m k h1 h16 hF.1 hF.fit
  have hh := head_len m
  have hsz : (encS m).size = 24 + (bodyL m).length := by
    rw [← size_data, hp]
    simp only [List.length_append, hh, dig_len, le4_len, List.length_cons, List.length_nil]
    omega
  omega
theorem FitAll.kind {m : MM} {k : Nat} (h1 : 1 ≤ k) (h16 : k ≤ 16) (hF : FitAll m k) : 1 ≤ m.kind ∧ m.kind ≤ 16 := by rw [hF.1]; omega
theorem encE_fit {m : MM} {k : Nat} (h1 : 1 ≤ k) (h16 : k ≤ 16) (hF : FitAll m k) : encE m = 0 := encE_ok (hF.kind h1 h16) hF.fit
theorem decV_fit {m : MM} {k : Nat} (h1 : 1 ≤ k) (h16 : k ≤ 16) (hF : FitAll m k) : decV (encS m) = .tuple #[.agg (msgV m), .int .i64 0] := by
  obtain ⟨d1, d2⟩ := dec_fwd m k h1 h16 hF.1 hF.fit
  unfold decV
  rw [d1, d2]
  rfl
/-- two messages that are not the same have not the same frame -/
theorem enc_inj {m n : MM} {k l : Nat} (h1 : 1 ≤ k) (h16 : k ≤ 16) (hF : FitAll m k) (g1 : 1 ≤ l) (g16 : l ≤ 16) (hG : FitAll n l) : decide (encS m = encS n) = sameM m n := by
  by_cases h : m = n
  · subst h; rw [sameM_self, decide_eq_true rfl]
  · rw [sameM_no h]
    refine decide_eq_false fun e => h ?_
    have a := (dec_fwd m k h1 h16 hF.1 hF.fit).1
    have b := (dec_fwd n l g1 g16 hG.1 hG.fit).1
    rw [e, b] at a
    exact (Option.some.inj a).symm
theorem wpList_loadMsgG {w : World} {ops : Array Oper} {rest : List Oper} {o : Oper} {a : Act} {Q : Exit → Act → World → Prop} (hw : Region.wanted o (yielded ops a.tmps) = true) (x : Operand) (ho : o.op = .load 27 x) (m : MM) (b : Nat) (hx : a.eval x = .pointer (some ⟨b, 0, none⟩)) (hO : w.heap[b]? = some (.cells (msgV m) 27))
    (h : wpList Tryd.prog ops Q rest (a.put o.dst (.agg (msgV m))) w) : wpList Tryd.prog ops Q (o :: rest) a w := by
  have hl : (Instr.loadAt 27 (.pointer (some ⟨b, 0, none⟩))).run Tryd.prog w = .ok (.agg (msgV m)) w := by
    simp only [Instr.loadAt, Instr.sureAddr, Sem.run_bind, Sem.run_pure, Result.andThen]
    exact run_loadVar_row _ _ 27 27 (msgV m) (0, 0) _ hO Tryd.underlying27 rfl msg_info
  refine BigFrame.wpList_want hw fun K hK => ?_
  unfold Oper.wp execOp
  simp only [ho, Sem.run_bind, Sem.run_pure, Result.andThen_ok, hx, hl]
  exact hK _ _ h
/-- a message that is laid into a new block -/
theorem laid_new {w0 w : World} (hb : Below w0.heap.size w0 w) (m : MM) : ∃ W : World, W = (w.alloc (.cells #[.int .i64 0, .int .i64 0, .int .i64 0, .int .i64 0, .int .i64 0, .int .i64 0, .int .i64 0, .int .i64 0, .int .i64 0, .string ⟨#[]⟩, .string ⟨#[]⟩] 27)).setRow w.heap.size (msgV m) ∧ W.heap[w.heap.size]? = some (.cells (msgV m) 27) ∧ Below w.heap.size w W ∧ Below w0.heap.size w0 W := by
  refine ⟨_, rfl, setRow_heap _ _ _ _ _ _ (heap_last _ _), ?_, ?_⟩
  · exact below_row ((Below.refl _ w).alloc (Nat.le_refl _) _) (Nat.le_refl _) _
  · exact below_row (hb.alloc hb.size _) hb.size _
theorem blk_lt {w : World} {b : Nat} {o : Obj} (h : w.heap[b]? = some o) : b < w.heap.size := (Array.getElem?_eq_some_iff.1 h).1
theorem blk_keep {w w' : World} {b : Nat} {o : Obj} (h : w.heap[b]? = some o) (hb : Below w.heap.size w w') : w'.heap[b]? = some o := (hb.block _ (blk_lt h)).trans h
end Go.Proofs.YtgdjfocnaapooaaDoor
