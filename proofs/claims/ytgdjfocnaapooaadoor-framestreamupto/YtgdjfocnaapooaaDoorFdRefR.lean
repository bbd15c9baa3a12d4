import Derived.Test.YtgdjfocnaapooaaDoorGFsFirst
namespace Go.Proofs.YtgdjfocnaapooaaDoor
open Go.RowKit
theorem letQ_at (k q : Nat) (h : q < (bodyF k).length) : (letL k)[q]'(by unfold letL; rw [List.length_map]; exact h) = letF (bodyF k)[q] := by simp [letL]
set_option maxHeartbeats 16000000 in
set_option maxRecDepth 100000 in
set_option linter.unusedSimpArgs false in
/-- the document's read: of a frame just its message -/
theorem rread_any (s : ByteArray) (k : Nat) (h1 : 1 ≤ k) (h16 : k ≤ 16) (hk : kndF s = k) (h24 : 24 ≤ s.size) (hs : s.size ≤ 1000000) (w : World) (hT : TabR w) :
    Calls Tryd.prog 73 #[.string s] w fun e w' => ∃ m' : MM, (∀ m, FitAll m k → encS m = s → m' = m) ∧ e = .returned (.agg (msgV m')) ∧ Below w.heap.size w w' := by
  obtain ⟨W0, hW0⟩ : ∃ W0, W0 = w.alloc (.cells #[.int .i64 0, .int .i64 0, .int .i64 0, .int .i64 0, .int .i64 0, .int .i64 0, .int .i64 0, .int .i64 0, .int .i64 0, .string ⟨#[]⟩, .string ⟨#[]⟩] 27) := ⟨_, rfl⟩
  have b0 : Below w.heap.size w W0 := by rw [hW0]; exact (Below.refl _ w).alloc (Nat.le_refl _) _
  have s0 : W0.heap.size = w.heap.size + 1 := by rw [hW0]; simp
  have hM0 : W0.heap[w.heap.size]? = some (.cells (msgV (mm0 0)) 27) := by rw [hW0]; exact heap_last w _
  have KC : Hid (∀ w', Below W0.heap.size W0 w' → w'.heap[w.heap.size]? = some (.cells (msgV (mm0 0)) 27) ∧ Below w.heap.size w w' ∧ TabR w') := fun w' hb => ⟨(hb.block _ (by omega)).trans hM0, b0.trans (hb.mono (by omega)), hT.below (b0.trans (hb.mono (by omega)))⟩
  have K3 := knd_at s (Nat.lt_of_lt_of_le (by decide) h24)
  rw [hk] at K3
  have IX3 : Hid (∀ w', (Instr.index 9 (.string s) (.int .i64 3)).run Tryd.prog w' = .ok (.int .u8 (k : Int)) w') := fun w' => by
    have e := ix_str w' s 3 (by omega)
    rw [K3] at e
    exact e
  have CA := hide (fun w' => number_any s 4 2 (by omega) (by omega) w')
  have CB := hide (fun w' => number_any s 6 2 (by omega) (by omega) w')
  have CC := hide (fun w' => number_any s 8 8 (by omega) (by omega) w')
  have FA := hide (SoFar.start s k h1 h16)
  generalize numD s 4 2 = A at *
  generalize numD s 6 2 = B at *
  generalize numD s 8 8 = C at *
  obtain ⟨mo, hmo⟩ : ∃ mo : MM, mo = ⟨(k : Int), A, B, C, 0, 0, 0, 0, 0, ⟨#[]⟩, ⟨#[]⟩⟩ := ⟨_, rfl⟩
  rw [← hmo] at FA
  have EM : Hid (msgV mo = #[.int .i64 (k : Int), .int .i64 A, .int .i64 B, .int .i64 C, .int .i64 0, .int .i64 0, .int .i64 0, .int .i64 0, .int .i64 0, .string ⟨#[]⟩, .string ⟨#[]⟩]) := by rw [hmo]; rfl
  have hkb : k < 256 := by omega
  clear hM0 b0 hT hmo s0 K3 hk
  go_enter Tryd.func73, Tryd.ntmps73
  go_upto_region 1 with fail
  rw [← hW0]
  clear hW0
  go_cut [3] (fun p wx => ∃ b : Nat, p = .pointer (some ⟨b, 0, none⟩) ∧ W0.heap.size ≤ b ∧ wx.heap[b]? = some (.cells (msgV mo) 27) ∧ Below W0.heap.size W0 wx)
  case first =>
    have BD : Hid (Below W0.heap.size W0 W0.drew) := (Below.refl _ W0).drew
    refine wp_region_held_drew (S := fun _ => True) (by kernel_rfl) trivial (fun hHeld => ?_)
    generalize W0.drew = Wd at *
    have BA := hide (BD.out.alloc BD.out.size (.cells (msgV (mm0 0)) 27))
    have HZ : Hid ((Wd.alloc (.cells (msgV (mm0 0)) 27)).heap[Wd.heap.size]? = some (.cells (msgV (mm0 0)) 27)) := heap_last _ _
    have BE := hide (below_row BA.out BD.out.size (msgV mo))
    have HF := hide (setRow_heap _ _ _ (msgV mo) _ _ HZ.out)
    refine wpAnyH_take (i := 0) (v := (.string s)) rfl (by kernel_rfl) (by kernel_rfl) (by kernel_rfl) (fun _ _ _ h => h) (Or.inl ⟨by rfl, ?_⟩) (by assumption) ?_
    · intro w' hSw
      (try dsimp only at hSw)
      go_simp <;> first | exact i64_in (by omega) (by omega) | exact u32_in (by omega) (by omega) | exact u32_add _ _ | (rw [Int.tmod_eq_emod_of_nonneg (by omega)]; omega) | (rw [Int.tdiv_eq_ediv_of_nonneg (by omega)]; omega) | omega
    (try simp only [Act.put, List.setIfInBounds_toArray, List.set_cons_zero, List.set_cons_succ])
    refine wpAnyH_take (i := 1) (v := (.int .u8 (k : Int))) rfl (by kernel_rfl) (by kernel_rfl) (by kernel_rfl) (fun _ _ _ h => h) (Or.inl ⟨by rfl, ?_⟩) (by assumption) ?_
    · intro w' hSw
      (try dsimp only at hSw)
      (have hc := IX3.out w'; go_simp)
    (try simp only [Act.put, List.setIfInBounds_toArray, List.set_cons_zero, List.set_cons_succ])
    refine wpAnyH_take (i := 2) (v := (.int .i64 (k : Int))) rfl (by kernel_rfl) (by kernel_rfl) (by kernel_rfl) (fun _ _ _ h => h) (Or.inl ⟨by rfl, ?_⟩) (by assumption) ?_
    · intro w' hSw
      (try dsimp only at hSw)
      go_simp <;> first | exact i64_in (by omega) (by omega) | exact u32_in (by omega) (by omega) | exact u32_add _ _ | (rw [Int.tmod_eq_emod_of_nonneg (by omega)]; omega) | (rw [Int.tdiv_eq_ediv_of_nonneg (by omega)]; omega) | omega
    (try simp only [Act.put, List.setIfInBounds_toArray, List.set_cons_zero, List.set_cons_succ])
    refine wpAnyH_take (i := 3) (v := (.string s)) rfl (by kernel_rfl) (by kernel_rfl) (by kernel_rfl) (fun _ _ _ h => h) (Or.inl ⟨by rfl, ?_⟩) (by assumption) ?_
    · intro w' hSw
      (try dsimp only at hSw)
      go_simp <;> first | exact i64_in (by omega) (by omega) | exact u32_in (by omega) (by omega) | exact u32_add _ _ | (rw [Int.tmod_eq_emod_of_nonneg (by omega)]; omega) | (rw [Int.tdiv_eq_ediv_of_nonneg (by omega)]; omega) | omega
    (try simp only [Act.put, List.setIfInBounds_toArray, List.set_cons_zero, List.set_cons_succ])
    refine wpAnyH_take (i := 5) (v := (.string s)) rfl (by kernel_rfl) (by kernel_rfl) (by kernel_rfl) (fun _ _ _ h => h) (Or.inl ⟨by rfl, ?_⟩) (by assumption) ?_
    · intro w' hSw
      (try dsimp only at hSw)
      go_simp <;> first | exact i64_in (by omega) (by omega) | exact u32_in (by omega) (by omega) | exact u32_add _ _ | (rw [Int.tmod_eq_emod_of_nonneg (by omega)]; omega) | (rw [Int.tdiv_eq_ediv_of_nonneg (by omega)]; omega) | omega
    (try simp only [Act.put, List.setIfInBounds_toArray, List.set_cons_zero, List.set_cons_succ])
    refine wpAnyH_take (i := 7) (v := (.string s)) rfl (by kernel_rfl) (by kernel_rfl) (by kernel_rfl) (fun _ _ _ h => h) (Or.inl ⟨by rfl, ?_⟩) (by assumption) ?_
    · intro w' hSw
      (try dsimp only at hSw)
      go_simp <;> first | exact i64_in (by omega) (by omega) | exact u32_in (by omega) (by omega) | exact u32_add _ _ | (rw [Int.tmod_eq_emod_of_nonneg (by omega)]; omega) | (rw [Int.tdiv_eq_ediv_of_nonneg (by omega)]; omega) | omega
    (try simp only [Act.put, List.setIfInBounds_toArray, List.set_cons_zero, List.set_cons_succ])
    refine wpAnyH_ready (rs := [4, 10]) (by kernel_rfl) (by simp) ?_
    refine AllReadyH.cons rfl (fun K hK => ?_) (AllReadyH.cons rfl (fun K hK => ?_) AllReadyH.nil)
    · skip
      go_simp
      refine Calls.mono (CA.out _) ?_
      rintro x wx ⟨rfl, rfl⟩
      refine hK.out _ _ (trivial) (fun hHeld => ?_)
      clear hK
      (try simp only [Act.put, List.setIfInBounds_toArray, List.set_cons_zero, List.set_cons_succ])
      refine wpAnyH_ready (rs := [6, 10]) (by kernel_rfl) (by simp) ?_
      refine AllReadyH.cons rfl (fun K hK => ?_) (AllReadyH.cons rfl (fun K hK => ?_) AllReadyH.nil)
      · skip
        go_simp
        refine Calls.mono (CB.out _) ?_
        rintro x wx ⟨rfl, rfl⟩
        refine hK.out _ _ (trivial) (fun hHeld => ?_)
        clear hK
        (try simp only [Act.put, List.setIfInBounds_toArray, List.set_cons_zero, List.set_cons_succ])
        refine wpAnyH_ready (rs := [8, 10]) (by kernel_rfl) (by simp) ?_
        refine AllReadyH.cons rfl (fun K hK => ?_) (AllReadyH.cons rfl (fun K hK => ?_) AllReadyH.nil)
        · skip
          go_simp
          refine Calls.mono (CC.out _) ?_
          rintro x wx ⟨rfl, rfl⟩
          refine hK.out _ _ (trivial) (fun hHeld => ?_)
          clear hK
          (try simp only [Act.put, List.setIfInBounds_toArray, List.set_cons_zero, List.set_cons_succ])
          refine wpAnyH_take (i := 9) (v := (.agg (msgV mo))) rfl (by kernel_rfl) (by kernel_rfl) (by kernel_rfl) (fun _ _ _ h => h) (Or.inl ⟨by rfl, ?_⟩) (by assumption) ?_
          · intro w' hSw
            (try dsimp only at hSw)
            (rw [EM.out]; go_simp)
          (try simp only [Act.put, List.getElem_toArray, List.getElem_cons_zero, List.getElem_cons_succ, List.setIfInBounds_toArray, List.set_cons_zero, List.set_cons_succ])
          refine wpAnyH_ready (rs := [10]) (by kernel_rfl) (by simp) ?_
          refine AllReadyH.cons rfl (fun K hK => ?_) AllReadyH.nil
          go_simp
          refine hK.out _ _ (trivial) (fun hHeld => ?_)
          clear hK
          (try simp only [Act.put, List.setIfInBounds_toArray, List.set_cons_zero, List.set_cons_succ])
          refine wpAnyH_ready (rs := [11]) (by kernel_rfl) (by simp) ?_
          refine AllReadyH.cons rfl (fun K hK => ?_) AllReadyH.nil
          rw [if_pos (by kernel_rfl)]
          refine wp_store_row 27 (.tmp 3) (.tmp 18) rfl Wd.heap.size (msgV mo) rfl (by rw [EM.out]; rfl) 27 (msgV (mm0 0)) HZ.out msg_info rfl (msg_one mo) ?_
          refine hK.out _ _ (trivial) (fun hHeld => ?_)
          clear hK
          (try simp only [Act.put, List.setIfInBounds_toArray, List.set_cons_zero, List.set_cons_succ])
          refine wpAnyH_done (by kernel_rfl) ?_ _
          clear hHeld
          (try simp only [Act.put, List.getElem_toArray, List.getElem_cons_zero, List.getElem_cons_succ])
          go_wp2_with fail
          go_meet
          case rel => exact ⟨Wd.heap.size, rfl, BD.out.size, HF.out, BE.out⟩
        · go_simp
          refine hK.out _ _ (trivial) (fun hHeld => ?_)
          clear hK
          (try simp only [Act.put, List.setIfInBounds_toArray, List.set_cons_zero, List.set_cons_succ])
          refine wpAnyH_ready (rs := [8]) (by kernel_rfl) (by simp) ?_
          refine AllReadyH.cons rfl (fun K hK => ?_) AllReadyH.nil
          go_simp
          refine Calls.mono (CC.out _) ?_
          rintro x wx ⟨rfl, rfl⟩
          refine hK.out _ _ (trivial) (fun hHeld => ?_)
          clear hK
          (try simp only [Act.put, List.setIfInBounds_toArray, List.set_cons_zero, List.set_cons_succ])
          refine wpAnyH_take (i := 9) (v := (.agg (msgV mo))) rfl (by kernel_rfl) (by kernel_rfl) (by kernel_rfl) (fun _ _ _ h => h) (Or.inl ⟨by rfl, ?_⟩) (by assumption) ?_
          · intro w' hSw
            (try dsimp only at hSw)
            (rw [EM.out]; go_simp)
          (try simp only [Act.put, List.getElem_toArray, List.getElem_cons_zero, List.getElem_cons_succ, List.setIfInBounds_toArray, List.set_cons_zero, List.set_cons_succ])
          refine wpAnyH_ready (rs := [11]) (by kernel_rfl) (by simp) ?_
          refine AllReadyH.cons rfl (fun K hK => ?_) AllReadyH.nil
          rw [if_pos (by kernel_rfl)]
          refine wp_store_row 27 (.tmp 3) (.tmp 18) rfl Wd.heap.size (msgV mo) rfl (by rw [EM.out]; rfl) 27 (msgV (mm0 0)) HZ.out msg_info rfl (msg_one mo) ?_
          refine hK.out _ _ (trivial) (fun hHeld => ?_)
          clear hK
          (try simp only [Act.put, List.setIfInBounds_toArray, List.set_cons_zero, List.set_cons_succ])
          refine wpAnyH_done (by kernel_rfl) ?_ _
          clear hHeld
          (try simp only [Act.put, List.getElem_toArray, List.getElem_cons_zero, List.getElem_cons_succ])
          go_wp2_with fail
          go_meet
          case rel => exact ⟨Wd.heap.size, rfl, BD.out.size, HF.out, BE.out⟩
      · go_simp
        refine hK.out _ _ (trivial) (fun hHeld => ?_)
        clear hK
        (try simp only [Act.put, List.setIfInBounds_toArray, List.set_cons_zero, List.set_cons_succ])
        refine wpAnyH_ready (rs := [6]) (by kernel_rfl) (by simp) ?_
        refine AllReadyH.cons rfl (fun K hK => ?_) AllReadyH.nil
        go_simp
        refine Calls.mono (CB.out _) ?_
        rintro x wx ⟨rfl, rfl⟩
        refine hK.out _ _ (trivial) (fun hHeld => ?_)
        clear hK
        (try simp only [Act.put, List.setIfInBounds_toArray, List.set_cons_zero, List.set_cons_succ])
        refine wpAnyH_ready (rs := [8]) (by kernel_rfl) (by simp) ?_
        refine AllReadyH.cons rfl (fun K hK => ?_) AllReadyH.nil
        go_simp
        refine Calls.mono (CC.out _) ?_
        rintro x wx ⟨rfl, rfl⟩
        refine hK.out _ _ (trivial) (fun hHeld => ?_)
        clear hK
        (try simp only [Act.put, List.setIfInBounds_toArray, List.set_cons_zero, List.set_cons_succ])
        refine wpAnyH_take (i := 9) (v := (.agg (msgV mo))) rfl (by kernel_rfl) (by kernel_rfl) (by kernel_rfl) (fun _ _ _ h => h) (Or.inl ⟨by rfl, ?_⟩) (by assumption) ?_
        · intro w' hSw
          (try dsimp only at hSw)
          (rw [EM.out]; go_simp)
        (try simp only [Act.put, List.getElem_toArray, List.getElem_cons_zero, List.getElem_cons_succ, List.setIfInBounds_toArray, List.set_cons_zero, List.set_cons_succ])
        refine wpAnyH_ready (rs := [11]) (by kernel_rfl) (by simp) ?_
        refine AllReadyH.cons rfl (fun K hK => ?_) AllReadyH.nil
        rw [if_pos (by kernel_rfl)]
        refine wp_store_row 27 (.tmp 3) (.tmp 18) rfl Wd.heap.size (msgV mo) rfl (by rw [EM.out]; rfl) 27 (msgV (mm0 0)) HZ.out msg_info rfl (msg_one mo) ?_
        refine hK.out _ _ (trivial) (fun hHeld => ?_)
        clear hK
        (try simp only [Act.put, List.setIfInBounds_toArray, List.set_cons_zero, List.set_cons_succ])
        refine wpAnyH_done (by kernel_rfl) ?_ _
        clear hHeld
        (try simp only [Act.put, List.getElem_toArray, List.getElem_cons_zero, List.getElem_cons_succ])
        go_wp2_with fail
        go_meet
        case rel => exact ⟨Wd.heap.size, rfl, BD.out.size, HF.out, BE.out⟩
    · go_simp
      refine hK.out _ _ (trivial) (fun hHeld => ?_)
      clear hK
      (try simp only [Act.put, List.setIfInBounds_toArray, List.set_cons_zero, List.set_cons_succ])
      refine wpAnyH_ready (rs := [4]) (by kernel_rfl) (by simp) ?_
      refine AllReadyH.cons rfl (fun K hK => ?_) AllReadyH.nil
      go_simp
      refine Calls.mono (CA.out _) ?_
      rintro x wx ⟨rfl, rfl⟩
      refine hK.out _ _ (trivial) (fun hHeld => ?_)
      clear hK
      (try simp only [Act.put, List.setIfInBounds_toArray, List.set_cons_zero, List.set_cons_succ])
      refine wpAnyH_ready (rs := [6]) (by kernel_rfl) (by simp) ?_
      refine AllReadyH.cons rfl (fun K hK => ?_) AllReadyH.nil
      go_simp
      refine Calls.mono (CB.out _) ?_
      rintro x wx ⟨rfl, rfl⟩
      refine hK.out _ _ (trivial) (fun hHeld => ?_)
      clear hK
      (try simp only [Act.put, List.setIfInBounds_toArray, List.set_cons_zero, List.set_cons_succ])
      refine wpAnyH_ready (rs := [8]) (by kernel_rfl) (by simp) ?_
      refine AllReadyH.cons rfl (fun K hK => ?_) AllReadyH.nil
      go_simp
      refine Calls.mono (CC.out _) ?_
      rintro x wx ⟨rfl, rfl⟩
      refine hK.out _ _ (trivial) (fun hHeld => ?_)
      clear hK
      (try simp only [Act.put, List.setIfInBounds_toArray, List.set_cons_zero, List.set_cons_succ])
      refine wpAnyH_take (i := 9) (v := (.agg (msgV mo))) rfl (by kernel_rfl) (by kernel_rfl) (by kernel_rfl) (fun _ _ _ h => h) (Or.inl ⟨by rfl, ?_⟩) (by assumption) ?_
      · intro w' hSw
        (try dsimp only at hSw)
        (rw [EM.out]; go_simp)
      (try simp only [Act.put, List.getElem_toArray, List.getElem_cons_zero, List.getElem_cons_succ, List.setIfInBounds_toArray, List.set_cons_zero, List.set_cons_succ])
      refine wpAnyH_ready (rs := [11]) (by kernel_rfl) (by simp) ?_
      refine AllReadyH.cons rfl (fun K hK => ?_) AllReadyH.nil
      rw [if_pos (by kernel_rfl)]
      refine wp_store_row 27 (.tmp 3) (.tmp 18) rfl Wd.heap.size (msgV mo) rfl (by rw [EM.out]; rfl) 27 (msgV (mm0 0)) HZ.out msg_info rfl (msg_one mo) ?_
      refine hK.out _ _ (trivial) (fun hHeld => ?_)
      clear hK
      (try simp only [Act.put, List.setIfInBounds_toArray, List.set_cons_zero, List.set_cons_succ])
      refine wpAnyH_done (by kernel_rfl) ?_ _
      clear hHeld
      (try simp only [Act.put, List.getElem_toArray, List.getElem_cons_zero, List.getElem_cons_succ])
      go_wp2_with fail
      go_meet
      case rel => exact ⟨Wd.heap.size, rfl, BD.out.size, HF.out, BE.out⟩
  case rest =>
    obtain ⟨b, rfl, hb0, hO, hB⟩ := hcut
    have hz := (KC.out _ hB).2.2 k h16
    have hc0 := msg_at0 mo _ _ hO 0
    rw [EM.out] at hc0
    change _ = some (Value.int .i64 (k : Int)) at hc0
    have hkk : (k : Int) < 17 := by omega
    have hlt := bodyF_lt k h16
    have hlen := bodyF_len k h16
    obtain ⟨S, hS⟩ : ∃ S, S = strOf (letL k) := ⟨_, rfl⟩
    rw [← hS] at hz
    have hsd : S.data.toList = letL k := by rw [hS, strOf_data]
    have hsz : S.size = (bodyF k).length := by rw [hS, strOf_size]; unfold letL; rw [List.length_map]
    have HO := hide hO
    have HB := hide hB
    clear hS hO hB CA CB CC EM IX3
    go_wp2_with fail
    clear hz hc0
    go_loopw [5, 6, 7, 8] (fun av i _ _ wr => ∃ (q an : Nat) (m1 : MM), q ≤ S.size ∧ i = .int .i64 (q : Int) ∧ av = .int .i64 (an : Int) ∧ an ≤ 20 + q * 4294967304 ∧ SoFar s k q an m1 ∧ wr.heap[b]? = some (.cells (msgV m1) 27) ∧ Below W0.heap.size W0 wr) (fun _ i _ _ _ => S.size - (intOf i).toNat)
    case atStart => exact ⟨0, 20, mo, Nat.zero_le _, rfl, rfl, by omega, FA.out, HO.out, HB.out⟩
    case round =>
      clear FA HO HB
      obtain ⟨q, an, m1, hq, rfl, rfl, hal, hF, hO, hB⟩ := hrel
      by_cases hql : q < S.size
      case neg =>
        obtain rfl : q = S.size := by omega
        obtain ⟨hR, hBw, _⟩ := KC.out _ hB
        have HB2 := hide hBw
        have FM := hide (hF.done h16 (by omega))
        clear hBw hF
        go_wp2_with (first | (refine wpList_loadMsg rfl (.tmp 3) rfl m1 b rfl hO ?_) | (refine wpList_storeMsg rfl (.tmp 2) (.tmp 86) rfl w.heap.size rfl m1 (mm0 0) rfl hR ?_))
        refine bodyPost_ret (v := .agg (msgV m1)) (res_msg1 Tryd.results73 _ m1 _ w.heap.size rfl (setRow_heap _ _ _ _ _ _ hR)) rfl ⟨m1, FM.out, rfl, ?_⟩
        exact below_row HB2.out (Nat.le_refl _) _
      case pos =>
        have hqb : q < (bodyF k).length := by omega
        have hfi := hlt _ (List.getElem_mem hqb)
        have IXS : Hid (∀ w', (Instr.index 9 (.string S) (.int .i64 (q : Int))).run Tryd.prog w' = .ok (.int .u8 ((letF (bodyF k)[q]).toNat : Int)) w') := fun w' => by
          have hx : S[q] = letF (bodyF k)[q] := by
            have : S[q] = S.data.toList[q]'(by rw [size_data]; exact hql) := rfl
            rw [this, ← letQ_at k q hqb]; simp only [hsd]
          rw [← hx]; exact ix_str w' S q hql
        have hal2 : an ≤ 100000000000 := by
          have : q * 4294967304 ≤ 6 * 4294967304 := Nat.mul_le_mul_right _ (by omega)
          omega
        have L8 := hide (fun w' => long_any s an 8 (by omega) (by omega) hs w')
        have L2 := hide (fun w' => long_any s an 2 (by omega) (by omega) hs w')
        have L4 := hide (fun w' => long_any s an 4 (by omega) (by omega) hs w')
        have SN := hide (fun i hi ht t => hF.num h1 h16 hqb i hi ht t)
        have ST := hide (fun i hi ht N hN n => hF.txt h1 h16 hqb i hi ht N hN n)
        obtain ⟨fi, hfe⟩ : ∃ fi, (bodyF k)[q] = fi := ⟨_, rfl⟩
        rw [hfe] at IXS hfi
        have HE := hide hfe
        have hqi : (q : Int) < (S.size : Int) := by omega
        have HB2 := hide hB
        have HQ4 : Hid ((q + 1) * 4294967304 = q * 4294967304 + 4294967304) := Nat.succ_mul _ _
        clear hF hB hfe
        generalize longD s an 8 = X8 at L8
        have hall : fi = 3 ∨ fi = 4 ∨ fi = 5 ∨ fi = 6 ∨ fi = 7 ∨ fi = 8 ∨ fi = 9 := by omega
        rcases hall with rfl | rfl | rfl | rfl | rfl | rfl | rfl
        · have hxs : ∀ w', (Instr.index 9 (.string S) (.int .i64 (q : Int))).run Tryd.prog w' = .ok (.int .u8 69) w' := fun w' => IXS.out w'
          have c2 : wr.cell? ⟨b, 4, none⟩ = some (.int .i64 m1.n3) := msg_at0 m1 wr _ hO 4
          have c3 : wr.frozen? ⟨b, 4, none⟩ = false := msg_frozen m1 wr _ hO 4
          have HP := hide (SN.out 3 HE.out rfl ⟨#[]⟩)
          have HX : Hid (∃ X, longD s an 8 = X) := ⟨_, rfl⟩
          clear L8
          have L8 := hide (fun w' => long_any s an 8 (by omega) (by omega) hs w')
          change Hid (SoFar s k (q + 1) (an + 8) (m1.put 3 (longD s an 8) ⟨#[]⟩)) at HP
          generalize longD s an 8 = XX at L8 HP
          have HN := hide (msg_set_num m1 3 (by omega) XX ⟨#[]⟩ wr b hO)
          have HQ := hide (below_set HB2.out (a := ⟨b, 4, none⟩) hb0 (.int .i64 XX))
          clear hO IXS HB2 SN ST HE HX L2 L4
          go_wp2_with fail
          refine Calls.mono (L8.out _) ?_
          rintro e wx ⟨rfl, rfl⟩
          go_wp2_with fail
          go_roundw
          case rel => exact ⟨q + 1, an + 8, _, by omega, by go_num, by go_num, by rw [HQ4.out]; omega, HP.out, HN.out, HQ.out⟩
          case measure => simp [intOf]; omega
        · have hxs : ∀ w', (Instr.index 9 (.string S) (.int .i64 (q : Int))).run Tryd.prog w' = .ok (.int .u8 83) w' := fun w' => IXS.out w'
          have c2 : wr.cell? ⟨b, 5, none⟩ = some (.int .i64 m1.n4) := msg_at0 m1 wr _ hO 5
          have c3 : wr.frozen? ⟨b, 5, none⟩ = false := msg_frozen m1 wr _ hO 5
          have HP := hide (SN.out 4 HE.out rfl ⟨#[]⟩)
          have HX : Hid (∃ X, longD s an 8 = X) := ⟨_, rfl⟩
          clear L8
          have L8 := hide (fun w' => long_any s an 8 (by omega) (by omega) hs w')
          change Hid (SoFar s k (q + 1) (an + 8) (m1.put 4 (longD s an 8) ⟨#[]⟩)) at HP
          generalize longD s an 8 = XX at L8 HP
          have HN := hide (msg_set_num m1 4 (by omega) XX ⟨#[]⟩ wr b hO)
          have HQ := hide (below_set HB2.out (a := ⟨b, 5, none⟩) hb0 (.int .i64 XX))
          clear hO IXS HB2 SN ST HE HX L2 L4
          go_wp2_with fail
          refine Calls.mono (L8.out _) ?_
          rintro e wx ⟨rfl, rfl⟩
          go_wp2_with fail
          go_roundw
          case rel => exact ⟨q + 1, an + 8, _, by omega, by go_num, by go_num, by rw [HQ4.out]; omega, HP.out, HN.out, HQ.out⟩
          case measure => simp [intOf]; omega
        · have hxs : ∀ w', (Instr.index 9 (.string S) (.int .i64 (q : Int))).run Tryd.prog w' = .ok (.int .u8 86) w' := fun w' => IXS.out w'
          have c2 : wr.cell? ⟨b, 6, none⟩ = some (.int .i64 m1.n5) := msg_at0 m1 wr _ hO 6
          have c3 : wr.frozen? ⟨b, 6, none⟩ = false := msg_frozen m1 wr _ hO 6
          have HP := hide (SN.out 5 HE.out rfl ⟨#[]⟩)
          have HX : Hid (∃ X, longD s an 8 = X) := ⟨_, rfl⟩
          clear L8
          have L8 := hide (fun w' => long_any s an 8 (by omega) (by omega) hs w')
          change Hid (SoFar s k (q + 1) (an + 8) (m1.put 5 (longD s an 8) ⟨#[]⟩)) at HP
          generalize longD s an 8 = XX at L8 HP
          have HN := hide (msg_set_num m1 5 (by omega) XX ⟨#[]⟩ wr b hO)
          have HQ := hide (below_set HB2.out (a := ⟨b, 6, none⟩) hb0 (.int .i64 XX))
          clear hO IXS HB2 SN ST HE HX L2 L4
          go_wp2_with fail
          refine Calls.mono (L8.out _) ?_
          rintro e wx ⟨rfl, rfl⟩
          go_wp2_with fail
          go_roundw
          case rel => exact ⟨q + 1, an + 8, _, by omega, by go_num, by go_num, by rw [HQ4.out]; omega, HP.out, HN.out, HQ.out⟩
          case measure => simp [intOf]; omega
        · have hxs : ∀ w', (Instr.index 9 (.string S) (.int .i64 (q : Int))).run Tryd.prog w' = .ok (.int .u8 80) w' := fun w' => IXS.out w'
          have c2 : wr.cell? ⟨b, 7, none⟩ = some (.int .i64 m1.n6) := msg_at0 m1 wr _ hO 7
          have c3 : wr.frozen? ⟨b, 7, none⟩ = false := msg_frozen m1 wr _ hO 7
          have HP := hide (SN.out 6 HE.out rfl ⟨#[]⟩)
          have HX : Hid (∃ X, longD s an 8 = X) := ⟨_, rfl⟩
          clear L8
          have L8 := hide (fun w' => long_any s an 8 (by omega) (by omega) hs w')
          change Hid (SoFar s k (q + 1) (an + 8) (m1.put 6 (longD s an 8) ⟨#[]⟩)) at HP
          generalize longD s an 8 = XX at L8 HP
          have HN := hide (msg_set_num m1 6 (by omega) XX ⟨#[]⟩ wr b hO)
          have HQ := hide (below_set HB2.out (a := ⟨b, 7, none⟩) hb0 (.int .i64 XX))
          clear hO IXS HB2 SN ST HE HX L2 L4
          go_wp2_with fail
          refine Calls.mono (L8.out _) ?_
          rintro e wx ⟨rfl, rfl⟩
          go_wp2_with fail
          go_roundw
          case rel => exact ⟨q + 1, an + 8, _, by omega, by go_num, by go_num, by rw [HQ4.out]; omega, HP.out, HN.out, HQ.out⟩
          case measure => simp [intOf]; omega
        · have hxs : ∀ w', (Instr.index 9 (.string S) (.int .i64 (q : Int))).run Tryd.prog w' = .ok (.int .u8 67) w' := fun w' => IXS.out w'
          have c2 : wr.cell? ⟨b, 8, none⟩ = some (.int .i64 m1.n7) := msg_at0 m1 wr _ hO 8
          have c3 : wr.frozen? ⟨b, 8, none⟩ = false := msg_frozen m1 wr _ hO 8
          have HP := hide (SN.out 7 HE.out rfl ⟨#[]⟩)
          change Hid (SoFar s k (q + 1) (an + 2) (m1.put 7 (longD s an 2) ⟨#[]⟩)) at HP
          generalize longD s an 2 = XX at L2 HP
          have HN := hide (msg_set_num m1 7 (by omega) XX ⟨#[]⟩ wr b hO)
          have HQ := hide (below_set HB2.out (a := ⟨b, 8, none⟩) hb0 (.int .i64 XX))
          clear hO IXS HB2 SN ST HE L4
          go_wp2_with fail
          refine Calls.mono (L8.out _) ?_
          rintro e wx ⟨rfl, rfl⟩
          go_wp2_with fail
          refine Calls.mono (L2.out _) ?_
          rintro e wx ⟨rfl, rfl⟩
          go_wp2_with fail
          go_roundw
          case rel => exact ⟨q + 1, an + 2, _, by omega, by go_num, by go_num, by rw [HQ4.out]; omega, HP.out, HN.out, HQ.out⟩
          case measure => simp [intOf]; omega
        · have hxs : ∀ w', (Instr.index 9 (.string S) (.int .i64 (q : Int))).run Tryd.prog w' = .ok (.int .u8 75) w' := fun w' => IXS.out w'
          have c2 : wr.cell? ⟨b, 9, none⟩ = some (.string m1.key) := msg_at0 m1 wr _ hO 9
          have c3 : wr.frozen? ⟨b, 9, none⟩ = false := msg_frozen m1 wr _ hO 9
          obtain ⟨N, hN, hNl⟩ := longD_in s an 2 (by omega)
          have HP := hide (ST.out 8 HE.out rfl N hN 0)
          change Hid (SoFar s k (q + 1) (an + (2 + N)) (m1.put 8 0 (pieceS s (an + 2) N))) at HP
          rw [hN] at L2
          have PC : Hid (∀ w', Calls Tryd.prog 80 #[.string s, .int .i64 ((an : Int) + 2), .int .i64 (N : Int)] w' fun e w'' => e = .returned (.string (pieceS s (an + 2) N)) ∧ w' = w'') := fun w' => by
            have e := piece_any s (an + 2) N (by omega) hs w'
            rw [show ((an + 2 : Nat) : Int) = (an : Int) + 2 by omega] at e
            exact e
          generalize pieceS s (an + 2) N = XX at PC HP
          have HN := hide (msg_set_txt m1 8 (by omega) 0 XX wr b hO)
          have HQ := hide (below_set HB2.out (a := ⟨b, 9, none⟩) hb0 (.string XX))
          clear hO IXS HB2 SN ST HE hN
          go_wp2_with fail
          refine Calls.mono (L8.out _) ?_
          rintro e wx ⟨rfl, rfl⟩
          go_wp2_with fail
          refine Calls.mono (L2.out _) ?_
          rintro e wx ⟨rfl, rfl⟩
          go_wp2_with fail
          refine Calls.mono (PC.out _) ?_
          rintro e wx ⟨rfl, rfl⟩
          go_wp2_with fail
          go_roundw
          case rel => exact ⟨q + 1, an + (2 + N), _, by omega, by go_num, by go_num, by rw [HQ4.out]; omega, HP.out, HN.out, HQ.out⟩
          case measure => simp [intOf]; omega
        · have hxs : ∀ w', (Instr.index 9 (.string S) (.int .i64 (q : Int))).run Tryd.prog w' = .ok (.int .u8 87) w' := fun w' => IXS.out w'
          have c2 : wr.cell? ⟨b, 10, none⟩ = some (.string m1.val) := msg_at0 m1 wr _ hO 10
          have c3 : wr.frozen? ⟨b, 10, none⟩ = false := msg_frozen m1 wr _ hO 10
          obtain ⟨N, hN, hNl⟩ := longD_in s an 4 (by omega)
          have HP := hide (ST.out 9 HE.out rfl N hN 0)
          change Hid (SoFar s k (q + 1) (an + (4 + N)) (m1.put 9 0 (pieceS s (an + 4) N))) at HP
          rw [hN] at L4
          have PC : Hid (∀ w', Calls Tryd.prog 80 #[.string s, .int .i64 ((an : Int) + 4), .int .i64 (N : Int)] w' fun e w'' => e = .returned (.string (pieceS s (an + 4) N)) ∧ w' = w'') := fun w' => by
            have e := piece_any s (an + 4) N (by omega) hs w'
            rw [show ((an + 4 : Nat) : Int) = (an : Int) + 4 by omega] at e
            exact e
          generalize pieceS s (an + 4) N = XX at PC HP
          have HN := hide (msg_set_txt m1 9 (by omega) 0 XX wr b hO)
          have HQ := hide (below_set HB2.out (a := ⟨b, 10, none⟩) hb0 (.string XX))
          clear hO IXS HB2 SN ST HE hN
          go_wp2_with fail
          refine Calls.mono (L8.out _) ?_
          rintro e wx ⟨rfl, rfl⟩
          go_wp2_with fail
          refine Calls.mono (L4.out _) ?_
          rintro e wx ⟨rfl, rfl⟩
          go_wp2_with fail
          refine Calls.mono (PC.out _) ?_
          rintro e wx ⟨rfl, rfl⟩
          go_wp2_with fail
          go_roundw
          case rel => exact ⟨q + 1, an + (4 + N), _, by omega, by go_num, by go_num, by rw [HQ4.out]; omega, HP.out, HN.out, HQ.out⟩
          case measure => simp [intOf]; omega
end Go.Proofs.YtgdjfocnaapooaaDoor
