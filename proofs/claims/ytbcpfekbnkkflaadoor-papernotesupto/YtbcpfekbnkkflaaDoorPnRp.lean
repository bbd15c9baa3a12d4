import Derived.Test.YtbcpfekbnkkflaaDoorGPnPrint
import Derived.Test.YtbcpfekbnkkflaaDoorGPaRf
namespace Go.Proofs.YtbcpfekbnkkflaaDoor
open Go.RowKit Go.Shelf
theorem ret_si {a b : ByteArray} {c d : Int} (h1 : a = b) (h2 : c = d) : Ending.returned (.tuple #[.string a, .int .i64 c]) = .returned (.tuple #[.string b, .int .i64 d]) := by rw [h1, h2]
theorem note_eq (c p e : Int) (n : Nat) : itS c ++ bl ++ itS p ++ bl ++ itS e ++ bl ++ strOf (hexL (be4 n)) ++ bl = strOf (noteL c p e (n : Int)) := by
  apply ba_eq
  simp only [ba_app, strOf_data, itS, noteL, List.append_assoc, List.nil_append, Int.toNat_natCast]
  rfl
theorem nseal_eq (s : ByteArray) (c : Nat) : s ++ strOf (hexL (be4 c)) ++ nl = s ++ strOf (sealL ⟨#[]⟩ c) := by
  apply ba_eq
  simp only [ba_app, strOf_data, sealL, List.append_assoc]
  rfl
set_option maxHeartbeats 4000000 in
set_option maxRecDepth 100000 in
set_option linter.unusedSimpArgs false in
/-- the document's PrintNote -/
theorem rprintNote_any (c p e s : Int) (hc : I64 c) (hp : I64 p) (he : I64 e) (w : World) (hP : Pow w) :
    Calls Tryd.prog 7 #[.agg #[.int .i64 c, .int .i64 p, .int .i64 e, .int .i64 s]] w fun x w' => x = .returned (.tuple #[.string (noteS c p e s), .int .i64 (noteE c p e s)]) ∧ Below w.heap.size w w' := by
  obtain ⟨W0, hW0⟩ : ∃ W0, W0 = w.alloc (.cells #[.int .i64 c, .int .i64 p, .int .i64 e, .int .i64 s] 23) := ⟨_, rfl⟩
  have b0 : Below w.heap.size w W0 := by rw [hW0]; exact (Below.refl _ w).alloc (Nat.le_refl _) _
  have s0 : w.heap.size < W0.heap.size := by rw [hW0]; simp
  have hb : Hid (Below w.heap.size w (w.alloc (.cells #[.int .i64 c, .int .i64 p, .int .i64 e, .int .i64 s] 23))) := by rw [← hW0]; exact b0
  cases hok : noteOk c p e s with
  | false =>
    have e1 : noteE c p e s = 42 := by unfold noteE; rw [hok]; rfl
    have e2 : noteS c p e s = ⟨#[]⟩ := by unfold noteS; rw [hok]; rfl
    rw [e1, e2]
    unfold noteOk at hok
    clear e1 e2 b0 s0 hW0 W0 hP hc hp he
    have HOK := hide hok
    clear hok
    cases h1 : inR c 1 4 with
    | false =>
      go_enter Tryd.func7, Tryd.ntmps7
      go_wp2_with (go_at_call 22; refine Calls.mono (rin_any _ _ _ _) ?_; rintro e w' ⟨rfl, rfl⟩)
      go_ret2
      exact ⟨rfl, hb.out⟩
    | true =>
      cases h2 : inR p 0 9007199254740992 with
      | false =>
        go_enter Tryd.func7, Tryd.ntmps7
        go_wp2_with (go_at_call 22; refine Calls.mono (rin_any _ _ _ _) ?_; rintro e w' ⟨rfl, rfl⟩)
        go_ret2
        exact ⟨rfl, hb.out⟩
      | true =>
        cases h3 : inR e 0 9007199254740992 with
        | false =>
          go_enter Tryd.func7, Tryd.ntmps7
          go_wp2_with (go_at_call 22; refine Calls.mono (rin_any _ _ _ _) ?_; rintro e w' ⟨rfl, rfl⟩)
          go_ret2
          exact ⟨rfl, hb.out⟩
        | true =>
          have h4 : inR s 0 4294967295 = false := by have := HOK.out; rw [h1, h2, h3] at this; simpa using this
          go_enter Tryd.func7, Tryd.ntmps7
          go_wp2_with (go_at_call 22; refine Calls.mono (rin_any _ _ _ _) ?_; rintro e w' ⟨rfl, rfl⟩)
          go_ret2
          exact ⟨rfl, hb.out⟩
  | true =>
    obtain ⟨n, hn, rfl⟩ := noteOk_sum hok
    have e1 : noteE c p e n = 0 := by unfold noteE; rw [hok]; rfl
    have e2 : noteS c p e n = strOf (noteL c p e n) ++ strOf (sealL ⟨#[]⟩ (crcN 0 (noteL c p e n))) := by unfold noteS; rw [hok]; rfl
    rw [e1, e2, ← nseal_eq]
    unfold noteOk at hok
    simp only [Bool.and_eq_true] at hok
    obtain ⟨⟨⟨h1, h2⟩, h3⟩, h4⟩ := hok
    have Q0 : Hid (∀ w', Below W0.heap.size W0 w' → w'.cell? ⟨w.heap.size, 0, none⟩ = some (.int .i64 c) ∧ w'.cell? ⟨w.heap.size, 1, none⟩ = some (.int .i64 p) ∧ w'.cell? ⟨w.heap.size, 2, none⟩ = some (.int .i64 e) ∧ w'.cell? ⟨w.heap.size, 3, none⟩ = some (.int .i64 n)) := fun w' hb => by
      rw [hb.cell (by exact s0), hb.cell (by exact s0), hb.cell (by exact s0), hb.cell (by exact s0), hW0]
      exact ⟨by simp, by simp, by simp, by simp⟩
    have IT : Hid (∀ (n : Int) (hn : I64 n) w', Below W0.heap.size W0 w' → Calls Tryd.prog 23 #[.int .i64 n] w' fun x w'' => x = .returned (.string (itS n)) ∧ Below w'.heap.size w' w'') := fun n hn w' hb => (Tryd.strconv_Itoa n hn.1 hn.2 w' ((hP.below b0).below hb)).mono fun x w'' ⟨h1, k, os, h2⟩ => ⟨h1, by rw [h2]; exact below_grow w' k os⟩
    have z1 : (itS c).size ≤ 20 := by unfold itS; rw [strOf_size]; exact itoa_len c hc.1 hc.2
    have z2 : (itS p).size ≤ 20 := by unfold itS; rw [strOf_size]; exact itoa_len p hp.1 hp.2
    have z3 : (itS e).size ≤ 20 := by unfold itS; rw [strOf_size]; exact itoa_len e he.1 he.2
    have z4 : (strOf (hexL (be4 n))).size = 8 := by rw [strOf_size, hexL_len]; rfl
    have I1 := hide (IT.out c hc)
    have I2 := hide (IT.out p hp)
    have I3 := hide (IT.out e he)
    have I4 := hide (fun w' => eight_any n hn w')
    have y1 : bl.size = 1 := rfl
    have y5 : nl.size = 1 := rfl
    have HE := note_eq c p e n
    have hZs : (strOf (noteL c p e n)).size ≤ 200 := by rw [← HE]; simp only [ByteArray.size_append]; omega
    have hcl : crcN 0 (noteL c p e n) < 4294967296 := crcN_lt _ (by omega)
    have CR := hide (fun w' => rcrc_any (strOf (noteL c p e n)) w' (by omega))
    rw [strOf_data] at CR
    have CE := hide (fun w' => eight_any (crcN 0 (noteL c p e n)) hcl w')
    have z5 : (strOf (hexL (be4 (crcN 0 (noteL c p e n))))).size = 8 := by rw [strOf_size, hexL_len]; rfl
    generalize crcN 0 (noteL c p e n) = K at *
    generalize strOf (noteL c p e n) = Z at *
    generalize strOf (hexL (be4 K)) = XK at *
    generalize itS c = X1 at *
    generalize itS p = X2 at *
    generalize itS e = X3 at *
    generalize strOf (hexL (be4 n)) = X4 at *
    have HEZ := hide HE
    clear HE
    have B0 := hide b0
    clear b0 s0 hP IT hc hp he e1 e2 hb hcl
    go_enter Tryd.func7, Tryd.ntmps7
    go_wp2_with (go_at_call 22; refine Calls.mono (rin_any _ _ _ _) ?_; rintro e w' ⟨rfl, rfl⟩)
    rw [← hW0]
    clear hW0
    have BW := hide (Below.refl W0.heap.size W0).drew
    refine wp_region_held_drew (S := fun w' => w'.cell? ⟨w.heap.size, 0, none⟩ = some (.int .i64 c) ∧ w'.cell? ⟨w.heap.size, 1, none⟩ = some (.int .i64 p) ∧ w'.cell? ⟨w.heap.size, 2, none⟩ = some (.int .i64 e) ∧ w'.cell? ⟨w.heap.size, 3, none⟩ = some (.int .i64 n)) (by kernel_rfl) (Q0.out _ BW.out) (fun hHeld => ?_)
    refine wpAnyH_take (i := 0) (v := (.pointer (some ⟨w.heap.size, 0, none⟩))) rfl (by kernel_rfl) (by kernel_rfl) (by kernel_rfl) (fun _ _ _ h => h) (Or.inl ⟨by rfl, ?_⟩) (by assumption) ?_
    · intro w' hSw
      (try dsimp only at hSw)
      go_simp <;> first | exact i64_in (by omega) (by omega) | exact u32_in (by omega) (by omega) | exact u32_add _ _ | (rw [Int.tmod_eq_emod_of_nonneg (by omega)]; omega) | (rw [Int.tdiv_eq_ediv_of_nonneg (by omega)]; omega) | omega
    (try simp only [Act.put, List.setIfInBounds_toArray, List.set_cons_zero, List.set_cons_succ])
    refine wpAnyH_take (i := 1) (v := (.int .i64 c)) rfl (by kernel_rfl) (by kernel_rfl) (by kernel_rfl) (fun _ _ _ h => h) (Or.inl ⟨by rfl, ?_⟩) (by assumption) ?_
    · intro w' hSw
      (try dsimp only at hSw)
      (obtain ⟨hS1, hS2, hS3, hS4⟩ := hSw; go_simp)
    (try simp only [Act.put, List.setIfInBounds_toArray, List.set_cons_zero, List.set_cons_succ])
    refine wpAnyH_take (i := 4) (v := (.pointer (some ⟨w.heap.size, 1, none⟩))) rfl (by kernel_rfl) (by kernel_rfl) (by kernel_rfl) (fun _ _ _ h => h) (Or.inl ⟨by rfl, ?_⟩) (by assumption) ?_
    · intro w' hSw
      (try dsimp only at hSw)
      go_simp <;> first | exact i64_in (by omega) (by omega) | exact u32_in (by omega) (by omega) | exact u32_add _ _ | (rw [Int.tmod_eq_emod_of_nonneg (by omega)]; omega) | (rw [Int.tdiv_eq_ediv_of_nonneg (by omega)]; omega) | omega
    (try simp only [Act.put, List.setIfInBounds_toArray, List.set_cons_zero, List.set_cons_succ])
    refine wpAnyH_take (i := 5) (v := (.int .i64 p)) rfl (by kernel_rfl) (by kernel_rfl) (by kernel_rfl) (fun _ _ _ h => h) (Or.inl ⟨by rfl, ?_⟩) (by assumption) ?_
    · intro w' hSw
      (try dsimp only at hSw)
      (obtain ⟨hS1, hS2, hS3, hS4⟩ := hSw; go_simp)
    (try simp only [Act.put, List.setIfInBounds_toArray, List.set_cons_zero, List.set_cons_succ])
    refine wpAnyH_take (i := 9) (v := (.pointer (some ⟨w.heap.size, 2, none⟩))) rfl (by kernel_rfl) (by kernel_rfl) (by kernel_rfl) (fun _ _ _ h => h) (Or.inl ⟨by rfl, ?_⟩) (by assumption) ?_
    · intro w' hSw
      (try dsimp only at hSw)
      go_simp <;> first | exact i64_in (by omega) (by omega) | exact u32_in (by omega) (by omega) | exact u32_add _ _ | (rw [Int.tmod_eq_emod_of_nonneg (by omega)]; omega) | (rw [Int.tdiv_eq_ediv_of_nonneg (by omega)]; omega) | omega
    (try simp only [Act.put, List.setIfInBounds_toArray, List.set_cons_zero, List.set_cons_succ])
    refine wpAnyH_take (i := 10) (v := (.int .i64 e)) rfl (by kernel_rfl) (by kernel_rfl) (by kernel_rfl) (fun _ _ _ h => h) (Or.inl ⟨by rfl, ?_⟩) (by assumption) ?_
    · intro w' hSw
      (try dsimp only at hSw)
      (obtain ⟨hS1, hS2, hS3, hS4⟩ := hSw; go_simp)
    (try simp only [Act.put, List.setIfInBounds_toArray, List.set_cons_zero, List.set_cons_succ])
    refine wpAnyH_take (i := 14) (v := (.pointer (some ⟨w.heap.size, 3, none⟩))) rfl (by kernel_rfl) (by kernel_rfl) (by kernel_rfl) (fun _ _ _ h => h) (Or.inl ⟨by rfl, ?_⟩) (by assumption) ?_
    · intro w' hSw
      (try dsimp only at hSw)
      go_simp <;> first | exact i64_in (by omega) (by omega) | exact u32_in (by omega) (by omega) | exact u32_add _ _ | (rw [Int.tmod_eq_emod_of_nonneg (by omega)]; omega) | (rw [Int.tdiv_eq_ediv_of_nonneg (by omega)]; omega) | omega
    (try simp only [Act.put, List.setIfInBounds_toArray, List.set_cons_zero, List.set_cons_succ])
    refine wpAnyH_take (i := 15) (v := (.int .i64 n)) rfl (by kernel_rfl) (by kernel_rfl) (by kernel_rfl) (fun _ _ _ h => h) (Or.inl ⟨by rfl, ?_⟩) (by assumption) ?_
    · intro w' hSw
      (try dsimp only at hSw)
      (obtain ⟨hS1, hS2, hS3, hS4⟩ := hSw; go_simp)
    (try simp only [Act.put, List.setIfInBounds_toArray, List.set_cons_zero, List.set_cons_succ])
    refine wpAnyH_ready (rs := [2]) (by kernel_rfl) (by simp) ?_
    refine AllReadyH.cons rfl (fun K hK => ?_) AllReadyH.nil
    go_simp
    refine Calls.mono (I1.out _ BW.out) ?_
    rintro x w2 ⟨rfl, b2⟩
    have B2 := hide (BW.out.trans (b2.mono BW.out.size))
    clear b2
    refine hK.out _ _ (Q0.out _ B2.out) (fun hHeld => ?_)
    clear hK
    (try simp only [Act.put, List.setIfInBounds_toArray, List.set_cons_zero, List.set_cons_succ])
    refine wpAnyH_take (i := 3) (v := (.string (X1 ++ bl))) rfl (by kernel_rfl) (by kernel_rfl) (by kernel_rfl) (fun _ _ _ h => h) (Or.inl ⟨by rfl, ?_⟩) (by assumption) ?_
    · intro w' hSw
      (try dsimp only at hSw)
      (go_simp; first | omega | (rw [if_neg (by (try simp only [ByteArray.size_append]); omega)]; rfl))
    (try simp only [Act.put, List.setIfInBounds_toArray, List.set_cons_zero, List.set_cons_succ])
    refine wpAnyH_ready (rs := [6]) (by kernel_rfl) (by simp) ?_
    refine AllReadyH.cons rfl (fun K hK => ?_) AllReadyH.nil
    go_simp
    refine Calls.mono (I2.out _ B2.out) ?_
    rintro x w3 ⟨rfl, b3⟩
    have B3 := hide (B2.out.trans (b3.mono B2.out.size))
    clear b3
    refine hK.out _ _ (Q0.out _ B3.out) (fun hHeld => ?_)
    clear hK
    (try simp only [Act.put, List.setIfInBounds_toArray, List.set_cons_zero, List.set_cons_succ])
    refine wpAnyH_take (i := 7) (v := (.string (X1 ++ bl ++ X2))) rfl (by kernel_rfl) (by kernel_rfl) (by kernel_rfl) (fun _ _ _ h => h) (Or.inl ⟨by rfl, ?_⟩) (by assumption) ?_
    · intro w' hSw
      (try dsimp only at hSw)
      (go_simp; first | omega | (rw [if_neg (by (try simp only [ByteArray.size_append]); omega)]; rfl))
    (try simp only [Act.put, List.setIfInBounds_toArray, List.set_cons_zero, List.set_cons_succ])
    refine wpAnyH_take (i := 8) (v := (.string (X1 ++ bl ++ X2 ++ bl))) rfl (by kernel_rfl) (by kernel_rfl) (by kernel_rfl) (fun _ _ _ h => h) (Or.inl ⟨by rfl, ?_⟩) (by assumption) ?_
    · intro w' hSw
      (try dsimp only at hSw)
      (go_simp; first | omega | (rw [if_neg (by (try simp only [ByteArray.size_append]); omega)]; rfl))
    (try simp only [Act.put, List.setIfInBounds_toArray, List.set_cons_zero, List.set_cons_succ])
    refine wpAnyH_ready (rs := [11]) (by kernel_rfl) (by simp) ?_
    refine AllReadyH.cons rfl (fun K hK => ?_) AllReadyH.nil
    go_simp
    refine Calls.mono (I3.out _ B3.out) ?_
    rintro x w4 ⟨rfl, b4⟩
    have B4 := hide (B3.out.trans (b4.mono B3.out.size))
    clear b4
    refine hK.out _ _ (Q0.out _ B4.out) (fun hHeld => ?_)
    clear hK
    (try simp only [Act.put, List.setIfInBounds_toArray, List.set_cons_zero, List.set_cons_succ])
    refine wpAnyH_take (i := 12) (v := (.string (X1 ++ bl ++ X2 ++ bl ++ X3))) rfl (by kernel_rfl) (by kernel_rfl) (by kernel_rfl) (fun _ _ _ h => h) (Or.inl ⟨by rfl, ?_⟩) (by assumption) ?_
    · intro w' hSw
      (try dsimp only at hSw)
      (go_simp; first | omega | (rw [if_neg (by (try simp only [ByteArray.size_append]); omega)]; rfl))
    (try simp only [Act.put, List.setIfInBounds_toArray, List.set_cons_zero, List.set_cons_succ])
    refine wpAnyH_take (i := 13) (v := (.string (X1 ++ bl ++ X2 ++ bl ++ X3 ++ bl))) rfl (by kernel_rfl) (by kernel_rfl) (by kernel_rfl) (fun _ _ _ h => h) (Or.inl ⟨by rfl, ?_⟩) (by assumption) ?_
    · intro w' hSw
      (try dsimp only at hSw)
      (go_simp; first | omega | (rw [if_neg (by (try simp only [ByteArray.size_append]); omega)]; rfl))
    (try simp only [Act.put, List.setIfInBounds_toArray, List.set_cons_zero, List.set_cons_succ])
    refine wpAnyH_ready (rs := [16]) (by kernel_rfl) (by simp) ?_
    refine AllReadyH.cons rfl (fun K hK => ?_) AllReadyH.nil
    go_simp
    refine Calls.mono (I4.out _) ?_
    rintro x w5 ⟨rfl, b5⟩
    have B5 := hide (B4.out.trans (b5.mono B4.out.size))
    clear b5
    refine hK.out _ _ (Q0.out _ B5.out) (fun hHeld => ?_)
    clear hK
    (try simp only [Act.put, List.setIfInBounds_toArray, List.set_cons_zero, List.set_cons_succ])
    refine wpAnyH_take (i := 17) (v := (.string (X1 ++ bl ++ X2 ++ bl ++ X3 ++ bl ++ X4))) rfl (by kernel_rfl) (by kernel_rfl) (by kernel_rfl) (fun _ _ _ h => h) (Or.inl ⟨by rfl, ?_⟩) (by assumption) ?_
    · intro w' hSw
      (try dsimp only at hSw)
      (go_simp; first | omega | (rw [if_neg (by (try simp only [ByteArray.size_append]); omega)]; rfl))
    (try simp only [Act.put, List.setIfInBounds_toArray, List.set_cons_zero, List.set_cons_succ])
    refine wpAnyH_take (i := 18) (v := (.string (X1 ++ bl ++ X2 ++ bl ++ X3 ++ bl ++ X4 ++ bl))) rfl (by kernel_rfl) (by kernel_rfl) (by kernel_rfl) (fun _ _ _ h => h) (Or.inl ⟨by rfl, ?_⟩) (by assumption) ?_
    · intro w' hSw
      (try dsimp only at hSw)
      (go_simp; first | omega | (rw [if_neg (by (try simp only [ByteArray.size_append]); omega)]; rfl))
    (try simp only [Act.put, List.setIfInBounds_toArray, List.set_cons_zero, List.set_cons_succ])
    refine wpAnyH_ready (rs := [19]) (by kernel_rfl) (by simp) ?_
    refine AllReadyH.cons rfl (fun K hK => ?_) AllReadyH.nil
    go_simp
    refine hK.out _ _ (Q0.out _ B5.out) (fun hHeld => ?_)
    clear hK
    (try simp only [Act.put, List.setIfInBounds_toArray, List.set_cons_zero, List.set_cons_succ])
    refine wpAnyH_done (by kernel_rfl) ?_ _
    clear hHeld
    rw [HEZ.out]
    go_wp2_with fail
    refine Calls.mono (CR.out _) ?_
    rintro x w6 ⟨rfl, rfl⟩
    go_wp2_with fail
    refine Calls.mono (CE.out _) ?_
    rintro x w7 ⟨rfl, b7⟩
    have B7 := hide (B0.out.trans ((B5.out.trans (b7.mono B5.out.size)).mono B0.out.size))
    clear b7
    have hE2 : Z.size + XK.size ≤ 9223372036854775807 := by omega
    go_wp2_with fail
    go_ret2
    exact ⟨rfl, B7.out⟩
end Go.Proofs.YtbcpfekbnkkflaaDoor
