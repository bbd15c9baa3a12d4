import Derived.Test.YtaieeabolcldgaaDoorPaRf
namespace Go.Proofs.YtaieeabolcldgaaDoor
open Go.RowKit Go.Shelf
theorem strOf_append (a b : List UInt8) : strOf (a ++ b) = strOf a ++ strOf b := by
  rw [← strOf_toList (strOf a ++ strOf b)]
  congr 1
theorem ba_eq {a b : ByteArray} (h : a.data.toList = b.data.toList) : a = b := by rw [← strOf_toList a, h, strOf_toList]
theorem ba_app (a b : ByteArray) : (a ++ b).data.toList = a.data.toList ++ b.data.toList := by simp
theorem seal_eq (s : ByteArray) (c : Nat) : s ++ ⟨#[115, 117, 109, 32]⟩ ++ strOf (hexL (be4 c)) ++ ⟨#[10]⟩ = s ++ strOf (sealL sumWd c) := by
  apply ba_eq
  simp only [ba_app, strOf_data, sealL, List.append_assoc]
  rfl
theorem ret_s {a b : ByteArray} (h : a = b) : Ending.returned (.string a) = .returned (.string b) := by rw [h]
set_option maxHeartbeats 1000000 in
set_option maxRecDepth 100000 in
theorem closed_any (s : ByteArray) (w : World) (hs : s.size ≤ 70368744177664) :
    Calls Tryd.prog 33 #[.string s] w fun e w' => e = .returned (.string (s ++ strOf (sealL sumWd (crcN 0 s.data.toList)))) ∧ Below w.heap.size w w' := by
  have C1 := hide (rcrc_any s w (by omega))
  have hlt : crcN 0 s.data.toList < 4294967296 := crcN_lt _ (by omega)
  have C2 := hide (fun w' => eight_any (crcN 0 s.data.toList) hlt w')
  have HE := hide (seal_eq s (crcN 0 s.data.toList))
  have hE : (strOf (hexL (be4 (crcN 0 s.data.toList)))).size = 8 := by rw [strOf_size, hexL_len]; rfl
  generalize strOf (sealL sumWd (crcN 0 s.data.toList)) = SL at *
  generalize strOf (hexL (be4 (crcN 0 s.data.toList))) = E at *
  generalize crcN 0 s.data.toList = c at *
  go_enter Tryd.func33, Tryd.ntmps33
  go_wp2_with fail
  refine Calls.mono C1.out ?_
  rintro e w1 ⟨rfl, rfl⟩
  go_wp2_with fail
  refine Calls.mono (C2.out _) ?_
  rintro e w2 ⟨rfl, b2⟩
  have hE2 : (s ++ ⟨#[115, 117, 109, 32]⟩).size + E.size ≤ 9223372036854775807 := by rw [ByteArray.size_append, hE]; show s.size + 4 + 8 ≤ _; omega
  go_wp2_with fail
  go_ret
  exact ⟨ret_s HE.out, b2⟩
def pS1 : ByteArray := ⟨#[103, 114, 97, 110, 97, 114, 121, 32, 108, 97, 116, 101, 115, 116, 32, 49, 10, 99, 117, 114, 32]⟩
def pS2 : ByteArray := ⟨#[10, 112, 114, 101, 118, 32]⟩
def pS3 : ByteArray := ⟨#[10, 101, 112, 111, 99, 104, 32]⟩
def pS4 : ByteArray := ⟨#[10, 115, 101, 113, 32]⟩
theorem ptr_eq (c p e s : Int) : pS1 ++ itS c ++ pS2 ++ itS p ++ pS3 ++ itS e ++ pS4 ++ itS s ++ nl = ptrTitle ++ strOf (ptrL c p e s) := by
  apply ba_eq
  simp only [ba_app, strOf_data, itS, ptrL, List.append_assoc]
  rfl
set_option maxHeartbeats 4000000 in
set_option maxRecDepth 100000 in
set_option linter.unusedSimpArgs false in
/-- the document's PrintPointer -/
theorem rprintPointer_any (c p e s : Int) (hc : I64 c) (hp : I64 p) (he : I64 e) (hs : I64 s) (w : World) (hP : Pow w) :
    Calls Tryd.prog 16 #[.agg #[.int .i64 c, .int .i64 p, .int .i64 e, .int .i64 s]] w fun x w' => x = .returned (.tuple #[.string (ptrS c p e s), .int .i64 (ptrE c p e s)]) ∧ Below w.heap.size w w' := by
  obtain ⟨W0, hW0⟩ : ∃ W0, W0 = w.alloc (.cells #[.int .i64 c, .int .i64 p, .int .i64 e, .int .i64 s] 42) := ⟨_, rfl⟩
  have b0 : Below w.heap.size w W0 := by rw [hW0]; exact (Below.refl _ w).alloc (Nat.le_refl _) _
  have s0 : w.heap.size < W0.heap.size := by rw [hW0]; simp
  have C := hide (rpointerFields_any c p e s W0)
  cases hok : ptrOk c p e s with
  | false =>
    have e1 : ptrE c p e s = 42 := by unfold ptrE; rw [hok]; rfl
    have e2 : ptrS c p e s = ⟨#[]⟩ := by unfold ptrS; rw [hok]; rfl
    rw [e1] at C
    rw [e1, e2]
    have B0 := hide b0
    clear b0 s0 hP
    go_enter Tryd.func16, Tryd.ntmps16
    go_wp2_with fail
    rw [← hW0]
    clear hW0
    refine Calls.mono C.out ?_
    rintro x w1 ⟨rfl, b1⟩
    have B1 := hide (B0.out.trans (b1.mono B0.out.size))
    clear b1 C
    go_wp2_with fail
    go_ret2
    exact ⟨rfl, B1.out⟩
  | true =>
    have e1 : ptrE c p e s = 0 := by unfold ptrE; rw [hok]; rfl
    have e2 : ptrS c p e s = (ptrTitle ++ strOf (ptrL c p e s)) ++ strOf (sealL sumWd (crcN 0 (ptrTitle ++ strOf (ptrL c p e s)).data.toList)) := by unfold ptrS; rw [hok]; rfl
    rw [e1] at C
    rw [e1, e2, ← ptr_eq]
    have Q0 : Hid (∀ w', Below W0.heap.size W0 w' → w'.cell? ⟨w.heap.size, 0, none⟩ = some (.int .i64 c) ∧ w'.cell? ⟨w.heap.size, 1, none⟩ = some (.int .i64 p) ∧ w'.cell? ⟨w.heap.size, 2, none⟩ = some (.int .i64 e) ∧ w'.cell? ⟨w.heap.size, 3, none⟩ = some (.int .i64 s)) := fun w' hb => by
      rw [hb.cell (by exact s0), hb.cell (by exact s0), hb.cell (by exact s0), hb.cell (by exact s0), hW0]
      exact ⟨by simp, by simp, by simp, by simp⟩
    have IT : Hid (∀ (n : Int) (hn : I64 n) w', Below W0.heap.size W0 w' → Calls Tryd.prog 23 #[.int .i64 n] w' fun x w'' => x = .returned (.string (itS n)) ∧ Below w'.heap.size w' w'') := fun n hn w' hb => (Tryd.strconv_Itoa n hn.1 hn.2 w' ((hP.below b0).below hb)).mono fun x w'' ⟨h1, k, os, h2⟩ => ⟨h1, by rw [h2]; exact below_grow w' k os⟩
    have z1 : (itS c).size ≤ 20 := by unfold itS; rw [strOf_size]; exact itoa_len c hc.1 hc.2
    have z2 : (itS p).size ≤ 20 := by unfold itS; rw [strOf_size]; exact itoa_len p hp.1 hp.2
    have z3 : (itS e).size ≤ 20 := by unfold itS; rw [strOf_size]; exact itoa_len e he.1 he.2
    have z4 : (itS s).size ≤ 20 := by unfold itS; rw [strOf_size]; exact itoa_len s hs.1 hs.2
    have I1 := hide (IT.out c hc)
    have I2 := hide (IT.out p hp)
    have I3 := hide (IT.out e he)
    have I4 := hide (IT.out s hs)
    have y1 : pS1.size = 21 := rfl
    have y2 : pS2.size = 6 := rfl
    have y3 : pS3.size = 7 := rfl
    have y4 : pS4.size = 5 := rfl
    have y5 : nl.size = 1 := rfl
    generalize itS c = X1 at *
    generalize itS p = X2 at *
    generalize itS e = X3 at *
    generalize itS s = X4 at *
    obtain ⟨Y, hY⟩ : ∃ Y, Y = pS1 ++ X1 ++ pS2 ++ X2 := ⟨_, rfl⟩
    have hYs : Y.size ≤ 67 := by rw [hY]; simp only [ByteArray.size_append]; omega
    rw [← hY]
    obtain ⟨Z, hZ⟩ : ∃ Z, Z = Y ++ pS3 ++ X3 ++ pS4 ++ X4 ++ nl := ⟨_, rfl⟩
    have hZs : Z.size ≤ 200 := by rw [hZ]; simp only [ByteArray.size_append]; omega
    rw [← hZ]
    have HY := hide hY
    have HZ := hide hZ
    clear hY hZ
    have CL := hide (fun w' => closed_any Z w' (by omega))
    have B0 := hide b0
    clear b0 s0 hP IT hc hp he hs hok e1 e2
    go_enter Tryd.func16, Tryd.ntmps16
    go_wp2_with fail
    rw [← hW0]
    clear hW0
    refine Calls.mono C.out ?_
    rintro x w1 ⟨rfl, b1⟩
    have B1 := hide b1
    clear b1 C
    go_wp2_with fail
    refine wp_region_held_drew (S := fun w' => w'.cell? ⟨w.heap.size, 0, none⟩ = some (.int .i64 c) ∧ w'.cell? ⟨w.heap.size, 1, none⟩ = some (.int .i64 p) ∧ w'.cell? ⟨w.heap.size, 2, none⟩ = some (.int .i64 e) ∧ w'.cell? ⟨w.heap.size, 3, none⟩ = some (.int .i64 s)) (by kernel_rfl) (Q0.out _ B1.out.drew) (fun hHeld => ?_)
    refine wpAnyH_take (i := 0) (v := (.pointer (some ⟨w.heap.size, 0, none⟩))) rfl (by kernel_rfl) (by kernel_rfl) (by kernel_rfl) (fun _ _ _ h => h) (Or.inl ⟨by rfl, ?_⟩) (by assumption) ?_
    · intro w' hSw
      (try dsimp only at hSw)
      go_simp <;> first | exact i64_in (by omega) (by omega) | exact u32_in (by omega) (by omega) | exact u32_add _ _ | (rw [Int.tmod_eq_emod_of_nonneg (by omega)]; omega) | (rw [Int.tdiv_eq_ediv_of_nonneg (by omega)]; omega) | omega
    (try simp only [Act.put, List.setIfInBounds_toArray, List.set_cons_zero, List.set_cons_succ])
    refine wpAnyH_take (i := 1) (v := (.int .i64 c)) rfl (by kernel_rfl) (by kernel_rfl) (by kernel_rfl) (fun _ _ _ h => h) (Or.inl ⟨by rfl, ?_⟩) (by assumption) ?_
    · intro w' hSw
      (try dsimp only at hSw)
      (obtain ⟨hS1, hS2, hS3, hS4⟩ := hSw; go_simp)
    (try simp only [Act.put, List.setIfInBounds_toArray, List.set_cons_zero, List.set_cons_succ])
    refine wpAnyH_take (i := 5) (v := (.pointer (some ⟨w.heap.size, 1, none⟩))) rfl (by kernel_rfl) (by kernel_rfl) (by kernel_rfl) (fun _ _ _ h => h) (Or.inl ⟨by rfl, ?_⟩) (by assumption) ?_
    · intro w' hSw
      (try dsimp only at hSw)
      go_simp <;> first | exact i64_in (by omega) (by omega) | exact u32_in (by omega) (by omega) | exact u32_add _ _ | (rw [Int.tmod_eq_emod_of_nonneg (by omega)]; omega) | (rw [Int.tdiv_eq_ediv_of_nonneg (by omega)]; omega) | omega
    (try simp only [Act.put, List.setIfInBounds_toArray, List.set_cons_zero, List.set_cons_succ])
    refine wpAnyH_take (i := 6) (v := (.int .i64 p)) rfl (by kernel_rfl) (by kernel_rfl) (by kernel_rfl) (fun _ _ _ h => h) (Or.inl ⟨by rfl, ?_⟩) (by assumption) ?_
    · intro w' hSw
      (try dsimp only at hSw)
      (obtain ⟨hS1, hS2, hS3, hS4⟩ := hSw; go_simp)
    (try simp only [Act.put, List.setIfInBounds_toArray, List.set_cons_zero, List.set_cons_succ])
    refine wpAnyH_ready (rs := [2]) (by kernel_rfl) (by simp) ?_
    refine AllReadyH.cons rfl (fun K hK => ?_) AllReadyH.nil
    go_simp
    refine Calls.mono (I1.out _ B1.out.drew) ?_
    rintro x w2 ⟨rfl, b2⟩
    have B2 := hide (B1.out.drew.trans (b2.mono B1.out.drew.size))
    clear b2
    refine hK.out _ _ (Q0.out _ B2.out) (fun hHeld => ?_)
    clear hK
    (try simp only [Act.put, List.setIfInBounds_toArray, List.set_cons_zero, List.set_cons_succ])
    refine wpAnyH_take (i := 3) (v := (.string (pS1 ++ X1))) rfl (by kernel_rfl) (by kernel_rfl) (by kernel_rfl) (fun _ _ _ h => h) (Or.inl ⟨by rfl, ?_⟩) (by assumption) ?_
    · intro w' hSw
      (try dsimp only at hSw)
      (go_simp; first | omega | (rw [if_neg (by (try simp only [ByteArray.size_append]); omega)]; rfl))
    (try simp only [Act.put, List.setIfInBounds_toArray, List.set_cons_zero, List.set_cons_succ])
    refine wpAnyH_take (i := 4) (v := (.string (pS1 ++ X1 ++ pS2))) rfl (by kernel_rfl) (by kernel_rfl) (by kernel_rfl) (fun _ _ _ h => h) (Or.inl ⟨by rfl, ?_⟩) (by assumption) ?_
    · intro w' hSw
      (try dsimp only at hSw)
      (go_simp; first | omega | (rw [if_neg (by (try simp only [ByteArray.size_append]); omega)]; rfl))
    (try simp only [Act.put, List.setIfInBounds_toArray, List.set_cons_zero, List.set_cons_succ])
    refine wpAnyH_ready (rs := [7]) (by kernel_rfl) (by simp) ?_
    refine AllReadyH.cons rfl (fun K hK => ?_) AllReadyH.nil
    go_simp
    refine Calls.mono (I2.out _ B2.out) ?_
    rintro x w3 ⟨rfl, b3⟩
    have B3 := hide (B2.out.trans (b3.mono B2.out.size))
    clear b3
    refine hK.out _ _ (Q0.out _ B3.out) (fun hHeld => ?_)
    clear hK
    (try simp only [Act.put, List.setIfInBounds_toArray, List.set_cons_zero, List.set_cons_succ])
    refine wpAnyH_take (i := 8) (v := (.string (pS1 ++ X1 ++ pS2 ++ X2))) rfl (by kernel_rfl) (by kernel_rfl) (by kernel_rfl) (fun _ _ _ h => h) (Or.inl ⟨by rfl, ?_⟩) (by assumption) ?_
    · intro w' hSw
      (try dsimp only at hSw)
      (go_simp; first | omega | (rw [if_neg (by (try simp only [ByteArray.size_append]); omega)]; rfl))
    (try simp only [Act.put, List.setIfInBounds_toArray, List.set_cons_zero, List.set_cons_succ])
    refine wpAnyH_ready (rs := [9]) (by kernel_rfl) (by simp) ?_
    refine AllReadyH.cons rfl (fun K hK => ?_) AllReadyH.nil
    go_simp
    refine hK.out _ _ (Q0.out _ B3.out) (fun hHeld => ?_)
    clear hK
    (try simp only [Act.put, List.setIfInBounds_toArray, List.set_cons_zero, List.set_cons_succ])
    refine wpAnyH_done (by kernel_rfl) ?_ _
    clear hHeld
    go_wp2_with fail
    rw [← HY.out]
    clear I1 I2
    refine wp_region_held_drew (S := fun w' => w'.cell? ⟨w.heap.size, 0, none⟩ = some (.int .i64 c) ∧ w'.cell? ⟨w.heap.size, 1, none⟩ = some (.int .i64 p) ∧ w'.cell? ⟨w.heap.size, 2, none⟩ = some (.int .i64 e) ∧ w'.cell? ⟨w.heap.size, 3, none⟩ = some (.int .i64 s)) (by kernel_rfl) (Q0.out _ B3.out.drew) (fun hHeld => ?_)
    refine wpAnyH_take (i := 0) (v := (.string Y)) rfl (by kernel_rfl) (by kernel_rfl) (by kernel_rfl) (fun _ _ _ h => h) (Or.inl ⟨by rfl, ?_⟩) (by assumption) ?_
    · intro w' hSw
      (try dsimp only at hSw)
      go_simp <;> first | exact i64_in (by omega) (by omega) | exact u32_in (by omega) (by omega) | exact u32_add _ _ | (rw [Int.tmod_eq_emod_of_nonneg (by omega)]; omega) | (rw [Int.tdiv_eq_ediv_of_nonneg (by omega)]; omega) | omega
    (try simp only [Act.put, List.setIfInBounds_toArray, List.set_cons_zero, List.set_cons_succ])
    refine wpAnyH_take (i := 1) (v := (.string (Y ++ pS3))) rfl (by kernel_rfl) (by kernel_rfl) (by kernel_rfl) (fun _ _ _ h => h) (Or.inl ⟨by rfl, ?_⟩) (by assumption) ?_
    · intro w' hSw
      (try dsimp only at hSw)
      (go_simp; first | omega | (rw [if_neg (by (try simp only [ByteArray.size_append]); omega)]; rfl))
    (try simp only [Act.put, List.setIfInBounds_toArray, List.set_cons_zero, List.set_cons_succ])
    refine wpAnyH_take (i := 2) (v := (.pointer (some ⟨w.heap.size, 2, none⟩))) rfl (by kernel_rfl) (by kernel_rfl) (by kernel_rfl) (fun _ _ _ h => h) (Or.inl ⟨by rfl, ?_⟩) (by assumption) ?_
    · intro w' hSw
      (try dsimp only at hSw)
      go_simp <;> first | exact i64_in (by omega) (by omega) | exact u32_in (by omega) (by omega) | exact u32_add _ _ | (rw [Int.tmod_eq_emod_of_nonneg (by omega)]; omega) | (rw [Int.tdiv_eq_ediv_of_nonneg (by omega)]; omega) | omega
    (try simp only [Act.put, List.setIfInBounds_toArray, List.set_cons_zero, List.set_cons_succ])
    refine wpAnyH_take (i := 3) (v := (.int .i64 e)) rfl (by kernel_rfl) (by kernel_rfl) (by kernel_rfl) (fun _ _ _ h => h) (Or.inl ⟨by rfl, ?_⟩) (by assumption) ?_
    · intro w' hSw
      (try dsimp only at hSw)
      (obtain ⟨hS1, hS2, hS3, hS4⟩ := hSw; go_simp)
    (try simp only [Act.put, List.setIfInBounds_toArray, List.set_cons_zero, List.set_cons_succ])
    refine wpAnyH_take (i := 7) (v := (.pointer (some ⟨w.heap.size, 3, none⟩))) rfl (by kernel_rfl) (by kernel_rfl) (by kernel_rfl) (fun _ _ _ h => h) (Or.inl ⟨by rfl, ?_⟩) (by assumption) ?_
    · intro w' hSw
      (try dsimp only at hSw)
      go_simp <;> first | exact i64_in (by omega) (by omega) | exact u32_in (by omega) (by omega) | exact u32_add _ _ | (rw [Int.tmod_eq_emod_of_nonneg (by omega)]; omega) | (rw [Int.tdiv_eq_ediv_of_nonneg (by omega)]; omega) | omega
    (try simp only [Act.put, List.setIfInBounds_toArray, List.set_cons_zero, List.set_cons_succ])
    refine wpAnyH_take (i := 8) (v := (.int .i64 s)) rfl (by kernel_rfl) (by kernel_rfl) (by kernel_rfl) (fun _ _ _ h => h) (Or.inl ⟨by rfl, ?_⟩) (by assumption) ?_
    · intro w' hSw
      (try dsimp only at hSw)
      (obtain ⟨hS1, hS2, hS3, hS4⟩ := hSw; go_simp)
    (try simp only [Act.put, List.setIfInBounds_toArray, List.set_cons_zero, List.set_cons_succ])
    refine wpAnyH_ready (rs := [4]) (by kernel_rfl) (by simp) ?_
    refine AllReadyH.cons rfl (fun K hK => ?_) AllReadyH.nil
    go_simp
    refine Calls.mono (I3.out _ B3.out.drew) ?_
    rintro x w4 ⟨rfl, b4⟩
    have B4 := hide (B3.out.drew.trans (b4.mono B3.out.drew.size))
    clear b4
    refine hK.out _ _ (Q0.out _ B4.out) (fun hHeld => ?_)
    clear hK
    (try simp only [Act.put, List.setIfInBounds_toArray, List.set_cons_zero, List.set_cons_succ])
    refine wpAnyH_take (i := 5) (v := (.string (Y ++ pS3 ++ X3))) rfl (by kernel_rfl) (by kernel_rfl) (by kernel_rfl) (fun _ _ _ h => h) (Or.inl ⟨by rfl, ?_⟩) (by assumption) ?_
    · intro w' hSw
      (try dsimp only at hSw)
      (go_simp; first | omega | (rw [if_neg (by (try simp only [ByteArray.size_append]); omega)]; rfl))
    (try simp only [Act.put, List.setIfInBounds_toArray, List.set_cons_zero, List.set_cons_succ])
    refine wpAnyH_take (i := 6) (v := (.string (Y ++ pS3 ++ X3 ++ pS4))) rfl (by kernel_rfl) (by kernel_rfl) (by kernel_rfl) (fun _ _ _ h => h) (Or.inl ⟨by rfl, ?_⟩) (by assumption) ?_
    · intro w' hSw
      (try dsimp only at hSw)
      (go_simp; first | omega | (rw [if_neg (by (try simp only [ByteArray.size_append]); omega)]; rfl))
    (try simp only [Act.put, List.setIfInBounds_toArray, List.set_cons_zero, List.set_cons_succ])
    refine wpAnyH_ready (rs := [9]) (by kernel_rfl) (by simp) ?_
    refine AllReadyH.cons rfl (fun K hK => ?_) AllReadyH.nil
    go_simp
    refine Calls.mono (I4.out _ B4.out) ?_
    rintro x w5 ⟨rfl, b5⟩
    have B5 := hide (B4.out.trans (b5.mono B4.out.size))
    clear b5
    refine hK.out _ _ (Q0.out _ B5.out) (fun hHeld => ?_)
    clear hK
    (try simp only [Act.put, List.setIfInBounds_toArray, List.set_cons_zero, List.set_cons_succ])
    refine wpAnyH_take (i := 10) (v := (.string (Y ++ pS3 ++ X3 ++ pS4 ++ X4))) rfl (by kernel_rfl) (by kernel_rfl) (by kernel_rfl) (fun _ _ _ h => h) (Or.inl ⟨by rfl, ?_⟩) (by assumption) ?_
    · intro w' hSw
      (try dsimp only at hSw)
      (go_simp; first | omega | (rw [if_neg (by (try simp only [ByteArray.size_append]); omega)]; rfl))
    (try simp only [Act.put, List.setIfInBounds_toArray, List.set_cons_zero, List.set_cons_succ])
    refine wpAnyH_take (i := 11) (v := (.string (Y ++ pS3 ++ X3 ++ pS4 ++ X4 ++ nl))) rfl (by kernel_rfl) (by kernel_rfl) (by kernel_rfl) (fun _ _ _ h => h) (Or.inl ⟨by rfl, ?_⟩) (by assumption) ?_
    · intro w' hSw
      (try dsimp only at hSw)
      (go_simp; first | omega | (rw [if_neg (by (try simp only [ByteArray.size_append]); omega)]; rfl))
    (try simp only [Act.put, List.setIfInBounds_toArray, List.set_cons_zero, List.set_cons_succ])
    refine wpAnyH_ready (rs := [12]) (by kernel_rfl) (by simp) ?_
    refine AllReadyH.cons rfl (fun K hK => ?_) AllReadyH.nil
    go_simp
    refine hK.out _ _ (Q0.out _ B5.out) (fun hHeld => ?_)
    clear hK
    (try simp only [Act.put, List.setIfInBounds_toArray, List.set_cons_zero, List.set_cons_succ])
    refine wpAnyH_done (by kernel_rfl) ?_ _
    clear hHeld
    have CL5 := hide (CL.out w5)
    rw [← HZ.out]
    go_wp2_with fail
    refine Calls.mono CL5.out ?_
    rintro x w6 ⟨rfl, b6⟩
    have B6 := hide (B0.out.trans ((B5.out.trans (b6.mono B5.out.size)).mono B0.out.size))
    clear b6 CL5 CL
    go_wp2_with fail
    go_ret2
    exact ⟨rfl, B6.out⟩
end Go.Proofs.YtaieeabolcldgaaDoor
