import Derived.Test.YtgdopepghmjopaaGreatDoorGPwFields
import Derived.Test.YtgdopepghmjopaaGreatDoorGPqPrint
import Derived.Test.YtgdopepghmjopaaGreatDoorGPyBack
namespace Go.Proofs.YtgdopepghmjopaaGreatDoor
open Go.RowKit Go.Shelf
def nS0 : ByteArray := ⟨#[103, 114, 97, 110, 97, 114, 121, 32, 109, 97, 110, 105, 102, 101, 115, 116, 32, 49, 10, 115, 116, 111, 114, 101, 32]⟩
def nS3 : ByteArray := ⟨#[10, 102, 105, 108, 101, 115, 32]⟩
def nS4 : ByteArray := ⟨#[102, 105, 108, 101, 32]⟩
def nS5 : ByteArray := ⟨#[116, 111, 116, 97, 108, 32]⟩
def nS6 : ByteArray := ⟨#[10, 119, 104, 111, 108, 101, 32]⟩
theorem headL_eq (st : ByteArray) (v1 v2 n : Int) : nS0 ++ st ++ mS1 ++ itS v1 ++ mS2 ++ itS v2 ++ nS3 ++ itS n ++ nl = manTitle ++ strOf (headL (st, v1, v2, n)) := by
  apply ba_eq
  simp only [headL, wrL, headFDs, headO, ba_app, strOf_data, itS, List.append_assoc, List.getElem?_cons_zero, List.getElem?_cons_succ, List.nil_append]
  rfl
theorem rowL_eq (nm : ByteArray) (sz : Int) (cr : Nat) (md : ByteArray) (S : ByteArray) : S ++ nS4 ++ nm ++ bl ++ itS sz ++ bl ++ strOf (hexL (be4 cr)) ++ bl ++ strOf (hexL md.data.toList) ++ nl = S ++ strOf (rowL (nm, sz, (cr : Int), md)) := by
  apply ba_eq
  simp only [rowL, wrL, rowFDs, rowO, ba_app, strOf_data, itS, List.append_assoc, List.getElem?_cons_zero, List.getElem?_cons_succ, List.nil_append, Int.toNat_natCast]
  rfl
theorem tailL_eq (t4 : Int) (t5 : Nat) (S : ByteArray) : S ++ nS5 ++ itS t4 ++ nS6 ++ strOf (hexL (be4 t5)) ++ nl = S ++ strOf (tailL (t4, (t5 : Int))) := by
  apply ba_eq
  simp only [tailL, wrL, tailFDs, tailO, ba_app, strOf_data, itS, List.append_assoc, List.getElem?_cons_zero, List.getElem?_cons_succ, List.nil_append, Int.toNat_natCast]
  rfl
theorem rowL_size {r : RV} (h : rowOk r = true) : (rowL r).length ≤ 8160 := wrL_len (rowFDs 0) (rowO r) 40 (rowFD_small 0) (rowO_len r h) 4 (Nat.le_refl _)
theorem manF_fit {m : MF} (h : mfE m = 0) : headOk m.hv = true ∧ tailOk m.tv = true ∧ rowsOk m.rs = true := by
  unfold mfE at h
  split at h
  · rename_i hf
    unfold mfFit at hf
    simp only [Bool.and_eq_true] at hf
    exact ⟨hf.1.1, hf.1.2, hf.2⟩
  · exact absurd h (by decide)
set_option maxHeartbeats 16000000 in
set_option maxRecDepth 100000 in
set_option linter.unusedSimpArgs false in
/-- the document's PrintManifest -/
theorem rprintMan_any (st : ByteArray) (v1 v2 t4 t5 : Int) (ao : Option Addr) (b o cap : Nat) (rs : List RV) (w : World) (hao : 0 < rs.length → ao = some ⟨b, o, none⟩) (hl : LiesR b o w rs) (hlen : rs.length ≤ 1000000000000) (hT : TabP w) (hP : Pow w) :
    Calls Tryz.prog 7 #[.agg #[.string st, .int .i64 v1, .int .i64 v2, .slice ao rs.length cap, .int .i64 t4, .int .i64 t5]] w fun e w' => e = .returned (.tuple #[.string (mfS ⟨st, v1, v2, rs, t4, t5⟩), .int .i64 (mfE ⟨st, v1, v2, rs, t4, t5⟩)]) ∧ Below w.heap.size w w' := by
  obtain ⟨W0, hW0⟩ : ∃ W0, W0 = w.alloc (.cells #[.string st, .int .i64 v1, .int .i64 v2, .slice ao rs.length cap, .int .i64 t4, .int .i64 t5] 24) := ⟨_, rfl⟩
  have b0 : Below w.heap.size w W0 := by rw [hW0]; exact (Below.refl _ w).alloc (Nat.le_refl _) _
  have s0 : W0.heap.size = w.heap.size + 1 := by rw [hW0]; simp
  have FIN : Hid (∀ w', Below W0.heap.size W0 w' → Below w.heap.size w w') := fun w' h => b0.trans (h.mono b0.size)
  have C := hide (rmanFields_any st v1 v2 t4 t5 ao b o cap rs W0 hao (hl.below b0) hlen (hT.below b0 (World.block_lt_of_cell? w _ (hT 0 (by omega)))))
  have BE0 := hide (Below.refl W0.heap.size W0)
  by_cases hE : mfE ⟨st, v1, v2, rs, t4, t5⟩ = 0
  case neg =>
    have e2 : mfS ⟨st, v1, v2, rs, t4, t5⟩ = ⟨#[]⟩ := by unfold mfS; rw [if_neg hE]
    rw [e2]
    generalize mfE ⟨st, v1, v2, rs, t4, t5⟩ = E at *
    have hE' : (E != 0) = true := bne_iff_ne.2 hE
    clear hP hT hl hao b0 s0
    go_enter Tryz.func7, Tryz.ntmps7
    go_wp2_with fail
    rw [← hW0]
    refine Calls.mono C.out ?_
    rintro x w1 ⟨rfl, b1⟩
    have B1 := hide (FIN.out _ b1)
    clear b1 C
    go_wp2_with fail
    go_ret2
    exact ⟨rfl, B1.out⟩
  obtain ⟨f1, f2, f3⟩ := manF_fit hE
  have hrow := rowsOk_all f3
  have e2 : mfS ⟨st, v1, v2, rs, t4, t5⟩ = paperS manTitle (mfL ⟨st, v1, v2, rs, t4, t5⟩) := by unfold mfS; rw [if_pos hE]
  rw [hE] at C
  rw [hE, e2]
  have hl40 : st.size ≤ 40 ∧ I64 v1 ∧ I64 v2 ∧ rs.length ≤ 1025 := by
    unfold headOk stOk inR MF.hv at f1
    simp only [Bool.and_eq_true, decide_eq_true_eq] at f1
    unfold I64; omega
  have ht45 : I64 t4 ∧ 0 ≤ t5 ∧ t5 ≤ 4294967295 := by
    unfold tailOk inR MF.tv at f2
    simp only [Bool.and_eq_true, decide_eq_true_eq] at f2
    unfold I64; omega
  obtain ⟨h40, i1, i2, h1025⟩ := hl40
  obtain ⟨i4, h5a, h5b⟩ := ht45
  obtain ⟨C5, rfl⟩ := Int.eq_ofNat_of_zero_le h5a
  have GA : Hid (∀ w', Below W0.heap.size W0 w' → w'.cell? ⟨w.heap.size, 0, none⟩ = some (.string st) ∧ w'.cell? ⟨w.heap.size, 1, none⟩ = some (.int .i64 v1) ∧ w'.cell? ⟨w.heap.size, 2, none⟩ = some (.int .i64 v2) ∧ w'.cell? ⟨w.heap.size, 3, none⟩ = some (.slice ao rs.length cap) ∧ w'.cell? ⟨w.heap.size, 4, none⟩ = some (.int .i64 t4) ∧ w'.cell? ⟨w.heap.size, 5, none⟩ = some (.int .i64 (C5 : Int))) := fun w' h => by
    rw [h.cell (by show w.heap.size < _; omega), h.cell (by show w.heap.size < _; omega), h.cell (by show w.heap.size < _; omega), h.cell (by show w.heap.size < _; omega), h.cell (by show w.heap.size < _; omega), h.cell (by show w.heap.size < _; omega), hW0]
    exact ⟨by simp, by simp, by simp, by simp, by simp, by simp⟩
  have GL : Hid (∀ w', Below W0.heap.size W0 w' → w.heap.size < w'.heap.size) := fun w' h => by have := h.size; omega
  have HL := hide (fun w' (h : Below W0.heap.size W0 w') => hl.below (FIN.out _ h))
  have IT : Hid (∀ (n : Int) (hn : I64 n) w', Below W0.heap.size W0 w' → Calls Tryz.prog 19 #[.int .i64 n] w' fun x w'' => x = .returned (.string (itS n)) ∧ Below w'.heap.size w' w'') := fun n hn w' hb => (Tryz.strconv_Itoa n hn.1 hn.2 w' ((hP.below b0).below hb)).mono fun x w'' ⟨h1, k, os, h2⟩ => ⟨h1, by rw [h2]; exact below_grow w' k os⟩
  have EI := hide (fun (n : Nat) (hn : n < 4294967296) w' => eight_any n hn w')
  have HX := hide (fun (m : ByteArray) (hm : m.size ≤ 1099511627776) w' => rhex4_any m w' hm)
  have itz : ∀ n : Int, I64 n → (itS n).size ≤ 20 := fun n hn => by unfold itS; rw [strOf_size]; exact itoa_len n hn.1 hn.2
  have eiz : ∀ n : Nat, (strOf (hexL (be4 n))).size = 8 := fun n => by rw [strOf_size, hexL_len]; rfl
  have HAO := hide hao
  have HROW := hide hrow
  have HEQ := hide (headL_eq st v1 v2 (rs.length : Int))
  have HTL := hide (tailL_eq t4 C5)
  have PS : Hid (∀ S : ByteArray, S = manTitle ++ strOf (mfL ⟨st, v1, v2, rs, t4, (C5 : Int)⟩) → S ++ strOf (sealL sumWd (crcN 0 S.data.toList)) = paperS manTitle (mfL ⟨st, v1, v2, rs, t4, (C5 : Int)⟩)) := fun S hS => by rw [hS]; rfl
  have hln : I64 (rs.length : Int) := by unfold I64; omega
  have I1 := hide (IT.out v1 i1)
  have I2 := hide (IT.out v2 i2)
  have I3 := hide (IT.out (rs.length : Int) hln)
  have I4 := hide (IT.out t4 i4)
  have z1 := itz v1 i1
  have z2 := itz v2 i2
  have z3 := itz _ hln
  have z4 := itz t4 i4
  have z5 := eiz C5
  have E5 := hide (EI.out C5 (by omega))
  generalize itS v1 = X1 at *
  generalize itS v2 = X2 at *
  generalize itS (rs.length : Int) = X3 at *
  generalize itS t4 = X4 at *
  generalize strOf (hexL (be4 C5)) = X5 at *
  have y0 : nS0.size = 25 := rfl
  have y1 : mS1.size = 9 := rfl
  have y2 : mS2.size = 6 := rfl
  have y3 : nS3.size = 7 := rfl
  have y4 : nS4.size = 5 := rfl
  have y5 : nS5.size = 6 := rfl
  have y6 : nS6.size = 7 := rfl
  have yl : nl.size = 1 := rfl
  have yb : bl.size = 1 := rfl
  obtain ⟨Y, hY⟩ : ∃ Y, Y = nS0 ++ st ++ mS1 ++ X1 ++ mS2 ++ X2 := ⟨_, rfl⟩
  have hYs : Y.size ≤ 200 := by rw [hY]; simp only [ByteArray.size_append]; omega
  rw [← hY] at HEQ
  have HY := hide hY
  have CL := hide (fun (S : ByteArray) (hS : S.size ≤ 70368744177664) w' => closed_any S w' hS)
  obtain ⟨HD, hHD⟩ : ∃ HD, HD = headL (st, v1, v2, (rs.length : Int)) := ⟨_, rfl⟩
  have hHDs : HD.length ≤ 8160 := by rw [hHD]; exact wrL_len (headFDs 0 0) (headO (st, v1, v2, (rs.length : Int))) 40 (headFD_small 0 0) (headO_len _ f1) 4 (Nat.le_refl _)
  rw [← hHD] at HEQ
  have MFE : Hid (∀ S : ByteArray, S = manTitle ++ strOf (HD ++ rowsL rs) → S ++ strOf (tailL (t4, (C5 : Int))) = manTitle ++ strOf (mfL ⟨st, v1, v2, rs, t4, (C5 : Int)⟩)) := fun S hS => by
    rw [hS, hHD]
    apply ba_eq
    simp only [ba_app, strOf_data, mfL, MF.hv, MF.tv, List.append_assoc]
  generalize paperS manTitle (mfL ⟨st, v1, v2, rs, t4, (C5 : Int)⟩) = PP at *
  generalize manTitle ++ strOf (mfL ⟨st, v1, v2, rs, t4, (C5 : Int)⟩) = MM at *
  clear hP hT hl hao hY hHD b0 e2 hE f1 f2 f3 itz eiz hrow
  go_enter Tryz.func7, Tryz.ntmps7
  go_wp2_with fail
  rw [← hW0]
  clear hW0
  refine Calls.mono C.out ?_
  rintro x w1 ⟨rfl, b1⟩
  have B1 := hide b1
  have hl1 := GL.out w1 b1
  clear b1 C
  go_wp2_with fail
  refine wp_region_held_drew (S := fun x => x.cell? ⟨w.heap.size, 0, none⟩ = some (.string st) ∧ x.cell? ⟨w.heap.size, 1, none⟩ = some (.int .i64 v1) ∧ x.cell? ⟨w.heap.size, 2, none⟩ = some (.int .i64 v2) ∧ x.cell? ⟨w.heap.size, 3, none⟩ = some (.slice ao rs.length cap) ∧ x.cell? ⟨w.heap.size, 4, none⟩ = some (.int .i64 t4) ∧ x.cell? ⟨w.heap.size, 5, none⟩ = some (.int .i64 (C5 : Int))) (by kernel_rfl) (GA.out _ B1.out.drew) (fun hHeld => ?_)
  refine wpAnyH_take (i := 0) (v := (.pointer (some ⟨w.heap.size, 0, none⟩))) rfl (by kernel_rfl) (by kernel_rfl) (by kernel_rfl) (fun _ _ _ h => h) (Or.inl ⟨by rfl, ?_⟩) (by assumption) ?_
  · intro w' hSw
    (try dsimp only at hSw)
    go_simp <;> first | exact i64_in (by omega) (by omega) | exact u32_in (by omega) (by omega) | exact u32_add _ _ | (rw [Int.tmod_eq_emod_of_nonneg (by omega)]; omega) | (rw [Int.tdiv_eq_ediv_of_nonneg (by omega)]; omega) | omega
  (try simp only [Act.put, List.setIfInBounds_toArray, List.set_cons_zero, List.set_cons_succ])
  refine wpAnyH_take (i := 1) (v := (.string st)) rfl (by kernel_rfl) (by kernel_rfl) (by kernel_rfl) (fun _ _ _ h => h) (Or.inl ⟨by rfl, ?_⟩) (by assumption) ?_
  · intro w' hSw
    (try dsimp only at hSw)
    (obtain ⟨u0, u1, u2, u3, u4, u5⟩ := hSw; go_simp)
  (try simp only [Act.put, List.setIfInBounds_toArray, List.set_cons_zero, List.set_cons_succ])
  refine wpAnyH_take (i := 2) (v := (.string (nS0 ++ st))) rfl (by kernel_rfl) (by kernel_rfl) (by kernel_rfl) (fun _ _ _ h => h) (Or.inl ⟨by rfl, ?_⟩) (by assumption) ?_
  · intro w' hSw
    (try dsimp only at hSw)
    (go_simp; first | omega | (rw [if_neg (by (try simp only [ByteArray.size_append]); omega)]; rfl))
  (try simp only [Act.put, List.setIfInBounds_toArray, List.set_cons_zero, List.set_cons_succ])
  refine wpAnyH_take (i := 3) (v := (.string (nS0 ++ st ++ mS1))) rfl (by kernel_rfl) (by kernel_rfl) (by kernel_rfl) (fun _ _ _ h => h) (Or.inl ⟨by rfl, ?_⟩) (by assumption) ?_
  · intro w' hSw
    (try dsimp only at hSw)
    (go_simp; first | omega | (rw [if_neg (by (try simp only [ByteArray.size_append]); omega)]; rfl))
  (try simp only [Act.put, List.setIfInBounds_toArray, List.set_cons_zero, List.set_cons_succ])
  refine wpAnyH_take (i := 4) (v := (.pointer (some ⟨w.heap.size, 1, none⟩))) rfl (by kernel_rfl) (by kernel_rfl) (by kernel_rfl) (fun _ _ _ h => h) (Or.inl ⟨by rfl, ?_⟩) (by assumption) ?_
  · intro w' hSw
    (try dsimp only at hSw)
    go_simp <;> first | exact i64_in (by omega) (by omega) | exact u32_in (by omega) (by omega) | exact u32_add _ _ | (rw [Int.tmod_eq_emod_of_nonneg (by omega)]; omega) | (rw [Int.tdiv_eq_ediv_of_nonneg (by omega)]; omega) | omega
  (try simp only [Act.put, List.setIfInBounds_toArray, List.set_cons_zero, List.set_cons_succ])
  refine wpAnyH_take (i := 5) (v := (.int .i64 v1)) rfl (by kernel_rfl) (by kernel_rfl) (by kernel_rfl) (fun _ _ _ h => h) (Or.inl ⟨by rfl, ?_⟩) (by assumption) ?_
  · intro w' hSw
    (try dsimp only at hSw)
    (obtain ⟨u0, u1, u2, u3, u4, u5⟩ := hSw; go_simp)
  (try simp only [Act.put, List.setIfInBounds_toArray, List.set_cons_zero, List.set_cons_succ])
  refine wpAnyH_take (i := 9) (v := (.pointer (some ⟨w.heap.size, 2, none⟩))) rfl (by kernel_rfl) (by kernel_rfl) (by kernel_rfl) (fun _ _ _ h => h) (Or.inl ⟨by rfl, ?_⟩) (by assumption) ?_
  · intro w' hSw
    (try dsimp only at hSw)
    go_simp <;> first | exact i64_in (by omega) (by omega) | exact u32_in (by omega) (by omega) | exact u32_add _ _ | (rw [Int.tmod_eq_emod_of_nonneg (by omega)]; omega) | (rw [Int.tdiv_eq_ediv_of_nonneg (by omega)]; omega) | omega
  (try simp only [Act.put, List.setIfInBounds_toArray, List.set_cons_zero, List.set_cons_succ])
  refine wpAnyH_take (i := 10) (v := (.int .i64 v2)) rfl (by kernel_rfl) (by kernel_rfl) (by kernel_rfl) (fun _ _ _ h => h) (Or.inl ⟨by rfl, ?_⟩) (by assumption) ?_
  · intro w' hSw
    (try dsimp only at hSw)
    (obtain ⟨u0, u1, u2, u3, u4, u5⟩ := hSw; go_simp)
  (try simp only [Act.put, List.setIfInBounds_toArray, List.set_cons_zero, List.set_cons_succ])
  refine wpAnyH_ready (rs := [6]) (by kernel_rfl) (by simp) ?_
  refine AllReadyH.cons rfl (fun K hK => ?_) AllReadyH.nil
  go_simp
  refine Calls.mono (I1.out _ B1.out.drew) ?_
  rintro x w2 ⟨rfl, bq⟩
  have B2 := hide (B1.out.drew.trans (bq.mono B1.out.drew.size))
  clear bq
  refine hK.out _ _ (GA.out _ B2.out) (fun hHeld => ?_)
  clear hK
  (try simp only [Act.put, List.setIfInBounds_toArray, List.set_cons_zero, List.set_cons_succ])
  refine wpAnyH_take (i := 7) (v := (.string (nS0 ++ st ++ mS1 ++ X1))) rfl (by kernel_rfl) (by kernel_rfl) (by kernel_rfl) (fun _ _ _ h => h) (Or.inl ⟨by rfl, ?_⟩) (by assumption) ?_
  · intro w' hSw
    (try dsimp only at hSw)
    (go_simp; first | omega | (rw [if_neg (by (try simp only [ByteArray.size_append]); omega)]; rfl))
  (try simp only [Act.put, List.setIfInBounds_toArray, List.set_cons_zero, List.set_cons_succ])
  refine wpAnyH_take (i := 8) (v := (.string (nS0 ++ st ++ mS1 ++ X1 ++ mS2))) rfl (by kernel_rfl) (by kernel_rfl) (by kernel_rfl) (fun _ _ _ h => h) (Or.inl ⟨by rfl, ?_⟩) (by assumption) ?_
  · intro w' hSw
    (try dsimp only at hSw)
    (go_simp; first | omega | (rw [if_neg (by (try simp only [ByteArray.size_append]); omega)]; rfl))
  (try simp only [Act.put, List.setIfInBounds_toArray, List.set_cons_zero, List.set_cons_succ])
  refine wpAnyH_ready (rs := [11]) (by kernel_rfl) (by simp) ?_
  refine AllReadyH.cons rfl (fun K hK => ?_) AllReadyH.nil
  go_simp
  refine Calls.mono (I2.out _ B2.out) ?_
  rintro x w3 ⟨rfl, bq⟩
  have B3 := hide (B2.out.trans (bq.mono B2.out.size))
  clear bq
  refine hK.out _ _ (GA.out _ B3.out) (fun hHeld => ?_)
  clear hK
  (try simp only [Act.put, List.setIfInBounds_toArray, List.set_cons_zero, List.set_cons_succ])
  refine wpAnyH_take (i := 12) (v := (.string (nS0 ++ st ++ mS1 ++ X1 ++ mS2 ++ X2))) rfl (by kernel_rfl) (by kernel_rfl) (by kernel_rfl) (fun _ _ _ h => h) (Or.inl ⟨by rfl, ?_⟩) (by assumption) ?_
  · intro w' hSw
    (try dsimp only at hSw)
    (go_simp; first | omega | (rw [if_neg (by (try simp only [ByteArray.size_append]); omega)]; rfl))
  (try simp only [Act.put, List.setIfInBounds_toArray, List.set_cons_zero, List.set_cons_succ])
  refine wpAnyH_ready (rs := [13]) (by kernel_rfl) (by simp) ?_
  refine AllReadyH.cons rfl (fun K hK => ?_) AllReadyH.nil
  go_simp
  refine hK.out _ _ (GA.out _ B3.out) (fun hHeld => ?_)
  clear hK
  (try simp only [Act.put, List.setIfInBounds_toArray, List.set_cons_zero, List.set_cons_succ])
  refine wpAnyH_done (by kernel_rfl) ?_ _
  clear hHeld
  rw [← HY.out]
  obtain ⟨u0, u1, u2, u3, u4, u5⟩ := GA.out _ B3.out
  have hl3 := GL.out _ B3.out
  have hcY : Y.size + 7 ≤ 140737488355328 := by omega
  clear I1 I2 B1 B2 hl1
  go_simp
  go_wp2_with fail
  refine Calls.mono (I3.out _ B3.out) ?_
  rintro x w4 ⟨rfl, b4⟩
  have B4 := hide (B3.out.trans (b4.mono B3.out.size))
  clear b4 u0 u1 u2 u3 u4 u5 hl3 I3
  have hc1 : (Y ++ nS3).size + X3.size ≤ 140737488355328 := by simp only [ByteArray.size_append]; omega
  have hc2 : (Y ++ nS3 ++ X3).size + 1 ≤ 140737488355328 := by simp only [ByteArray.size_append]; omega
  unfold nS3 at hc1 hc2
  have ST0 : Hid (Y ++ nS3 ++ X3 ++ nl = manTitle ++ strOf (HD ++ rowsL (rs.take 0))) := by show _ = _; rw [HEQ.out, List.take_zero, show rowsL [] = [] from rfl, List.append_nil]
  go_wp2_with fail
  go_loopw [5, 6] (fun s i wr => ∃ k : Nat, k ≤ rs.length ∧ i = .int .i64 k ∧ s = .string (manTitle ++ strOf (HD ++ rowsL (rs.take k))) ∧ Below W0.heap.size W0 wr) (fun _ i _ => rs.length - (intOf i).toNat)
  case atStart => exact ⟨0, Nat.zero_le _, rfl, congrArg Value.string ST0.out, B4.out⟩
  case round =>
    obtain ⟨k, hk, rfl, rfl, hnx⟩ := hrel
    clear ST0 hc1 hc2 hcY B3 B4
    obtain ⟨S, hS⟩ : ∃ S, S = manTitle ++ strOf (HD ++ rowsL (rs.take k)) := ⟨_, rfl⟩
    have hSs : S.size ≤ 100000000 := by
      have q1 := rowsL_len rs (fun r hr => rowL_size (HROW.out r hr)) k hk
      have q2 : k * 8160 ≤ 1025 * 8160 := Nat.mul_le_mul_right _ (by omega)
      have q3 : manTitle.size = 19 := rfl
      rw [hS, ByteArray.size_append, strOf_size, List.length_append, q3]
      omega
    rw [← hS]
    have HS := hide hS
    clear hS
    obtain ⟨u0, u1, u2, u3, u4, u5⟩ := GA.out _ hnx
    have hlw := GL.out _ hnx
    have BR := hide hnx
    by_cases hlt : k < rs.length
    · have hlt' : (k : Int) < (rs.length : Int) := by omega
      obtain rfl := HAO.out (by omega)
      obtain ⟨d0, d1, d2, d3⟩ := HL.out wr hnx k hlt
      have hro := HROW.out rs[k] (List.getElem_mem hlt)
      have RE := hide (fun (q : RV) (hq : rs[k] = q) => (show rowsL (rs.take (k + 1)) = rowsL (rs.take k) ++ rowL q by rw [List.take_succ_eq_append_getElem hlt, rowsL_snoc, hq]))
      generalize rs[k] = r at *
      obtain ⟨nm, sz, cr, md⟩ := r
      have RE := hide (RE.out _ rfl)
      dsimp only at d0 d1 d2 d3
      have hq : nm.size ≤ 40 ∧ I64 sz ∧ 0 ≤ cr ∧ cr ≤ 4294967295 ∧ md.size = 16 := by
        unfold rowOk nmOk inR at hro
        simp only [Bool.and_eq_true, decide_eq_true_eq] at hro
        unfold I64; omega
      obtain ⟨hnm, isz, hc0, hc9, hmd⟩ := hq
      obtain ⟨CR, rfl⟩ := Int.eq_ofNat_of_zero_le hc0
      have RW := hide (rowL_eq nm sz CR md S)
      have J1 := hide (IT.out sz isz)
      have J2 := hide (EI.out CR (by omega))
      have J3 := hide (HX.out md (by omega))
      have x1 : (itS sz).size ≤ 20 := by unfold itS; rw [strOf_size]; exact itoa_len sz isz.1 isz.2
      have x2 : (strOf (hexL (be4 CR))).size = 8 := by rw [strOf_size, hexL_len]; rfl
      have x3 : (strOf (hexL md.data.toList)).size = 32 := by rw [strOf_size, hexL_len, size_data]; omega
      generalize itS sz = Z1 at *
      generalize strOf (hexL (be4 CR)) = Z2 at *
      generalize strOf (hexL md.data.toList) = Z3 at *
      clear hnx hro hc0 hc9
      go_upto_region 10 with fail
      obtain ⟨W1, hW1⟩ : ∃ W1, W1 = wr.alloc (.cells #[.string nm, .int .i64 sz, .int .i64 (CR : Int), .string md] 36) := ⟨_, rfl⟩
      have bw1 : Below wr.heap.size wr W1 := by rw [hW1]; exact (Below.refl _ _).alloc (Nat.le_refl _) _
      have e0 : W1.cell? ⟨wr.heap.size, 0, none⟩ = some (.string nm) := by rw [hW1]; simp
      have e1 : W1.cell? ⟨wr.heap.size, 1, none⟩ = some (.int .i64 sz) := by rw [hW1]; simp
      have e2 : W1.cell? ⟨wr.heap.size, 2, none⟩ = some (.int .i64 (CR : Int)) := by rw [hW1]; simp
      have e3 : W1.cell? ⟨wr.heap.size, 3, none⟩ = some (.string md) := by rw [hW1]; simp
      have hf1 : wr.heap.size < W1.heap.size := lt_of_cell? e0
      have B1 := hide (BR.out.trans (bw1.mono BR.out.size))
      rw [← hW1]
      clear hW1 bw1 u0 u1 u2 u3 u4 u5 d0 d1 d2 d3
      have SC : Hid (∀ x, Below W1.heap.size W1 x → x.cell? ⟨wr.heap.size, 0, none⟩ = some (.string nm) ∧ x.cell? ⟨wr.heap.size, 1, none⟩ = some (.int .i64 sz) ∧ x.cell? ⟨wr.heap.size, 2, none⟩ = some (.int .i64 (CR : Int)) ∧ x.cell? ⟨wr.heap.size, 3, none⟩ = some (.string md)) := fun x hx => by rw [hx.cell (by exact hf1), hx.cell (by exact hf1), hx.cell (by exact hf1), hx.cell (by exact hf1)]; exact ⟨e0, e1, e2, e3⟩
      have D1 := hide (Below.refl W1.heap.size W1).drew
      clear e0 e1 e2 e3
      refine wp_region_held_drew (S := fun x => x.cell? ⟨wr.heap.size, 0, none⟩ = some (.string nm) ∧ x.cell? ⟨wr.heap.size, 1, none⟩ = some (.int .i64 sz) ∧ x.cell? ⟨wr.heap.size, 2, none⟩ = some (.int .i64 (CR : Int)) ∧ x.cell? ⟨wr.heap.size, 3, none⟩ = some (.string md)) (by kernel_rfl) (SC.out _ D1.out) (fun hHeld => ?_)
      generalize W1.drew = wd at *
      refine wpAnyH_take (i := 0) (v := (.string S)) rfl (by kernel_rfl) (by kernel_rfl) (by kernel_rfl) (fun _ _ _ h => h) (Or.inl ⟨by rfl, ?_⟩) (by assumption) ?_
      · intro w' hSw
        (try dsimp only at hSw)
        go_simp <;> first | exact i64_in (by omega) (by omega) | exact u32_in (by omega) (by omega) | exact u32_add _ _ | (rw [Int.tmod_eq_emod_of_nonneg (by omega)]; omega) | (rw [Int.tdiv_eq_ediv_of_nonneg (by omega)]; omega) | omega
      (try simp only [Act.put, List.setIfInBounds_toArray, List.set_cons_zero, List.set_cons_succ])
      refine wpAnyH_take (i := 1) (v := (.string (S ++ nS4))) rfl (by kernel_rfl) (by kernel_rfl) (by kernel_rfl) (fun _ _ _ h => h) (Or.inl ⟨by rfl, ?_⟩) (by assumption) ?_
      · intro w' hSw
        (try dsimp only at hSw)
        (go_simp; first | omega | (rw [if_neg (by (try simp only [ByteArray.size_append]); omega)]; rfl))
      (try simp only [Act.put, List.setIfInBounds_toArray, List.set_cons_zero, List.set_cons_succ])
      refine wpAnyH_take (i := 2) (v := (.pointer (some ⟨wr.heap.size, 0, none⟩))) rfl (by kernel_rfl) (by kernel_rfl) (by kernel_rfl) (fun _ _ _ h => h) (Or.inl ⟨by rfl, ?_⟩) (by assumption) ?_
      · intro w' hSw
        (try dsimp only at hSw)
        go_simp <;> first | exact i64_in (by omega) (by omega) | exact u32_in (by omega) (by omega) | exact u32_add _ _ | (rw [Int.tmod_eq_emod_of_nonneg (by omega)]; omega) | (rw [Int.tdiv_eq_ediv_of_nonneg (by omega)]; omega) | omega
      (try simp only [Act.put, List.setIfInBounds_toArray, List.set_cons_zero, List.set_cons_succ])
      refine wpAnyH_take (i := 3) (v := (.string nm)) rfl (by kernel_rfl) (by kernel_rfl) (by kernel_rfl) (fun _ _ _ h => h) (Or.inl ⟨by rfl, ?_⟩) (by assumption) ?_
      · intro w' hSw
        (try dsimp only at hSw)
        (obtain ⟨u0, u1, u2, u3⟩ := hSw; go_simp)
      (try simp only [Act.put, List.setIfInBounds_toArray, List.set_cons_zero, List.set_cons_succ])
      refine wpAnyH_take (i := 4) (v := (.string (S ++ nS4 ++ nm))) rfl (by kernel_rfl) (by kernel_rfl) (by kernel_rfl) (fun _ _ _ h => h) (Or.inl ⟨by rfl, ?_⟩) (by assumption) ?_
      · intro w' hSw
        (try dsimp only at hSw)
        (go_simp; first | omega | (rw [if_neg (by (try simp only [ByteArray.size_append]); omega)]; rfl))
      (try simp only [Act.put, List.setIfInBounds_toArray, List.set_cons_zero, List.set_cons_succ])
      refine wpAnyH_take (i := 5) (v := (.string (S ++ nS4 ++ nm ++ bl))) rfl (by kernel_rfl) (by kernel_rfl) (by kernel_rfl) (fun _ _ _ h => h) (Or.inl ⟨by rfl, ?_⟩) (by assumption) ?_
      · intro w' hSw
        (try dsimp only at hSw)
        (go_simp; first | omega | (rw [if_neg (by (try simp only [ByteArray.size_append]); omega)]; rfl))
      (try simp only [Act.put, List.setIfInBounds_toArray, List.set_cons_zero, List.set_cons_succ])
      refine wpAnyH_take (i := 6) (v := (.pointer (some ⟨wr.heap.size, 1, none⟩))) rfl (by kernel_rfl) (by kernel_rfl) (by kernel_rfl) (fun _ _ _ h => h) (Or.inl ⟨by rfl, ?_⟩) (by assumption) ?_
      · intro w' hSw
        (try dsimp only at hSw)
        go_simp <;> first | exact i64_in (by omega) (by omega) | exact u32_in (by omega) (by omega) | exact u32_add _ _ | (rw [Int.tmod_eq_emod_of_nonneg (by omega)]; omega) | (rw [Int.tdiv_eq_ediv_of_nonneg (by omega)]; omega) | omega
      (try simp only [Act.put, List.setIfInBounds_toArray, List.set_cons_zero, List.set_cons_succ])
      refine wpAnyH_take (i := 7) (v := (.int .i64 sz)) rfl (by kernel_rfl) (by kernel_rfl) (by kernel_rfl) (fun _ _ _ h => h) (Or.inl ⟨by rfl, ?_⟩) (by assumption) ?_
      · intro w' hSw
        (try dsimp only at hSw)
        (obtain ⟨u0, u1, u2, u3⟩ := hSw; go_simp)
      (try simp only [Act.put, List.setIfInBounds_toArray, List.set_cons_zero, List.set_cons_succ])
      refine wpAnyH_take (i := 11) (v := (.pointer (some ⟨wr.heap.size, 2, none⟩))) rfl (by kernel_rfl) (by kernel_rfl) (by kernel_rfl) (fun _ _ _ h => h) (Or.inl ⟨by rfl, ?_⟩) (by assumption) ?_
      · intro w' hSw
        (try dsimp only at hSw)
        go_simp <;> first | exact i64_in (by omega) (by omega) | exact u32_in (by omega) (by omega) | exact u32_add _ _ | (rw [Int.tmod_eq_emod_of_nonneg (by omega)]; omega) | (rw [Int.tdiv_eq_ediv_of_nonneg (by omega)]; omega) | omega
      (try simp only [Act.put, List.setIfInBounds_toArray, List.set_cons_zero, List.set_cons_succ])
      refine wpAnyH_take (i := 12) (v := (.int .i64 (CR : Int))) rfl (by kernel_rfl) (by kernel_rfl) (by kernel_rfl) (fun _ _ _ h => h) (Or.inl ⟨by rfl, ?_⟩) (by assumption) ?_
      · intro w' hSw
        (try dsimp only at hSw)
        (obtain ⟨u0, u1, u2, u3⟩ := hSw; go_simp)
      (try simp only [Act.put, List.setIfInBounds_toArray, List.set_cons_zero, List.set_cons_succ])
      refine wpAnyH_take (i := 16) (v := (.pointer (some ⟨wr.heap.size, 3, none⟩))) rfl (by kernel_rfl) (by kernel_rfl) (by kernel_rfl) (fun _ _ _ h => h) (Or.inl ⟨by rfl, ?_⟩) (by assumption) ?_
      · intro w' hSw
        (try dsimp only at hSw)
        go_simp <;> first | exact i64_in (by omega) (by omega) | exact u32_in (by omega) (by omega) | exact u32_add _ _ | (rw [Int.tmod_eq_emod_of_nonneg (by omega)]; omega) | (rw [Int.tdiv_eq_ediv_of_nonneg (by omega)]; omega) | omega
      (try simp only [Act.put, List.setIfInBounds_toArray, List.set_cons_zero, List.set_cons_succ])
      refine wpAnyH_take (i := 17) (v := (.string md)) rfl (by kernel_rfl) (by kernel_rfl) (by kernel_rfl) (fun _ _ _ h => h) (Or.inl ⟨by rfl, ?_⟩) (by assumption) ?_
      · intro w' hSw
        (try dsimp only at hSw)
        (obtain ⟨u0, u1, u2, u3⟩ := hSw; go_simp)
      (try simp only [Act.put, List.setIfInBounds_toArray, List.set_cons_zero, List.set_cons_succ])
      refine wpAnyH_ready (rs := [8]) (by kernel_rfl) (by simp) ?_
      refine AllReadyH.cons rfl (fun K hK => ?_) AllReadyH.nil
      go_simp
      refine Calls.mono (J1.out _ (B1.out.trans (D1.out.mono B1.out.size))) ?_
      rintro x w5 ⟨rfl, bq⟩
      have D2 := hide (D1.out.trans (bq.mono D1.out.size))
      clear bq
      refine hK.out _ _ (SC.out _ D2.out) (fun hHeld => ?_)
      clear hK
      (try simp only [Act.put, List.setIfInBounds_toArray, List.set_cons_zero, List.set_cons_succ])
      refine wpAnyH_take (i := 9) (v := (.string (S ++ nS4 ++ nm ++ bl ++ Z1))) rfl (by kernel_rfl) (by kernel_rfl) (by kernel_rfl) (fun _ _ _ h => h) (Or.inl ⟨by rfl, ?_⟩) (by assumption) ?_
      · intro w' hSw
        (try dsimp only at hSw)
        (go_simp; first | omega | (rw [if_neg (by (try simp only [ByteArray.size_append]); omega)]; rfl))
      (try simp only [Act.put, List.setIfInBounds_toArray, List.set_cons_zero, List.set_cons_succ])
      refine wpAnyH_take (i := 10) (v := (.string (S ++ nS4 ++ nm ++ bl ++ Z1 ++ bl))) rfl (by kernel_rfl) (by kernel_rfl) (by kernel_rfl) (fun _ _ _ h => h) (Or.inl ⟨by rfl, ?_⟩) (by assumption) ?_
      · intro w' hSw
        (try dsimp only at hSw)
        (go_simp; first | omega | (rw [if_neg (by (try simp only [ByteArray.size_append]); omega)]; rfl))
      (try simp only [Act.put, List.setIfInBounds_toArray, List.set_cons_zero, List.set_cons_succ])
      refine wpAnyH_ready (rs := [13]) (by kernel_rfl) (by simp) ?_
      refine AllReadyH.cons rfl (fun K hK => ?_) AllReadyH.nil
      go_simp
      refine Calls.mono (J2.out _) ?_
      rintro x w6 ⟨rfl, bq⟩
      have D3 := hide (D2.out.trans (bq.mono D2.out.size))
      clear bq
      refine hK.out _ _ (SC.out _ D3.out) (fun hHeld => ?_)
      clear hK
      (try simp only [Act.put, List.setIfInBounds_toArray, List.set_cons_zero, List.set_cons_succ])
      refine wpAnyH_take (i := 14) (v := (.string (S ++ nS4 ++ nm ++ bl ++ Z1 ++ bl ++ Z2))) rfl (by kernel_rfl) (by kernel_rfl) (by kernel_rfl) (fun _ _ _ h => h) (Or.inl ⟨by rfl, ?_⟩) (by assumption) ?_
      · intro w' hSw
        (try dsimp only at hSw)
        (go_simp; first | omega | (rw [if_neg (by (try simp only [ByteArray.size_append]); omega)]; rfl))
      (try simp only [Act.put, List.setIfInBounds_toArray, List.set_cons_zero, List.set_cons_succ])
      refine wpAnyH_take (i := 15) (v := (.string (S ++ nS4 ++ nm ++ bl ++ Z1 ++ bl ++ Z2 ++ bl))) rfl (by kernel_rfl) (by kernel_rfl) (by kernel_rfl) (fun _ _ _ h => h) (Or.inl ⟨by rfl, ?_⟩) (by assumption) ?_
      · intro w' hSw
        (try dsimp only at hSw)
        (go_simp; first | omega | (rw [if_neg (by (try simp only [ByteArray.size_append]); omega)]; rfl))
      (try simp only [Act.put, List.setIfInBounds_toArray, List.set_cons_zero, List.set_cons_succ])
      refine wpAnyH_ready (rs := [18]) (by kernel_rfl) (by simp) ?_
      refine AllReadyH.cons rfl (fun K hK => ?_) AllReadyH.nil
      go_simp
      refine Calls.mono (J3.out _) ?_
      rintro x w7 ⟨rfl, bq⟩
      have D4 := hide (D3.out.trans (bq.mono D3.out.size))
      clear bq
      refine hK.out _ _ (SC.out _ D4.out) (fun hHeld => ?_)
      clear hK
      (try simp only [Act.put, List.setIfInBounds_toArray, List.set_cons_zero, List.set_cons_succ])
      refine wpAnyH_take (i := 19) (v := (.string (S ++ nS4 ++ nm ++ bl ++ Z1 ++ bl ++ Z2 ++ bl ++ Z3))) rfl (by kernel_rfl) (by kernel_rfl) (by kernel_rfl) (fun _ _ _ h => h) (Or.inl ⟨by rfl, ?_⟩) (by assumption) ?_
      · intro w' hSw
        (try dsimp only at hSw)
        (go_simp; first | omega | (rw [if_neg (by (try simp only [ByteArray.size_append]); omega)]; rfl))
      (try simp only [Act.put, List.setIfInBounds_toArray, List.set_cons_zero, List.set_cons_succ])
      refine wpAnyH_take (i := 20) (v := (.string (S ++ nS4 ++ nm ++ bl ++ Z1 ++ bl ++ Z2 ++ bl ++ Z3 ++ nl))) rfl (by kernel_rfl) (by kernel_rfl) (by kernel_rfl) (fun _ _ _ h => h) (Or.inl ⟨by rfl, ?_⟩) (by assumption) ?_
      · intro w' hSw
        (try dsimp only at hSw)
        (go_simp; first | omega | (rw [if_neg (by (try simp only [ByteArray.size_append]); omega)]; rfl))
      (try simp only [Act.put, List.setIfInBounds_toArray, List.set_cons_zero, List.set_cons_succ])
      refine wpAnyH_ready (rs := [21]) (by kernel_rfl) (by simp) ?_
      refine AllReadyH.cons rfl (fun K hK => ?_) AllReadyH.nil
      go_simp
      refine hK.out _ _ (SC.out _ D4.out) (fun hHeld => ?_)
      clear hK
      (try simp only [Act.put, List.setIfInBounds_toArray, List.set_cons_zero, List.set_cons_succ])
      refine wpAnyH_done (by kernel_rfl) ?_ _
      clear hHeld
      rw [RW.out]
      have SN : Hid (S ++ strOf (rowL (nm, sz, (CR : Int), md)) = manTitle ++ strOf (HD ++ rowsL (rs.take (k + 1)))) := by
        show _ = _
        rw [HS.out, RE.out]
        apply ba_eq
        simp only [ba_app, strOf_data, List.append_assoc]
      have B5 := hide (B1.out.trans (D4.out.mono B1.out.size))
      clear SC D1 D2 D3 D4 J1 J2 J3 RW HS RE B1 BR
      go_simp
      go_wp2_with fail
      go_roundw
      case rel => exact ⟨k + 1, by omega, by go_num, by rw [SN.out], B5.out⟩
      case measure => simp [intOf]; omega
    · obtain rfl : k = rs.length := by omega
      have eT : rs.take rs.length = rs := List.take_length
      rw [eT] at HS
      have HM := hide (MFE.out S HS.out)
      have HT2 := hide (HTL.out S)
      rw [HM.out] at HT2
      have hMM : MM.size ≤ 200000000 := by rw [← HT2.out]; simp only [ByteArray.size_append]; omega
      have CM := hide (CL.out MM (by omega))
      rw [PS.out MM rfl] at CM
      clear hnx eT hlt hk HS HM HEQ MFE HROW PS CL HL EI HX IT
      go_upto_region 11 with fail
      clear u0 u1 u2 u3 u4 u5
      refine wp_region_held_drew (S := fun x => x.cell? ⟨w.heap.size, 0, none⟩ = some (.string st) ∧ x.cell? ⟨w.heap.size, 1, none⟩ = some (.int .i64 v1) ∧ x.cell? ⟨w.heap.size, 2, none⟩ = some (.int .i64 v2) ∧ x.cell? ⟨w.heap.size, 3, none⟩ = some (.slice ao rs.length cap) ∧ x.cell? ⟨w.heap.size, 4, none⟩ = some (.int .i64 t4) ∧ x.cell? ⟨w.heap.size, 5, none⟩ = some (.int .i64 (C5 : Int))) (by kernel_rfl) (GA.out _ BR.out.drew) (fun hHeld => ?_)
      refine wpAnyH_take (i := 0) (v := (.string S)) rfl (by kernel_rfl) (by kernel_rfl) (by kernel_rfl) (fun _ _ _ h => h) (Or.inl ⟨by rfl, ?_⟩) (by assumption) ?_
      · intro w' hSw
        (try dsimp only at hSw)
        go_simp <;> first | exact i64_in (by omega) (by omega) | exact u32_in (by omega) (by omega) | exact u32_add _ _ | (rw [Int.tmod_eq_emod_of_nonneg (by omega)]; omega) | (rw [Int.tdiv_eq_ediv_of_nonneg (by omega)]; omega) | omega
      (try simp only [Act.put, List.setIfInBounds_toArray, List.set_cons_zero, List.set_cons_succ])
      refine wpAnyH_take (i := 1) (v := (.string (S ++ nS5))) rfl (by kernel_rfl) (by kernel_rfl) (by kernel_rfl) (fun _ _ _ h => h) (Or.inl ⟨by rfl, ?_⟩) (by assumption) ?_
      · intro w' hSw
        (try dsimp only at hSw)
        (go_simp; first | omega | (rw [if_neg (by (try simp only [ByteArray.size_append]); omega)]; rfl))
      (try simp only [Act.put, List.setIfInBounds_toArray, List.set_cons_zero, List.set_cons_succ])
      refine wpAnyH_take (i := 2) (v := (.pointer (some ⟨w.heap.size, 4, none⟩))) rfl (by kernel_rfl) (by kernel_rfl) (by kernel_rfl) (fun _ _ _ h => h) (Or.inl ⟨by rfl, ?_⟩) (by assumption) ?_
      · intro w' hSw
        (try dsimp only at hSw)
        go_simp <;> first | exact i64_in (by omega) (by omega) | exact u32_in (by omega) (by omega) | exact u32_add _ _ | (rw [Int.tmod_eq_emod_of_nonneg (by omega)]; omega) | (rw [Int.tdiv_eq_ediv_of_nonneg (by omega)]; omega) | omega
      (try simp only [Act.put, List.setIfInBounds_toArray, List.set_cons_zero, List.set_cons_succ])
      refine wpAnyH_take (i := 3) (v := (.int .i64 t4)) rfl (by kernel_rfl) (by kernel_rfl) (by kernel_rfl) (fun _ _ _ h => h) (Or.inl ⟨by rfl, ?_⟩) (by assumption) ?_
      · intro w' hSw
        (try dsimp only at hSw)
        (obtain ⟨u0, u1, u2, u3, u4, u5⟩ := hSw; go_simp)
      (try simp only [Act.put, List.setIfInBounds_toArray, List.set_cons_zero, List.set_cons_succ])
      refine wpAnyH_take (i := 7) (v := (.pointer (some ⟨w.heap.size, 5, none⟩))) rfl (by kernel_rfl) (by kernel_rfl) (by kernel_rfl) (fun _ _ _ h => h) (Or.inl ⟨by rfl, ?_⟩) (by assumption) ?_
      · intro w' hSw
        (try dsimp only at hSw)
        go_simp <;> first | exact i64_in (by omega) (by omega) | exact u32_in (by omega) (by omega) | exact u32_add _ _ | (rw [Int.tmod_eq_emod_of_nonneg (by omega)]; omega) | (rw [Int.tdiv_eq_ediv_of_nonneg (by omega)]; omega) | omega
      (try simp only [Act.put, List.setIfInBounds_toArray, List.set_cons_zero, List.set_cons_succ])
      refine wpAnyH_take (i := 8) (v := (.int .i64 (C5 : Int))) rfl (by kernel_rfl) (by kernel_rfl) (by kernel_rfl) (fun _ _ _ h => h) (Or.inl ⟨by rfl, ?_⟩) (by assumption) ?_
      · intro w' hSw
        (try dsimp only at hSw)
        (obtain ⟨u0, u1, u2, u3, u4, u5⟩ := hSw; go_simp)
      (try simp only [Act.put, List.setIfInBounds_toArray, List.set_cons_zero, List.set_cons_succ])
      refine wpAnyH_ready (rs := [4]) (by kernel_rfl) (by simp) ?_
      refine AllReadyH.cons rfl (fun K hK => ?_) AllReadyH.nil
      go_simp
      refine Calls.mono (I4.out _ BR.out.drew) ?_
      rintro x w8 ⟨rfl, bq⟩
      have B8 := hide (BR.out.drew.trans (bq.mono BR.out.drew.size))
      clear bq
      refine hK.out _ _ (GA.out _ B8.out) (fun hHeld => ?_)
      clear hK
      (try simp only [Act.put, List.setIfInBounds_toArray, List.set_cons_zero, List.set_cons_succ])
      refine wpAnyH_take (i := 5) (v := (.string (S ++ nS5 ++ X4))) rfl (by kernel_rfl) (by kernel_rfl) (by kernel_rfl) (fun _ _ _ h => h) (Or.inl ⟨by rfl, ?_⟩) (by assumption) ?_
      · intro w' hSw
        (try dsimp only at hSw)
        (go_simp; first | omega | (rw [if_neg (by (try simp only [ByteArray.size_append]); omega)]; rfl))
      (try simp only [Act.put, List.setIfInBounds_toArray, List.set_cons_zero, List.set_cons_succ])
      refine wpAnyH_take (i := 6) (v := (.string (S ++ nS5 ++ X4 ++ nS6))) rfl (by kernel_rfl) (by kernel_rfl) (by kernel_rfl) (fun _ _ _ h => h) (Or.inl ⟨by rfl, ?_⟩) (by assumption) ?_
      · intro w' hSw
        (try dsimp only at hSw)
        (go_simp; first | omega | (rw [if_neg (by (try simp only [ByteArray.size_append]); omega)]; rfl))
      (try simp only [Act.put, List.setIfInBounds_toArray, List.set_cons_zero, List.set_cons_succ])
      refine wpAnyH_ready (rs := [9]) (by kernel_rfl) (by simp) ?_
      refine AllReadyH.cons rfl (fun K hK => ?_) AllReadyH.nil
      go_simp
      refine Calls.mono (E5.out _) ?_
      rintro x w9 ⟨rfl, bq⟩
      have B9 := hide (B8.out.trans (bq.mono B8.out.size))
      clear bq
      refine hK.out _ _ (GA.out _ B9.out) (fun hHeld => ?_)
      clear hK
      (try simp only [Act.put, List.setIfInBounds_toArray, List.set_cons_zero, List.set_cons_succ])
      refine wpAnyH_take (i := 10) (v := (.string (S ++ nS5 ++ X4 ++ nS6 ++ X5))) rfl (by kernel_rfl) (by kernel_rfl) (by kernel_rfl) (fun _ _ _ h => h) (Or.inl ⟨by rfl, ?_⟩) (by assumption) ?_
      · intro w' hSw
        (try dsimp only at hSw)
        (go_simp; first | omega | (rw [if_neg (by (try simp only [ByteArray.size_append]); omega)]; rfl))
      (try simp only [Act.put, List.setIfInBounds_toArray, List.set_cons_zero, List.set_cons_succ])
      refine wpAnyH_take (i := 11) (v := (.string (S ++ nS5 ++ X4 ++ nS6 ++ X5 ++ nl))) rfl (by kernel_rfl) (by kernel_rfl) (by kernel_rfl) (fun _ _ _ h => h) (Or.inl ⟨by rfl, ?_⟩) (by assumption) ?_
      · intro w' hSw
        (try dsimp only at hSw)
        (go_simp; first | omega | (rw [if_neg (by (try simp only [ByteArray.size_append]); omega)]; rfl))
      (try simp only [Act.put, List.setIfInBounds_toArray, List.set_cons_zero, List.set_cons_succ])
      refine wpAnyH_ready (rs := [12]) (by kernel_rfl) (by simp) ?_
      refine AllReadyH.cons rfl (fun K hK => ?_) AllReadyH.nil
      go_simp
      refine hK.out _ _ (GA.out _ B9.out) (fun hHeld => ?_)
      clear hK
      (try simp only [Act.put, List.setIfInBounds_toArray, List.set_cons_zero, List.set_cons_succ])
      refine wpAnyH_done (by kernel_rfl) ?_ _
      clear hHeld
      rw [HT2.out]
      go_simp
      go_wp2_with fail
      refine Calls.mono (CM.out _) ?_
      rintro x w10 ⟨rfl, bq⟩
      have BE := hide (FIN.out _ (B9.out.trans (bq.mono B9.out.size)))
      clear bq
      go_wp2_with fail
      go_ret2
      exact ⟨rfl, BE.out⟩
end Go.Proofs.YtgdopepghmjopaaGreatDoor
