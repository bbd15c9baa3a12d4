import Derived.Test.YtfpalfpfijcpbaaGreatDoorGPqStore
import Derived.Test.YtfpalfpfijcpbaaGreatDoorGDjJoin
namespace Go.Proofs.YtfpalfpfijcpbaaGreatDoor
open Go.RowKit Go.Shelf
def mS0 : ByteArray := ⟨#[103, 114, 97, 110, 97, 114, 121, 32, 109, 101, 116, 97, 32, 49, 10, 115, 116, 111, 114, 101, 32]⟩
def mS1 : ByteArray := ⟨#[10, 118, 101, 114, 115, 105, 111, 110, 32]⟩
def mS2 : ByteArray := ⟨#[10, 110, 111, 100, 101, 32]⟩
def mS3 : ByteArray := ⟨#[10, 112, 97, 114, 116, 115, 32]⟩
def mS4 : ByteArray := ⟨#[10, 114, 101, 112, 108, 105, 99, 97, 115, 32]⟩
def mS5 : ByteArray := ⟨#[10, 119, 105, 100, 116, 104, 32]⟩
def mS6 : ByteArray := ⟨#[10, 99, 104, 117, 110, 107, 115, 32]⟩
def mS7 : ByteArray := ⟨#[10, 114, 111, 119, 115, 32]⟩
theorem metaL_eq (st : ByteArray) (n1 n2 n3 n4 n5 n6 n7 : Int) : metaL st (mN n1 n2 n3 n4 n5 n6 n7) = [] ++ ([115, 116, 111, 114, 101, 32] ++ st.data.toList ++ [10]) ++ ([118, 101, 114, 115, 105, 111, 110, 32] ++ Lib.itoa n1 ++ [10]) ++ ([110, 111, 100, 101, 32] ++ Lib.itoa n2 ++ [10]) ++ ([112, 97, 114, 116, 115, 32] ++ Lib.itoa n3 ++ [10]) ++ ([114, 101, 112, 108, 105, 99, 97, 115, 32] ++ Lib.itoa n4 ++ [10]) ++ ([119, 105, 100, 116, 104, 32] ++ Lib.itoa n5 ++ [10]) ++ ([99, 104, 117, 110, 107, 115, 32] ++ Lib.itoa n6 ++ [10]) ++ ([114, 111, 119, 115, 32] ++ Lib.itoa n7 ++ [10]) := rfl
theorem meta_eq (st : ByteArray) (n1 n2 n3 n4 n5 n6 n7 : Int) : mS0 ++ st ++ mS1 ++ itS n1 ++ mS2 ++ itS n2 ++ mS3 ++ itS n3 ++ mS4 ++ itS n4 ++ mS5 ++ itS n5 ++ mS6 ++ itS n6 ++ mS7 ++ itS n7 ++ nl = metaTitle ++ strOf (metaL st (mN n1 n2 n3 n4 n5 n6 n7)) := by
  apply ba_eq
  rw [metaL_eq]
  simp only [ba_app, strOf_data, itS, List.append_assoc]
  rfl
set_option maxHeartbeats 8000000 in
set_option maxRecDepth 100000 in
set_option linter.unusedSimpArgs false in
/-- the document's PrintMeta -/
theorem rprintMeta_any (st : ByteArray) (n1 n2 n3 n4 n5 n6 n7 : Int) (hn : ∀ i, I64 (mN n1 n2 n3 n4 n5 n6 n7 i)) (w : World) (hP : Pow w) :
    Calls Tryz.prog 20 #[.agg #[.string st, .int .i64 n1, .int .i64 n2, .int .i64 n3, .int .i64 n4, .int .i64 n5, .int .i64 n6, .int .i64 n7]] w fun x w' => x = .returned (.tuple #[.string (metaS st (mN n1 n2 n3 n4 n5 n6 n7)), .int .i64 (metaE st (mN n1 n2 n3 n4 n5 n6 n7))]) ∧ Below w.heap.size w w' := by
  obtain ⟨W0, hW0⟩ : ∃ W0, W0 = w.alloc (.cells #[.string st, .int .i64 n1, .int .i64 n2, .int .i64 n3, .int .i64 n4, .int .i64 n5, .int .i64 n6, .int .i64 n7] 23) := ⟨_, rfl⟩
  have b0 : Below w.heap.size w W0 := by rw [hW0]; exact (Below.refl _ w).alloc (Nat.le_refl _) _
  have s0 : w.heap.size < W0.heap.size := by rw [hW0]; simp
  have C := hide (rmetaFields_any st n1 n2 n3 n4 n5 n6 n7 W0)
  cases hok : metaOk st (mN n1 n2 n3 n4 n5 n6 n7) with
  | false =>
    have e1 : metaE st (mN n1 n2 n3 n4 n5 n6 n7) = 42 := by unfold metaE; rw [hok]; rfl
    have e2 : metaS st (mN n1 n2 n3 n4 n5 n6 n7) = ⟨#[]⟩ := by unfold metaS; rw [hok]; rfl
    rw [e1] at C
    rw [e1, e2]
    have B0 := hide b0
    clear b0 s0 hP
    go_enter Tryz.func20, Tryz.ntmps20
    go_wp2_with fail
    rw [← hW0]
    clear hW0
    refine Calls.mono C.out ?_
    rintro x w1 ⟨rfl, b1⟩
    have B1 := hide (B0.out.trans (b1.mono B0.out.size))
    clear b1 C
    go_wp2_with fail
    go_ret2
    exact ⟨rfl, B1.out⟩
  | true =>
    have hst := (metaOk_st hok).2.1
    have e1 : metaE st (mN n1 n2 n3 n4 n5 n6 n7) = 0 := by unfold metaE; rw [hok]; rfl
    have e2 : metaS st (mN n1 n2 n3 n4 n5 n6 n7) = (metaTitle ++ strOf (metaL st (mN n1 n2 n3 n4 n5 n6 n7))) ++ strOf (sealL sumWd (crcN 0 (metaTitle ++ strOf (metaL st (mN n1 n2 n3 n4 n5 n6 n7))).data.toList)) := by unfold metaS; rw [hok]; rfl
    rw [e1] at C
    rw [e1, e2, ← meta_eq]
    have Q0 : Hid (∀ w', Below W0.heap.size W0 w' → w'.cell? ⟨w.heap.size, 0, none⟩ = some (.string st) ∧ w'.cell? ⟨w.heap.size, 1, none⟩ = some (.int .i64 n1) ∧ w'.cell? ⟨w.heap.size, 2, none⟩ = some (.int .i64 n2) ∧ w'.cell? ⟨w.heap.size, 3, none⟩ = some (.int .i64 n3) ∧ w'.cell? ⟨w.heap.size, 4, none⟩ = some (.int .i64 n4) ∧ w'.cell? ⟨w.heap.size, 5, none⟩ = some (.int .i64 n5) ∧ w'.cell? ⟨w.heap.size, 6, none⟩ = some (.int .i64 n6) ∧ w'.cell? ⟨w.heap.size, 7, none⟩ = some (.int .i64 n7)) := fun w' hb => by
      rw [hb.cell (by exact s0), hb.cell (by exact s0), hb.cell (by exact s0), hb.cell (by exact s0), hb.cell (by exact s0), hb.cell (by exact s0), hb.cell (by exact s0), hb.cell (by exact s0), hW0]
      exact ⟨by simp, by simp, by simp, by simp, by simp, by simp, by simp, by simp⟩
    have IT : Hid (∀ (n : Int) (hn : I64 n) w', Below W0.heap.size W0 w' → Calls Tryz.prog 44 #[.int .i64 n] w' fun x w'' => x = .returned (.string (itS n)) ∧ Below w'.heap.size w' w'') := fun n hn w' hb => (Tryz.strconv_Itoa n hn.1 hn.2 w' ((hP.below b0).below hb)).mono fun x w'' ⟨h1, k, os, h2⟩ => ⟨h1, by rw [h2]; exact below_grow w' k os⟩
    have i1 : I64 n1 := hn 1
    have z1 : (itS n1).size ≤ 20 := by unfold itS; rw [strOf_size]; exact itoa_len n1 i1.1 i1.2
    have I1 := hide (IT.out n1 i1)
    have i2 : I64 n2 := hn 2
    have z2 : (itS n2).size ≤ 20 := by unfold itS; rw [strOf_size]; exact itoa_len n2 i2.1 i2.2
    have I2 := hide (IT.out n2 i2)
    have i3 : I64 n3 := hn 3
    have z3 : (itS n3).size ≤ 20 := by unfold itS; rw [strOf_size]; exact itoa_len n3 i3.1 i3.2
    have I3 := hide (IT.out n3 i3)
    have i4 : I64 n4 := hn 4
    have z4 : (itS n4).size ≤ 20 := by unfold itS; rw [strOf_size]; exact itoa_len n4 i4.1 i4.2
    have I4 := hide (IT.out n4 i4)
    have i5 : I64 n5 := hn 5
    have z5 : (itS n5).size ≤ 20 := by unfold itS; rw [strOf_size]; exact itoa_len n5 i5.1 i5.2
    have I5 := hide (IT.out n5 i5)
    have i6 : I64 n6 := hn 6
    have z6 : (itS n6).size ≤ 20 := by unfold itS; rw [strOf_size]; exact itoa_len n6 i6.1 i6.2
    have I6 := hide (IT.out n6 i6)
    have i7 : I64 n7 := hn 7
    have z7 : (itS n7).size ≤ 20 := by unfold itS; rw [strOf_size]; exact itoa_len n7 i7.1 i7.2
    have I7 := hide (IT.out n7 i7)
    have y0 : mS0.size = 21 := rfl
    have y1 : mS1.size = 9 := rfl
    have y2 : mS2.size = 6 := rfl
    have y3 : mS3.size = 7 := rfl
    have y4 : mS4.size = 10 := rfl
    have y5 : mS5.size = 7 := rfl
    have y6 : mS6.size = 8 := rfl
    have y7 : mS7.size = 6 := rfl
    have y8 : nl.size = 1 := rfl
    generalize itS n1 = X1 at *
    generalize itS n2 = X2 at *
    generalize itS n3 = X3 at *
    generalize itS n4 = X4 at *
    generalize itS n5 = X5 at *
    generalize itS n6 = X6 at *
    generalize itS n7 = X7 at *
    clear hn i1 i2 i3 i4 i5 i6 i7
    obtain ⟨Y, hY⟩ : ∃ Y, Y = mS0 ++ st ++ mS1 ++ X1 ++ mS2 ++ X2 := ⟨_, rfl⟩
    have hYs : Y.size ≤ 200 := by rw [hY]; simp only [ByteArray.size_append]; omega
    rw [← hY]
    obtain ⟨V, hV⟩ : ∃ V, V = Y ++ mS3 ++ X3 ++ mS4 ++ X4 ++ mS5 ++ X5 := ⟨_, rfl⟩
    have hVs : V.size ≤ 400 := by rw [hV]; simp only [ByteArray.size_append]; omega
    rw [← hV]
    obtain ⟨Z, hZ⟩ : ∃ Z, Z = V ++ mS6 ++ X6 ++ mS7 ++ X7 ++ nl := ⟨_, rfl⟩
    have hZs : Z.size ≤ 600 := by rw [hZ]; simp only [ByteArray.size_append]; omega
    rw [← hZ]
    have HY := hide hY
    have HV := hide hV
    have HZ := hide hZ
    clear hY hV hZ
    have CL := hide (fun w' => closed_any Z w' (by omega))
    have B0 := hide b0
    clear b0 s0 hP IT hok e1 e2
    go_enter Tryz.func20, Tryz.ntmps20
    go_wp2_with fail
    rw [← hW0]
    clear hW0
    refine Calls.mono C.out ?_
    rintro x w1 ⟨rfl, b1⟩
    have B1 := hide b1
    clear b1 C
    go_wp2_with fail
    refine wp_region_held_drew (S := fun w' => w'.cell? ⟨w.heap.size, 0, none⟩ = some (.string st) ∧ w'.cell? ⟨w.heap.size, 1, none⟩ = some (.int .i64 n1) ∧ w'.cell? ⟨w.heap.size, 2, none⟩ = some (.int .i64 n2) ∧ w'.cell? ⟨w.heap.size, 3, none⟩ = some (.int .i64 n3) ∧ w'.cell? ⟨w.heap.size, 4, none⟩ = some (.int .i64 n4) ∧ w'.cell? ⟨w.heap.size, 5, none⟩ = some (.int .i64 n5) ∧ w'.cell? ⟨w.heap.size, 6, none⟩ = some (.int .i64 n6) ∧ w'.cell? ⟨w.heap.size, 7, none⟩ = some (.int .i64 n7)) (by kernel_rfl) (Q0.out _ B1.out.drew) (fun hHeld => ?_)
    refine wpAnyH_take (i := 0) (v := (.pointer (some ⟨w.heap.size, 0, none⟩))) rfl (by kernel_rfl) (by kernel_rfl) (by kernel_rfl) (fun _ _ _ h => h) (Or.inl ⟨by rfl, ?_⟩) (by assumption) ?_
    · intro w' hSw
      (try dsimp only at hSw)
      go_simp <;> first | exact i64_in (by omega) (by omega) | exact u32_in (by omega) (by omega) | exact u32_add _ _ | (rw [Int.tmod_eq_emod_of_nonneg (by omega)]; omega) | (rw [Int.tdiv_eq_ediv_of_nonneg (by omega)]; omega) | omega
    (try simp only [Act.put, List.setIfInBounds_toArray, List.set_cons_zero, List.set_cons_succ])
    refine wpAnyH_take (i := 1) (v := (.string st)) rfl (by kernel_rfl) (by kernel_rfl) (by kernel_rfl) (fun _ _ _ h => h) (Or.inl ⟨by rfl, ?_⟩) (by assumption) ?_
    · intro w' hSw
      (try dsimp only at hSw)
      (obtain ⟨hS0, hS1, hS2, hS3, hS4, hS5, hS6, hS7⟩ := hSw; go_simp)
    (try simp only [Act.put, List.setIfInBounds_toArray, List.set_cons_zero, List.set_cons_succ])
    refine wpAnyH_take (i := 2) (v := (.string (mS0 ++ st))) rfl (by kernel_rfl) (by kernel_rfl) (by kernel_rfl) (fun _ _ _ h => h) (Or.inl ⟨by rfl, ?_⟩) (by assumption) ?_
    · intro w' hSw
      (try dsimp only at hSw)
      (go_simp; first | omega | (rw [if_neg (by (try simp only [ByteArray.size_append]); omega)]; rfl))
    (try simp only [Act.put, List.setIfInBounds_toArray, List.set_cons_zero, List.set_cons_succ])
    refine wpAnyH_take (i := 3) (v := (.string (mS0 ++ st ++ mS1))) rfl (by kernel_rfl) (by kernel_rfl) (by kernel_rfl) (fun _ _ _ h => h) (Or.inl ⟨by rfl, ?_⟩) (by assumption) ?_
    · intro w' hSw
      (try dsimp only at hSw)
      (go_simp; first | omega | (rw [if_neg (by (try simp only [ByteArray.size_append]); omega)]; rfl))
    (try simp only [Act.put, List.setIfInBounds_toArray, List.set_cons_zero, List.set_cons_succ])
    refine wpAnyH_take (i := 4) (v := (.pointer (some ⟨w.heap.size, 1, none⟩))) rfl (by kernel_rfl) (by kernel_rfl) (by kernel_rfl) (fun _ _ _ h => h) (Or.inl ⟨by rfl, ?_⟩) (by assumption) ?_
    · intro w' hSw
      (try dsimp only at hSw)
      go_simp <;> first | exact i64_in (by omega) (by omega) | exact u32_in (by omega) (by omega) | exact u32_add _ _ | (rw [Int.tmod_eq_emod_of_nonneg (by omega)]; omega) | (rw [Int.tdiv_eq_ediv_of_nonneg (by omega)]; omega) | omega
    (try simp only [Act.put, List.setIfInBounds_toArray, List.set_cons_zero, List.set_cons_succ])
    refine wpAnyH_take (i := 5) (v := (.int .i64 n1)) rfl (by kernel_rfl) (by kernel_rfl) (by kernel_rfl) (fun _ _ _ h => h) (Or.inl ⟨by rfl, ?_⟩) (by assumption) ?_
    · intro w' hSw
      (try dsimp only at hSw)
      (obtain ⟨hS0, hS1, hS2, hS3, hS4, hS5, hS6, hS7⟩ := hSw; go_simp)
    (try simp only [Act.put, List.setIfInBounds_toArray, List.set_cons_zero, List.set_cons_succ])
    refine wpAnyH_take (i := 9) (v := (.pointer (some ⟨w.heap.size, 2, none⟩))) rfl (by kernel_rfl) (by kernel_rfl) (by kernel_rfl) (fun _ _ _ h => h) (Or.inl ⟨by rfl, ?_⟩) (by assumption) ?_
    · intro w' hSw
      (try dsimp only at hSw)
      go_simp <;> first | exact i64_in (by omega) (by omega) | exact u32_in (by omega) (by omega) | exact u32_add _ _ | (rw [Int.tmod_eq_emod_of_nonneg (by omega)]; omega) | (rw [Int.tdiv_eq_ediv_of_nonneg (by omega)]; omega) | omega
    (try simp only [Act.put, List.setIfInBounds_toArray, List.set_cons_zero, List.set_cons_succ])
    refine wpAnyH_take (i := 10) (v := (.int .i64 n2)) rfl (by kernel_rfl) (by kernel_rfl) (by kernel_rfl) (fun _ _ _ h => h) (Or.inl ⟨by rfl, ?_⟩) (by assumption) ?_
    · intro w' hSw
      (try dsimp only at hSw)
      (obtain ⟨hS0, hS1, hS2, hS3, hS4, hS5, hS6, hS7⟩ := hSw; go_simp)
    (try simp only [Act.put, List.setIfInBounds_toArray, List.set_cons_zero, List.set_cons_succ])
    refine wpAnyH_ready (rs := [6]) (by kernel_rfl) (by simp) ?_
    refine AllReadyH.cons rfl (fun K hK => ?_) AllReadyH.nil
    go_simp
    refine Calls.mono (I1.out _ B1.out.drew) ?_
    rintro x w2 ⟨rfl, b2⟩
    have B2 := hide (B1.out.drew.trans (b2.mono B1.out.drew.size))
    clear b2
    refine hK.out _ _ (Q0.out _ B2.out) (fun hHeld => ?_)
    clear hK
    (try simp only [Act.put, List.setIfInBounds_toArray, List.set_cons_zero, List.set_cons_succ])
    refine wpAnyH_take (i := 7) (v := (.string (mS0 ++ st ++ mS1 ++ X1))) rfl (by kernel_rfl) (by kernel_rfl) (by kernel_rfl) (fun _ _ _ h => h) (Or.inl ⟨by rfl, ?_⟩) (by assumption) ?_
    · intro w' hSw
      (try dsimp only at hSw)
      (go_simp; first | omega | (rw [if_neg (by (try simp only [ByteArray.size_append]); omega)]; rfl))
    (try simp only [Act.put, List.setIfInBounds_toArray, List.set_cons_zero, List.set_cons_succ])
    refine wpAnyH_take (i := 8) (v := (.string (mS0 ++ st ++ mS1 ++ X1 ++ mS2))) rfl (by kernel_rfl) (by kernel_rfl) (by kernel_rfl) (fun _ _ _ h => h) (Or.inl ⟨by rfl, ?_⟩) (by assumption) ?_
    · intro w' hSw
      (try dsimp only at hSw)
      (go_simp; first | omega | (rw [if_neg (by (try simp only [ByteArray.size_append]); omega)]; rfl))
    (try simp only [Act.put, List.setIfInBounds_toArray, List.set_cons_zero, List.set_cons_succ])
    refine wpAnyH_ready (rs := [11]) (by kernel_rfl) (by simp) ?_
    refine AllReadyH.cons rfl (fun K hK => ?_) AllReadyH.nil
    go_simp
    refine Calls.mono (I2.out _ B2.out) ?_
    rintro x w3 ⟨rfl, b3⟩
    have B3 := hide (B2.out.trans (b3.mono B2.out.size))
    clear b3
    refine hK.out _ _ (Q0.out _ B3.out) (fun hHeld => ?_)
    clear hK
    (try simp only [Act.put, List.setIfInBounds_toArray, List.set_cons_zero, List.set_cons_succ])
    refine wpAnyH_take (i := 12) (v := (.string (mS0 ++ st ++ mS1 ++ X1 ++ mS2 ++ X2))) rfl (by kernel_rfl) (by kernel_rfl) (by kernel_rfl) (fun _ _ _ h => h) (Or.inl ⟨by rfl, ?_⟩) (by assumption) ?_
    · intro w' hSw
      (try dsimp only at hSw)
      (go_simp; first | omega | (rw [if_neg (by (try simp only [ByteArray.size_append]); omega)]; rfl))
    (try simp only [Act.put, List.setIfInBounds_toArray, List.set_cons_zero, List.set_cons_succ])
    refine wpAnyH_ready (rs := [13]) (by kernel_rfl) (by simp) ?_
    refine AllReadyH.cons rfl (fun K hK => ?_) AllReadyH.nil
    go_simp
    refine hK.out _ _ (Q0.out _ B3.out) (fun hHeld => ?_)
    clear hK
    (try simp only [Act.put, List.setIfInBounds_toArray, List.set_cons_zero, List.set_cons_succ])
    refine wpAnyH_done (by kernel_rfl) ?_ _
    clear hHeld
    go_simp
    go_wp2_with fail
    rw [← HY.out]
    clear I1 I2
    refine wp_region_held_drew (S := fun w' => w'.cell? ⟨w.heap.size, 0, none⟩ = some (.string st) ∧ w'.cell? ⟨w.heap.size, 1, none⟩ = some (.int .i64 n1) ∧ w'.cell? ⟨w.heap.size, 2, none⟩ = some (.int .i64 n2) ∧ w'.cell? ⟨w.heap.size, 3, none⟩ = some (.int .i64 n3) ∧ w'.cell? ⟨w.heap.size, 4, none⟩ = some (.int .i64 n4) ∧ w'.cell? ⟨w.heap.size, 5, none⟩ = some (.int .i64 n5) ∧ w'.cell? ⟨w.heap.size, 6, none⟩ = some (.int .i64 n6) ∧ w'.cell? ⟨w.heap.size, 7, none⟩ = some (.int .i64 n7)) (by kernel_rfl) (Q0.out _ B3.out.drew) (fun hHeld => ?_)
    refine wpAnyH_take (i := 0) (v := (.string Y)) rfl (by kernel_rfl) (by kernel_rfl) (by kernel_rfl) (fun _ _ _ h => h) (Or.inl ⟨by rfl, ?_⟩) (by assumption) ?_
    · intro w' hSw
      (try dsimp only at hSw)
      go_simp <;> first | exact i64_in (by omega) (by omega) | exact u32_in (by omega) (by omega) | exact u32_add _ _ | (rw [Int.tmod_eq_emod_of_nonneg (by omega)]; omega) | (rw [Int.tdiv_eq_ediv_of_nonneg (by omega)]; omega) | omega
    (try simp only [Act.put, List.setIfInBounds_toArray, List.set_cons_zero, List.set_cons_succ])
    refine wpAnyH_take (i := 1) (v := (.string (Y ++ mS3))) rfl (by kernel_rfl) (by kernel_rfl) (by kernel_rfl) (fun _ _ _ h => h) (Or.inl ⟨by rfl, ?_⟩) (by assumption) ?_
    · intro w' hSw
      (try dsimp only at hSw)
      (go_simp; first | omega | (rw [if_neg (by (try simp only [ByteArray.size_append]); omega)]; rfl))
    (try simp only [Act.put, List.setIfInBounds_toArray, List.set_cons_zero, List.set_cons_succ])
    refine wpAnyH_take (i := 2) (v := (.pointer (some ⟨w.heap.size, 3, none⟩))) rfl (by kernel_rfl) (by kernel_rfl) (by kernel_rfl) (fun _ _ _ h => h) (Or.inl ⟨by rfl, ?_⟩) (by assumption) ?_
    · intro w' hSw
      (try dsimp only at hSw)
      go_simp <;> first | exact i64_in (by omega) (by omega) | exact u32_in (by omega) (by omega) | exact u32_add _ _ | (rw [Int.tmod_eq_emod_of_nonneg (by omega)]; omega) | (rw [Int.tdiv_eq_ediv_of_nonneg (by omega)]; omega) | omega
    (try simp only [Act.put, List.setIfInBounds_toArray, List.set_cons_zero, List.set_cons_succ])
    refine wpAnyH_take (i := 3) (v := (.int .i64 n3)) rfl (by kernel_rfl) (by kernel_rfl) (by kernel_rfl) (fun _ _ _ h => h) (Or.inl ⟨by rfl, ?_⟩) (by assumption) ?_
    · intro w' hSw
      (try dsimp only at hSw)
      (obtain ⟨hS0, hS1, hS2, hS3, hS4, hS5, hS6, hS7⟩ := hSw; go_simp)
    (try simp only [Act.put, List.setIfInBounds_toArray, List.set_cons_zero, List.set_cons_succ])
    refine wpAnyH_take (i := 7) (v := (.pointer (some ⟨w.heap.size, 4, none⟩))) rfl (by kernel_rfl) (by kernel_rfl) (by kernel_rfl) (fun _ _ _ h => h) (Or.inl ⟨by rfl, ?_⟩) (by assumption) ?_
    · intro w' hSw
      (try dsimp only at hSw)
      go_simp <;> first | exact i64_in (by omega) (by omega) | exact u32_in (by omega) (by omega) | exact u32_add _ _ | (rw [Int.tmod_eq_emod_of_nonneg (by omega)]; omega) | (rw [Int.tdiv_eq_ediv_of_nonneg (by omega)]; omega) | omega
    (try simp only [Act.put, List.setIfInBounds_toArray, List.set_cons_zero, List.set_cons_succ])
    refine wpAnyH_take (i := 8) (v := (.int .i64 n4)) rfl (by kernel_rfl) (by kernel_rfl) (by kernel_rfl) (fun _ _ _ h => h) (Or.inl ⟨by rfl, ?_⟩) (by assumption) ?_
    · intro w' hSw
      (try dsimp only at hSw)
      (obtain ⟨hS0, hS1, hS2, hS3, hS4, hS5, hS6, hS7⟩ := hSw; go_simp)
    (try simp only [Act.put, List.setIfInBounds_toArray, List.set_cons_zero, List.set_cons_succ])
    refine wpAnyH_take (i := 12) (v := (.pointer (some ⟨w.heap.size, 5, none⟩))) rfl (by kernel_rfl) (by kernel_rfl) (by kernel_rfl) (fun _ _ _ h => h) (Or.inl ⟨by rfl, ?_⟩) (by assumption) ?_
    · intro w' hSw
      (try dsimp only at hSw)
      go_simp <;> first | exact i64_in (by omega) (by omega) | exact u32_in (by omega) (by omega) | exact u32_add _ _ | (rw [Int.tmod_eq_emod_of_nonneg (by omega)]; omega) | (rw [Int.tdiv_eq_ediv_of_nonneg (by omega)]; omega) | omega
    (try simp only [Act.put, List.setIfInBounds_toArray, List.set_cons_zero, List.set_cons_succ])
    refine wpAnyH_take (i := 13) (v := (.int .i64 n5)) rfl (by kernel_rfl) (by kernel_rfl) (by kernel_rfl) (fun _ _ _ h => h) (Or.inl ⟨by rfl, ?_⟩) (by assumption) ?_
    · intro w' hSw
      (try dsimp only at hSw)
      (obtain ⟨hS0, hS1, hS2, hS3, hS4, hS5, hS6, hS7⟩ := hSw; go_simp)
    (try simp only [Act.put, List.setIfInBounds_toArray, List.set_cons_zero, List.set_cons_succ])
    refine wpAnyH_ready (rs := [4]) (by kernel_rfl) (by simp) ?_
    refine AllReadyH.cons rfl (fun K hK => ?_) AllReadyH.nil
    go_simp
    refine Calls.mono (I3.out _ B3.out.drew) ?_
    rintro x w4 ⟨rfl, b4⟩
    have B4 := hide (B3.out.drew.trans (b4.mono B3.out.drew.size))
    clear b4
    refine hK.out _ _ (Q0.out _ B4.out) (fun hHeld => ?_)
    clear hK
    (try simp only [Act.put, List.setIfInBounds_toArray, List.set_cons_zero, List.set_cons_succ])
    refine wpAnyH_take (i := 5) (v := (.string (Y ++ mS3 ++ X3))) rfl (by kernel_rfl) (by kernel_rfl) (by kernel_rfl) (fun _ _ _ h => h) (Or.inl ⟨by rfl, ?_⟩) (by assumption) ?_
    · intro w' hSw
      (try dsimp only at hSw)
      (go_simp; first | omega | (rw [if_neg (by (try simp only [ByteArray.size_append]); omega)]; rfl))
    (try simp only [Act.put, List.setIfInBounds_toArray, List.set_cons_zero, List.set_cons_succ])
    refine wpAnyH_take (i := 6) (v := (.string (Y ++ mS3 ++ X3 ++ mS4))) rfl (by kernel_rfl) (by kernel_rfl) (by kernel_rfl) (fun _ _ _ h => h) (Or.inl ⟨by rfl, ?_⟩) (by assumption) ?_
    · intro w' hSw
      (try dsimp only at hSw)
      (go_simp; first | omega | (rw [if_neg (by (try simp only [ByteArray.size_append]); omega)]; rfl))
    (try simp only [Act.put, List.setIfInBounds_toArray, List.set_cons_zero, List.set_cons_succ])
    refine wpAnyH_ready (rs := [9]) (by kernel_rfl) (by simp) ?_
    refine AllReadyH.cons rfl (fun K hK => ?_) AllReadyH.nil
    go_simp
    refine Calls.mono (I4.out _ B4.out) ?_
    rintro x w5 ⟨rfl, b5⟩
    have B5 := hide (B4.out.trans (b5.mono B4.out.size))
    clear b5
    refine hK.out _ _ (Q0.out _ B5.out) (fun hHeld => ?_)
    clear hK
    (try simp only [Act.put, List.setIfInBounds_toArray, List.set_cons_zero, List.set_cons_succ])
    refine wpAnyH_take (i := 10) (v := (.string (Y ++ mS3 ++ X3 ++ mS4 ++ X4))) rfl (by kernel_rfl) (by kernel_rfl) (by kernel_rfl) (fun _ _ _ h => h) (Or.inl ⟨by rfl, ?_⟩) (by assumption) ?_
    · intro w' hSw
      (try dsimp only at hSw)
      (go_simp; first | omega | (rw [if_neg (by (try simp only [ByteArray.size_append]); omega)]; rfl))
    (try simp only [Act.put, List.setIfInBounds_toArray, List.set_cons_zero, List.set_cons_succ])
    refine wpAnyH_take (i := 11) (v := (.string (Y ++ mS3 ++ X3 ++ mS4 ++ X4 ++ mS5))) rfl (by kernel_rfl) (by kernel_rfl) (by kernel_rfl) (fun _ _ _ h => h) (Or.inl ⟨by rfl, ?_⟩) (by assumption) ?_
    · intro w' hSw
      (try dsimp only at hSw)
      (go_simp; first | omega | (rw [if_neg (by (try simp only [ByteArray.size_append]); omega)]; rfl))
    (try simp only [Act.put, List.setIfInBounds_toArray, List.set_cons_zero, List.set_cons_succ])
    refine wpAnyH_ready (rs := [14]) (by kernel_rfl) (by simp) ?_
    refine AllReadyH.cons rfl (fun K hK => ?_) AllReadyH.nil
    go_simp
    refine Calls.mono (I5.out _ B5.out) ?_
    rintro x w6 ⟨rfl, b6⟩
    have B6 := hide (B5.out.trans (b6.mono B5.out.size))
    clear b6
    refine hK.out _ _ (Q0.out _ B6.out) (fun hHeld => ?_)
    clear hK
    (try simp only [Act.put, List.setIfInBounds_toArray, List.set_cons_zero, List.set_cons_succ])
    refine wpAnyH_take (i := 15) (v := (.string (Y ++ mS3 ++ X3 ++ mS4 ++ X4 ++ mS5 ++ X5))) rfl (by kernel_rfl) (by kernel_rfl) (by kernel_rfl) (fun _ _ _ h => h) (Or.inl ⟨by rfl, ?_⟩) (by assumption) ?_
    · intro w' hSw
      (try dsimp only at hSw)
      (go_simp; first | omega | (rw [if_neg (by (try simp only [ByteArray.size_append]); omega)]; rfl))
    (try simp only [Act.put, List.setIfInBounds_toArray, List.set_cons_zero, List.set_cons_succ])
    refine wpAnyH_ready (rs := [16]) (by kernel_rfl) (by simp) ?_
    refine AllReadyH.cons rfl (fun K hK => ?_) AllReadyH.nil
    go_simp
    refine hK.out _ _ (Q0.out _ B6.out) (fun hHeld => ?_)
    clear hK
    (try simp only [Act.put, List.setIfInBounds_toArray, List.set_cons_zero, List.set_cons_succ])
    refine wpAnyH_done (by kernel_rfl) ?_ _
    clear hHeld
    go_simp
    go_wp2_with fail
    rw [← HV.out]
    clear I3 I4 I5
    refine wp_region_held_drew (S := fun w' => w'.cell? ⟨w.heap.size, 0, none⟩ = some (.string st) ∧ w'.cell? ⟨w.heap.size, 1, none⟩ = some (.int .i64 n1) ∧ w'.cell? ⟨w.heap.size, 2, none⟩ = some (.int .i64 n2) ∧ w'.cell? ⟨w.heap.size, 3, none⟩ = some (.int .i64 n3) ∧ w'.cell? ⟨w.heap.size, 4, none⟩ = some (.int .i64 n4) ∧ w'.cell? ⟨w.heap.size, 5, none⟩ = some (.int .i64 n5) ∧ w'.cell? ⟨w.heap.size, 6, none⟩ = some (.int .i64 n6) ∧ w'.cell? ⟨w.heap.size, 7, none⟩ = some (.int .i64 n7)) (by kernel_rfl) (Q0.out _ B6.out.drew) (fun hHeld => ?_)
    refine wpAnyH_take (i := 0) (v := (.string V)) rfl (by kernel_rfl) (by kernel_rfl) (by kernel_rfl) (fun _ _ _ h => h) (Or.inl ⟨by rfl, ?_⟩) (by assumption) ?_
    · intro w' hSw
      (try dsimp only at hSw)
      go_simp <;> first | exact i64_in (by omega) (by omega) | exact u32_in (by omega) (by omega) | exact u32_add _ _ | (rw [Int.tmod_eq_emod_of_nonneg (by omega)]; omega) | (rw [Int.tdiv_eq_ediv_of_nonneg (by omega)]; omega) | omega
    (try simp only [Act.put, List.setIfInBounds_toArray, List.set_cons_zero, List.set_cons_succ])
    refine wpAnyH_take (i := 1) (v := (.string (V ++ mS6))) rfl (by kernel_rfl) (by kernel_rfl) (by kernel_rfl) (fun _ _ _ h => h) (Or.inl ⟨by rfl, ?_⟩) (by assumption) ?_
    · intro w' hSw
      (try dsimp only at hSw)
      (go_simp; first | omega | (rw [if_neg (by (try simp only [ByteArray.size_append]); omega)]; rfl))
    (try simp only [Act.put, List.setIfInBounds_toArray, List.set_cons_zero, List.set_cons_succ])
    refine wpAnyH_take (i := 2) (v := (.pointer (some ⟨w.heap.size, 6, none⟩))) rfl (by kernel_rfl) (by kernel_rfl) (by kernel_rfl) (fun _ _ _ h => h) (Or.inl ⟨by rfl, ?_⟩) (by assumption) ?_
    · intro w' hSw
      (try dsimp only at hSw)
      go_simp <;> first | exact i64_in (by omega) (by omega) | exact u32_in (by omega) (by omega) | exact u32_add _ _ | (rw [Int.tmod_eq_emod_of_nonneg (by omega)]; omega) | (rw [Int.tdiv_eq_ediv_of_nonneg (by omega)]; omega) | omega
    (try simp only [Act.put, List.setIfInBounds_toArray, List.set_cons_zero, List.set_cons_succ])
    refine wpAnyH_take (i := 3) (v := (.int .i64 n6)) rfl (by kernel_rfl) (by kernel_rfl) (by kernel_rfl) (fun _ _ _ h => h) (Or.inl ⟨by rfl, ?_⟩) (by assumption) ?_
    · intro w' hSw
      (try dsimp only at hSw)
      (obtain ⟨hS0, hS1, hS2, hS3, hS4, hS5, hS6, hS7⟩ := hSw; go_simp)
    (try simp only [Act.put, List.setIfInBounds_toArray, List.set_cons_zero, List.set_cons_succ])
    refine wpAnyH_take (i := 7) (v := (.pointer (some ⟨w.heap.size, 7, none⟩))) rfl (by kernel_rfl) (by kernel_rfl) (by kernel_rfl) (fun _ _ _ h => h) (Or.inl ⟨by rfl, ?_⟩) (by assumption) ?_
    · intro w' hSw
      (try dsimp only at hSw)
      go_simp <;> first | exact i64_in (by omega) (by omega) | exact u32_in (by omega) (by omega) | exact u32_add _ _ | (rw [Int.tmod_eq_emod_of_nonneg (by omega)]; omega) | (rw [Int.tdiv_eq_ediv_of_nonneg (by omega)]; omega) | omega
    (try simp only [Act.put, List.setIfInBounds_toArray, List.set_cons_zero, List.set_cons_succ])
    refine wpAnyH_take (i := 8) (v := (.int .i64 n7)) rfl (by kernel_rfl) (by kernel_rfl) (by kernel_rfl) (fun _ _ _ h => h) (Or.inl ⟨by rfl, ?_⟩) (by assumption) ?_
    · intro w' hSw
      (try dsimp only at hSw)
      (obtain ⟨hS0, hS1, hS2, hS3, hS4, hS5, hS6, hS7⟩ := hSw; go_simp)
    (try simp only [Act.put, List.setIfInBounds_toArray, List.set_cons_zero, List.set_cons_succ])
    refine wpAnyH_ready (rs := [4]) (by kernel_rfl) (by simp) ?_
    refine AllReadyH.cons rfl (fun K hK => ?_) AllReadyH.nil
    go_simp
    refine Calls.mono (I6.out _ B6.out.drew) ?_
    rintro x w7 ⟨rfl, b7⟩
    have B7 := hide (B6.out.drew.trans (b7.mono B6.out.drew.size))
    clear b7
    refine hK.out _ _ (Q0.out _ B7.out) (fun hHeld => ?_)
    clear hK
    (try simp only [Act.put, List.setIfInBounds_toArray, List.set_cons_zero, List.set_cons_succ])
    refine wpAnyH_take (i := 5) (v := (.string (V ++ mS6 ++ X6))) rfl (by kernel_rfl) (by kernel_rfl) (by kernel_rfl) (fun _ _ _ h => h) (Or.inl ⟨by rfl, ?_⟩) (by assumption) ?_
    · intro w' hSw
      (try dsimp only at hSw)
      (go_simp; first | omega | (rw [if_neg (by (try simp only [ByteArray.size_append]); omega)]; rfl))
    (try simp only [Act.put, List.setIfInBounds_toArray, List.set_cons_zero, List.set_cons_succ])
    refine wpAnyH_take (i := 6) (v := (.string (V ++ mS6 ++ X6 ++ mS7))) rfl (by kernel_rfl) (by kernel_rfl) (by kernel_rfl) (fun _ _ _ h => h) (Or.inl ⟨by rfl, ?_⟩) (by assumption) ?_
    · intro w' hSw
      (try dsimp only at hSw)
      (go_simp; first | omega | (rw [if_neg (by (try simp only [ByteArray.size_append]); omega)]; rfl))
    (try simp only [Act.put, List.setIfInBounds_toArray, List.set_cons_zero, List.set_cons_succ])
    refine wpAnyH_ready (rs := [9]) (by kernel_rfl) (by simp) ?_
    refine AllReadyH.cons rfl (fun K hK => ?_) AllReadyH.nil
    go_simp
    refine Calls.mono (I7.out _ B7.out) ?_
    rintro x w8 ⟨rfl, b8⟩
    have B8 := hide (B7.out.trans (b8.mono B7.out.size))
    clear b8
    refine hK.out _ _ (Q0.out _ B8.out) (fun hHeld => ?_)
    clear hK
    (try simp only [Act.put, List.setIfInBounds_toArray, List.set_cons_zero, List.set_cons_succ])
    refine wpAnyH_take (i := 10) (v := (.string (V ++ mS6 ++ X6 ++ mS7 ++ X7))) rfl (by kernel_rfl) (by kernel_rfl) (by kernel_rfl) (fun _ _ _ h => h) (Or.inl ⟨by rfl, ?_⟩) (by assumption) ?_
    · intro w' hSw
      (try dsimp only at hSw)
      (go_simp; first | omega | (rw [if_neg (by (try simp only [ByteArray.size_append]); omega)]; rfl))
    (try simp only [Act.put, List.setIfInBounds_toArray, List.set_cons_zero, List.set_cons_succ])
    refine wpAnyH_take (i := 11) (v := (.string (V ++ mS6 ++ X6 ++ mS7 ++ X7 ++ nl))) rfl (by kernel_rfl) (by kernel_rfl) (by kernel_rfl) (fun _ _ _ h => h) (Or.inl ⟨by rfl, ?_⟩) (by assumption) ?_
    · intro w' hSw
      (try dsimp only at hSw)
      (go_simp; first | omega | (rw [if_neg (by (try simp only [ByteArray.size_append]); omega)]; rfl))
    (try simp only [Act.put, List.setIfInBounds_toArray, List.set_cons_zero, List.set_cons_succ])
    refine wpAnyH_ready (rs := [12]) (by kernel_rfl) (by simp) ?_
    refine AllReadyH.cons rfl (fun K hK => ?_) AllReadyH.nil
    go_simp
    refine hK.out _ _ (Q0.out _ B8.out) (fun hHeld => ?_)
    clear hK
    (try simp only [Act.put, List.setIfInBounds_toArray, List.set_cons_zero, List.set_cons_succ])
    refine wpAnyH_done (by kernel_rfl) ?_ _
    clear hHeld
    go_simp
    go_wp2_with fail
    rw [← HZ.out]
    refine Calls.mono (CL.out w8) ?_
    rintro x wz ⟨rfl, bz⟩
    have BZ := hide (B0.out.trans ((B8.out.trans (bz.mono B8.out.size)).mono B0.out.size))
    clear bz CL
    go_wp2_with fail
    go_ret2
    exact ⟨rfl, BZ.out⟩
end Go.Proofs.YtfpalfpfijcpbaaGreatDoor
