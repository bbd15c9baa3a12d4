import Derived.Test.YtgdjfocnaapooaaDoorGFeRef3
namespace Go.Proofs.YtgdjfocnaapooaaDoor
open Go.RowKit
theorem hd4 (k : Nat) (h : k ≤ 16) : (#[.int .u8 71, .int .u8 82, .int .u8 1, .int .u8 (k : Int)] : Array Value).toList = ([71, 82, 1, UInt8.ofNat k] : List UInt8).map ub := by
  simp [ub]; omega
theorem conv4 (k : Nat) (h : k ≤ 16) (w w' : World) (hb : Below (w.alloc (.cells #[.int .u8 71, .int .u8 82, .int .u8 1, .int .u8 (k : Int)] 5)).heap.size (w.alloc (.cells #[.int .u8 71, .int .u8 82, .int .u8 1, .int .u8 (k : Int)] 5)) w') : (convert 89 9 (.slice (some ⟨w.heap.size, 0, none⟩) 4 4)).run Tryd.prog w' = .ok (.string (strOf [71, 82, 1, UInt8.ofNat k])) w' := by
  have h0 := World.ownsRow_lit (base := w.heap.size) (e := 5) (size := 1) w #[.int .u8 71, .int .u8 82, .int .u8 1, .int .u8 (k : Int)] 4 (Nat.le_refl _) (by unfold maxLen; omega) rfl
  rw [hd4 k h] at h0
  have h1 := h0.kept (row := none) ⟨hb.os, hb.tape, hb.output, hb.size, fun i hi _ => hb.block i hi⟩ (.inr (by simp [Value.ownBlock]))
  exact own_conv h1 rfl Tryd.underlying89 Tryd.underlying5 Tryd.underlying9
set_option maxHeartbeats 40000000 in
set_option maxRecDepth 100000 in
set_option linter.unusedSimpArgs false in
theorem rencode_bad (m : MM) (w : World) (h : ¬ (1 ≤ m.kind ∧ m.kind ≤ 16)) :
    Calls Tryd.prog 33 #[.agg (msgV m)] w fun e w' => e = .returned (.tuple #[.string (encS m), .int .i64 (encE m)]) ∧ Below w.heap.size w w' := by
  have e1 : encS m = ⟨#[]⟩ := by unfold encS; rw [if_neg h]
  have e2 : encE m = 53 := by unfold encE; rw [if_neg h]
  rw [e1, e2]
  unfold msgV
  by_cases h1 : m.kind < 1
  · go_enter Tryd.func33, Tryd.ntmps33
    go_wp2_with fail
    go_ret2
    exact ⟨rfl, (Below.refl _ w).alloc (Nat.le_refl _) _⟩
  · have h2 : 16 < m.kind := by omega
    go_enter Tryd.func33, Tryd.ntmps33
    go_wp2_with fail
    go_ret2
    exact ⟨rfl, (Below.refl _ w).alloc (Nat.le_refl _) _⟩
set_option maxHeartbeats 40000000 in
set_option maxRecDepth 100000 in
set_option linter.unusedSimpArgs false in
theorem rencode_ok (m : MM) (k : Nat) (h1 : 1 ≤ k) (h16 : k ≤ 16) (hk : m.kind = (k : Int)) (w : World) (hT : TabR w) :
    Calls Tryd.prog 33 #[.agg (msgV m)] w fun e w' => e = .returned (.tuple #[.string (encS m), .int .i64 (encE m)]) ∧ Below w.heap.size w w' := by
  have hkr : 1 ≤ m.kind ∧ m.kind ≤ 16 := by omega
  obtain ⟨W0, hW0⟩ : ∃ W0, W0 = w.alloc (.cells (msgV m) 27) := ⟨_, rfl⟩
  have b0 : Below w.heap.size w W0 := by rw [hW0]; exact (Below.refl _ w).alloc (Nat.le_refl _) _
  have s0 : w.heap.size < W0.heap.size := by rw [hW0]; simp
  have KO : Hid (∀ w', Below W0.heap.size W0 w' → w'.heap[w.heap.size]? = some (.cells (msgV m) 27)) := fun w' hb => (hb.block _ s0).trans (by rw [hW0]; exact heap_last w _)
  have KM : Hid (∀ w', Below W0.heap.size W0 w' → w'.cell? ⟨w.heap.size, 0, none⟩ = some (.int .i64 (k : Int)) ∧ w'.cell? ⟨w.heap.size, 1, none⟩ = some (.int .i64 m.n0) ∧ w'.cell? ⟨w.heap.size, 2, none⟩ = some (.int .i64 m.n1) ∧ w'.cell? ⟨w.heap.size, 3, none⟩ = some (.int .i64 m.n2)) := fun w' hb => by
    rw [hb.cell (by exact s0), hb.cell (by exact s0), hb.cell (by exact s0), hb.cell (by exact s0), hW0, ← hk]
    exact ⟨by simp [msgV], by simp [msgV], by simp [msgV], by simp [msgV]⟩
  have VA : Hid (Calls Tryd.prog 55 #[.agg (msgV m)] W0 fun e w' => e = .returned (.bool (fitM m)) ∧ Below W0.heap.size W0 w') := by
    cases hh : headB m with
    | true => exact valid_ok m k h16 hk W0 (hT.below b0) hh
    | false =>
      have : fitM m = false := by rw [fitM_eq m k h16 hk, hh, Bool.false_and]
      rw [this]; exact valid_no m W0 hh
  have hO0 := KO.out _ (Below.refl _ _)
  obtain ⟨c0, _, _, _⟩ := KM.out _ (Below.refl _ _)
  have B0 := hide b0
  have k1 : ¬ (k : Int) < 1 := by omega
  have k2 : ¬ (16 : Int) < (k : Int) := by omega
  clear b0
  cases hfit : fitM m with
  | false =>
    have e1 : encS m = ⟨#[]⟩ := by unfold encS; rw [if_pos hkr, if_neg (by rw [hfit]; simp)]
    have e2 : encE m = 50 := by unfold encE; rw [if_pos hkr, if_neg (by rw [hfit]; simp)]
    rw [hfit] at VA
    rw [e1, e2]
    clear e1 e2 hkr
    go_enter Tryd.func33, Tryd.ntmps33
    go_upto_region 1 with fail
    rw [← hW0]
    clear hW0
    go_wp2_with (refine wpList_loadMsg rfl (.tmp 1) rfl m w.heap.size rfl hO0 ?_)
    refine Calls.mono VA.out ?_
    rintro e w1 ⟨rfl, b1⟩
    have B1 := hide (B0.out.trans (b1.mono B0.out.size))
    clear b1
    go_wp2_with fail
    go_ret2
    exact ⟨rfl, B1.out⟩
  | true =>
    have eF : (List.range 10).all (fitAt m k) = fitM m := by unfold fitM; rw [hk]; rfl
    have hfa := fitM_all (eF.trans hfit)
    have e1 : encS m = strOf (textL m) ++ strOf (le4 (crcN 0 (textL m))) := by unfold encS; rw [if_pos hkr, if_pos hfit]
    have e2 : encE m = 0 := by unfold encE; rw [if_pos hkr, if_pos hfit]
    rw [hfit] at VA
    have f0 := fit_at (hfa 0 (by omega))
    have f1' := fit_at (hfa 1 (by omega))
    have f2' := fit_at (hfa 2 (by omega))
    have q0 := mostK_num k 0
    have q1 := mostK_num k 1
    have q2 := mostK_num k 2
    obtain ⟨N0, hN0⟩ : ∃ N0 : Nat, m.n0 = (N0 : Int) := ⟨_, (Int.toNat_of_nonneg f0.1).symm⟩
    obtain ⟨N1, hN1⟩ : ∃ N1 : Nat, m.n1 = (N1 : Int) := ⟨_, (Int.toNat_of_nonneg f1'.1).symm⟩
    obtain ⟨N2, hN2⟩ : ∃ N2 : Nat, m.n2 = (N2 : Int) := ⟨_, (Int.toNat_of_nonneg f2'.1).symm⟩
    have b0' : N0 < 9223372036854775808 := by have h : m.n0 ≤ (mostK k 0 : Int) := f0.2.1; omega
    have b1' : N1 < 9223372036854775808 := by have h : m.n1 ≤ (mostK k 1 : Int) := f1'.2.1; omega
    have b2' : N2 < 9223372036854775808 := by have h : m.n2 ≤ (mostK k 2 : Int) := f2'.2.1; omega
    have hTL := textL_len m k hk h16 hfa
    have hBL : (bodyL m).length ≤ 900000 := by unfold textL at hTL; simp only [List.length_append] at hTL; omega
    have RB : Hid (∀ w', Below w.heap.size w w' → Calls Tryd.prog 56 #[.agg (msgV m)] w' fun e w'' => e = .returned (.string (strOf (bodyL m))) ∧ Below w'.heap.size w' w'') := fun w' hb => rbody_any m k h16 hk hfa w' (hT.below hb)
    have ET : Hid (strOf [71, 82, 1, UInt8.ofNat k] ++ strOf (dig 2 N0) ++ strOf (dig 2 N1) ++ strOf (dig 8 N2) ++ strOf (dig 4 (bodyL m).length) ++ strOf (bodyL m) = strOf (textL m)) := by
      show _ = _
      rw [strOf_app, strOf_app, strOf_app, strOf_app, strOf_app]
      unfold textL headL5
      rw [hk]
      have x0 : fldL m 0 = dig 2 N0 := by show dig 2 (m.n0).toNat = _; rw [hN0, Int.toNat_natCast]
      have x1 : fldL m 1 = dig 2 N1 := by show dig 2 (m.n1).toNat = _; rw [hN1, Int.toNat_natCast]
      have x2 : fldL m 2 = dig 8 N2 := by show dig 8 (m.n2).toNat = _; rw [hN2, Int.toNat_natCast]
      have xf : headF.flatMap (fldL m) = dig 2 N0 ++ (dig 2 N1 ++ dig 8 N2) := by
        unfold headF
        simp only [List.flatMap_cons, List.flatMap_nil, List.append_nil, x0, x1, x2]
      rw [xf]
      simp only [List.append_assoc]
      rfl
    have SU : Hid (∀ w', Calls Tryd.prog 58 #[.string (strOf (textL m))] w' fun e w'' => e = .returned (.string (strOf (le4 (crcN 0 (textL m))))) ∧ Below w'.heap.size w' w'') := fun w' => rsum_any (strOf (textL m)) (by rw [strOf_size]; omega) w'
    have D0 : Hid (∀ w', Calls Tryd.prog 57 #[.int .i64 (N0 : Int), .int .i64 2] w' fun e w'' => e = .returned (.string (strOf (dig 2 N0))) ∧ Below w'.heap.size w' w'') := fun w' => digits_any N0 2 (by omega) b0' w'
    have D1 : Hid (∀ w', Calls Tryd.prog 57 #[.int .i64 (N1 : Int), .int .i64 2] w' fun e w'' => e = .returned (.string (strOf (dig 2 N1))) ∧ Below w'.heap.size w' w'') := fun w' => digits_any N1 2 (by omega) b1' w'
    have D2 : Hid (∀ w', Calls Tryd.prog 57 #[.int .i64 (N2 : Int), .int .i64 8] w' fun e w'' => e = .returned (.string (strOf (dig 8 N2))) ∧ Below w'.heap.size w' w'') := fun w' => digits_any N2 8 (by omega) b2' w'
    have D3 : Hid (∀ w', Calls Tryd.prog 57 #[.int .i64 ((strOf (bodyL m)).size : Int), .int .i64 4] w' fun e w'' => e = .returned (.string (strOf (dig 4 (bodyL m).length))) ∧ Below w'.heap.size w' w'') := fun w' => by rw [strOf_size]; exact digits_any (bodyL m).length 4 (by omega) (by omega) w'
    have y0 : (strOf (dig 2 N0)).size = 2 := by rw [strOf_size, dig_len]
    have y1 : (strOf (dig 2 N1)).size = 2 := by rw [strOf_size, dig_len]
    have y2 : (strOf (dig 8 N2)).size = 8 := by rw [strOf_size, dig_len]
    have y3 : (strOf (dig 4 (bodyL m).length)).size = 4 := by rw [strOf_size, dig_len]
    have y4 : (strOf (bodyL m)).size ≤ 900000 := by rw [strOf_size]; exact hBL
    have y5 : (strOf [71, 82, 1, UInt8.ofNat k]).size = 4 := rfl
    have y6 : (strOf (textL m)).size ≤ 900000 := by rw [strOf_size]; exact hTL
    have y7 : (strOf (le4 (crcN 0 (textL m)))).size = 4 := rfl
    have CV : Hid (∀ wa w' : World, Below (wa.alloc (.cells #[.int .u8 71, .int .u8 82, .int .u8 1, .int .u8 (k : Int)] 5)).heap.size (wa.alloc (.cells #[.int .u8 71, .int .u8 82, .int .u8 1, .int .u8 (k : Int)] 5)) w' → (convert 89 9 (.slice (some ⟨wa.heap.size, 0, none⟩) 4 4)).run Tryd.prog w' = .ok (.string (strOf [71, 82, 1, UInt8.ofNat k])) w') := fun wa w' hb => conv4 k h16 wa w' hb
    rw [hN0, hN1, hN2] at KM
    clear f0 f1' f2' q0 q1 q2 b0' b1' b2' hTL hBL hfa eF hN0 hN1 hN2 hkr hT
    have E1 := hide e1
    have E2 := hide e2
    clear e1 e2
    generalize strOf [71, 82, 1, UInt8.ofNat k] = HX at *
    generalize strOf (dig 2 N0) = X0 at *
    generalize strOf (dig 2 N1) = X1 at *
    generalize strOf (dig 8 N2) = X2 at *
    generalize strOf (dig 4 (bodyL m).length) = X3 at *
    generalize strOf (bodyL m) = BX at *
    generalize strOf (le4 (crcN 0 (textL m))) = SX at *
    generalize strOf (textL m) = TX at *
    go_enter Tryd.func33, Tryd.ntmps33
    go_upto_region 1 with fail
    rw [← hW0]
    clear hW0
    go_wp2_with (refine wpList_loadMsg rfl (.tmp 1) rfl m w.heap.size rfl hO0 ?_)
    refine Calls.mono VA.out ?_
    rintro e w1 ⟨rfl, b1⟩
    have B1 := hide (B0.out.trans (b1.mono B0.out.size))
    have hO1 := KO.out _ b1
    have R1 := hide b1
    clear b1 VA hO0 c0
    go_wp2_with (refine wpList_loadMsg rfl (.tmp 1) rfl m w.heap.size rfl hO1 ?_)
    refine Calls.mono (RB.out _ B1.out) ?_
    rintro e w4 ⟨rfl, b4⟩
    have B4 := hide (B1.out.trans (b4.mono B1.out.size))
    have R4 := hide (R1.out.trans (b4.mono R1.out.size))
    clear b4 RB hO1
    have Q4 : Hid (∀ w', Below w4.heap.size w4 w' → w'.cell? ⟨w.heap.size, 0, none⟩ = some (.int .i64 (k : Int)) ∧ w'.cell? ⟨w.heap.size, 1, none⟩ = some (.int .i64 (N0 : Int)) ∧ w'.cell? ⟨w.heap.size, 2, none⟩ = some (.int .i64 (N1 : Int)) ∧ w'.cell? ⟨w.heap.size, 3, none⟩ = some (.int .i64 (N2 : Int))) := fun w' hb => KM.out _ (R4.out.trans (hb.mono R4.out.size))
    have FB : Hid (∀ w', Below w4.heap.size w4 w' → Below w.heap.size w w') := fun w' hb => B4.out.trans (hb.mono B4.out.size)
    clear R1 R4 KM KO B0 B1 B4
    go_wp2_with fail
    have Z0 := hide (Below.refl w4.heap.size w4).drew
    refine wp_region_held_drew (S := fun w' => w'.cell? ⟨w.heap.size, 0, none⟩ = some (.int .i64 (k : Int)) ∧ w'.cell? ⟨w.heap.size, 1, none⟩ = some (.int .i64 (N0 : Int)) ∧ w'.cell? ⟨w.heap.size, 2, none⟩ = some (.int .i64 (N1 : Int)) ∧ w'.cell? ⟨w.heap.size, 3, none⟩ = some (.int .i64 (N2 : Int))) (by kernel_rfl) (Q4.out _ Z0.out) (fun hHeld => ?_)
    refine wpAnyH_take (i := 0) (v := (.pointer (some ⟨w.heap.size, 0, none⟩))) rfl (by kernel_rfl) (by kernel_rfl) (by kernel_rfl) (fun _ _ _ h => h) (Or.inl ⟨by rfl, ?_⟩) (by assumption) ?_
    · intro w' hSw
      (try dsimp only at hSw)
      go_simp <;> first | exact i64_in (by omega) (by omega) | exact u32_in (by omega) (by omega) | exact u32_add _ _ | (rw [Int.tmod_eq_emod_of_nonneg (by omega)]; omega) | (rw [Int.tdiv_eq_ediv_of_nonneg (by omega)]; omega) | omega
    (try simp only [Act.put, List.setIfInBounds_toArray, List.set_cons_zero, List.set_cons_succ])
    refine wpAnyH_take (i := 1) (v := (.int .i64 (k : Int))) rfl (by kernel_rfl) (by kernel_rfl) (by kernel_rfl) (fun _ _ _ h => h) (Or.inl ⟨by rfl, ?_⟩) (by assumption) ?_
    · intro w' hSw
      (try dsimp only at hSw)
      (obtain ⟨hS1, hS2, hS3, hS4⟩ := hSw; go_simp)
    (try simp only [Act.put, List.setIfInBounds_toArray, List.set_cons_zero, List.set_cons_succ])
    refine wpAnyH_take (i := 2) (v := (.int .u8 (k : Int))) rfl (by kernel_rfl) (by kernel_rfl) (by kernel_rfl) (fun _ _ _ h => h) (Or.inl ⟨by rfl, ?_⟩) (by assumption) ?_
    · intro w' hSw
      (try dsimp only at hSw)
      (go_simp; exact u8_in (by omega) (by omega))
    (try simp only [Act.put, List.setIfInBounds_toArray, List.set_cons_zero, List.set_cons_succ])
    refine wpAnyH_take (i := 5) (v := (.pointer (some ⟨w.heap.size, 1, none⟩))) rfl (by kernel_rfl) (by kernel_rfl) (by kernel_rfl) (fun _ _ _ h => h) (Or.inl ⟨by rfl, ?_⟩) (by assumption) ?_
    · intro w' hSw
      (try dsimp only at hSw)
      go_simp <;> first | exact i64_in (by omega) (by omega) | exact u32_in (by omega) (by omega) | exact u32_add _ _ | (rw [Int.tmod_eq_emod_of_nonneg (by omega)]; omega) | (rw [Int.tdiv_eq_ediv_of_nonneg (by omega)]; omega) | omega
    (try simp only [Act.put, List.setIfInBounds_toArray, List.set_cons_zero, List.set_cons_succ])
    refine wpAnyH_take (i := 6) (v := (.int .i64 (N0 : Int))) rfl (by kernel_rfl) (by kernel_rfl) (by kernel_rfl) (fun _ _ _ h => h) (Or.inl ⟨by rfl, ?_⟩) (by assumption) ?_
    · intro w' hSw
      (try dsimp only at hSw)
      (obtain ⟨hS1, hS2, hS3, hS4⟩ := hSw; go_simp)
    (try simp only [Act.put, List.setIfInBounds_toArray, List.set_cons_zero, List.set_cons_succ])
    refine wpAnyH_take (i := 9) (v := (.pointer (some ⟨w.heap.size, 2, none⟩))) rfl (by kernel_rfl) (by kernel_rfl) (by kernel_rfl) (fun _ _ _ h => h) (Or.inl ⟨by rfl, ?_⟩) (by assumption) ?_
    · intro w' hSw
      (try dsimp only at hSw)
      go_simp <;> first | exact i64_in (by omega) (by omega) | exact u32_in (by omega) (by omega) | exact u32_add _ _ | (rw [Int.tmod_eq_emod_of_nonneg (by omega)]; omega) | (rw [Int.tdiv_eq_ediv_of_nonneg (by omega)]; omega) | omega
    (try simp only [Act.put, List.setIfInBounds_toArray, List.set_cons_zero, List.set_cons_succ])
    refine wpAnyH_take (i := 10) (v := (.int .i64 (N1 : Int))) rfl (by kernel_rfl) (by kernel_rfl) (by kernel_rfl) (fun _ _ _ h => h) (Or.inl ⟨by rfl, ?_⟩) (by assumption) ?_
    · intro w' hSw
      (try dsimp only at hSw)
      (obtain ⟨hS1, hS2, hS3, hS4⟩ := hSw; go_simp)
    (try simp only [Act.put, List.setIfInBounds_toArray, List.set_cons_zero, List.set_cons_succ])
    refine wpAnyH_take (i := 13) (v := (.pointer (some ⟨w.heap.size, 3, none⟩))) rfl (by kernel_rfl) (by kernel_rfl) (by kernel_rfl) (fun _ _ _ h => h) (Or.inl ⟨by rfl, ?_⟩) (by assumption) ?_
    · intro w' hSw
      (try dsimp only at hSw)
      go_simp <;> first | exact i64_in (by omega) (by omega) | exact u32_in (by omega) (by omega) | exact u32_add _ _ | (rw [Int.tmod_eq_emod_of_nonneg (by omega)]; omega) | (rw [Int.tdiv_eq_ediv_of_nonneg (by omega)]; omega) | omega
    (try simp only [Act.put, List.setIfInBounds_toArray, List.set_cons_zero, List.set_cons_succ])
    refine wpAnyH_take (i := 14) (v := (.int .i64 (N2 : Int))) rfl (by kernel_rfl) (by kernel_rfl) (by kernel_rfl) (fun _ _ _ h => h) (Or.inl ⟨by rfl, ?_⟩) (by assumption) ?_
    · intro w' hSw
      (try dsimp only at hSw)
      (obtain ⟨hS1, hS2, hS3, hS4⟩ := hSw; go_simp)
    (try simp only [Act.put, List.setIfInBounds_toArray, List.set_cons_zero, List.set_cons_succ])
    refine wpAnyH_take (i := 17) (v := (.string BX)) rfl (by kernel_rfl) (by kernel_rfl) (by kernel_rfl) (fun _ _ _ h => h) (Or.inl ⟨by rfl, ?_⟩) (by assumption) ?_
    · intro w' hSw
      (try dsimp only at hSw)
      go_simp <;> first | exact i64_in (by omega) (by omega) | exact u32_in (by omega) (by omega) | exact u32_add _ _ | (rw [Int.tmod_eq_emod_of_nonneg (by omega)]; omega) | (rw [Int.tdiv_eq_ediv_of_nonneg (by omega)]; omega) | omega
    (try simp only [Act.put, List.setIfInBounds_toArray, List.set_cons_zero, List.set_cons_succ])
    refine wpAnyH_take (i := 18) (v := (.int .i64 (BX.size : Int))) rfl (by kernel_rfl) (by kernel_rfl) (by kernel_rfl) (fun _ _ _ h => h) (Or.inl ⟨by rfl, ?_⟩) (by assumption) ?_
    · intro w' hSw
      (try dsimp only at hSw)
      go_simp <;> first | exact i64_in (by omega) (by omega) | exact u32_in (by omega) (by omega) | exact u32_add _ _ | (rw [Int.tmod_eq_emod_of_nonneg (by omega)]; omega) | (rw [Int.tdiv_eq_ediv_of_nonneg (by omega)]; omega) | omega
    (try simp only [Act.put, List.setIfInBounds_toArray, List.set_cons_zero, List.set_cons_succ])
    refine wpAnyH_take (i := 21) (v := (.string BX)) rfl (by kernel_rfl) (by kernel_rfl) (by kernel_rfl) (fun _ _ _ h => h) (Or.inl ⟨by rfl, ?_⟩) (by assumption) ?_
    · intro w' hSw
      (try dsimp only at hSw)
      go_simp <;> first | exact i64_in (by omega) (by omega) | exact u32_in (by omega) (by omega) | exact u32_add _ _ | (rw [Int.tmod_eq_emod_of_nonneg (by omega)]; omega) | (rw [Int.tdiv_eq_ediv_of_nonneg (by omega)]; omega) | omega
    (try simp only [Act.put, List.setIfInBounds_toArray, List.set_cons_zero, List.set_cons_succ])
    refine wpAnyH_ready (rs := [3, 7]) (by kernel_rfl) (by simp) ?_
    refine AllReadyH.cons rfl (fun K hK => ?_) (AllReadyH.cons rfl (fun K hK => ?_) AllReadyH.nil)
    · go_simp
      have Z1 := hide (Z0.out.alloc Z0.out.size (.cells #[.int .u8 71, .int .u8 82, .int .u8 1, .int .u8 (k : Int)] 5))
      refine hK.out _ _ (Q4.out _ Z1.out) (fun hHeld => ?_)
      clear hK
      (try simp only [Act.put, List.setIfInBounds_toArray, List.set_cons_zero, List.set_cons_succ])
      have RW1 := hide (Below.refl (w4.drew.alloc (.cells #[.int .u8 71, .int .u8 82, .int .u8 1, .int .u8 (k : Int)] 5)).heap.size (w4.drew.alloc (.cells #[.int .u8 71, .int .u8 82, .int .u8 1, .int .u8 (k : Int)] 5)))
      refine wpAnyH_ready (rs := [4, 7]) (by kernel_rfl) (by simp) ?_
      refine AllReadyH.cons rfl (fun K hK => ?_) (AllReadyH.cons rfl (fun K hK => ?_) AllReadyH.nil)
      · have hcv : (convert 89 9 (.slice (some ⟨w4.heap.size, 0, none⟩) 4 4)).run Tryd.prog (w4.drew.alloc (.cells #[.int .u8 71, .int .u8 82, .int .u8 1, .int .u8 (k : Int)] 5)) = .ok (.string HX) (w4.drew.alloc (.cells #[.int .u8 71, .int .u8 82, .int .u8 1, .int .u8 (k : Int)] 5)) := CV.out (w4.drew) _ RW1.out
        have hcv2 : (convert 89 9 (.slice (some ⟨w4.heap.size, 0, none⟩) 4 4)).run Tryd.prog ((w4.alloc (.cells #[.int .u8 71, .int .u8 82, .int .u8 1, .int .u8 (k : Int)] 5)).drew) = .ok (.string HX) ((w4.alloc (.cells #[.int .u8 71, .int .u8 82, .int .u8 1, .int .u8 (k : Int)] 5)).drew) := hcv
        go_simp
        clear hcv
        refine hK.out _ _ (Q4.out _ Z1.out) (fun hHeld => ?_)
        clear hK
        (try simp only [Act.put, List.setIfInBounds_toArray, List.set_cons_zero, List.set_cons_succ])
        refine wpAnyH_ready (rs := [7]) (by kernel_rfl) (by simp) ?_
        refine AllReadyH.cons rfl (fun K hK => ?_) AllReadyH.nil
        go_simp
        refine Calls.mono (D0.out _) ?_
        rintro e wx2 ⟨rfl, bx⟩
        have Z2 := hide (Z1.out.trans (bx.mono Z1.out.size))
        clear bx
        refine hK.out _ _ (Q4.out _ Z2.out) (fun hHeld => ?_)
        clear hK
        (try simp only [Act.put, List.setIfInBounds_toArray, List.set_cons_zero, List.set_cons_succ])
        refine wpAnyH_take (i := 8) (v := (.string (HX ++ X0))) rfl (by kernel_rfl) (by kernel_rfl) (by kernel_rfl) (fun _ _ _ h => h) (Or.inl ⟨by rfl, ?_⟩) (by assumption) ?_
        · intro w' hSw
          (try dsimp only at hSw)
          (go_simp <;> first | omega | (rw [if_neg (by (try simp only [ByteArray.size_append]); omega)]; rfl))
        (try simp only [Act.put, List.setIfInBounds_toArray, List.set_cons_zero, List.set_cons_succ])
        refine wpAnyH_ready (rs := [11]) (by kernel_rfl) (by simp) ?_
        refine AllReadyH.cons rfl (fun K hK => ?_) AllReadyH.nil
        go_simp
        refine Calls.mono (D1.out _) ?_
        rintro e wx3 ⟨rfl, bx⟩
        have Z3 := hide (Z2.out.trans (bx.mono Z2.out.size))
        clear bx
        refine hK.out _ _ (Q4.out _ Z3.out) (fun hHeld => ?_)
        clear hK
        (try simp only [Act.put, List.setIfInBounds_toArray, List.set_cons_zero, List.set_cons_succ])
        refine wpAnyH_take (i := 12) (v := (.string (HX ++ X0 ++ X1))) rfl (by kernel_rfl) (by kernel_rfl) (by kernel_rfl) (fun _ _ _ h => h) (Or.inl ⟨by rfl, ?_⟩) (by assumption) ?_
        · intro w' hSw
          (try dsimp only at hSw)
          (go_simp <;> first | omega | (rw [if_neg (by (try simp only [ByteArray.size_append]); omega)]; rfl))
        (try simp only [Act.put, List.setIfInBounds_toArray, List.set_cons_zero, List.set_cons_succ])
        refine wpAnyH_ready (rs := [15]) (by kernel_rfl) (by simp) ?_
        refine AllReadyH.cons rfl (fun K hK => ?_) AllReadyH.nil
        go_simp
        refine Calls.mono (D2.out _) ?_
        rintro e wx4 ⟨rfl, bx⟩
        have Z4 := hide (Z3.out.trans (bx.mono Z3.out.size))
        clear bx
        refine hK.out _ _ (Q4.out _ Z4.out) (fun hHeld => ?_)
        clear hK
        (try simp only [Act.put, List.setIfInBounds_toArray, List.set_cons_zero, List.set_cons_succ])
        refine wpAnyH_take (i := 16) (v := (.string (HX ++ X0 ++ X1 ++ X2))) rfl (by kernel_rfl) (by kernel_rfl) (by kernel_rfl) (fun _ _ _ h => h) (Or.inl ⟨by rfl, ?_⟩) (by assumption) ?_
        · intro w' hSw
          (try dsimp only at hSw)
          (go_simp <;> first | omega | (rw [if_neg (by (try simp only [ByteArray.size_append]); omega)]; rfl))
        (try simp only [Act.put, List.setIfInBounds_toArray, List.set_cons_zero, List.set_cons_succ])
        refine wpAnyH_ready (rs := [19]) (by kernel_rfl) (by simp) ?_
        refine AllReadyH.cons rfl (fun K hK => ?_) AllReadyH.nil
        go_simp
        refine Calls.mono (D3.out _) ?_
        rintro e wx5 ⟨rfl, bx⟩
        have Z5 := hide (Z4.out.trans (bx.mono Z4.out.size))
        clear bx
        refine hK.out _ _ (Q4.out _ Z5.out) (fun hHeld => ?_)
        clear hK
        (try simp only [Act.put, List.setIfInBounds_toArray, List.set_cons_zero, List.set_cons_succ])
        refine wpAnyH_take (i := 20) (v := (.string (HX ++ X0 ++ X1 ++ X2 ++ X3))) rfl (by kernel_rfl) (by kernel_rfl) (by kernel_rfl) (fun _ _ _ h => h) (Or.inl ⟨by rfl, ?_⟩) (by assumption) ?_
        · intro w' hSw
          (try dsimp only at hSw)
          (go_simp <;> first | omega | (rw [if_neg (by (try simp only [ByteArray.size_append]); omega)]; rfl))
        (try simp only [Act.put, List.setIfInBounds_toArray, List.set_cons_zero, List.set_cons_succ])
        refine wpAnyH_take (i := 22) (v := (.string (HX ++ X0 ++ X1 ++ X2 ++ X3 ++ BX))) rfl (by kernel_rfl) (by kernel_rfl) (by kernel_rfl) (fun _ _ _ h => h) (Or.inl ⟨by rfl, ?_⟩) (by assumption) ?_
        · intro w' hSw
          (try dsimp only at hSw)
          (go_simp <;> first | omega | (rw [if_neg (by (try simp only [ByteArray.size_append]); omega)]; rfl))
        (try simp only [Act.put, List.setIfInBounds_toArray, List.set_cons_zero, List.set_cons_succ])
        refine wpAnyH_ready (rs := [23]) (by kernel_rfl) (by simp) ?_
        refine AllReadyH.cons rfl (fun K hK => ?_) AllReadyH.nil
        go_simp
        refine hK.out _ _ (Q4.out _ Z5.out) (fun hHeld => ?_)
        clear hK
        (try simp only [Act.put, List.setIfInBounds_toArray, List.set_cons_zero, List.set_cons_succ])
        refine wpAnyH_done (by kernel_rfl) ?_ _
        clear hHeld
        rw [ET.out]
        go_wp2_with fail
        refine Calls.mono (SU.out _) ?_
        rintro e w9 ⟨rfl, b9⟩
        have G9 := hide ((FB.out _ Z5.out).trans (b9.mono (FB.out _ Z5.out).size))
        clear b9
        go_wp2_with fail
        go_ret2
        exact ⟨by rw [E1.out, E2.out]; rfl, G9.out⟩
      · go_simp
        refine Calls.mono (D0.out _) ?_
        rintro e wx6 ⟨rfl, bx⟩
        have Z6 := hide (Z1.out.trans (bx.mono Z1.out.size))
        have RW6 := hide (RW1.out.trans (bx.mono RW1.out.size))
        clear bx
        refine hK.out _ _ (Q4.out _ Z6.out) (fun hHeld => ?_)
        clear hK
        (try simp only [Act.put, List.setIfInBounds_toArray, List.set_cons_zero, List.set_cons_succ])
        refine wpAnyH_ready (rs := [4, 11]) (by kernel_rfl) (by simp) ?_
        refine AllReadyH.cons rfl (fun K hK => ?_) (AllReadyH.cons rfl (fun K hK => ?_) AllReadyH.nil)
        · have hcv : (convert 89 9 (.slice (some ⟨w4.heap.size, 0, none⟩) 4 4)).run Tryd.prog wx6 = .ok (.string HX) wx6 := CV.out (w4.drew) _ RW6.out
          go_simp
          clear hcv
          refine hK.out _ _ (Q4.out _ Z6.out) (fun hHeld => ?_)
          clear hK
          (try simp only [Act.put, List.setIfInBounds_toArray, List.set_cons_zero, List.set_cons_succ])
          refine wpAnyH_take (i := 8) (v := (.string (HX ++ X0))) rfl (by kernel_rfl) (by kernel_rfl) (by kernel_rfl) (fun _ _ _ h => h) (Or.inl ⟨by rfl, ?_⟩) (by assumption) ?_
          · intro w' hSw
            (try dsimp only at hSw)
            (go_simp <;> first | omega | (rw [if_neg (by (try simp only [ByteArray.size_append]); omega)]; rfl))
          (try simp only [Act.put, List.setIfInBounds_toArray, List.set_cons_zero, List.set_cons_succ])
          refine wpAnyH_ready (rs := [11]) (by kernel_rfl) (by simp) ?_
          refine AllReadyH.cons rfl (fun K hK => ?_) AllReadyH.nil
          go_simp
          refine Calls.mono (D1.out _) ?_
          rintro e wx7 ⟨rfl, bx⟩
          have Z7 := hide (Z6.out.trans (bx.mono Z6.out.size))
          clear bx
          refine hK.out _ _ (Q4.out _ Z7.out) (fun hHeld => ?_)
          clear hK
          (try simp only [Act.put, List.setIfInBounds_toArray, List.set_cons_zero, List.set_cons_succ])
          refine wpAnyH_take (i := 12) (v := (.string (HX ++ X0 ++ X1))) rfl (by kernel_rfl) (by kernel_rfl) (by kernel_rfl) (fun _ _ _ h => h) (Or.inl ⟨by rfl, ?_⟩) (by assumption) ?_
          · intro w' hSw
            (try dsimp only at hSw)
            (go_simp <;> first | omega | (rw [if_neg (by (try simp only [ByteArray.size_append]); omega)]; rfl))
          (try simp only [Act.put, List.setIfInBounds_toArray, List.set_cons_zero, List.set_cons_succ])
          refine wpAnyH_ready (rs := [15]) (by kernel_rfl) (by simp) ?_
          refine AllReadyH.cons rfl (fun K hK => ?_) AllReadyH.nil
          go_simp
          refine Calls.mono (D2.out _) ?_
          rintro e wx8 ⟨rfl, bx⟩
          have Z8 := hide (Z7.out.trans (bx.mono Z7.out.size))
          clear bx
          refine hK.out _ _ (Q4.out _ Z8.out) (fun hHeld => ?_)
          clear hK
          (try simp only [Act.put, List.setIfInBounds_toArray, List.set_cons_zero, List.set_cons_succ])
          refine wpAnyH_take (i := 16) (v := (.string (HX ++ X0 ++ X1 ++ X2))) rfl (by kernel_rfl) (by kernel_rfl) (by kernel_rfl) (fun _ _ _ h => h) (Or.inl ⟨by rfl, ?_⟩) (by assumption) ?_
          · intro w' hSw
            (try dsimp only at hSw)
            (go_simp <;> first | omega | (rw [if_neg (by (try simp only [ByteArray.size_append]); omega)]; rfl))
          (try simp only [Act.put, List.setIfInBounds_toArray, List.set_cons_zero, List.set_cons_succ])
          refine wpAnyH_ready (rs := [19]) (by kernel_rfl) (by simp) ?_
          refine AllReadyH.cons rfl (fun K hK => ?_) AllReadyH.nil
          go_simp
          refine Calls.mono (D3.out _) ?_
          rintro e wx9 ⟨rfl, bx⟩
          have Z9 := hide (Z8.out.trans (bx.mono Z8.out.size))
          clear bx
          refine hK.out _ _ (Q4.out _ Z9.out) (fun hHeld => ?_)
          clear hK
          (try simp only [Act.put, List.setIfInBounds_toArray, List.set_cons_zero, List.set_cons_succ])
          refine wpAnyH_take (i := 20) (v := (.string (HX ++ X0 ++ X1 ++ X2 ++ X3))) rfl (by kernel_rfl) (by kernel_rfl) (by kernel_rfl) (fun _ _ _ h => h) (Or.inl ⟨by rfl, ?_⟩) (by assumption) ?_
          · intro w' hSw
            (try dsimp only at hSw)
            (go_simp <;> first | omega | (rw [if_neg (by (try simp only [ByteArray.size_append]); omega)]; rfl))
          (try simp only [Act.put, List.setIfInBounds_toArray, List.set_cons_zero, List.set_cons_succ])
          refine wpAnyH_take (i := 22) (v := (.string (HX ++ X0 ++ X1 ++ X2 ++ X3 ++ BX))) rfl (by kernel_rfl) (by kernel_rfl) (by kernel_rfl) (fun _ _ _ h => h) (Or.inl ⟨by rfl, ?_⟩) (by assumption) ?_
          · intro w' hSw
            (try dsimp only at hSw)
            (go_simp <;> first | omega | (rw [if_neg (by (try simp only [ByteArray.size_append]); omega)]; rfl))
          (try simp only [Act.put, List.setIfInBounds_toArray, List.set_cons_zero, List.set_cons_succ])
          refine wpAnyH_ready (rs := [23]) (by kernel_rfl) (by simp) ?_
          refine AllReadyH.cons rfl (fun K hK => ?_) AllReadyH.nil
          go_simp
          refine hK.out _ _ (Q4.out _ Z9.out) (fun hHeld => ?_)
          clear hK
          (try simp only [Act.put, List.setIfInBounds_toArray, List.set_cons_zero, List.set_cons_succ])
          refine wpAnyH_done (by kernel_rfl) ?_ _
          clear hHeld
          rw [ET.out]
          go_wp2_with fail
          refine Calls.mono (SU.out _) ?_
          rintro e w9 ⟨rfl, b9⟩
          have G9 := hide ((FB.out _ Z9.out).trans (b9.mono (FB.out _ Z9.out).size))
          clear b9
          go_wp2_with fail
          go_ret2
          exact ⟨by rw [E1.out, E2.out]; rfl, G9.out⟩
        · go_simp
          refine Calls.mono (D1.out _) ?_
          rintro e wx10 ⟨rfl, bx⟩
          have Z10 := hide (Z6.out.trans (bx.mono Z6.out.size))
          have RW10 := hide (RW6.out.trans (bx.mono RW6.out.size))
          clear bx
          refine hK.out _ _ (Q4.out _ Z10.out) (fun hHeld => ?_)
          clear hK
          (try simp only [Act.put, List.setIfInBounds_toArray, List.set_cons_zero, List.set_cons_succ])
          refine wpAnyH_ready (rs := [4, 15]) (by kernel_rfl) (by simp) ?_
          refine AllReadyH.cons rfl (fun K hK => ?_) (AllReadyH.cons rfl (fun K hK => ?_) AllReadyH.nil)
          · have hcv : (convert 89 9 (.slice (some ⟨w4.heap.size, 0, none⟩) 4 4)).run Tryd.prog wx10 = .ok (.string HX) wx10 := CV.out (w4.drew) _ RW10.out
            go_simp
            clear hcv
            refine hK.out _ _ (Q4.out _ Z10.out) (fun hHeld => ?_)
            clear hK
            (try simp only [Act.put, List.setIfInBounds_toArray, List.set_cons_zero, List.set_cons_succ])
            refine wpAnyH_take (i := 8) (v := (.string (HX ++ X0))) rfl (by kernel_rfl) (by kernel_rfl) (by kernel_rfl) (fun _ _ _ h => h) (Or.inl ⟨by rfl, ?_⟩) (by assumption) ?_
            · intro w' hSw
              (try dsimp only at hSw)
              (go_simp <;> first | omega | (rw [if_neg (by (try simp only [ByteArray.size_append]); omega)]; rfl))
            (try simp only [Act.put, List.setIfInBounds_toArray, List.set_cons_zero, List.set_cons_succ])
            refine wpAnyH_take (i := 12) (v := (.string (HX ++ X0 ++ X1))) rfl (by kernel_rfl) (by kernel_rfl) (by kernel_rfl) (fun _ _ _ h => h) (Or.inl ⟨by rfl, ?_⟩) (by assumption) ?_
            · intro w' hSw
              (try dsimp only at hSw)
              (go_simp <;> first | omega | (rw [if_neg (by (try simp only [ByteArray.size_append]); omega)]; rfl))
            (try simp only [Act.put, List.setIfInBounds_toArray, List.set_cons_zero, List.set_cons_succ])
            refine wpAnyH_ready (rs := [15]) (by kernel_rfl) (by simp) ?_
            refine AllReadyH.cons rfl (fun K hK => ?_) AllReadyH.nil
            go_simp
            refine Calls.mono (D2.out _) ?_
            rintro e wx11 ⟨rfl, bx⟩
            have Z11 := hide (Z10.out.trans (bx.mono Z10.out.size))
            clear bx
            refine hK.out _ _ (Q4.out _ Z11.out) (fun hHeld => ?_)
            clear hK
            (try simp only [Act.put, List.setIfInBounds_toArray, List.set_cons_zero, List.set_cons_succ])
            refine wpAnyH_take (i := 16) (v := (.string (HX ++ X0 ++ X1 ++ X2))) rfl (by kernel_rfl) (by kernel_rfl) (by kernel_rfl) (fun _ _ _ h => h) (Or.inl ⟨by rfl, ?_⟩) (by assumption) ?_
            · intro w' hSw
              (try dsimp only at hSw)
              (go_simp <;> first | omega | (rw [if_neg (by (try simp only [ByteArray.size_append]); omega)]; rfl))
            (try simp only [Act.put, List.setIfInBounds_toArray, List.set_cons_zero, List.set_cons_succ])
            refine wpAnyH_ready (rs := [19]) (by kernel_rfl) (by simp) ?_
            refine AllReadyH.cons rfl (fun K hK => ?_) AllReadyH.nil
            go_simp
            refine Calls.mono (D3.out _) ?_
            rintro e wx12 ⟨rfl, bx⟩
            have Z12 := hide (Z11.out.trans (bx.mono Z11.out.size))
            clear bx
            refine hK.out _ _ (Q4.out _ Z12.out) (fun hHeld => ?_)
            clear hK
            (try simp only [Act.put, List.setIfInBounds_toArray, List.set_cons_zero, List.set_cons_succ])
            refine wpAnyH_take (i := 20) (v := (.string (HX ++ X0 ++ X1 ++ X2 ++ X3))) rfl (by kernel_rfl) (by kernel_rfl) (by kernel_rfl) (fun _ _ _ h => h) (Or.inl ⟨by rfl, ?_⟩) (by assumption) ?_
            · intro w' hSw
              (try dsimp only at hSw)
              (go_simp <;> first | omega | (rw [if_neg (by (try simp only [ByteArray.size_append]); omega)]; rfl))
            (try simp only [Act.put, List.setIfInBounds_toArray, List.set_cons_zero, List.set_cons_succ])
            refine wpAnyH_take (i := 22) (v := (.string (HX ++ X0 ++ X1 ++ X2 ++ X3 ++ BX))) rfl (by kernel_rfl) (by kernel_rfl) (by kernel_rfl) (fun _ _ _ h => h) (Or.inl ⟨by rfl, ?_⟩) (by assumption) ?_
            · intro w' hSw
              (try dsimp only at hSw)
              (go_simp <;> first | omega | (rw [if_neg (by (try simp only [ByteArray.size_append]); omega)]; rfl))
            (try simp only [Act.put, List.setIfInBounds_toArray, List.set_cons_zero, List.set_cons_succ])
            refine wpAnyH_ready (rs := [23]) (by kernel_rfl) (by simp) ?_
            refine AllReadyH.cons rfl (fun K hK => ?_) AllReadyH.nil
            go_simp
            refine hK.out _ _ (Q4.out _ Z12.out) (fun hHeld => ?_)
            clear hK
            (try simp only [Act.put, List.setIfInBounds_toArray, List.set_cons_zero, List.set_cons_succ])
            refine wpAnyH_done (by kernel_rfl) ?_ _
            clear hHeld
            rw [ET.out]
            go_wp2_with fail
            refine Calls.mono (SU.out _) ?_
            rintro e w9 ⟨rfl, b9⟩
            have G9 := hide ((FB.out _ Z12.out).trans (b9.mono (FB.out _ Z12.out).size))
            clear b9
            go_wp2_with fail
            go_ret2
            exact ⟨by rw [E1.out, E2.out]; rfl, G9.out⟩
          · go_simp
            refine Calls.mono (D2.out _) ?_
            rintro e wx13 ⟨rfl, bx⟩
            have Z13 := hide (Z10.out.trans (bx.mono Z10.out.size))
            have RW13 := hide (RW10.out.trans (bx.mono RW10.out.size))
            clear bx
            refine hK.out _ _ (Q4.out _ Z13.out) (fun hHeld => ?_)
            clear hK
            (try simp only [Act.put, List.setIfInBounds_toArray, List.set_cons_zero, List.set_cons_succ])
            refine wpAnyH_ready (rs := [4, 19]) (by kernel_rfl) (by simp) ?_
            refine AllReadyH.cons rfl (fun K hK => ?_) (AllReadyH.cons rfl (fun K hK => ?_) AllReadyH.nil)
            · have hcv : (convert 89 9 (.slice (some ⟨w4.heap.size, 0, none⟩) 4 4)).run Tryd.prog wx13 = .ok (.string HX) wx13 := CV.out (w4.drew) _ RW13.out
              go_simp
              clear hcv
              refine hK.out _ _ (Q4.out _ Z13.out) (fun hHeld => ?_)
              clear hK
              (try simp only [Act.put, List.setIfInBounds_toArray, List.set_cons_zero, List.set_cons_succ])
              refine wpAnyH_take (i := 8) (v := (.string (HX ++ X0))) rfl (by kernel_rfl) (by kernel_rfl) (by kernel_rfl) (fun _ _ _ h => h) (Or.inl ⟨by rfl, ?_⟩) (by assumption) ?_
              · intro w' hSw
                (try dsimp only at hSw)
                (go_simp <;> first | omega | (rw [if_neg (by (try simp only [ByteArray.size_append]); omega)]; rfl))
              (try simp only [Act.put, List.setIfInBounds_toArray, List.set_cons_zero, List.set_cons_succ])
              refine wpAnyH_take (i := 12) (v := (.string (HX ++ X0 ++ X1))) rfl (by kernel_rfl) (by kernel_rfl) (by kernel_rfl) (fun _ _ _ h => h) (Or.inl ⟨by rfl, ?_⟩) (by assumption) ?_
              · intro w' hSw
                (try dsimp only at hSw)
                (go_simp <;> first | omega | (rw [if_neg (by (try simp only [ByteArray.size_append]); omega)]; rfl))
              (try simp only [Act.put, List.setIfInBounds_toArray, List.set_cons_zero, List.set_cons_succ])
              refine wpAnyH_take (i := 16) (v := (.string (HX ++ X0 ++ X1 ++ X2))) rfl (by kernel_rfl) (by kernel_rfl) (by kernel_rfl) (fun _ _ _ h => h) (Or.inl ⟨by rfl, ?_⟩) (by assumption) ?_
              · intro w' hSw
                (try dsimp only at hSw)
                (go_simp <;> first | omega | (rw [if_neg (by (try simp only [ByteArray.size_append]); omega)]; rfl))
              (try simp only [Act.put, List.setIfInBounds_toArray, List.set_cons_zero, List.set_cons_succ])
              refine wpAnyH_ready (rs := [19]) (by kernel_rfl) (by simp) ?_
              refine AllReadyH.cons rfl (fun K hK => ?_) AllReadyH.nil
              go_simp
              refine Calls.mono (D3.out _) ?_
              rintro e wx14 ⟨rfl, bx⟩
              have Z14 := hide (Z13.out.trans (bx.mono Z13.out.size))
              clear bx
              refine hK.out _ _ (Q4.out _ Z14.out) (fun hHeld => ?_)
              clear hK
              (try simp only [Act.put, List.setIfInBounds_toArray, List.set_cons_zero, List.set_cons_succ])
              refine wpAnyH_take (i := 20) (v := (.string (HX ++ X0 ++ X1 ++ X2 ++ X3))) rfl (by kernel_rfl) (by kernel_rfl) (by kernel_rfl) (fun _ _ _ h => h) (Or.inl ⟨by rfl, ?_⟩) (by assumption) ?_
              · intro w' hSw
                (try dsimp only at hSw)
                (go_simp <;> first | omega | (rw [if_neg (by (try simp only [ByteArray.size_append]); omega)]; rfl))
              (try simp only [Act.put, List.setIfInBounds_toArray, List.set_cons_zero, List.set_cons_succ])
              refine wpAnyH_take (i := 22) (v := (.string (HX ++ X0 ++ X1 ++ X2 ++ X3 ++ BX))) rfl (by kernel_rfl) (by kernel_rfl) (by kernel_rfl) (fun _ _ _ h => h) (Or.inl ⟨by rfl, ?_⟩) (by assumption) ?_
              · intro w' hSw
                (try dsimp only at hSw)
                (go_simp <;> first | omega | (rw [if_neg (by (try simp only [ByteArray.size_append]); omega)]; rfl))
              (try simp only [Act.put, List.setIfInBounds_toArray, List.set_cons_zero, List.set_cons_succ])
              refine wpAnyH_ready (rs := [23]) (by kernel_rfl) (by simp) ?_
              refine AllReadyH.cons rfl (fun K hK => ?_) AllReadyH.nil
              go_simp
              refine hK.out _ _ (Q4.out _ Z14.out) (fun hHeld => ?_)
              clear hK
              (try simp only [Act.put, List.setIfInBounds_toArray, List.set_cons_zero, List.set_cons_succ])
              refine wpAnyH_done (by kernel_rfl) ?_ _
              clear hHeld
              rw [ET.out]
              go_wp2_with fail
              refine Calls.mono (SU.out _) ?_
              rintro e w9 ⟨rfl, b9⟩
              have G9 := hide ((FB.out _ Z14.out).trans (b9.mono (FB.out _ Z14.out).size))
              clear b9
              go_wp2_with fail
              go_ret2
              exact ⟨by rw [E1.out, E2.out]; rfl, G9.out⟩
            · go_simp
              refine Calls.mono (D3.out _) ?_
              rintro e wx15 ⟨rfl, bx⟩
              have Z15 := hide (Z13.out.trans (bx.mono Z13.out.size))
              have RW15 := hide (RW13.out.trans (bx.mono RW13.out.size))
              clear bx
              refine hK.out _ _ (Q4.out _ Z15.out) (fun hHeld => ?_)
              clear hK
              (try simp only [Act.put, List.setIfInBounds_toArray, List.set_cons_zero, List.set_cons_succ])
              refine wpAnyH_ready (rs := [4]) (by kernel_rfl) (by simp) ?_
              refine AllReadyH.cons rfl (fun K hK => ?_) AllReadyH.nil
              have hcv : (convert 89 9 (.slice (some ⟨w4.heap.size, 0, none⟩) 4 4)).run Tryd.prog wx15 = .ok (.string HX) wx15 := CV.out (w4.drew) _ RW15.out
              go_simp
              clear hcv
              refine hK.out _ _ (Q4.out _ Z15.out) (fun hHeld => ?_)
              clear hK
              (try simp only [Act.put, List.setIfInBounds_toArray, List.set_cons_zero, List.set_cons_succ])
              refine wpAnyH_take (i := 8) (v := (.string (HX ++ X0))) rfl (by kernel_rfl) (by kernel_rfl) (by kernel_rfl) (fun _ _ _ h => h) (Or.inl ⟨by rfl, ?_⟩) (by assumption) ?_
              · intro w' hSw
                (try dsimp only at hSw)
                (go_simp <;> first | omega | (rw [if_neg (by (try simp only [ByteArray.size_append]); omega)]; rfl))
              (try simp only [Act.put, List.setIfInBounds_toArray, List.set_cons_zero, List.set_cons_succ])
              refine wpAnyH_take (i := 12) (v := (.string (HX ++ X0 ++ X1))) rfl (by kernel_rfl) (by kernel_rfl) (by kernel_rfl) (fun _ _ _ h => h) (Or.inl ⟨by rfl, ?_⟩) (by assumption) ?_
              · intro w' hSw
                (try dsimp only at hSw)
                (go_simp <;> first | omega | (rw [if_neg (by (try simp only [ByteArray.size_append]); omega)]; rfl))
              (try simp only [Act.put, List.setIfInBounds_toArray, List.set_cons_zero, List.set_cons_succ])
              refine wpAnyH_take (i := 16) (v := (.string (HX ++ X0 ++ X1 ++ X2))) rfl (by kernel_rfl) (by kernel_rfl) (by kernel_rfl) (fun _ _ _ h => h) (Or.inl ⟨by rfl, ?_⟩) (by assumption) ?_
              · intro w' hSw
                (try dsimp only at hSw)
                (go_simp <;> first | omega | (rw [if_neg (by (try simp only [ByteArray.size_append]); omega)]; rfl))
              (try simp only [Act.put, List.setIfInBounds_toArray, List.set_cons_zero, List.set_cons_succ])
              refine wpAnyH_take (i := 20) (v := (.string (HX ++ X0 ++ X1 ++ X2 ++ X3))) rfl (by kernel_rfl) (by kernel_rfl) (by kernel_rfl) (fun _ _ _ h => h) (Or.inl ⟨by rfl, ?_⟩) (by assumption) ?_
              · intro w' hSw
                (try dsimp only at hSw)
                (go_simp <;> first | omega | (rw [if_neg (by (try simp only [ByteArray.size_append]); omega)]; rfl))
              (try simp only [Act.put, List.setIfInBounds_toArray, List.set_cons_zero, List.set_cons_succ])
              refine wpAnyH_take (i := 22) (v := (.string (HX ++ X0 ++ X1 ++ X2 ++ X3 ++ BX))) rfl (by kernel_rfl) (by kernel_rfl) (by kernel_rfl) (fun _ _ _ h => h) (Or.inl ⟨by rfl, ?_⟩) (by assumption) ?_
              · intro w' hSw
                (try dsimp only at hSw)
                (go_simp <;> first | omega | (rw [if_neg (by (try simp only [ByteArray.size_append]); omega)]; rfl))
              (try simp only [Act.put, List.setIfInBounds_toArray, List.set_cons_zero, List.set_cons_succ])
              refine wpAnyH_ready (rs := [23]) (by kernel_rfl) (by simp) ?_
              refine AllReadyH.cons rfl (fun K hK => ?_) AllReadyH.nil
              go_simp
              refine hK.out _ _ (Q4.out _ Z15.out) (fun hHeld => ?_)
              clear hK
              (try simp only [Act.put, List.setIfInBounds_toArray, List.set_cons_zero, List.set_cons_succ])
              refine wpAnyH_done (by kernel_rfl) ?_ _
              clear hHeld
              rw [ET.out]
              go_wp2_with fail
              refine Calls.mono (SU.out _) ?_
              rintro e w9 ⟨rfl, b9⟩
              have G9 := hide ((FB.out _ Z15.out).trans (b9.mono (FB.out _ Z15.out).size))
              clear b9
              go_wp2_with fail
              go_ret2
              exact ⟨by rw [E1.out, E2.out]; rfl, G9.out⟩
    · go_simp
      refine Calls.mono (D0.out _) ?_
      rintro e wx16 ⟨rfl, bx⟩
      have Z16 := hide (Z0.out.trans (bx.mono Z0.out.size))
      clear bx
      refine hK.out _ _ (Q4.out _ Z16.out) (fun hHeld => ?_)
      clear hK
      (try simp only [Act.put, List.setIfInBounds_toArray, List.set_cons_zero, List.set_cons_succ])
      refine wpAnyH_ready (rs := [3, 11]) (by kernel_rfl) (by simp) ?_
      refine AllReadyH.cons rfl (fun K hK => ?_) (AllReadyH.cons rfl (fun K hK => ?_) AllReadyH.nil)
      · go_simp
        have Z17 := hide (Z16.out.alloc Z16.out.size (.cells #[.int .u8 71, .int .u8 82, .int .u8 1, .int .u8 (k : Int)] 5))
        refine hK.out _ _ (Q4.out _ Z17.out) (fun hHeld => ?_)
        clear hK
        (try simp only [Act.put, List.setIfInBounds_toArray, List.set_cons_zero, List.set_cons_succ])
        have RW17 := hide (Below.refl (wx16.alloc (.cells #[.int .u8 71, .int .u8 82, .int .u8 1, .int .u8 (k : Int)] 5)).heap.size (wx16.alloc (.cells #[.int .u8 71, .int .u8 82, .int .u8 1, .int .u8 (k : Int)] 5)))
        refine wpAnyH_ready (rs := [4, 11]) (by kernel_rfl) (by simp) ?_
        refine AllReadyH.cons rfl (fun K hK => ?_) (AllReadyH.cons rfl (fun K hK => ?_) AllReadyH.nil)
        · have hcv : (convert 89 9 (.slice (some ⟨wx16.heap.size, 0, none⟩) 4 4)).run Tryd.prog (wx16.alloc (.cells #[.int .u8 71, .int .u8 82, .int .u8 1, .int .u8 (k : Int)] 5)) = .ok (.string HX) (wx16.alloc (.cells #[.int .u8 71, .int .u8 82, .int .u8 1, .int .u8 (k : Int)] 5)) := CV.out (wx16) _ RW17.out
          go_simp
          clear hcv
          refine hK.out _ _ (Q4.out _ Z17.out) (fun hHeld => ?_)
          clear hK
          (try simp only [Act.put, List.setIfInBounds_toArray, List.set_cons_zero, List.set_cons_succ])
          refine wpAnyH_take (i := 8) (v := (.string (HX ++ X0))) rfl (by kernel_rfl) (by kernel_rfl) (by kernel_rfl) (fun _ _ _ h => h) (Or.inl ⟨by rfl, ?_⟩) (by assumption) ?_
          · intro w' hSw
            (try dsimp only at hSw)
            (go_simp <;> first | omega | (rw [if_neg (by (try simp only [ByteArray.size_append]); omega)]; rfl))
          (try simp only [Act.put, List.setIfInBounds_toArray, List.set_cons_zero, List.set_cons_succ])
          refine wpAnyH_ready (rs := [11]) (by kernel_rfl) (by simp) ?_
          refine AllReadyH.cons rfl (fun K hK => ?_) AllReadyH.nil
          go_simp
          refine Calls.mono (D1.out _) ?_
          rintro e wx18 ⟨rfl, bx⟩
          have Z18 := hide (Z17.out.trans (bx.mono Z17.out.size))
          clear bx
          refine hK.out _ _ (Q4.out _ Z18.out) (fun hHeld => ?_)
          clear hK
          (try simp only [Act.put, List.setIfInBounds_toArray, List.set_cons_zero, List.set_cons_succ])
          refine wpAnyH_take (i := 12) (v := (.string (HX ++ X0 ++ X1))) rfl (by kernel_rfl) (by kernel_rfl) (by kernel_rfl) (fun _ _ _ h => h) (Or.inl ⟨by rfl, ?_⟩) (by assumption) ?_
          · intro w' hSw
            (try dsimp only at hSw)
            (go_simp <;> first | omega | (rw [if_neg (by (try simp only [ByteArray.size_append]); omega)]; rfl))
          (try simp only [Act.put, List.setIfInBounds_toArray, List.set_cons_zero, List.set_cons_succ])
          refine wpAnyH_ready (rs := [15]) (by kernel_rfl) (by simp) ?_
          refine AllReadyH.cons rfl (fun K hK => ?_) AllReadyH.nil
          go_simp
          refine Calls.mono (D2.out _) ?_
          rintro e wx19 ⟨rfl, bx⟩
          have Z19 := hide (Z18.out.trans (bx.mono Z18.out.size))
          clear bx
          refine hK.out _ _ (Q4.out _ Z19.out) (fun hHeld => ?_)
          clear hK
          (try simp only [Act.put, List.setIfInBounds_toArray, List.set_cons_zero, List.set_cons_succ])
          refine wpAnyH_take (i := 16) (v := (.string (HX ++ X0 ++ X1 ++ X2))) rfl (by kernel_rfl) (by kernel_rfl) (by kernel_rfl) (fun _ _ _ h => h) (Or.inl ⟨by rfl, ?_⟩) (by assumption) ?_
          · intro w' hSw
            (try dsimp only at hSw)
            (go_simp <;> first | omega | (rw [if_neg (by (try simp only [ByteArray.size_append]); omega)]; rfl))
          (try simp only [Act.put, List.setIfInBounds_toArray, List.set_cons_zero, List.set_cons_succ])
          refine wpAnyH_ready (rs := [19]) (by kernel_rfl) (by simp) ?_
          refine AllReadyH.cons rfl (fun K hK => ?_) AllReadyH.nil
          go_simp
          refine Calls.mono (D3.out _) ?_
          rintro e wx20 ⟨rfl, bx⟩
          have Z20 := hide (Z19.out.trans (bx.mono Z19.out.size))
          clear bx
          refine hK.out _ _ (Q4.out _ Z20.out) (fun hHeld => ?_)
          clear hK
          (try simp only [Act.put, List.setIfInBounds_toArray, List.set_cons_zero, List.set_cons_succ])
          refine wpAnyH_take (i := 20) (v := (.string (HX ++ X0 ++ X1 ++ X2 ++ X3))) rfl (by kernel_rfl) (by kernel_rfl) (by kernel_rfl) (fun _ _ _ h => h) (Or.inl ⟨by rfl, ?_⟩) (by assumption) ?_
          · intro w' hSw
            (try dsimp only at hSw)
            (go_simp <;> first | omega | (rw [if_neg (by (try simp only [ByteArray.size_append]); omega)]; rfl))
          (try simp only [Act.put, List.setIfInBounds_toArray, List.set_cons_zero, List.set_cons_succ])
          refine wpAnyH_take (i := 22) (v := (.string (HX ++ X0 ++ X1 ++ X2 ++ X3 ++ BX))) rfl (by kernel_rfl) (by kernel_rfl) (by kernel_rfl) (fun _ _ _ h => h) (Or.inl ⟨by rfl, ?_⟩) (by assumption) ?_
          · intro w' hSw
            (try dsimp only at hSw)
            (go_simp <;> first | omega | (rw [if_neg (by (try simp only [ByteArray.size_append]); omega)]; rfl))
          (try simp only [Act.put, List.setIfInBounds_toArray, List.set_cons_zero, List.set_cons_succ])
          refine wpAnyH_ready (rs := [23]) (by kernel_rfl) (by simp) ?_
          refine AllReadyH.cons rfl (fun K hK => ?_) AllReadyH.nil
          go_simp
          refine hK.out _ _ (Q4.out _ Z20.out) (fun hHeld => ?_)
          clear hK
          (try simp only [Act.put, List.setIfInBounds_toArray, List.set_cons_zero, List.set_cons_succ])
          refine wpAnyH_done (by kernel_rfl) ?_ _
          clear hHeld
          rw [ET.out]
          go_wp2_with fail
          refine Calls.mono (SU.out _) ?_
          rintro e w9 ⟨rfl, b9⟩
          have G9 := hide ((FB.out _ Z20.out).trans (b9.mono (FB.out _ Z20.out).size))
          clear b9
          go_wp2_with fail
          go_ret2
          exact ⟨by rw [E1.out, E2.out]; rfl, G9.out⟩
        · go_simp
          refine Calls.mono (D1.out _) ?_
          rintro e wx21 ⟨rfl, bx⟩
          have Z21 := hide (Z17.out.trans (bx.mono Z17.out.size))
          have RW21 := hide (RW17.out.trans (bx.mono RW17.out.size))
          clear bx
          refine hK.out _ _ (Q4.out _ Z21.out) (fun hHeld => ?_)
          clear hK
          (try simp only [Act.put, List.setIfInBounds_toArray, List.set_cons_zero, List.set_cons_succ])
          refine wpAnyH_ready (rs := [4, 15]) (by kernel_rfl) (by simp) ?_
          refine AllReadyH.cons rfl (fun K hK => ?_) (AllReadyH.cons rfl (fun K hK => ?_) AllReadyH.nil)
          · have hcv : (convert 89 9 (.slice (some ⟨wx16.heap.size, 0, none⟩) 4 4)).run Tryd.prog wx21 = .ok (.string HX) wx21 := CV.out (wx16) _ RW21.out
            go_simp
            clear hcv
            refine hK.out _ _ (Q4.out _ Z21.out) (fun hHeld => ?_)
            clear hK
            (try simp only [Act.put, List.setIfInBounds_toArray, List.set_cons_zero, List.set_cons_succ])
            refine wpAnyH_take (i := 8) (v := (.string (HX ++ X0))) rfl (by kernel_rfl) (by kernel_rfl) (by kernel_rfl) (fun _ _ _ h => h) (Or.inl ⟨by rfl, ?_⟩) (by assumption) ?_
            · intro w' hSw
              (try dsimp only at hSw)
              (go_simp <;> first | omega | (rw [if_neg (by (try simp only [ByteArray.size_append]); omega)]; rfl))
            (try simp only [Act.put, List.setIfInBounds_toArray, List.set_cons_zero, List.set_cons_succ])
            refine wpAnyH_take (i := 12) (v := (.string (HX ++ X0 ++ X1))) rfl (by kernel_rfl) (by kernel_rfl) (by kernel_rfl) (fun _ _ _ h => h) (Or.inl ⟨by rfl, ?_⟩) (by assumption) ?_
            · intro w' hSw
              (try dsimp only at hSw)
              (go_simp <;> first | omega | (rw [if_neg (by (try simp only [ByteArray.size_append]); omega)]; rfl))
            (try simp only [Act.put, List.setIfInBounds_toArray, List.set_cons_zero, List.set_cons_succ])
            refine wpAnyH_ready (rs := [15]) (by kernel_rfl) (by simp) ?_
            refine AllReadyH.cons rfl (fun K hK => ?_) AllReadyH.nil
            go_simp
            refine Calls.mono (D2.out _) ?_
            rintro e wx22 ⟨rfl, bx⟩
            have Z22 := hide (Z21.out.trans (bx.mono Z21.out.size))
            clear bx
            refine hK.out _ _ (Q4.out _ Z22.out) (fun hHeld => ?_)
            clear hK
            (try simp only [Act.put, List.setIfInBounds_toArray, List.set_cons_zero, List.set_cons_succ])
            refine wpAnyH_take (i := 16) (v := (.string (HX ++ X0 ++ X1 ++ X2))) rfl (by kernel_rfl) (by kernel_rfl) (by kernel_rfl) (fun _ _ _ h => h) (Or.inl ⟨by rfl, ?_⟩) (by assumption) ?_
            · intro w' hSw
              (try dsimp only at hSw)
              (go_simp <;> first | omega | (rw [if_neg (by (try simp only [ByteArray.size_append]); omega)]; rfl))
            (try simp only [Act.put, List.setIfInBounds_toArray, List.set_cons_zero, List.set_cons_succ])
            refine wpAnyH_ready (rs := [19]) (by kernel_rfl) (by simp) ?_
            refine AllReadyH.cons rfl (fun K hK => ?_) AllReadyH.nil
            go_simp
            refine Calls.mono (D3.out _) ?_
            rintro e wx23 ⟨rfl, bx⟩
            have Z23 := hide (Z22.out.trans (bx.mono Z22.out.size))
            clear bx
            refine hK.out _ _ (Q4.out _ Z23.out) (fun hHeld => ?_)
            clear hK
            (try simp only [Act.put, List.setIfInBounds_toArray, List.set_cons_zero, List.set_cons_succ])
            refine wpAnyH_take (i := 20) (v := (.string (HX ++ X0 ++ X1 ++ X2 ++ X3))) rfl (by kernel_rfl) (by kernel_rfl) (by kernel_rfl) (fun _ _ _ h => h) (Or.inl ⟨by rfl, ?_⟩) (by assumption) ?_
            · intro w' hSw
              (try dsimp only at hSw)
              (go_simp <;> first | omega | (rw [if_neg (by (try simp only [ByteArray.size_append]); omega)]; rfl))
            (try simp only [Act.put, List.setIfInBounds_toArray, List.set_cons_zero, List.set_cons_succ])
            refine wpAnyH_take (i := 22) (v := (.string (HX ++ X0 ++ X1 ++ X2 ++ X3 ++ BX))) rfl (by kernel_rfl) (by kernel_rfl) (by kernel_rfl) (fun _ _ _ h => h) (Or.inl ⟨by rfl, ?_⟩) (by assumption) ?_
            · intro w' hSw
              (try dsimp only at hSw)
              (go_simp <;> first | omega | (rw [if_neg (by (try simp only [ByteArray.size_append]); omega)]; rfl))
            (try simp only [Act.put, List.setIfInBounds_toArray, List.set_cons_zero, List.set_cons_succ])
            refine wpAnyH_ready (rs := [23]) (by kernel_rfl) (by simp) ?_
            refine AllReadyH.cons rfl (fun K hK => ?_) AllReadyH.nil
            go_simp
            refine hK.out _ _ (Q4.out _ Z23.out) (fun hHeld => ?_)
            clear hK
            (try simp only [Act.put, List.setIfInBounds_toArray, List.set_cons_zero, List.set_cons_succ])
            refine wpAnyH_done (by kernel_rfl) ?_ _
            clear hHeld
            rw [ET.out]
            go_wp2_with fail
            refine Calls.mono (SU.out _) ?_
            rintro e w9 ⟨rfl, b9⟩
            have G9 := hide ((FB.out _ Z23.out).trans (b9.mono (FB.out _ Z23.out).size))
            clear b9
            go_wp2_with fail
            go_ret2
            exact ⟨by rw [E1.out, E2.out]; rfl, G9.out⟩
          · go_simp
            refine Calls.mono (D2.out _) ?_
            rintro e wx24 ⟨rfl, bx⟩
            have Z24 := hide (Z21.out.trans (bx.mono Z21.out.size))
            have RW24 := hide (RW21.out.trans (bx.mono RW21.out.size))
            clear bx
            refine hK.out _ _ (Q4.out _ Z24.out) (fun hHeld => ?_)
            clear hK
            (try simp only [Act.put, List.setIfInBounds_toArray, List.set_cons_zero, List.set_cons_succ])
            refine wpAnyH_ready (rs := [4, 19]) (by kernel_rfl) (by simp) ?_
            refine AllReadyH.cons rfl (fun K hK => ?_) (AllReadyH.cons rfl (fun K hK => ?_) AllReadyH.nil)
            · have hcv : (convert 89 9 (.slice (some ⟨wx16.heap.size, 0, none⟩) 4 4)).run Tryd.prog wx24 = .ok (.string HX) wx24 := CV.out (wx16) _ RW24.out
              go_simp
              clear hcv
              refine hK.out _ _ (Q4.out _ Z24.out) (fun hHeld => ?_)
              clear hK
              (try simp only [Act.put, List.setIfInBounds_toArray, List.set_cons_zero, List.set_cons_succ])
              refine wpAnyH_take (i := 8) (v := (.string (HX ++ X0))) rfl (by kernel_rfl) (by kernel_rfl) (by kernel_rfl) (fun _ _ _ h => h) (Or.inl ⟨by rfl, ?_⟩) (by assumption) ?_
              · intro w' hSw
                (try dsimp only at hSw)
                (go_simp <;> first | omega | (rw [if_neg (by (try simp only [ByteArray.size_append]); omega)]; rfl))
              (try simp only [Act.put, List.setIfInBounds_toArray, List.set_cons_zero, List.set_cons_succ])
              refine wpAnyH_take (i := 12) (v := (.string (HX ++ X0 ++ X1))) rfl (by kernel_rfl) (by kernel_rfl) (by kernel_rfl) (fun _ _ _ h => h) (Or.inl ⟨by rfl, ?_⟩) (by assumption) ?_
              · intro w' hSw
                (try dsimp only at hSw)
                (go_simp <;> first | omega | (rw [if_neg (by (try simp only [ByteArray.size_append]); omega)]; rfl))
              (try simp only [Act.put, List.setIfInBounds_toArray, List.set_cons_zero, List.set_cons_succ])
              refine wpAnyH_take (i := 16) (v := (.string (HX ++ X0 ++ X1 ++ X2))) rfl (by kernel_rfl) (by kernel_rfl) (by kernel_rfl) (fun _ _ _ h => h) (Or.inl ⟨by rfl, ?_⟩) (by assumption) ?_
              · intro w' hSw
                (try dsimp only at hSw)
                (go_simp <;> first | omega | (rw [if_neg (by (try simp only [ByteArray.size_append]); omega)]; rfl))
              (try simp only [Act.put, List.setIfInBounds_toArray, List.set_cons_zero, List.set_cons_succ])
              refine wpAnyH_ready (rs := [19]) (by kernel_rfl) (by simp) ?_
              refine AllReadyH.cons rfl (fun K hK => ?_) AllReadyH.nil
              go_simp
              refine Calls.mono (D3.out _) ?_
              rintro e wx25 ⟨rfl, bx⟩
              have Z25 := hide (Z24.out.trans (bx.mono Z24.out.size))
              clear bx
              refine hK.out _ _ (Q4.out _ Z25.out) (fun hHeld => ?_)
              clear hK
              (try simp only [Act.put, List.setIfInBounds_toArray, List.set_cons_zero, List.set_cons_succ])
              refine wpAnyH_take (i := 20) (v := (.string (HX ++ X0 ++ X1 ++ X2 ++ X3))) rfl (by kernel_rfl) (by kernel_rfl) (by kernel_rfl) (fun _ _ _ h => h) (Or.inl ⟨by rfl, ?_⟩) (by assumption) ?_
              · intro w' hSw
                (try dsimp only at hSw)
                (go_simp <;> first | omega | (rw [if_neg (by (try simp only [ByteArray.size_append]); omega)]; rfl))
              (try simp only [Act.put, List.setIfInBounds_toArray, List.set_cons_zero, List.set_cons_succ])
              refine wpAnyH_take (i := 22) (v := (.string (HX ++ X0 ++ X1 ++ X2 ++ X3 ++ BX))) rfl (by kernel_rfl) (by kernel_rfl) (by kernel_rfl) (fun _ _ _ h => h) (Or.inl ⟨by rfl, ?_⟩) (by assumption) ?_
              · intro w' hSw
                (try dsimp only at hSw)
                (go_simp <;> first | omega | (rw [if_neg (by (try simp only [ByteArray.size_append]); omega)]; rfl))
              (try simp only [Act.put, List.setIfInBounds_toArray, List.set_cons_zero, List.set_cons_succ])
              refine wpAnyH_ready (rs := [23]) (by kernel_rfl) (by simp) ?_
              refine AllReadyH.cons rfl (fun K hK => ?_) AllReadyH.nil
              go_simp
              refine hK.out _ _ (Q4.out _ Z25.out) (fun hHeld => ?_)
              clear hK
              (try simp only [Act.put, List.setIfInBounds_toArray, List.set_cons_zero, List.set_cons_succ])
              refine wpAnyH_done (by kernel_rfl) ?_ _
              clear hHeld
              rw [ET.out]
              go_wp2_with fail
              refine Calls.mono (SU.out _) ?_
              rintro e w9 ⟨rfl, b9⟩
              have G9 := hide ((FB.out _ Z25.out).trans (b9.mono (FB.out _ Z25.out).size))
              clear b9
              go_wp2_with fail
              go_ret2
              exact ⟨by rw [E1.out, E2.out]; rfl, G9.out⟩
            · go_simp
              refine Calls.mono (D3.out _) ?_
              rintro e wx26 ⟨rfl, bx⟩
              have Z26 := hide (Z24.out.trans (bx.mono Z24.out.size))
              have RW26 := hide (RW24.out.trans (bx.mono RW24.out.size))
              clear bx
              refine hK.out _ _ (Q4.out _ Z26.out) (fun hHeld => ?_)
              clear hK
              (try simp only [Act.put, List.setIfInBounds_toArray, List.set_cons_zero, List.set_cons_succ])
              refine wpAnyH_ready (rs := [4]) (by kernel_rfl) (by simp) ?_
              refine AllReadyH.cons rfl (fun K hK => ?_) AllReadyH.nil
              have hcv : (convert 89 9 (.slice (some ⟨wx16.heap.size, 0, none⟩) 4 4)).run Tryd.prog wx26 = .ok (.string HX) wx26 := CV.out (wx16) _ RW26.out
              go_simp
              clear hcv
              refine hK.out _ _ (Q4.out _ Z26.out) (fun hHeld => ?_)
              clear hK
              (try simp only [Act.put, List.setIfInBounds_toArray, List.set_cons_zero, List.set_cons_succ])
              refine wpAnyH_take (i := 8) (v := (.string (HX ++ X0))) rfl (by kernel_rfl) (by kernel_rfl) (by kernel_rfl) (fun _ _ _ h => h) (Or.inl ⟨by rfl, ?_⟩) (by assumption) ?_
              · intro w' hSw
                (try dsimp only at hSw)
                (go_simp <;> first | omega | (rw [if_neg (by (try simp only [ByteArray.size_append]); omega)]; rfl))
              (try simp only [Act.put, List.setIfInBounds_toArray, List.set_cons_zero, List.set_cons_succ])
              refine wpAnyH_take (i := 12) (v := (.string (HX ++ X0 ++ X1))) rfl (by kernel_rfl) (by kernel_rfl) (by kernel_rfl) (fun _ _ _ h => h) (Or.inl ⟨by rfl, ?_⟩) (by assumption) ?_
              · intro w' hSw
                (try dsimp only at hSw)
                (go_simp <;> first | omega | (rw [if_neg (by (try simp only [ByteArray.size_append]); omega)]; rfl))
              (try simp only [Act.put, List.setIfInBounds_toArray, List.set_cons_zero, List.set_cons_succ])
              refine wpAnyH_take (i := 16) (v := (.string (HX ++ X0 ++ X1 ++ X2))) rfl (by kernel_rfl) (by kernel_rfl) (by kernel_rfl) (fun _ _ _ h => h) (Or.inl ⟨by rfl, ?_⟩) (by assumption) ?_
              · intro w' hSw
                (try dsimp only at hSw)
                (go_simp <;> first | omega | (rw [if_neg (by (try simp only [ByteArray.size_append]); omega)]; rfl))
              (try simp only [Act.put, List.setIfInBounds_toArray, List.set_cons_zero, List.set_cons_succ])
              refine wpAnyH_take (i := 20) (v := (.string (HX ++ X0 ++ X1 ++ X2 ++ X3))) rfl (by kernel_rfl) (by kernel_rfl) (by kernel_rfl) (fun _ _ _ h => h) (Or.inl ⟨by rfl, ?_⟩) (by assumption) ?_
              · intro w' hSw
                (try dsimp only at hSw)
                (go_simp <;> first | omega | (rw [if_neg (by (try simp only [ByteArray.size_append]); omega)]; rfl))
              (try simp only [Act.put, List.setIfInBounds_toArray, List.set_cons_zero, List.set_cons_succ])
              refine wpAnyH_take (i := 22) (v := (.string (HX ++ X0 ++ X1 ++ X2 ++ X3 ++ BX))) rfl (by kernel_rfl) (by kernel_rfl) (by kernel_rfl) (fun _ _ _ h => h) (Or.inl ⟨by rfl, ?_⟩) (by assumption) ?_
              · intro w' hSw
                (try dsimp only at hSw)
                (go_simp <;> first | omega | (rw [if_neg (by (try simp only [ByteArray.size_append]); omega)]; rfl))
              (try simp only [Act.put, List.setIfInBounds_toArray, List.set_cons_zero, List.set_cons_succ])
              refine wpAnyH_ready (rs := [23]) (by kernel_rfl) (by simp) ?_
              refine AllReadyH.cons rfl (fun K hK => ?_) AllReadyH.nil
              go_simp
              refine hK.out _ _ (Q4.out _ Z26.out) (fun hHeld => ?_)
              clear hK
              (try simp only [Act.put, List.setIfInBounds_toArray, List.set_cons_zero, List.set_cons_succ])
              refine wpAnyH_done (by kernel_rfl) ?_ _
              clear hHeld
              rw [ET.out]
              go_wp2_with fail
              refine Calls.mono (SU.out _) ?_
              rintro e w9 ⟨rfl, b9⟩
              have G9 := hide ((FB.out _ Z26.out).trans (b9.mono (FB.out _ Z26.out).size))
              clear b9
              go_wp2_with fail
              go_ret2
              exact ⟨by rw [E1.out, E2.out]; rfl, G9.out⟩
      · go_simp
        refine Calls.mono (D1.out _) ?_
        rintro e wx27 ⟨rfl, bx⟩
        have Z27 := hide (Z16.out.trans (bx.mono Z16.out.size))
        clear bx
        refine hK.out _ _ (Q4.out _ Z27.out) (fun hHeld => ?_)
        clear hK
        (try simp only [Act.put, List.setIfInBounds_toArray, List.set_cons_zero, List.set_cons_succ])
        refine wpAnyH_ready (rs := [3, 15]) (by kernel_rfl) (by simp) ?_
        refine AllReadyH.cons rfl (fun K hK => ?_) (AllReadyH.cons rfl (fun K hK => ?_) AllReadyH.nil)
        · go_simp
          have Z28 := hide (Z27.out.alloc Z27.out.size (.cells #[.int .u8 71, .int .u8 82, .int .u8 1, .int .u8 (k : Int)] 5))
          refine hK.out _ _ (Q4.out _ Z28.out) (fun hHeld => ?_)
          clear hK
          (try simp only [Act.put, List.setIfInBounds_toArray, List.set_cons_zero, List.set_cons_succ])
          have RW28 := hide (Below.refl (wx27.alloc (.cells #[.int .u8 71, .int .u8 82, .int .u8 1, .int .u8 (k : Int)] 5)).heap.size (wx27.alloc (.cells #[.int .u8 71, .int .u8 82, .int .u8 1, .int .u8 (k : Int)] 5)))
          refine wpAnyH_ready (rs := [4, 15]) (by kernel_rfl) (by simp) ?_
          refine AllReadyH.cons rfl (fun K hK => ?_) (AllReadyH.cons rfl (fun K hK => ?_) AllReadyH.nil)
          · have hcv : (convert 89 9 (.slice (some ⟨wx27.heap.size, 0, none⟩) 4 4)).run Tryd.prog (wx27.alloc (.cells #[.int .u8 71, .int .u8 82, .int .u8 1, .int .u8 (k : Int)] 5)) = .ok (.string HX) (wx27.alloc (.cells #[.int .u8 71, .int .u8 82, .int .u8 1, .int .u8 (k : Int)] 5)) := CV.out (wx27) _ RW28.out
            go_simp
            clear hcv
            refine hK.out _ _ (Q4.out _ Z28.out) (fun hHeld => ?_)
            clear hK
            (try simp only [Act.put, List.setIfInBounds_toArray, List.set_cons_zero, List.set_cons_succ])
            refine wpAnyH_take (i := 8) (v := (.string (HX ++ X0))) rfl (by kernel_rfl) (by kernel_rfl) (by kernel_rfl) (fun _ _ _ h => h) (Or.inl ⟨by rfl, ?_⟩) (by assumption) ?_
            · intro w' hSw
              (try dsimp only at hSw)
              (go_simp <;> first | omega | (rw [if_neg (by (try simp only [ByteArray.size_append]); omega)]; rfl))
            (try simp only [Act.put, List.setIfInBounds_toArray, List.set_cons_zero, List.set_cons_succ])
            refine wpAnyH_take (i := 12) (v := (.string (HX ++ X0 ++ X1))) rfl (by kernel_rfl) (by kernel_rfl) (by kernel_rfl) (fun _ _ _ h => h) (Or.inl ⟨by rfl, ?_⟩) (by assumption) ?_
            · intro w' hSw
              (try dsimp only at hSw)
              (go_simp <;> first | omega | (rw [if_neg (by (try simp only [ByteArray.size_append]); omega)]; rfl))
            (try simp only [Act.put, List.setIfInBounds_toArray, List.set_cons_zero, List.set_cons_succ])
            refine wpAnyH_ready (rs := [15]) (by kernel_rfl) (by simp) ?_
            refine AllReadyH.cons rfl (fun K hK => ?_) AllReadyH.nil
            go_simp
            refine Calls.mono (D2.out _) ?_
            rintro e wx29 ⟨rfl, bx⟩
            have Z29 := hide (Z28.out.trans (bx.mono Z28.out.size))
            clear bx
            refine hK.out _ _ (Q4.out _ Z29.out) (fun hHeld => ?_)
            clear hK
            (try simp only [Act.put, List.setIfInBounds_toArray, List.set_cons_zero, List.set_cons_succ])
            refine wpAnyH_take (i := 16) (v := (.string (HX ++ X0 ++ X1 ++ X2))) rfl (by kernel_rfl) (by kernel_rfl) (by kernel_rfl) (fun _ _ _ h => h) (Or.inl ⟨by rfl, ?_⟩) (by assumption) ?_
            · intro w' hSw
              (try dsimp only at hSw)
              (go_simp <;> first | omega | (rw [if_neg (by (try simp only [ByteArray.size_append]); omega)]; rfl))
            (try simp only [Act.put, List.setIfInBounds_toArray, List.set_cons_zero, List.set_cons_succ])
            refine wpAnyH_ready (rs := [19]) (by kernel_rfl) (by simp) ?_
            refine AllReadyH.cons rfl (fun K hK => ?_) AllReadyH.nil
            go_simp
            refine Calls.mono (D3.out _) ?_
            rintro e wx30 ⟨rfl, bx⟩
            have Z30 := hide (Z29.out.trans (bx.mono Z29.out.size))
            clear bx
            refine hK.out _ _ (Q4.out _ Z30.out) (fun hHeld => ?_)
            clear hK
            (try simp only [Act.put, List.setIfInBounds_toArray, List.set_cons_zero, List.set_cons_succ])
            refine wpAnyH_take (i := 20) (v := (.string (HX ++ X0 ++ X1 ++ X2 ++ X3))) rfl (by kernel_rfl) (by kernel_rfl) (by kernel_rfl) (fun _ _ _ h => h) (Or.inl ⟨by rfl, ?_⟩) (by assumption) ?_
            · intro w' hSw
              (try dsimp only at hSw)
              (go_simp <;> first | omega | (rw [if_neg (by (try simp only [ByteArray.size_append]); omega)]; rfl))
            (try simp only [Act.put, List.setIfInBounds_toArray, List.set_cons_zero, List.set_cons_succ])
            refine wpAnyH_take (i := 22) (v := (.string (HX ++ X0 ++ X1 ++ X2 ++ X3 ++ BX))) rfl (by kernel_rfl) (by kernel_rfl) (by kernel_rfl) (fun _ _ _ h => h) (Or.inl ⟨by rfl, ?_⟩) (by assumption) ?_
            · intro w' hSw
              (try dsimp only at hSw)
              (go_simp <;> first | omega | (rw [if_neg (by (try simp only [ByteArray.size_append]); omega)]; rfl))
            (try simp only [Act.put, List.setIfInBounds_toArray, List.set_cons_zero, List.set_cons_succ])
            refine wpAnyH_ready (rs := [23]) (by kernel_rfl) (by simp) ?_
            refine AllReadyH.cons rfl (fun K hK => ?_) AllReadyH.nil
            go_simp
            refine hK.out _ _ (Q4.out _ Z30.out) (fun hHeld => ?_)
            clear hK
            (try simp only [Act.put, List.setIfInBounds_toArray, List.set_cons_zero, List.set_cons_succ])
            refine wpAnyH_done (by kernel_rfl) ?_ _
            clear hHeld
            rw [ET.out]
            go_wp2_with fail
            refine Calls.mono (SU.out _) ?_
            rintro e w9 ⟨rfl, b9⟩
            have G9 := hide ((FB.out _ Z30.out).trans (b9.mono (FB.out _ Z30.out).size))
            clear b9
            go_wp2_with fail
            go_ret2
            exact ⟨by rw [E1.out, E2.out]; rfl, G9.out⟩
          · go_simp
            refine Calls.mono (D2.out _) ?_
            rintro e wx31 ⟨rfl, bx⟩
            have Z31 := hide (Z28.out.trans (bx.mono Z28.out.size))
            have RW31 := hide (RW28.out.trans (bx.mono RW28.out.size))
            clear bx
            refine hK.out _ _ (Q4.out _ Z31.out) (fun hHeld => ?_)
            clear hK
            (try simp only [Act.put, List.setIfInBounds_toArray, List.set_cons_zero, List.set_cons_succ])
            refine wpAnyH_ready (rs := [4, 19]) (by kernel_rfl) (by simp) ?_
            refine AllReadyH.cons rfl (fun K hK => ?_) (AllReadyH.cons rfl (fun K hK => ?_) AllReadyH.nil)
            · have hcv : (convert 89 9 (.slice (some ⟨wx27.heap.size, 0, none⟩) 4 4)).run Tryd.prog wx31 = .ok (.string HX) wx31 := CV.out (wx27) _ RW31.out
              go_simp
              clear hcv
              refine hK.out _ _ (Q4.out _ Z31.out) (fun hHeld => ?_)
              clear hK
              (try simp only [Act.put, List.setIfInBounds_toArray, List.set_cons_zero, List.set_cons_succ])
              refine wpAnyH_take (i := 8) (v := (.string (HX ++ X0))) rfl (by kernel_rfl) (by kernel_rfl) (by kernel_rfl) (fun _ _ _ h => h) (Or.inl ⟨by rfl, ?_⟩) (by assumption) ?_
              · intro w' hSw
                (try dsimp only at hSw)
                (go_simp <;> first | omega | (rw [if_neg (by (try simp only [ByteArray.size_append]); omega)]; rfl))
              (try simp only [Act.put, List.setIfInBounds_toArray, List.set_cons_zero, List.set_cons_succ])
              refine wpAnyH_take (i := 12) (v := (.string (HX ++ X0 ++ X1))) rfl (by kernel_rfl) (by kernel_rfl) (by kernel_rfl) (fun _ _ _ h => h) (Or.inl ⟨by rfl, ?_⟩) (by assumption) ?_
              · intro w' hSw
                (try dsimp only at hSw)
                (go_simp <;> first | omega | (rw [if_neg (by (try simp only [ByteArray.size_append]); omega)]; rfl))
              (try simp only [Act.put, List.setIfInBounds_toArray, List.set_cons_zero, List.set_cons_succ])
              refine wpAnyH_take (i := 16) (v := (.string (HX ++ X0 ++ X1 ++ X2))) rfl (by kernel_rfl) (by kernel_rfl) (by kernel_rfl) (fun _ _ _ h => h) (Or.inl ⟨by rfl, ?_⟩) (by assumption) ?_
              · intro w' hSw
                (try dsimp only at hSw)
                (go_simp <;> first | omega | (rw [if_neg (by (try simp only [ByteArray.size_append]); omega)]; rfl))
              (try simp only [Act.put, List.setIfInBounds_toArray, List.set_cons_zero, List.set_cons_succ])
              refine wpAnyH_ready (rs := [19]) (by kernel_rfl) (by simp) ?_
              refine AllReadyH.cons rfl (fun K hK => ?_) AllReadyH.nil
              go_simp
              refine Calls.mono (D3.out _) ?_
              rintro e wx32 ⟨rfl, bx⟩
              have Z32 := hide (Z31.out.trans (bx.mono Z31.out.size))
              clear bx
              refine hK.out _ _ (Q4.out _ Z32.out) (fun hHeld => ?_)
              clear hK
              (try simp only [Act.put, List.setIfInBounds_toArray, List.set_cons_zero, List.set_cons_succ])
              refine wpAnyH_take (i := 20) (v := (.string (HX ++ X0 ++ X1 ++ X2 ++ X3))) rfl (by kernel_rfl) (by kernel_rfl) (by kernel_rfl) (fun _ _ _ h => h) (Or.inl ⟨by rfl, ?_⟩) (by assumption) ?_
              · intro w' hSw
                (try dsimp only at hSw)
                (go_simp <;> first | omega | (rw [if_neg (by (try simp only [ByteArray.size_append]); omega)]; rfl))
              (try simp only [Act.put, List.setIfInBounds_toArray, List.set_cons_zero, List.set_cons_succ])
              refine wpAnyH_take (i := 22) (v := (.string (HX ++ X0 ++ X1 ++ X2 ++ X3 ++ BX))) rfl (by kernel_rfl) (by kernel_rfl) (by kernel_rfl) (fun _ _ _ h => h) (Or.inl ⟨by rfl, ?_⟩) (by assumption) ?_
              · intro w' hSw
                (try dsimp only at hSw)
                (go_simp <;> first | omega | (rw [if_neg (by (try simp only [ByteArray.size_append]); omega)]; rfl))
              (try simp only [Act.put, List.setIfInBounds_toArray, List.set_cons_zero, List.set_cons_succ])
              refine wpAnyH_ready (rs := [23]) (by kernel_rfl) (by simp) ?_
              refine AllReadyH.cons rfl (fun K hK => ?_) AllReadyH.nil
              go_simp
              refine hK.out _ _ (Q4.out _ Z32.out) (fun hHeld => ?_)
              clear hK
              (try simp only [Act.put, List.setIfInBounds_toArray, List.set_cons_zero, List.set_cons_succ])
              refine wpAnyH_done (by kernel_rfl) ?_ _
              clear hHeld
              rw [ET.out]
              go_wp2_with fail
              refine Calls.mono (SU.out _) ?_
              rintro e w9 ⟨rfl, b9⟩
              have G9 := hide ((FB.out _ Z32.out).trans (b9.mono (FB.out _ Z32.out).size))
              clear b9
              go_wp2_with fail
              go_ret2
              exact ⟨by rw [E1.out, E2.out]; rfl, G9.out⟩
            · go_simp
              refine Calls.mono (D3.out _) ?_
              rintro e wx33 ⟨rfl, bx⟩
              have Z33 := hide (Z31.out.trans (bx.mono Z31.out.size))
              have RW33 := hide (RW31.out.trans (bx.mono RW31.out.size))
              clear bx
              refine hK.out _ _ (Q4.out _ Z33.out) (fun hHeld => ?_)
              clear hK
              (try simp only [Act.put, List.setIfInBounds_toArray, List.set_cons_zero, List.set_cons_succ])
              refine wpAnyH_ready (rs := [4]) (by kernel_rfl) (by simp) ?_
              refine AllReadyH.cons rfl (fun K hK => ?_) AllReadyH.nil
              have hcv : (convert 89 9 (.slice (some ⟨wx27.heap.size, 0, none⟩) 4 4)).run Tryd.prog wx33 = .ok (.string HX) wx33 := CV.out (wx27) _ RW33.out
              go_simp
              clear hcv
              refine hK.out _ _ (Q4.out _ Z33.out) (fun hHeld => ?_)
              clear hK
              (try simp only [Act.put, List.setIfInBounds_toArray, List.set_cons_zero, List.set_cons_succ])
              refine wpAnyH_take (i := 8) (v := (.string (HX ++ X0))) rfl (by kernel_rfl) (by kernel_rfl) (by kernel_rfl) (fun _ _ _ h => h) (Or.inl ⟨by rfl, ?_⟩) (by assumption) ?_
              · intro w' hSw
                (try dsimp only at hSw)
                (go_simp <;> first | omega | (rw [if_neg (by (try simp only [ByteArray.size_append]); omega)]; rfl))
              (try simp only [Act.put, List.setIfInBounds_toArray, List.set_cons_zero, List.set_cons_succ])
              refine wpAnyH_take (i := 12) (v := (.string (HX ++ X0 ++ X1))) rfl (by kernel_rfl) (by kernel_rfl) (by kernel_rfl) (fun _ _ _ h => h) (Or.inl ⟨by rfl, ?_⟩) (by assumption) ?_
              · intro w' hSw
                (try dsimp only at hSw)
                (go_simp <;> first | omega | (rw [if_neg (by (try simp only [ByteArray.size_append]); omega)]; rfl))
              (try simp only [Act.put, List.setIfInBounds_toArray, List.set_cons_zero, List.set_cons_succ])
              refine wpAnyH_take (i := 16) (v := (.string (HX ++ X0 ++ X1 ++ X2))) rfl (by kernel_rfl) (by kernel_rfl) (by kernel_rfl) (fun _ _ _ h => h) (Or.inl ⟨by rfl, ?_⟩) (by assumption) ?_
              · intro w' hSw
                (try dsimp only at hSw)
                (go_simp <;> first | omega | (rw [if_neg (by (try simp only [ByteArray.size_append]); omega)]; rfl))
              (try simp only [Act.put, List.setIfInBounds_toArray, List.set_cons_zero, List.set_cons_succ])
              refine wpAnyH_take (i := 20) (v := (.string (HX ++ X0 ++ X1 ++ X2 ++ X3))) rfl (by kernel_rfl) (by kernel_rfl) (by kernel_rfl) (fun _ _ _ h => h) (Or.inl ⟨by rfl, ?_⟩) (by assumption) ?_
              · intro w' hSw
                (try dsimp only at hSw)
                (go_simp <;> first | omega | (rw [if_neg (by (try simp only [ByteArray.size_append]); omega)]; rfl))
              (try simp only [Act.put, List.setIfInBounds_toArray, List.set_cons_zero, List.set_cons_succ])
              refine wpAnyH_take (i := 22) (v := (.string (HX ++ X0 ++ X1 ++ X2 ++ X3 ++ BX))) rfl (by kernel_rfl) (by kernel_rfl) (by kernel_rfl) (fun _ _ _ h => h) (Or.inl ⟨by rfl, ?_⟩) (by assumption) ?_
              · intro w' hSw
                (try dsimp only at hSw)
                (go_simp <;> first | omega | (rw [if_neg (by (try simp only [ByteArray.size_append]); omega)]; rfl))
              (try simp only [Act.put, List.setIfInBounds_toArray, List.set_cons_zero, List.set_cons_succ])
              refine wpAnyH_ready (rs := [23]) (by kernel_rfl) (by simp) ?_
              refine AllReadyH.cons rfl (fun K hK => ?_) AllReadyH.nil
              go_simp
              refine hK.out _ _ (Q4.out _ Z33.out) (fun hHeld => ?_)
              clear hK
              (try simp only [Act.put, List.setIfInBounds_toArray, List.set_cons_zero, List.set_cons_succ])
              refine wpAnyH_done (by kernel_rfl) ?_ _
              clear hHeld
              rw [ET.out]
              go_wp2_with fail
              refine Calls.mono (SU.out _) ?_
              rintro e w9 ⟨rfl, b9⟩
              have G9 := hide ((FB.out _ Z33.out).trans (b9.mono (FB.out _ Z33.out).size))
              clear b9
              go_wp2_with fail
              go_ret2
              exact ⟨by rw [E1.out, E2.out]; rfl, G9.out⟩
        · go_simp
          refine Calls.mono (D2.out _) ?_
          rintro e wx34 ⟨rfl, bx⟩
          have Z34 := hide (Z27.out.trans (bx.mono Z27.out.size))
          clear bx
          refine hK.out _ _ (Q4.out _ Z34.out) (fun hHeld => ?_)
          clear hK
          (try simp only [Act.put, List.setIfInBounds_toArray, List.set_cons_zero, List.set_cons_succ])
          refine wpAnyH_ready (rs := [3, 19]) (by kernel_rfl) (by simp) ?_
          refine AllReadyH.cons rfl (fun K hK => ?_) (AllReadyH.cons rfl (fun K hK => ?_) AllReadyH.nil)
          · go_simp
            have Z35 := hide (Z34.out.alloc Z34.out.size (.cells #[.int .u8 71, .int .u8 82, .int .u8 1, .int .u8 (k : Int)] 5))
            refine hK.out _ _ (Q4.out _ Z35.out) (fun hHeld => ?_)
            clear hK
            (try simp only [Act.put, List.setIfInBounds_toArray, List.set_cons_zero, List.set_cons_succ])
            have RW35 := hide (Below.refl (wx34.alloc (.cells #[.int .u8 71, .int .u8 82, .int .u8 1, .int .u8 (k : Int)] 5)).heap.size (wx34.alloc (.cells #[.int .u8 71, .int .u8 82, .int .u8 1, .int .u8 (k : Int)] 5)))
            refine wpAnyH_ready (rs := [4, 19]) (by kernel_rfl) (by simp) ?_
            refine AllReadyH.cons rfl (fun K hK => ?_) (AllReadyH.cons rfl (fun K hK => ?_) AllReadyH.nil)
            · have hcv : (convert 89 9 (.slice (some ⟨wx34.heap.size, 0, none⟩) 4 4)).run Tryd.prog (wx34.alloc (.cells #[.int .u8 71, .int .u8 82, .int .u8 1, .int .u8 (k : Int)] 5)) = .ok (.string HX) (wx34.alloc (.cells #[.int .u8 71, .int .u8 82, .int .u8 1, .int .u8 (k : Int)] 5)) := CV.out (wx34) _ RW35.out
              go_simp
              clear hcv
              refine hK.out _ _ (Q4.out _ Z35.out) (fun hHeld => ?_)
              clear hK
              (try simp only [Act.put, List.setIfInBounds_toArray, List.set_cons_zero, List.set_cons_succ])
              refine wpAnyH_take (i := 8) (v := (.string (HX ++ X0))) rfl (by kernel_rfl) (by kernel_rfl) (by kernel_rfl) (fun _ _ _ h => h) (Or.inl ⟨by rfl, ?_⟩) (by assumption) ?_
              · intro w' hSw
                (try dsimp only at hSw)
                (go_simp <;> first | omega | (rw [if_neg (by (try simp only [ByteArray.size_append]); omega)]; rfl))
              (try simp only [Act.put, List.setIfInBounds_toArray, List.set_cons_zero, List.set_cons_succ])
              refine wpAnyH_take (i := 12) (v := (.string (HX ++ X0 ++ X1))) rfl (by kernel_rfl) (by kernel_rfl) (by kernel_rfl) (fun _ _ _ h => h) (Or.inl ⟨by rfl, ?_⟩) (by assumption) ?_
              · intro w' hSw
                (try dsimp only at hSw)
                (go_simp <;> first | omega | (rw [if_neg (by (try simp only [ByteArray.size_append]); omega)]; rfl))
              (try simp only [Act.put, List.setIfInBounds_toArray, List.set_cons_zero, List.set_cons_succ])
              refine wpAnyH_take (i := 16) (v := (.string (HX ++ X0 ++ X1 ++ X2))) rfl (by kernel_rfl) (by kernel_rfl) (by kernel_rfl) (fun _ _ _ h => h) (Or.inl ⟨by rfl, ?_⟩) (by assumption) ?_
              · intro w' hSw
                (try dsimp only at hSw)
                (go_simp <;> first | omega | (rw [if_neg (by (try simp only [ByteArray.size_append]); omega)]; rfl))
              (try simp only [Act.put, List.setIfInBounds_toArray, List.set_cons_zero, List.set_cons_succ])
              refine wpAnyH_ready (rs := [19]) (by kernel_rfl) (by simp) ?_
              refine AllReadyH.cons rfl (fun K hK => ?_) AllReadyH.nil
              go_simp
              refine Calls.mono (D3.out _) ?_
              rintro e wx36 ⟨rfl, bx⟩
              have Z36 := hide (Z35.out.trans (bx.mono Z35.out.size))
              clear bx
              refine hK.out _ _ (Q4.out _ Z36.out) (fun hHeld => ?_)
              clear hK
              (try simp only [Act.put, List.setIfInBounds_toArray, List.set_cons_zero, List.set_cons_succ])
              refine wpAnyH_take (i := 20) (v := (.string (HX ++ X0 ++ X1 ++ X2 ++ X3))) rfl (by kernel_rfl) (by kernel_rfl) (by kernel_rfl) (fun _ _ _ h => h) (Or.inl ⟨by rfl, ?_⟩) (by assumption) ?_
              · intro w' hSw
                (try dsimp only at hSw)
                (go_simp <;> first | omega | (rw [if_neg (by (try simp only [ByteArray.size_append]); omega)]; rfl))
              (try simp only [Act.put, List.setIfInBounds_toArray, List.set_cons_zero, List.set_cons_succ])
              refine wpAnyH_take (i := 22) (v := (.string (HX ++ X0 ++ X1 ++ X2 ++ X3 ++ BX))) rfl (by kernel_rfl) (by kernel_rfl) (by kernel_rfl) (fun _ _ _ h => h) (Or.inl ⟨by rfl, ?_⟩) (by assumption) ?_
              · intro w' hSw
                (try dsimp only at hSw)
                (go_simp <;> first | omega | (rw [if_neg (by (try simp only [ByteArray.size_append]); omega)]; rfl))
              (try simp only [Act.put, List.setIfInBounds_toArray, List.set_cons_zero, List.set_cons_succ])
              refine wpAnyH_ready (rs := [23]) (by kernel_rfl) (by simp) ?_
              refine AllReadyH.cons rfl (fun K hK => ?_) AllReadyH.nil
              go_simp
              refine hK.out _ _ (Q4.out _ Z36.out) (fun hHeld => ?_)
              clear hK
              (try simp only [Act.put, List.setIfInBounds_toArray, List.set_cons_zero, List.set_cons_succ])
              refine wpAnyH_done (by kernel_rfl) ?_ _
              clear hHeld
              rw [ET.out]
              go_wp2_with fail
              refine Calls.mono (SU.out _) ?_
              rintro e w9 ⟨rfl, b9⟩
              have G9 := hide ((FB.out _ Z36.out).trans (b9.mono (FB.out _ Z36.out).size))
              clear b9
              go_wp2_with fail
              go_ret2
              exact ⟨by rw [E1.out, E2.out]; rfl, G9.out⟩
            · go_simp
              refine Calls.mono (D3.out _) ?_
              rintro e wx37 ⟨rfl, bx⟩
              have Z37 := hide (Z35.out.trans (bx.mono Z35.out.size))
              have RW37 := hide (RW35.out.trans (bx.mono RW35.out.size))
              clear bx
              refine hK.out _ _ (Q4.out _ Z37.out) (fun hHeld => ?_)
              clear hK
              (try simp only [Act.put, List.setIfInBounds_toArray, List.set_cons_zero, List.set_cons_succ])
              refine wpAnyH_ready (rs := [4]) (by kernel_rfl) (by simp) ?_
              refine AllReadyH.cons rfl (fun K hK => ?_) AllReadyH.nil
              have hcv : (convert 89 9 (.slice (some ⟨wx34.heap.size, 0, none⟩) 4 4)).run Tryd.prog wx37 = .ok (.string HX) wx37 := CV.out (wx34) _ RW37.out
              go_simp
              clear hcv
              refine hK.out _ _ (Q4.out _ Z37.out) (fun hHeld => ?_)
              clear hK
              (try simp only [Act.put, List.setIfInBounds_toArray, List.set_cons_zero, List.set_cons_succ])
              refine wpAnyH_take (i := 8) (v := (.string (HX ++ X0))) rfl (by kernel_rfl) (by kernel_rfl) (by kernel_rfl) (fun _ _ _ h => h) (Or.inl ⟨by rfl, ?_⟩) (by assumption) ?_
              · intro w' hSw
                (try dsimp only at hSw)
                (go_simp <;> first | omega | (rw [if_neg (by (try simp only [ByteArray.size_append]); omega)]; rfl))
              (try simp only [Act.put, List.setIfInBounds_toArray, List.set_cons_zero, List.set_cons_succ])
              refine wpAnyH_take (i := 12) (v := (.string (HX ++ X0 ++ X1))) rfl (by kernel_rfl) (by kernel_rfl) (by kernel_rfl) (fun _ _ _ h => h) (Or.inl ⟨by rfl, ?_⟩) (by assumption) ?_
              · intro w' hSw
                (try dsimp only at hSw)
                (go_simp <;> first | omega | (rw [if_neg (by (try simp only [ByteArray.size_append]); omega)]; rfl))
              (try simp only [Act.put, List.setIfInBounds_toArray, List.set_cons_zero, List.set_cons_succ])
              refine wpAnyH_take (i := 16) (v := (.string (HX ++ X0 ++ X1 ++ X2))) rfl (by kernel_rfl) (by kernel_rfl) (by kernel_rfl) (fun _ _ _ h => h) (Or.inl ⟨by rfl, ?_⟩) (by assumption) ?_
              · intro w' hSw
                (try dsimp only at hSw)
                (go_simp <;> first | omega | (rw [if_neg (by (try simp only [ByteArray.size_append]); omega)]; rfl))
              (try simp only [Act.put, List.setIfInBounds_toArray, List.set_cons_zero, List.set_cons_succ])
              refine wpAnyH_take (i := 20) (v := (.string (HX ++ X0 ++ X1 ++ X2 ++ X3))) rfl (by kernel_rfl) (by kernel_rfl) (by kernel_rfl) (fun _ _ _ h => h) (Or.inl ⟨by rfl, ?_⟩) (by assumption) ?_
              · intro w' hSw
                (try dsimp only at hSw)
                (go_simp <;> first | omega | (rw [if_neg (by (try simp only [ByteArray.size_append]); omega)]; rfl))
              (try simp only [Act.put, List.setIfInBounds_toArray, List.set_cons_zero, List.set_cons_succ])
              refine wpAnyH_take (i := 22) (v := (.string (HX ++ X0 ++ X1 ++ X2 ++ X3 ++ BX))) rfl (by kernel_rfl) (by kernel_rfl) (by kernel_rfl) (fun _ _ _ h => h) (Or.inl ⟨by rfl, ?_⟩) (by assumption) ?_
              · intro w' hSw
                (try dsimp only at hSw)
                (go_simp <;> first | omega | (rw [if_neg (by (try simp only [ByteArray.size_append]); omega)]; rfl))
              (try simp only [Act.put, List.setIfInBounds_toArray, List.set_cons_zero, List.set_cons_succ])
              refine wpAnyH_ready (rs := [23]) (by kernel_rfl) (by simp) ?_
              refine AllReadyH.cons rfl (fun K hK => ?_) AllReadyH.nil
              go_simp
              refine hK.out _ _ (Q4.out _ Z37.out) (fun hHeld => ?_)
              clear hK
              (try simp only [Act.put, List.setIfInBounds_toArray, List.set_cons_zero, List.set_cons_succ])
              refine wpAnyH_done (by kernel_rfl) ?_ _
              clear hHeld
              rw [ET.out]
              go_wp2_with fail
              refine Calls.mono (SU.out _) ?_
              rintro e w9 ⟨rfl, b9⟩
              have G9 := hide ((FB.out _ Z37.out).trans (b9.mono (FB.out _ Z37.out).size))
              clear b9
              go_wp2_with fail
              go_ret2
              exact ⟨by rw [E1.out, E2.out]; rfl, G9.out⟩
          · go_simp
            refine Calls.mono (D3.out _) ?_
            rintro e wx38 ⟨rfl, bx⟩
            have Z38 := hide (Z34.out.trans (bx.mono Z34.out.size))
            clear bx
            refine hK.out _ _ (Q4.out _ Z38.out) (fun hHeld => ?_)
            clear hK
            (try simp only [Act.put, List.setIfInBounds_toArray, List.set_cons_zero, List.set_cons_succ])
            refine wpAnyH_ready (rs := [3]) (by kernel_rfl) (by simp) ?_
            refine AllReadyH.cons rfl (fun K hK => ?_) AllReadyH.nil
            go_simp
            have Z39 := hide (Z38.out.alloc Z38.out.size (.cells #[.int .u8 71, .int .u8 82, .int .u8 1, .int .u8 (k : Int)] 5))
            refine hK.out _ _ (Q4.out _ Z39.out) (fun hHeld => ?_)
            clear hK
            (try simp only [Act.put, List.setIfInBounds_toArray, List.set_cons_zero, List.set_cons_succ])
            have RW39 := hide (Below.refl (wx38.alloc (.cells #[.int .u8 71, .int .u8 82, .int .u8 1, .int .u8 (k : Int)] 5)).heap.size (wx38.alloc (.cells #[.int .u8 71, .int .u8 82, .int .u8 1, .int .u8 (k : Int)] 5)))
            refine wpAnyH_ready (rs := [4]) (by kernel_rfl) (by simp) ?_
            refine AllReadyH.cons rfl (fun K hK => ?_) AllReadyH.nil
            have hcv : (convert 89 9 (.slice (some ⟨wx38.heap.size, 0, none⟩) 4 4)).run Tryd.prog (wx38.alloc (.cells #[.int .u8 71, .int .u8 82, .int .u8 1, .int .u8 (k : Int)] 5)) = .ok (.string HX) (wx38.alloc (.cells #[.int .u8 71, .int .u8 82, .int .u8 1, .int .u8 (k : Int)] 5)) := CV.out (wx38) _ RW39.out
            go_simp
            clear hcv
            refine hK.out _ _ (Q4.out _ Z39.out) (fun hHeld => ?_)
            clear hK
            (try simp only [Act.put, List.setIfInBounds_toArray, List.set_cons_zero, List.set_cons_succ])
            refine wpAnyH_take (i := 8) (v := (.string (HX ++ X0))) rfl (by kernel_rfl) (by kernel_rfl) (by kernel_rfl) (fun _ _ _ h => h) (Or.inl ⟨by rfl, ?_⟩) (by assumption) ?_
            · intro w' hSw
              (try dsimp only at hSw)
              (go_simp <;> first | omega | (rw [if_neg (by (try simp only [ByteArray.size_append]); omega)]; rfl))
            (try simp only [Act.put, List.setIfInBounds_toArray, List.set_cons_zero, List.set_cons_succ])
            refine wpAnyH_take (i := 12) (v := (.string (HX ++ X0 ++ X1))) rfl (by kernel_rfl) (by kernel_rfl) (by kernel_rfl) (fun _ _ _ h => h) (Or.inl ⟨by rfl, ?_⟩) (by assumption) ?_
            · intro w' hSw
              (try dsimp only at hSw)
              (go_simp <;> first | omega | (rw [if_neg (by (try simp only [ByteArray.size_append]); omega)]; rfl))
            (try simp only [Act.put, List.setIfInBounds_toArray, List.set_cons_zero, List.set_cons_succ])
            refine wpAnyH_take (i := 16) (v := (.string (HX ++ X0 ++ X1 ++ X2))) rfl (by kernel_rfl) (by kernel_rfl) (by kernel_rfl) (fun _ _ _ h => h) (Or.inl ⟨by rfl, ?_⟩) (by assumption) ?_
            · intro w' hSw
              (try dsimp only at hSw)
              (go_simp <;> first | omega | (rw [if_neg (by (try simp only [ByteArray.size_append]); omega)]; rfl))
            (try simp only [Act.put, List.setIfInBounds_toArray, List.set_cons_zero, List.set_cons_succ])
            refine wpAnyH_take (i := 20) (v := (.string (HX ++ X0 ++ X1 ++ X2 ++ X3))) rfl (by kernel_rfl) (by kernel_rfl) (by kernel_rfl) (fun _ _ _ h => h) (Or.inl ⟨by rfl, ?_⟩) (by assumption) ?_
            · intro w' hSw
              (try dsimp only at hSw)
              (go_simp <;> first | omega | (rw [if_neg (by (try simp only [ByteArray.size_append]); omega)]; rfl))
            (try simp only [Act.put, List.setIfInBounds_toArray, List.set_cons_zero, List.set_cons_succ])
            refine wpAnyH_take (i := 22) (v := (.string (HX ++ X0 ++ X1 ++ X2 ++ X3 ++ BX))) rfl (by kernel_rfl) (by kernel_rfl) (by kernel_rfl) (fun _ _ _ h => h) (Or.inl ⟨by rfl, ?_⟩) (by assumption) ?_
            · intro w' hSw
              (try dsimp only at hSw)
              (go_simp <;> first | omega | (rw [if_neg (by (try simp only [ByteArray.size_append]); omega)]; rfl))
            (try simp only [Act.put, List.setIfInBounds_toArray, List.set_cons_zero, List.set_cons_succ])
            refine wpAnyH_ready (rs := [23]) (by kernel_rfl) (by simp) ?_
            refine AllReadyH.cons rfl (fun K hK => ?_) AllReadyH.nil
            go_simp
            refine hK.out _ _ (Q4.out _ Z39.out) (fun hHeld => ?_)
            clear hK
            (try simp only [Act.put, List.setIfInBounds_toArray, List.set_cons_zero, List.set_cons_succ])
            refine wpAnyH_done (by kernel_rfl) ?_ _
            clear hHeld
            rw [ET.out]
            go_wp2_with fail
            refine Calls.mono (SU.out _) ?_
            rintro e w9 ⟨rfl, b9⟩
            have G9 := hide ((FB.out _ Z39.out).trans (b9.mono (FB.out _ Z39.out).size))
            clear b9
            go_wp2_with fail
            go_ret2
            exact ⟨by rw [E1.out, E2.out]; rfl, G9.out⟩
/-- the document's Encode -/
theorem rencode_any (m : MM) (w : World) (hT : TabR w) :
    Calls Tryd.prog 33 #[.agg (msgV m)] w fun e w' => e = .returned (.tuple #[.string (encS m), .int .i64 (encE m)]) ∧ Below w.heap.size w w' := by
  by_cases h : 1 ≤ m.kind ∧ m.kind ≤ 16
  · obtain ⟨k, hk⟩ : ∃ k : Nat, m.kind = (k : Int) := ⟨_, (Int.toNat_of_nonneg (by omega)).symm⟩
    exact rencode_ok m k (by omega) (by omega) hk w hT
  · exact rencode_bad m w h
end Go.Proofs.YtgdjfocnaapooaaDoor
