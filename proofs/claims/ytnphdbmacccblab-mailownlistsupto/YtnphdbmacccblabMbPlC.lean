import Derived.Test.YtnphdbmacccblabMbPlays
namespace Go.Proofs.Ytnphdbmacccblab
open Go.RowKit
set_option maxHeartbeats 8000000 in
set_option maxRecDepth 100000 in
set_option linter.unusedSimpArgs false in
set_option linter.unusedVariables false in
theorem plays_heal {w : World} {b0 : Nat → Prop} {B m : Nat} (h : Bn w b0 B m) (hm : m ≤ 3298534883327) (a n mm : Int) (s : ByteArray) (hf : OpFit a n s) :
    Calls Try.prog 11 #[.pointer (some ⟨B, 0, none⟩), opV 6 a n mm s] w (Stp w b0 B m) := by
  obtain ⟨b0w, _⟩ := h.lt
  obtain ⟨j, hj⟩ : ∃ j, j = plN a := ⟨_, rfl⟩
  have jl : j < 2 := by rw [hj]; exact plN_lt a
  have PA := hide (fun w => place_any a w hf.a1 hf.a2)
  rw [← hj] at PA
  clear hj
  obtain ⟨p, q, S, cp, cq, PL, BK, SB⟩ := h.open j jl
  obtain ⟨⟨pa, rfl⟩, ⟨qa, rfl⟩⟩ := PL.ptr
  obtain ⟨W0, hW0⟩ : ∃ W0, W0 = w.alloc (.cells #[.int .i64 6, .int .i64 a, .int .i64 n, .int .i64 mm, .string s] 34) := ⟨_, rfl⟩
  obtain ⟨I, hI⟩ : ∃ I, I = w.heap.size := ⟨_, rfl⟩
  obtain ⟨W1, hW1⟩ : ∃ W1, W1 = W0.drew := ⟨_, rfl⟩
  obtain ⟨W2, hW2⟩ : ∃ W2, W2 = W1.drew := ⟨_, rfl⟩
  have O1 : Hid (OpAt W1 I 6 a n mm s) := by subst hW1; subst hW0; subst hI; exact heap_last w _
  have O2 : Hid (OpAt W2 I 6 a n mm s) := by subst hW2; exact O1.out
  have B1 : Hid (Below w.heap.size w W1) := by subst hW1; subst hW0; exact ((Below.refl _ w).alloc (Nat.le_refl _) _).trans ⟨rfl, rfl, rfl, Nat.le_refl _, fun _ _ => rfl⟩
  have B2 : Hid (Below w.heap.size w W2) := by subst hW2; exact B1.out.trans ⟨rfl, rfl, rfl, Nat.le_refl _, fun _ _ => rfl⟩
  have hBl := (h.lt).2
  have cp1 : W1.cell? ⟨B, j, none⟩ = some (.pointer pa) := (B1.out.cell (by exact hBl)).trans cp
  have cq2 : W2.cell? ⟨B, 2 + j, none⟩ = some (.pointer qa) := (B2.out.cell (by exact hBl)).trans cq
  have PB := hide BK
  have SBH : Hid (∀ k, S k → k < w.heap.size) := SB
  have NI : Hid (¬ S I) := fun e => by have := SB I e; omega
  have HS := hide (h.lt)
  clear cp cq BK SB h hBl
  have PL2 := hide (PL.kp (Kp.of_below B2.out non) (fun _ _ f => f))
  clear PL
  have S1H : Hid (W0.drew.cell? ⟨I, 1, none⟩ = some (.int .i64 a) ∧ W0.drew.cell? ⟨B, j, none⟩ = some (.pointer pa)) := by rw [← hW1]; exact ⟨O1.out.c1, cp1⟩
  have S2H : Hid (W1.drew.cell? ⟨I, 1, none⟩ = some (.int .i64 a) ∧ W1.drew.cell? ⟨B, 2 + j, none⟩ = some (.pointer qa)) := by rw [← hW2]; exact ⟨O2.out.c1, cq2⟩
  have HW1 := hide hW1
  have HW2 := hide hW2
  clear hW1 hW2 cp1 cq2
  go_enter Try.func11, Try.ntmps11
  unfold opV
  go_upto_region 1 with fail
  rw [← hW0, ← hI]
  clear hW0 hI
  refine wp_region_held_drew (S := fun X => X.cell? ⟨I, 1, none⟩ = some (.int .i64 a) ∧ X.cell? ⟨B, j, none⟩ = some (.pointer pa)) (by kernel_rfl) S1H.out (fun hHeld => ?_)
  refine wpAnyH_take (i := 0) (v := (.pointer (some ⟨B, 0, none⟩))) rfl (by kernel_rfl) (by kernel_rfl) (by kernel_rfl) (fun _ _ _ h => h) (Or.inl ⟨by rfl, ?_⟩) (by assumption) ?_
  · intro w' hSw
    (try dsimp only at hSw)
    go_simp
  (try simp only [Act.put, List.setIfInBounds_toArray, List.set_cons_zero, List.set_cons_succ])
  refine wpAnyH_take (i := 1) (v := (.pointer (some ⟨I, 1, none⟩))) rfl (by kernel_rfl) (by kernel_rfl) (by kernel_rfl) (fun _ _ _ h => h) (Or.inl ⟨by rfl, ?_⟩) (by assumption) ?_
  · intro w' hSw
    (try dsimp only at hSw)
    go_simp
  (try simp only [Act.put, List.setIfInBounds_toArray, List.set_cons_zero, List.set_cons_succ])
  refine wpAnyH_take (i := 2) (v := (.int .i64 a)) rfl (by kernel_rfl) (by kernel_rfl) (by kernel_rfl) (fun _ _ _ h => h) (Or.inl ⟨by rfl, ?_⟩) (by assumption) ?_
  · intro w' hSw
    (try dsimp only at hSw)
    (have y := hSw.1; go_simp)
  (try simp only [Act.put, List.setIfInBounds_toArray, List.set_cons_zero, List.set_cons_succ])
  refine wpAnyH_take (i := 4) (v := (.pointer (some ⟨B, 0, none⟩))) rfl (by kernel_rfl) (by kernel_rfl) (by kernel_rfl) (fun _ _ _ h => h) (Or.inl ⟨by rfl, ?_⟩) (by assumption) ?_
  · intro w' hSw
    (try dsimp only at hSw)
    go_simp
  (try simp only [Act.put, List.setIfInBounds_toArray, List.set_cons_zero, List.set_cons_succ])
  refine wpAnyH_take (i := 5) (v := (.pointer (some ⟨B, 0, none⟩))) rfl (by kernel_rfl) (by kernel_rfl) (by kernel_rfl) (fun _ _ _ h => h) (Or.inl ⟨by rfl, ?_⟩) (by assumption) ?_
  · intro w' hSw
    (try dsimp only at hSw)
    go_simp
  (try simp only [Act.put, List.setIfInBounds_toArray, List.set_cons_zero, List.set_cons_succ])
  refine wpAnyH_ready (rs := [3]) (by kernel_rfl) (by simp) ?_
  refine AllReadyH.cons rfl (fun K hK => ?_) AllReadyH.nil
  go_simp
  refine Calls.mono (PA.out _) ?_
  rintro e w9 ⟨rfl, rfl⟩
  refine hK.out _ _ (S1H.out) (fun hHeld => ?_)
  clear hK
  (try simp only [Act.put, List.setIfInBounds_toArray, List.set_cons_zero, List.set_cons_succ])
  refine wpAnyH_take (i := 6) (v := (.pointer (some ⟨B, j, none⟩))) rfl (by kernel_rfl) (by kernel_rfl) (by kernel_rfl) (fun _ _ _ h => h) (Or.inl ⟨by rfl, ?_⟩) (by assumption) ?_
  · intro w' hSw
    (try dsimp only at hSw)
    (go_simp; intro hx; exact absurd hx (by omega))
  (try simp only [Act.put, List.setIfInBounds_toArray, List.set_cons_zero, List.set_cons_succ])
  refine wpAnyH_take (i := 7) (v := (.pointer pa)) rfl (by kernel_rfl) (by kernel_rfl) (by kernel_rfl) (fun _ _ _ h => h) (Or.inl ⟨by rfl, ?_⟩) (by assumption) ?_
  · intro w' hSw
    (try dsimp only at hSw)
    (have y := hSw.2; go_simp)
  (try simp only [Act.put, List.setIfInBounds_toArray, List.set_cons_zero, List.set_cons_succ])
  refine wpAnyH_ready (rs := [8]) (by kernel_rfl) (by simp) ?_
  refine AllReadyH.cons rfl (fun K hK => ?_) AllReadyH.nil
  go_simp
  refine hK.out _ _ (S1H.out) (fun hHeld => ?_)
  clear hK
  (try simp only [Act.put, List.setIfInBounds_toArray, List.set_cons_zero, List.set_cons_succ])
  refine wpAnyH_done (by kernel_rfl) ?_ _
  clear hHeld
  go_upto_region 2 with fail
  rw [← HW1.out]
  refine wp_region_held_drew (S := fun X => X.cell? ⟨I, 1, none⟩ = some (.int .i64 a) ∧ X.cell? ⟨B, 2 + j, none⟩ = some (.pointer qa)) (by kernel_rfl) S2H.out (fun hHeld => ?_)
  refine wpAnyH_take (i := 0) (v := (.pointer (some ⟨B, 0, none⟩))) rfl (by kernel_rfl) (by kernel_rfl) (by kernel_rfl) (fun _ _ _ h => h) (Or.inl ⟨by rfl, ?_⟩) (by assumption) ?_
  · intro w' hSw
    (try dsimp only at hSw)
    go_simp
  (try simp only [Act.put, List.setIfInBounds_toArray, List.set_cons_zero, List.set_cons_succ])
  refine wpAnyH_take (i := 1) (v := (.pointer (some ⟨I, 1, none⟩))) rfl (by kernel_rfl) (by kernel_rfl) (by kernel_rfl) (fun _ _ _ h => h) (Or.inl ⟨by rfl, ?_⟩) (by assumption) ?_
  · intro w' hSw
    (try dsimp only at hSw)
    go_simp
  (try simp only [Act.put, List.setIfInBounds_toArray, List.set_cons_zero, List.set_cons_succ])
  refine wpAnyH_take (i := 2) (v := (.int .i64 a)) rfl (by kernel_rfl) (by kernel_rfl) (by kernel_rfl) (fun _ _ _ h => h) (Or.inl ⟨by rfl, ?_⟩) (by assumption) ?_
  · intro w' hSw
    (try dsimp only at hSw)
    (have y := hSw.1; go_simp)
  (try simp only [Act.put, List.setIfInBounds_toArray, List.set_cons_zero, List.set_cons_succ])
  refine wpAnyH_take (i := 4) (v := (.pointer (some ⟨B, 0, none⟩))) rfl (by kernel_rfl) (by kernel_rfl) (by kernel_rfl) (fun _ _ _ h => h) (Or.inl ⟨by rfl, ?_⟩) (by assumption) ?_
  · intro w' hSw
    (try dsimp only at hSw)
    go_simp
  (try simp only [Act.put, List.setIfInBounds_toArray, List.set_cons_zero, List.set_cons_succ])
  refine wpAnyH_take (i := 5) (v := (.pointer (some ⟨B, 2, none⟩))) rfl (by kernel_rfl) (by kernel_rfl) (by kernel_rfl) (fun _ _ _ h => h) (Or.inl ⟨by rfl, ?_⟩) (by assumption) ?_
  · intro w' hSw
    (try dsimp only at hSw)
    go_simp
  (try simp only [Act.put, List.setIfInBounds_toArray, List.set_cons_zero, List.set_cons_succ])
  refine wpAnyH_ready (rs := [3]) (by kernel_rfl) (by simp) ?_
  refine AllReadyH.cons rfl (fun K hK => ?_) AllReadyH.nil
  go_simp
  refine Calls.mono (PA.out _) ?_
  rintro e w9 ⟨rfl, rfl⟩
  refine hK.out _ _ (S2H.out) (fun hHeld => ?_)
  clear hK
  (try simp only [Act.put, List.setIfInBounds_toArray, List.set_cons_zero, List.set_cons_succ])
  refine wpAnyH_take (i := 6) (v := (.pointer (some ⟨B, 2 + j, none⟩))) rfl (by kernel_rfl) (by kernel_rfl) (by kernel_rfl) (fun _ _ _ h => h) (Or.inl ⟨by rfl, ?_⟩) (by assumption) ?_
  · intro w' hSw
    (try dsimp only at hSw)
    (go_simp; intro hx; exact absurd hx (by omega))
  (try simp only [Act.put, List.setIfInBounds_toArray, List.set_cons_zero, List.set_cons_succ])
  refine wpAnyH_take (i := 7) (v := (.pointer qa)) rfl (by kernel_rfl) (by kernel_rfl) (by kernel_rfl) (fun _ _ _ h => h) (Or.inl ⟨by rfl, ?_⟩) (by assumption) ?_
  · intro w' hSw
    (try dsimp only at hSw)
    (have y := hSw.2; go_simp)
  (try simp only [Act.put, List.setIfInBounds_toArray, List.set_cons_zero, List.set_cons_succ])
  refine wpAnyH_ready (rs := [8]) (by kernel_rfl) (by simp) ?_
  refine AllReadyH.cons rfl (fun K hK => ?_) AllReadyH.nil
  go_simp
  refine hK.out _ _ (S2H.out) (fun hHeld => ?_)
  clear hK
  (try simp only [Act.put, List.setIfInBounds_toArray, List.set_cons_zero, List.set_cons_succ])
  refine wpAnyH_done (by kernel_rfl) ?_ _
  clear hHeld
  rw [← HW2.out]
  clear HW2 HW1 S1H S2H O1 B1
  have SBW : Hid (∀ k, S k → k < W2.heap.size) := fun k e => Nat.lt_of_lt_of_le (SBH.out k e) B2.out.size
  rcases PL2.out with ⟨e1, e2⟩ | ⟨R, Q, d, e1, e2, TW, g, la, lt⟩
  · cases e1
    cases e2
    clear PL2
    have q0 := O2.out.c0
    have q2 := O2.out.c2
    have q3 := O2.out.c3
    go_wp2_with (first | (go_at_call 28; refine Calls.mono (heal_nil _ _ _) ?_; rintro e w8 ⟨rfl, rfl⟩) | (go_at_call 29; refine Calls.mono (rheal_nil _ _ _) ?_; rintro e w8 ⟨rfl, rfl⟩) | (go_at_call 19; refine Calls.mono (num_any _ _) ?_; rintro e w8 ⟨rfl, rfl⟩))
    go_ret
    obtain ⟨z1, z2⟩ := PB.out W2 S (m + 1) (by omega) (Or.inl ⟨rfl, rfl⟩) (Kp.of_below B2.out S) (Nr.refl _ _) SBW.out
    exact ⟨rfl, z1, z2⟩
  · simp only [Value.pointer.injEq] at e1 e2
    subst e1
    subst e2
    have TW2 := hide TW
    have G := hide g
    have FT : Hid (DFit d) := ⟨by omega, by omega⟩
    have LA : Hid (d.A.length ≤ m ∧ d.T.length ≤ m) := ⟨la, lt⟩
    clear PL2 TW g la lt
    have q0 := O2.out.c0
    have q2 := O2.out.c2
    have q3 := O2.out.c3
    go_wp2_with fail
    refine Calls.mono (p_heal TW2.out G.out n mm) ?_
    rintro e w3 ⟨rfl, S3, T3, K3, N3⟩
    have O3 := hide (O2.out.kp K3 NI.out)
    have T3H := hide T3
    have KN3 := hide (And.intro K3 N3)
    clear T3 K3 N3 TW2 q0 q2 q3 O2
    have r0 := O3.out.c0
    have r2 := O3.out.c2
    have r3 := O3.out.c3
    go_wp2_with fail
    refine Calls.mono (q_heal T3H.out FT.out n mm) ?_
    rintro e w4 ⟨rfl, S4, T4, K4, N4⟩
    clear O3 r0 r2 r3
    have Z : Hid (Bn w4 b0 B (m + 1) ∧ Fr b0 w w4) := by
      obtain ⟨k4, n4⟩ := kp3 (Kp.of_below B2.out S) KN3.out.1 KN3.out.2 K4 N4
      exact PB.out w4 S4 (m + 1) (by omega) (Or.inr ⟨R, Q, cutD d n mm false, rfl, rfl, T4, G.out.turn _ _ _, by have := LA.out.1; show d.A.length ≤ _; omega, by have := (cutD_T d n mm false).1; have := LA.out.2; omega⟩) k4 n4 T4.sb
    clear T4 K4 N4 T3H KN3
    go_wp2_with (first | (go_at_call 19; refine Calls.mono (num_any _ _) ?_; rintro e w8 ⟨rfl, rfl⟩))
    go_ret
    exact ⟨by simp, Z.out.1, Z.out.2⟩
set_option maxHeartbeats 8000000 in
set_option maxRecDepth 100000 in
set_option linter.unusedSimpArgs false in
set_option linter.unusedVariables false in
theorem plays_deliver {w : World} {b0 : Nat → Prop} {B m : Nat} (h : Bn w b0 B m) (hm : m ≤ 3298534883327) (a n mm : Int) (s : ByteArray) (hf : OpFit a n s) :
    Calls Try.prog 11 #[.pointer (some ⟨B, 0, none⟩), opV 2 a n mm s] w (Stp w b0 B m) := by
  obtain ⟨b0w, _⟩ := h.lt
  obtain ⟨j, hj⟩ : ∃ j, j = plN a := ⟨_, rfl⟩
  have jl : j < 2 := by rw [hj]; exact plN_lt a
  have PA := hide (fun w => place_any a w hf.a1 hf.a2)
  rw [← hj] at PA
  clear hj
  obtain ⟨p, q, S, cp, cq, PL, BK, SB⟩ := h.open j jl
  obtain ⟨⟨pa, rfl⟩, ⟨qa, rfl⟩⟩ := PL.ptr
  obtain ⟨W0, hW0⟩ : ∃ W0, W0 = w.alloc (.cells #[.int .i64 2, .int .i64 a, .int .i64 n, .int .i64 mm, .string s] 34) := ⟨_, rfl⟩
  obtain ⟨I, hI⟩ : ∃ I, I = w.heap.size := ⟨_, rfl⟩
  obtain ⟨W1, hW1⟩ : ∃ W1, W1 = W0.drew := ⟨_, rfl⟩
  obtain ⟨W2, hW2⟩ : ∃ W2, W2 = W1.drew := ⟨_, rfl⟩
  have O1 : Hid (OpAt W1 I 2 a n mm s) := by subst hW1; subst hW0; subst hI; exact heap_last w _
  have O2 : Hid (OpAt W2 I 2 a n mm s) := by subst hW2; exact O1.out
  have B1 : Hid (Below w.heap.size w W1) := by subst hW1; subst hW0; exact ((Below.refl _ w).alloc (Nat.le_refl _) _).trans ⟨rfl, rfl, rfl, Nat.le_refl _, fun _ _ => rfl⟩
  have B2 : Hid (Below w.heap.size w W2) := by subst hW2; exact B1.out.trans ⟨rfl, rfl, rfl, Nat.le_refl _, fun _ _ => rfl⟩
  have hBl := (h.lt).2
  have cp1 : W1.cell? ⟨B, j, none⟩ = some (.pointer pa) := (B1.out.cell (by exact hBl)).trans cp
  have cq2 : W2.cell? ⟨B, 2 + j, none⟩ = some (.pointer qa) := (B2.out.cell (by exact hBl)).trans cq
  have PB := hide BK
  have SBH : Hid (∀ k, S k → k < w.heap.size) := SB
  have NI : Hid (¬ S I) := fun e => by have := SB I e; omega
  have HS := hide (h.lt)
  clear cp cq BK SB h hBl
  have PL2 := hide (PL.kp (Kp.of_below B2.out non) (fun _ _ f => f))
  clear PL
  have S1H : Hid (W0.drew.cell? ⟨I, 1, none⟩ = some (.int .i64 a) ∧ W0.drew.cell? ⟨B, j, none⟩ = some (.pointer pa)) := by rw [← hW1]; exact ⟨O1.out.c1, cp1⟩
  have S2H : Hid (W1.drew.cell? ⟨I, 1, none⟩ = some (.int .i64 a) ∧ W1.drew.cell? ⟨B, 2 + j, none⟩ = some (.pointer qa)) := by rw [← hW2]; exact ⟨O2.out.c1, cq2⟩
  have HW1 := hide hW1
  have HW2 := hide hW2
  clear hW1 hW2 cp1 cq2
  go_enter Try.func11, Try.ntmps11
  unfold opV
  go_upto_region 1 with fail
  rw [← hW0, ← hI]
  clear hW0 hI
  refine wp_region_held_drew (S := fun X => X.cell? ⟨I, 1, none⟩ = some (.int .i64 a) ∧ X.cell? ⟨B, j, none⟩ = some (.pointer pa)) (by kernel_rfl) S1H.out (fun hHeld => ?_)
  refine wpAnyH_take (i := 0) (v := (.pointer (some ⟨B, 0, none⟩))) rfl (by kernel_rfl) (by kernel_rfl) (by kernel_rfl) (fun _ _ _ h => h) (Or.inl ⟨by rfl, ?_⟩) (by assumption) ?_
  · intro w' hSw
    (try dsimp only at hSw)
    go_simp
  (try simp only [Act.put, List.setIfInBounds_toArray, List.set_cons_zero, List.set_cons_succ])
  refine wpAnyH_take (i := 1) (v := (.pointer (some ⟨I, 1, none⟩))) rfl (by kernel_rfl) (by kernel_rfl) (by kernel_rfl) (fun _ _ _ h => h) (Or.inl ⟨by rfl, ?_⟩) (by assumption) ?_
  · intro w' hSw
    (try dsimp only at hSw)
    go_simp
  (try simp only [Act.put, List.setIfInBounds_toArray, List.set_cons_zero, List.set_cons_succ])
  refine wpAnyH_take (i := 2) (v := (.int .i64 a)) rfl (by kernel_rfl) (by kernel_rfl) (by kernel_rfl) (fun _ _ _ h => h) (Or.inl ⟨by rfl, ?_⟩) (by assumption) ?_
  · intro w' hSw
    (try dsimp only at hSw)
    (have y := hSw.1; go_simp)
  (try simp only [Act.put, List.setIfInBounds_toArray, List.set_cons_zero, List.set_cons_succ])
  refine wpAnyH_take (i := 4) (v := (.pointer (some ⟨B, 0, none⟩))) rfl (by kernel_rfl) (by kernel_rfl) (by kernel_rfl) (fun _ _ _ h => h) (Or.inl ⟨by rfl, ?_⟩) (by assumption) ?_
  · intro w' hSw
    (try dsimp only at hSw)
    go_simp
  (try simp only [Act.put, List.setIfInBounds_toArray, List.set_cons_zero, List.set_cons_succ])
  refine wpAnyH_take (i := 5) (v := (.pointer (some ⟨B, 0, none⟩))) rfl (by kernel_rfl) (by kernel_rfl) (by kernel_rfl) (fun _ _ _ h => h) (Or.inl ⟨by rfl, ?_⟩) (by assumption) ?_
  · intro w' hSw
    (try dsimp only at hSw)
    go_simp
  (try simp only [Act.put, List.setIfInBounds_toArray, List.set_cons_zero, List.set_cons_succ])
  refine wpAnyH_ready (rs := [3]) (by kernel_rfl) (by simp) ?_
  refine AllReadyH.cons rfl (fun K hK => ?_) AllReadyH.nil
  go_simp
  refine Calls.mono (PA.out _) ?_
  rintro e w9 ⟨rfl, rfl⟩
  refine hK.out _ _ (S1H.out) (fun hHeld => ?_)
  clear hK
  (try simp only [Act.put, List.setIfInBounds_toArray, List.set_cons_zero, List.set_cons_succ])
  refine wpAnyH_take (i := 6) (v := (.pointer (some ⟨B, j, none⟩))) rfl (by kernel_rfl) (by kernel_rfl) (by kernel_rfl) (fun _ _ _ h => h) (Or.inl ⟨by rfl, ?_⟩) (by assumption) ?_
  · intro w' hSw
    (try dsimp only at hSw)
    (go_simp; intro hx; exact absurd hx (by omega))
  (try simp only [Act.put, List.setIfInBounds_toArray, List.set_cons_zero, List.set_cons_succ])
  refine wpAnyH_take (i := 7) (v := (.pointer pa)) rfl (by kernel_rfl) (by kernel_rfl) (by kernel_rfl) (fun _ _ _ h => h) (Or.inl ⟨by rfl, ?_⟩) (by assumption) ?_
  · intro w' hSw
    (try dsimp only at hSw)
    (have y := hSw.2; go_simp)
  (try simp only [Act.put, List.setIfInBounds_toArray, List.set_cons_zero, List.set_cons_succ])
  refine wpAnyH_ready (rs := [8]) (by kernel_rfl) (by simp) ?_
  refine AllReadyH.cons rfl (fun K hK => ?_) AllReadyH.nil
  go_simp
  refine hK.out _ _ (S1H.out) (fun hHeld => ?_)
  clear hK
  (try simp only [Act.put, List.setIfInBounds_toArray, List.set_cons_zero, List.set_cons_succ])
  refine wpAnyH_done (by kernel_rfl) ?_ _
  clear hHeld
  go_upto_region 2 with fail
  rw [← HW1.out]
  refine wp_region_held_drew (S := fun X => X.cell? ⟨I, 1, none⟩ = some (.int .i64 a) ∧ X.cell? ⟨B, 2 + j, none⟩ = some (.pointer qa)) (by kernel_rfl) S2H.out (fun hHeld => ?_)
  refine wpAnyH_take (i := 0) (v := (.pointer (some ⟨B, 0, none⟩))) rfl (by kernel_rfl) (by kernel_rfl) (by kernel_rfl) (fun _ _ _ h => h) (Or.inl ⟨by rfl, ?_⟩) (by assumption) ?_
  · intro w' hSw
    (try dsimp only at hSw)
    go_simp
  (try simp only [Act.put, List.setIfInBounds_toArray, List.set_cons_zero, List.set_cons_succ])
  refine wpAnyH_take (i := 1) (v := (.pointer (some ⟨I, 1, none⟩))) rfl (by kernel_rfl) (by kernel_rfl) (by kernel_rfl) (fun _ _ _ h => h) (Or.inl ⟨by rfl, ?_⟩) (by assumption) ?_
  · intro w' hSw
    (try dsimp only at hSw)
    go_simp
  (try simp only [Act.put, List.setIfInBounds_toArray, List.set_cons_zero, List.set_cons_succ])
  refine wpAnyH_take (i := 2) (v := (.int .i64 a)) rfl (by kernel_rfl) (by kernel_rfl) (by kernel_rfl) (fun _ _ _ h => h) (Or.inl ⟨by rfl, ?_⟩) (by assumption) ?_
  · intro w' hSw
    (try dsimp only at hSw)
    (have y := hSw.1; go_simp)
  (try simp only [Act.put, List.setIfInBounds_toArray, List.set_cons_zero, List.set_cons_succ])
  refine wpAnyH_take (i := 4) (v := (.pointer (some ⟨B, 0, none⟩))) rfl (by kernel_rfl) (by kernel_rfl) (by kernel_rfl) (fun _ _ _ h => h) (Or.inl ⟨by rfl, ?_⟩) (by assumption) ?_
  · intro w' hSw
    (try dsimp only at hSw)
    go_simp
  (try simp only [Act.put, List.setIfInBounds_toArray, List.set_cons_zero, List.set_cons_succ])
  refine wpAnyH_take (i := 5) (v := (.pointer (some ⟨B, 2, none⟩))) rfl (by kernel_rfl) (by kernel_rfl) (by kernel_rfl) (fun _ _ _ h => h) (Or.inl ⟨by rfl, ?_⟩) (by assumption) ?_
  · intro w' hSw
    (try dsimp only at hSw)
    go_simp
  (try simp only [Act.put, List.setIfInBounds_toArray, List.set_cons_zero, List.set_cons_succ])
  refine wpAnyH_ready (rs := [3]) (by kernel_rfl) (by simp) ?_
  refine AllReadyH.cons rfl (fun K hK => ?_) AllReadyH.nil
  go_simp
  refine Calls.mono (PA.out _) ?_
  rintro e w9 ⟨rfl, rfl⟩
  refine hK.out _ _ (S2H.out) (fun hHeld => ?_)
  clear hK
  (try simp only [Act.put, List.setIfInBounds_toArray, List.set_cons_zero, List.set_cons_succ])
  refine wpAnyH_take (i := 6) (v := (.pointer (some ⟨B, 2 + j, none⟩))) rfl (by kernel_rfl) (by kernel_rfl) (by kernel_rfl) (fun _ _ _ h => h) (Or.inl ⟨by rfl, ?_⟩) (by assumption) ?_
  · intro w' hSw
    (try dsimp only at hSw)
    (go_simp; intro hx; exact absurd hx (by omega))
  (try simp only [Act.put, List.setIfInBounds_toArray, List.set_cons_zero, List.set_cons_succ])
  refine wpAnyH_take (i := 7) (v := (.pointer qa)) rfl (by kernel_rfl) (by kernel_rfl) (by kernel_rfl) (fun _ _ _ h => h) (Or.inl ⟨by rfl, ?_⟩) (by assumption) ?_
  · intro w' hSw
    (try dsimp only at hSw)
    (have y := hSw.2; go_simp)
  (try simp only [Act.put, List.setIfInBounds_toArray, List.set_cons_zero, List.set_cons_succ])
  refine wpAnyH_ready (rs := [8]) (by kernel_rfl) (by simp) ?_
  refine AllReadyH.cons rfl (fun K hK => ?_) AllReadyH.nil
  go_simp
  refine hK.out _ _ (S2H.out) (fun hHeld => ?_)
  clear hK
  (try simp only [Act.put, List.setIfInBounds_toArray, List.set_cons_zero, List.set_cons_succ])
  refine wpAnyH_done (by kernel_rfl) ?_ _
  clear hHeld
  rw [← HW2.out]
  clear HW2 HW1 S1H S2H O1 B1
  have SBW : Hid (∀ k, S k → k < W2.heap.size) := fun k e => Nat.lt_of_lt_of_le (SBH.out k e) B2.out.size
  rcases PL2.out with ⟨e1, e2⟩ | ⟨R, Q, d, e1, e2, TW, g, la, lt⟩
  · cases e1
    cases e2
    clear PL2
    have q0 := O2.out.c0
    have q2 := O2.out.c2
    have O2H := O2
    go_wp2_with fail
    refine Calls.mono (deliver_nil n W2) ?_
    rintro e w3 ⟨rfl, hb3⟩
    obtain ⟨xx, hxx⟩ : ∃ xx, xx = noL := ⟨_, rfl⟩
    rw [← hxx]
    have HXX := hide hxx
    clear hxx q0 q2
    obtain ⟨W4, hW4⟩ : ∃ W4, W4 = w3.alloc (.cells #[.int .i64 xx.id, .int .i64 xx.fr, .int .i64 xx.td, .string xx.tx] 53) := ⟨_, rfl⟩
    obtain ⟨J, hJ⟩ : ∃ J, J = w3.heap.size := ⟨_, rfl⟩
    have J4 : Hid (LtAt W4 J xx) := by subst hW4; subst hJ; exact heap_last w3 _
    have O4 : Hid (OpAt W4 I 2 a n mm s) := by subst hW4; exact ((hb3.alloc hb3.size _).block _ (blk_lt O2.out)).trans O2.out
    have B4 : Hid (Below w.heap.size w W4) := by subst hW4; exact B2.out.trans ((hb3.alloc hb3.size _).mono B2.out.size)
    clear hb3 O2 O2H
    unfold Lt.v
    go_upto_region 10 with fail
    rw [← hW4, ← hJ]
    clear hW4 hJ
    have r2 := O4.out.c2
    go_wp2_with fail
    refine Calls.mono (rdeliver_nil n W4) ?_
    rintro e w5 ⟨rfl, hb5⟩
    rw [← HXX.out]
    have J5 : Hid (LtAt w5 J xx) := (hb5.block _ (blk_lt J4.out)).trans J4.out
    have B5 : Hid (Below w.heap.size w w5) := B4.out.trans (hb5.mono B4.out.size)
    clear hb5 r2 O4 J4 B4
    obtain ⟨W6, hW6⟩ : ∃ W6, W6 = w5.alloc (.cells #[.int .i64 xx.id, .int .i64 xx.fr, .int .i64 xx.td, .string xx.tx] 53) := ⟨_, rfl⟩
    obtain ⟨L, hL⟩ : ∃ L, L = w5.heap.size := ⟨_, rfl⟩
    have L6 : Hid (LtAt W6 L xx) := by subst hW6; subst hL; exact heap_last w5 _
    have J6 : Hid (LtAt W6 J xx) := by subst hW6; exact (((Below.refl _ w5).alloc (Nat.le_refl _) _).block _ (blk_lt J5.out)).trans J5.out
    have B6 : Hid (Below w.heap.size w W6) := by subst hW6; exact B5.out.alloc B5.out.size _
    clear J5 B5 HXX
    unfold Lt.v
    go_upto_region 11 with fail
    rw [← hW6, ← hL]
    clear hW6 hL
    have j0 := J6.out.c0
    have j1 := J6.out.c1
    have j2 := J6.out.c2
    have j3 := J6.out.c3
    have l0 := L6.out.c0
    have l1 := L6.out.c1
    have l2 := L6.out.c2
    have l3 := L6.out.c3
    go_wp2_with (first | (go_at_call 19; refine Calls.mono (num_any _ _) ?_; rintro e w8 ⟨rfl, rfl⟩))
    go_ret
    obtain ⟨z1, z2⟩ := PB.out W6 S (m + 1) (by omega) (Or.inl ⟨rfl, rfl⟩) (Kp.of_below B6.out S) (Nr.refl _ _) (fun k e => Nat.lt_of_lt_of_le (SBH.out k e) B6.out.size)
    exact ⟨by simp, z1, z2⟩
  · simp only [Value.pointer.injEq] at e1 e2
    subst e1
    subst e2
    have TW2 := hide TW
    have G := hide g
    have FT : Hid (DFit d) := ⟨by omega, by omega⟩
    have LA : Hid (d.A.length ≤ m ∧ d.T.length ≤ m) := ⟨la, lt⟩
    clear PL2 TW g la lt
    have q0 := O2.out.c0
    have q2 := O2.out.c2
    have PD := p_deliver TW2.out G.out n
    obtain ⟨xx, hxx⟩ : ∃ xx, dlvV (d.st 0) n = xx := ⟨_, rfl⟩
    rw [hxx] at PD
    have PD := hide PD
    have HXX := hide hxx
    clear hxx
    go_wp2_with fail
    refine Calls.mono PD.out ?_
    rintro e w3 ⟨rfl, S3, T3, K3, N3⟩
    have O3 := hide (O2.out.kp K3 NI.out)
    have T3H := hide T3
    have KN3 := hide (And.intro K3 N3)
    clear T3 K3 N3 TW2 PD q0 q2 O2
    obtain ⟨W4, hW4⟩ : ∃ W4, W4 = w3.alloc (.cells #[.int .i64 xx.id, .int .i64 xx.fr, .int .i64 xx.td, .string xx.tx] 53) := ⟨_, rfl⟩
    obtain ⟨J, hJ⟩ : ∃ J, J = w3.heap.size := ⟨_, rfl⟩
    have J4 : Hid (LtAt W4 J xx) := by subst hW4; subst hJ; exact heap_last w3 _
    have B34 : Hid (Below w3.heap.size w3 W4) := by subst hW4; exact (Below.refl _ w3).alloc (Nat.le_refl _) _
    have O4 : Hid (OpAt W4 I 2 a n mm s) := (B34.out.block _ (blk_lt O3.out)).trans O3.out
    have T4H := hide (T3H.out.below B34.out)
    have NJ : Hid (¬ S3 J) := fun e => by have := T3H.out.sb J e; omega
    clear O3
    unfold Lt.v
    go_upto_region 10 with fail
    rw [← hW4, ← hJ]
    clear hW4 hJ
    have r2 := O4.out.c2
    have QD := q_deliver T4H.out G.out FT.out n hf.n2
    rw [HXX.out] at QD
    have QD := hide QD
    go_wp2_with fail
    refine Calls.mono QD.out ?_
    rintro e w5 ⟨rfl, S5, T5, K5, N5⟩
    have J5 := hide (J4.out.kp K5 NJ.out)
    have Z5 : Hid (Kp w w5 S ∧ Nr w S S5) := by
      have kk := (Kp.of_below B34.out S3).trans K5 (fun k e => Or.inl e)
      have nn : Nr w3 S3 S5 := fun k e => by
        rcases N5 k e with a | a
        · exact Or.inl a
        · exact Or.inr (Nat.le_trans B34.out.size a)
      exact kp3 (Kp.of_below B2.out S) KN3.out.1 KN3.out.2 kk nn
    have T5H := hide T5
    clear T5 K5 N5 QD r2 O4 J4 T4H T3H NJ
    obtain ⟨W6, hW6⟩ : ∃ W6, W6 = w5.alloc (.cells #[.int .i64 xx.id, .int .i64 xx.fr, .int .i64 xx.td, .string xx.tx] 53) := ⟨_, rfl⟩
    obtain ⟨L, hL⟩ : ∃ L, L = w5.heap.size := ⟨_, rfl⟩
    have L6 : Hid (LtAt W6 L xx) := by subst hW6; subst hL; exact heap_last w5 _
    have J6 : Hid (LtAt W6 J xx) := by subst hW6; exact (((Below.refl _ w5).alloc (Nat.le_refl _) _).block _ (blk_lt J5.out)).trans J5.out
    have B56 : Hid (Below w5.heap.size w5 W6) := by subst hW6; exact (Below.refl _ w5).alloc (Nat.le_refl _) _
    have Z : Hid (Bn W6 b0 B (m + 1) ∧ Fr b0 w W6) := by
      have T6 := T5H.out.below B56.out
      exact PB.out W6 S5 (m + 1) (by omega) (Or.inr ⟨R, Q, dlvD d n, rfl, rfl, T6, G.out.dlv _, by have := dlvD_A d n; have := LA.out.1; omega, by rw [dlvD_T]; have := LA.out.2; omega⟩) (Z5.out.1.trans (Kp.of_below B56.out non) (fun _ f => f.elim)) Z5.out.2 T6.sb
    clear J5 Z5 T5H B56
    unfold Lt.v
    go_upto_region 11 with fail
    rw [← hW6, ← hL]
    clear hW6 hL
    have j0 := J6.out.c0
    have j1 := J6.out.c1
    have j2 := J6.out.c2
    have j3 := J6.out.c3
    have l0 := L6.out.c0
    have l1 := L6.out.c1
    have l2 := L6.out.c2
    have l3 := L6.out.c3
    go_wp2_with (first | (go_at_call 19; refine Calls.mono (num_any _ _) ?_; rintro e w8 ⟨rfl, rfl⟩))
    go_ret
    exact ⟨by simp, Z.out.1, Z.out.2⟩
end Go.Proofs.Ytnphdbmacccblab
