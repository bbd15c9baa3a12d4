import Derived.Test.YtnphdbmacccblabMbPlays
namespace Go.Proofs.Ytnphdbmacccblab
open Go.RowKit
set_option maxHeartbeats 8000000 in
set_option maxRecDepth 100000 in
set_option linter.unusedSimpArgs false in
set_option linter.unusedVariables false in
theorem plays_flying {w : World} {b0 : Nat → Prop} {B m : Nat} (h : Bn w b0 B m) (hm : m ≤ 3298534883327) (a n mm : Int) (s : ByteArray) (hf : OpFit a n s) :
    Calls Try.prog 11 #[.pointer (some ⟨B, 0, none⟩), opV 7 a n mm s] w (Stp w b0 B m) := by
  obtain ⟨b0w, _⟩ := h.lt
  obtain ⟨j, hj⟩ : ∃ j, j = plN a := ⟨_, rfl⟩
  have jl : j < 2 := by rw [hj]; exact plN_lt a
  have PA := hide (fun w => place_any a w hf.a1 hf.a2)
  rw [← hj] at PA
  clear hj
  obtain ⟨p, q, S, cp, cq, PL, BK, SB⟩ := h.open j jl
  obtain ⟨⟨pa, rfl⟩, ⟨qa, rfl⟩⟩ := PL.ptr
  obtain ⟨W0, hW0⟩ : ∃ W0, W0 = w.alloc (.cells #[.int .i64 7, .int .i64 a, .int .i64 n, .int .i64 mm, .string s] 34) := ⟨_, rfl⟩
  obtain ⟨I, hI⟩ : ∃ I, I = w.heap.size := ⟨_, rfl⟩
  obtain ⟨W1, hW1⟩ : ∃ W1, W1 = W0.drew := ⟨_, rfl⟩
  obtain ⟨W2, hW2⟩ : ∃ W2, W2 = W1.drew := ⟨_, rfl⟩
  have O1 : Hid (OpAt W1 I 7 a n mm s) := by subst hW1; subst hW0; subst hI; exact heap_last w _
  have O2 : Hid (OpAt W2 I 7 a n mm s) := by subst hW2; exact O1.out
  have B1 : Hid (Below w.heap.size w W1) := by subst hW1; subst hW0; exact ((Below.refl _ w).alloc (Nat.le_refl _) _).trans ⟨rfl, rfl, rfl, Nat.le_refl _, fun _ _ => rfl⟩
  have B2 : Hid (Below w.heap.size w W2) := by subst hW2; exact B1.out.trans ⟨rfl, rfl, rfl, Nat.le_refl _, fun _ _ => rfl⟩
  have hBl := (h.lt).2
  have cp1 : W1.cell? ⟨B, j, none⟩ = some (.pointer pa) := (B1.out.cell (by exact hBl)).trans cp
  have cq2 : W2.cell? ⟨B, 2 + j, none⟩ = some (.pointer qa) := (B2.out.cell (by exact hBl)).trans cq
  have PB := hide BK
  have SBH : Hid (∀ k, S k → k < w.heap.size) := SB
  have NI : Hid (¬ S I) := fun e => by have := SB I e; omega
  have HS := hide (h.lt)
  clear cp cq BK SB h hBl
  have PL2 := hide (PL.kp (Kp.of_below B2.out non) (fun _ _ f => f))
  clear PL
  have S1H : Hid (W0.drew.cell? ⟨I, 1, none⟩ = some (.int .i64 a) ∧ W0.drew.cell? ⟨B, j, none⟩ = some (.pointer pa)) := by rw [← hW1]; exact ⟨O1.out.c1, cp1⟩
  have S2H : Hid (W1.drew.cell? ⟨I, 1, none⟩ = some (.int .i64 a) ∧ W1.drew.cell? ⟨B, 2 + j, none⟩ = some (.pointer qa)) := by rw [← hW2]; exact ⟨O2.out.c1, cq2⟩
  have HW1 := hide hW1
  have HW2 := hide hW2
  clear hW1 hW2 cp1 cq2
  go_enter Try.func11, Try.ntmps11
  unfold opV
  go_upto_region 1 with fail
  rw [← hW0, ← hI]
  clear hW0 hI
  refine wp_region_held_drew (S := fun X => X.cell? ⟨I, 1, none⟩ = some (.int .i64 a) ∧ X.cell? ⟨B, j, none⟩ = some (.pointer pa)) (by kernel_rfl) S1H.out (fun hHeld => ?_)
  refine wpAnyH_take (i := 0) (v := (.pointer (some ⟨B, 0, none⟩))) rfl (by kernel_rfl) (by kernel_rfl) (by kernel_rfl) (fun _ _ _ h => h) (Or.inl ⟨by rfl, ?_⟩) (by assumption) ?_
  · intro w' hSw
    (try dsimp only at hSw)
    go_simp
  (try simp only [Act.put, List.setIfInBounds_toArray, List.set_cons_zero, List.set_cons_succ])
  refine wpAnyH_take (i := 1) (v := (.pointer (some ⟨I, 1, none⟩))) rfl (by kernel_rfl) (by kernel_rfl) (by kernel_rfl) (fun _ _ _ h => h) (Or.inl ⟨by rfl, ?_⟩) (by assumption) ?_
  · intro w' hSw
    (try dsimp only at hSw)
    go_simp
  (try simp only [Act.put, List.setIfInBounds_toArray, List.set_cons_zero, List.set_cons_succ])
  refine wpAnyH_take (i := 2) (v := (.int .i64 a)) rfl (by kernel_rfl) (by kernel_rfl) (by kernel_rfl) (fun _ _ _ h => h) (Or.inl ⟨by rfl, ?_⟩) (by assumption) ?_
  · intro w' hSw
    (try dsimp only at hSw)
    (have y := hSw.1; go_simp)
  (try simp only [Act.put, List.setIfInBounds_toArray, List.set_cons_zero, List.set_cons_succ])
  refine wpAnyH_take (i := 4) (v := (.pointer (some ⟨B, 0, none⟩))) rfl (by kernel_rfl) (by kernel_rfl) (by kernel_rfl) (fun _ _ _ h => h) (Or.inl ⟨by rfl, ?_⟩) (by assumption) ?_
  · intro w' hSw
    (try dsimp only at hSw)
    go_simp
  (try simp only [Act.put, List.setIfInBounds_toArray, List.set_cons_zero, List.set_cons_succ])
  refine wpAnyH_take (i := 5) (v := (.pointer (some ⟨B, 0, none⟩))) rfl (by kernel_rfl) (by kernel_rfl) (by kernel_rfl) (fun _ _ _ h => h) (Or.inl ⟨by rfl, ?_⟩) (by assumption) ?_
  · intro w' hSw
    (try dsimp only at hSw)
    go_simp
  (try simp only [Act.put, List.setIfInBounds_toArray, List.set_cons_zero, List.set_cons_succ])
  refine wpAnyH_ready (rs := [3]) (by kernel_rfl) (by simp) ?_
  refine AllReadyH.cons rfl (fun K hK => ?_) AllReadyH.nil
  go_simp
  refine Calls.mono (PA.out _) ?_
  rintro e w9 ⟨rfl, rfl⟩
  refine hK.out _ _ (S1H.out) (fun hHeld => ?_)
  clear hK
  (try simp only [Act.put, List.setIfInBounds_toArray, List.set_cons_zero, List.set_cons_succ])
  refine wpAnyH_take (i := 6) (v := (.pointer (some ⟨B, j, none⟩))) rfl (by kernel_rfl) (by kernel_rfl) (by kernel_rfl) (fun _ _ _ h => h) (Or.inl ⟨by rfl, ?_⟩) (by assumption) ?_
  · intro w' hSw
    (try dsimp only at hSw)
    (go_simp; intro hx; exact absurd hx (by omega))
  (try simp only [Act.put, List.setIfInBounds_toArray, List.set_cons_zero, List.set_cons_succ])
  refine wpAnyH_take (i := 7) (v := (.pointer pa)) rfl (by kernel_rfl) (by kernel_rfl) (by kernel_rfl) (fun _ _ _ h => h) (Or.inl ⟨by rfl, ?_⟩) (by assumption) ?_
  · intro w' hSw
    (try dsimp only at hSw)
    (have y := hSw.2; go_simp)
  (try simp only [Act.put, List.setIfInBounds_toArray, List.set_cons_zero, List.set_cons_succ])
  refine wpAnyH_ready (rs := [8]) (by kernel_rfl) (by simp) ?_
  refine AllReadyH.cons rfl (fun K hK => ?_) AllReadyH.nil
  go_simp
  refine hK.out _ _ (S1H.out) (fun hHeld => ?_)
  clear hK
  (try simp only [Act.put, List.setIfInBounds_toArray, List.set_cons_zero, List.set_cons_succ])
  refine wpAnyH_done (by kernel_rfl) ?_ _
  clear hHeld
  go_upto_region 2 with fail
  rw [← HW1.out]
  refine wp_region_held_drew (S := fun X => X.cell? ⟨I, 1, none⟩ = some (.int .i64 a) ∧ X.cell? ⟨B, 2 + j, none⟩ = some (.pointer qa)) (by kernel_rfl) S2H.out (fun hHeld => ?_)
  refine wpAnyH_take (i := 0) (v := (.pointer (some ⟨B, 0, none⟩))) rfl (by kernel_rfl) (by kernel_rfl) (by kernel_rfl) (fun _ _ _ h => h) (Or.inl ⟨by rfl, ?_⟩) (by assumption) ?_
  · intro w' hSw
    (try dsimp only at hSw)
    go_simp
  (try simp only [Act.put, List.setIfInBounds_toArray, List.set_cons_zero, List.set_cons_succ])
  refine wpAnyH_take (i := 1) (v := (.pointer (some ⟨I, 1, none⟩))) rfl (by kernel_rfl) (by kernel_rfl) (by kernel_rfl) (fun _ _ _ h => h) (Or.inl ⟨by rfl, ?_⟩) (by assumption) ?_
  · intro w' hSw
    (try dsimp only at hSw)
    go_simp
  (try simp only [Act.put, List.setIfInBounds_toArray, List.set_cons_zero, List.set_cons_succ])
  refine wpAnyH_take (i := 2) (v := (.int .i64 a)) rfl (by kernel_rfl) (by kernel_rfl) (by kernel_rfl) (fun _ _ _ h => h) (Or.inl ⟨by rfl, ?_⟩) (by assumption) ?_
  · intro w' hSw
    (try dsimp only at hSw)
    (have y := hSw.1; go_simp)
  (try simp only [Act.put, List.setIfInBounds_toArray, List.set_cons_zero, List.set_cons_succ])
  refine wpAnyH_take (i := 4) (v := (.pointer (some ⟨B, 0, none⟩))) rfl (by kernel_rfl) (by kernel_rfl) (by kernel_rfl) (fun _ _ _ h => h) (Or.inl ⟨by rfl, ?_⟩) (by assumption) ?_
  · intro w' hSw
    (try dsimp only at hSw)
    go_simp
  (try simp only [Act.put, List.setIfInBounds_toArray, List.set_cons_zero, List.set_cons_succ])
  refine wpAnyH_take (i := 5) (v := (.pointer (some ⟨B, 2, none⟩))) rfl (by kernel_rfl) (by kernel_rfl) (by kernel_rfl) (fun _ _ _ h => h) (Or.inl ⟨by rfl, ?_⟩) (by assumption) ?_
  · intro w' hSw
    (try dsimp only at hSw)
    go_simp
  (try simp only [Act.put, List.setIfInBounds_toArray, List.set_cons_zero, List.set_cons_succ])
  refine wpAnyH_ready (rs := [3]) (by kernel_rfl) (by simp) ?_
  refine AllReadyH.cons rfl (fun K hK => ?_) AllReadyH.nil
  go_simp
  refine Calls.mono (PA.out _) ?_
  rintro e w9 ⟨rfl, rfl⟩
  refine hK.out _ _ (S2H.out) (fun hHeld => ?_)
  clear hK
  (try simp only [Act.put, List.setIfInBounds_toArray, List.set_cons_zero, List.set_cons_succ])
  refine wpAnyH_take (i := 6) (v := (.pointer (some ⟨B, 2 + j, none⟩))) rfl (by kernel_rfl) (by kernel_rfl) (by kernel_rfl) (fun _ _ _ h => h) (Or.inl ⟨by rfl, ?_⟩) (by assumption) ?_
  · intro w' hSw
    (try dsimp only at hSw)
    (go_simp; intro hx; exact absurd hx (by omega))
  (try simp only [Act.put, List.setIfInBounds_toArray, List.set_cons_zero, List.set_cons_succ])
  refine wpAnyH_take (i := 7) (v := (.pointer qa)) rfl (by kernel_rfl) (by kernel_rfl) (by kernel_rfl) (fun _ _ _ h => h) (Or.inl ⟨by rfl, ?_⟩) (by assumption) ?_
  · intro w' hSw
    (try dsimp only at hSw)
    (have y := hSw.2; go_simp)
  (try simp only [Act.put, List.setIfInBounds_toArray, List.set_cons_zero, List.set_cons_succ])
  refine wpAnyH_ready (rs := [8]) (by kernel_rfl) (by simp) ?_
  refine AllReadyH.cons rfl (fun K hK => ?_) AllReadyH.nil
  go_simp
  refine hK.out _ _ (S2H.out) (fun hHeld => ?_)
  clear hK
  (try simp only [Act.put, List.setIfInBounds_toArray, List.set_cons_zero, List.set_cons_succ])
  refine wpAnyH_done (by kernel_rfl) ?_ _
  clear hHeld
  rw [← HW2.out]
  clear HW2 HW1 S1H S2H O1 B1
  have SBW : Hid (∀ k, S k → k < W2.heap.size) := fun k e => Nat.lt_of_lt_of_le (SBH.out k e) B2.out.size
  rcases PL2.out with ⟨e1, e2⟩ | ⟨R, Q, d, e1, e2, TW, g, la, lt⟩
  · cases e1
    cases e2
    clear PL2
    have q0 := O2.out.c0
    have SE := hide (sameLetters_eq (w := W2) (va := .slice none 0 0) (vb := .slice none 0 0) (L := []) ⟨none, 0, 0, rfl, fun h => by simp at h, fun q h => by simp at h⟩ ⟨none, 0, 0, rfl, fun h => by simp at h, fun q h => by simp at h⟩ (by simp))
    go_wp2_with (first | (go_at_call 7; refine Calls.mono (flying_nil _) ?_; rintro e w8 ⟨rfl, rfl⟩) | (go_at_call 9; refine Calls.mono (rflying_nil _) ?_; rintro e w8 ⟨rfl, rfl⟩) | (go_at_call 8; refine Calls.mono SE.out ?_; rintro e w8 ⟨rfl, hb8⟩))
    go_ret
    have PLZ : Pl w8 S (.pointer none) (.pointer none) (m + 1) := Or.inl ⟨rfl, rfl⟩
    have b8 : Below w.heap.size w w8 := B2.out.trans (hb8.mono B2.out.size)
    obtain ⟨z1, z2⟩ := PB.out w8 S (m + 1) (by omega) PLZ (Kp.of_below b8 S) (Nr.refl _ _) (fun k e => Nat.lt_of_lt_of_le (SBH.out k e) b8.size)
    exact ⟨by simp, z1, z2⟩
  · simp only [Value.pointer.injEq] at e1 e2
    subst e1
    subst e2
    have TW2 := hide TW
    have G := hide g
    have FT : Hid (DFit d) := ⟨by omega, by omega⟩
    have LA : Hid (d.A.length ≤ m ∧ d.T.length ≤ m) := ⟨la, lt⟩
    clear PL2 TW g la lt
    have q0 := O2.out.c0
    go_wp2_with fail
    refine Calls.mono (p_flying TW2.out G.out) ?_
    rintro e w3 ⟨v3, rfl, l3, hb3⟩
    have T3 := hide (TW2.out.below hb3)
    have L3 := hide l3
    have B3 : Hid (Below w.heap.size w w3) := B2.out.trans (hb3.mono B2.out.size)
    clear l3 hb3 q0
    go_wp2_with fail
    refine Calls.mono (q_flying T3.out FT.out) ?_
    rintro e w4 ⟨v4, rfl, l4, hb4⟩
    have L34 := hide (L3.out.below hb4)
    have L4 := hide l4
    have B4 : Hid (Below w.heap.size w w4) := B3.out.trans (hb4.mono B3.out.size)
    have T4 := hide (T3.out.below hb4)
    clear l4 hb4
    have SE := hide (sameLetters_eq L34.out L4.out (by have := live_le d.A; have := FT.out.a; omega))
    go_wp2_with fail
    refine Calls.mono SE.out ?_
    rintro e w8 ⟨rfl, hb8⟩
    have b8 : Below w.heap.size w w8 := B4.out.trans (hb8.mono B4.out.size)
    have PLZ : Pl w8 S (.pointer (some ⟨R, 0, none⟩)) (.pointer (some ⟨Q, 0, none⟩)) (m + 1) := Or.inr ⟨R, Q, d, rfl, rfl, T4.out.below hb8, G.out, by have := LA.out.1; omega, by have := LA.out.2; omega⟩
    clear hb8
    have PLZ := hide PLZ
    have b8 := hide b8
    go_wp2_with fail
    go_ret
    obtain ⟨z1, z2⟩ := PB.out w8 S (m + 1) (by omega) PLZ.out (Kp.of_below b8.out S) (Nr.refl _ _) (fun k e => Nat.lt_of_lt_of_le (SBH.out k e) b8.out.size)
    exact ⟨by simp, z1, z2⟩
set_option maxHeartbeats 8000000 in
set_option maxRecDepth 100000 in
set_option linter.unusedSimpArgs false in
set_option linter.unusedVariables false in
theorem plays_count {w : World} {b0 : Nat → Prop} {B m : Nat} (h : Bn w b0 B m) (hm : m ≤ 3298534883327) (a n mm : Int) (s : ByteArray) (hf : OpFit a n s) :
    Calls Try.prog 11 #[.pointer (some ⟨B, 0, none⟩), opV 8 a n mm s] w (Stp w b0 B m) := by
  obtain ⟨b0w, _⟩ := h.lt
  obtain ⟨j, hj⟩ : ∃ j, j = plN a := ⟨_, rfl⟩
  have jl : j < 2 := by rw [hj]; exact plN_lt a
  have PA := hide (fun w => place_any a w hf.a1 hf.a2)
  rw [← hj] at PA
  clear hj
  obtain ⟨p, q, S, cp, cq, PL, BK, SB⟩ := h.open j jl
  obtain ⟨⟨pa, rfl⟩, ⟨qa, rfl⟩⟩ := PL.ptr
  obtain ⟨W0, hW0⟩ : ∃ W0, W0 = w.alloc (.cells #[.int .i64 8, .int .i64 a, .int .i64 n, .int .i64 mm, .string s] 34) := ⟨_, rfl⟩
  obtain ⟨I, hI⟩ : ∃ I, I = w.heap.size := ⟨_, rfl⟩
  obtain ⟨W1, hW1⟩ : ∃ W1, W1 = W0.drew := ⟨_, rfl⟩
  obtain ⟨W2, hW2⟩ : ∃ W2, W2 = W1.drew := ⟨_, rfl⟩
  have O1 : Hid (OpAt W1 I 8 a n mm s) := by subst hW1; subst hW0; subst hI; exact heap_last w _
  have O2 : Hid (OpAt W2 I 8 a n mm s) := by subst hW2; exact O1.out
  have B1 : Hid (Below w.heap.size w W1) := by subst hW1; subst hW0; exact ((Below.refl _ w).alloc (Nat.le_refl _) _).trans ⟨rfl, rfl, rfl, Nat.le_refl _, fun _ _ => rfl⟩
  have B2 : Hid (Below w.heap.size w W2) := by subst hW2; exact B1.out.trans ⟨rfl, rfl, rfl, Nat.le_refl _, fun _ _ => rfl⟩
  have hBl := (h.lt).2
  have cp1 : W1.cell? ⟨B, j, none⟩ = some (.pointer pa) := (B1.out.cell (by exact hBl)).trans cp
  have cq2 : W2.cell? ⟨B, 2 + j, none⟩ = some (.pointer qa) := (B2.out.cell (by exact hBl)).trans cq
  have PB := hide BK
  have SBH : Hid (∀ k, S k → k < w.heap.size) := SB
  have NI : Hid (¬ S I) := fun e => by have := SB I e; omega
  have HS := hide (h.lt)
  clear cp cq BK SB h hBl
  have PL2 := hide (PL.kp (Kp.of_below B2.out non) (fun _ _ f => f))
  clear PL
  have S1H : Hid (W0.drew.cell? ⟨I, 1, none⟩ = some (.int .i64 a) ∧ W0.drew.cell? ⟨B, j, none⟩ = some (.pointer pa)) := by rw [← hW1]; exact ⟨O1.out.c1, cp1⟩
  have S2H : Hid (W1.drew.cell? ⟨I, 1, none⟩ = some (.int .i64 a) ∧ W1.drew.cell? ⟨B, 2 + j, none⟩ = some (.pointer qa)) := by rw [← hW2]; exact ⟨O2.out.c1, cq2⟩
  have HW1 := hide hW1
  have HW2 := hide hW2
  clear hW1 hW2 cp1 cq2
  go_enter Try.func11, Try.ntmps11
  unfold opV
  go_upto_region 1 with fail
  rw [← hW0, ← hI]
  clear hW0 hI
  refine wp_region_held_drew (S := fun X => X.cell? ⟨I, 1, none⟩ = some (.int .i64 a) ∧ X.cell? ⟨B, j, none⟩ = some (.pointer pa)) (by kernel_rfl) S1H.out (fun hHeld => ?_)
  refine wpAnyH_take (i := 0) (v := (.pointer (some ⟨B, 0, none⟩))) rfl (by kernel_rfl) (by kernel_rfl) (by kernel_rfl) (fun _ _ _ h => h) (Or.inl ⟨by rfl, ?_⟩) (by assumption) ?_
  · intro w' hSw
    (try dsimp only at hSw)
    go_simp
  (try simp only [Act.put, List.setIfInBounds_toArray, List.set_cons_zero, List.set_cons_succ])
  refine wpAnyH_take (i := 1) (v := (.pointer (some ⟨I, 1, none⟩))) rfl (by kernel_rfl) (by kernel_rfl) (by kernel_rfl) (fun _ _ _ h => h) (Or.inl ⟨by rfl, ?_⟩) (by assumption) ?_
  · intro w' hSw
    (try dsimp only at hSw)
    go_simp
  (try simp only [Act.put, List.setIfInBounds_toArray, List.set_cons_zero, List.set_cons_succ])
  refine wpAnyH_take (i := 2) (v := (.int .i64 a)) rfl (by kernel_rfl) (by kernel_rfl) (by kernel_rfl) (fun _ _ _ h => h) (Or.inl ⟨by rfl, ?_⟩) (by assumption) ?_
  · intro w' hSw
    (try dsimp only at hSw)
    (have y := hSw.1; go_simp)
  (try simp only [Act.put, List.setIfInBounds_toArray, List.set_cons_zero, List.set_cons_succ])
  refine wpAnyH_take (i := 4) (v := (.pointer (some ⟨B, 0, none⟩))) rfl (by kernel_rfl) (by kernel_rfl) (by kernel_rfl) (fun _ _ _ h => h) (Or.inl ⟨by rfl, ?_⟩) (by assumption) ?_
  · intro w' hSw
    (try dsimp only at hSw)
    go_simp
  (try simp only [Act.put, List.setIfInBounds_toArray, List.set_cons_zero, List.set_cons_succ])
  refine wpAnyH_take (i := 5) (v := (.pointer (some ⟨B, 0, none⟩))) rfl (by kernel_rfl) (by kernel_rfl) (by kernel_rfl) (fun _ _ _ h => h) (Or.inl ⟨by rfl, ?_⟩) (by assumption) ?_
  · intro w' hSw
    (try dsimp only at hSw)
    go_simp
  (try simp only [Act.put, List.setIfInBounds_toArray, List.set_cons_zero, List.set_cons_succ])
  refine wpAnyH_ready (rs := [3]) (by kernel_rfl) (by simp) ?_
  refine AllReadyH.cons rfl (fun K hK => ?_) AllReadyH.nil
  go_simp
  refine Calls.mono (PA.out _) ?_
  rintro e w9 ⟨rfl, rfl⟩
  refine hK.out _ _ (S1H.out) (fun hHeld => ?_)
  clear hK
  (try simp only [Act.put, List.setIfInBounds_toArray, List.set_cons_zero, List.set_cons_succ])
  refine wpAnyH_take (i := 6) (v := (.pointer (some ⟨B, j, none⟩))) rfl (by kernel_rfl) (by kernel_rfl) (by kernel_rfl) (fun _ _ _ h => h) (Or.inl ⟨by rfl, ?_⟩) (by assumption) ?_
  · intro w' hSw
    (try dsimp only at hSw)
    (go_simp; intro hx; exact absurd hx (by omega))
  (try simp only [Act.put, List.setIfInBounds_toArray, List.set_cons_zero, List.set_cons_succ])
  refine wpAnyH_take (i := 7) (v := (.pointer pa)) rfl (by kernel_rfl) (by kernel_rfl) (by kernel_rfl) (fun _ _ _ h => h) (Or.inl ⟨by rfl, ?_⟩) (by assumption) ?_
  · intro w' hSw
    (try dsimp only at hSw)
    (have y := hSw.2; go_simp)
  (try simp only [Act.put, List.setIfInBounds_toArray, List.set_cons_zero, List.set_cons_succ])
  refine wpAnyH_ready (rs := [8]) (by kernel_rfl) (by simp) ?_
  refine AllReadyH.cons rfl (fun K hK => ?_) AllReadyH.nil
  go_simp
  refine hK.out _ _ (S1H.out) (fun hHeld => ?_)
  clear hK
  (try simp only [Act.put, List.setIfInBounds_toArray, List.set_cons_zero, List.set_cons_succ])
  refine wpAnyH_done (by kernel_rfl) ?_ _
  clear hHeld
  go_upto_region 2 with fail
  rw [← HW1.out]
  refine wp_region_held_drew (S := fun X => X.cell? ⟨I, 1, none⟩ = some (.int .i64 a) ∧ X.cell? ⟨B, 2 + j, none⟩ = some (.pointer qa)) (by kernel_rfl) S2H.out (fun hHeld => ?_)
  refine wpAnyH_take (i := 0) (v := (.pointer (some ⟨B, 0, none⟩))) rfl (by kernel_rfl) (by kernel_rfl) (by kernel_rfl) (fun _ _ _ h => h) (Or.inl ⟨by rfl, ?_⟩) (by assumption) ?_
  · intro w' hSw
    (try dsimp only at hSw)
    go_simp
  (try simp only [Act.put, List.setIfInBounds_toArray, List.set_cons_zero, List.set_cons_succ])
  refine wpAnyH_take (i := 1) (v := (.pointer (some ⟨I, 1, none⟩))) rfl (by kernel_rfl) (by kernel_rfl) (by kernel_rfl) (fun _ _ _ h => h) (Or.inl ⟨by rfl, ?_⟩) (by assumption) ?_
  · intro w' hSw
    (try dsimp only at hSw)
    go_simp
  (try simp only [Act.put, List.setIfInBounds_toArray, List.set_cons_zero, List.set_cons_succ])
  refine wpAnyH_take (i := 2) (v := (.int .i64 a)) rfl (by kernel_rfl) (by kernel_rfl) (by kernel_rfl) (fun _ _ _ h => h) (Or.inl ⟨by rfl, ?_⟩) (by assumption) ?_
  · intro w' hSw
    (try dsimp only at hSw)
    (have y := hSw.1; go_simp)
  (try simp only [Act.put, List.setIfInBounds_toArray, List.set_cons_zero, List.set_cons_succ])
  refine wpAnyH_take (i := 4) (v := (.pointer (some ⟨B, 0, none⟩))) rfl (by kernel_rfl) (by kernel_rfl) (by kernel_rfl) (fun _ _ _ h => h) (Or.inl ⟨by rfl, ?_⟩) (by assumption) ?_
  · intro w' hSw
    (try dsimp only at hSw)
    go_simp
  (try simp only [Act.put, List.setIfInBounds_toArray, List.set_cons_zero, List.set_cons_succ])
  refine wpAnyH_take (i := 5) (v := (.pointer (some ⟨B, 2, none⟩))) rfl (by kernel_rfl) (by kernel_rfl) (by kernel_rfl) (fun _ _ _ h => h) (Or.inl ⟨by rfl, ?_⟩) (by assumption) ?_
  · intro w' hSw
    (try dsimp only at hSw)
    go_simp
  (try simp only [Act.put, List.setIfInBounds_toArray, List.set_cons_zero, List.set_cons_succ])
  refine wpAnyH_ready (rs := [3]) (by kernel_rfl) (by simp) ?_
  refine AllReadyH.cons rfl (fun K hK => ?_) AllReadyH.nil
  go_simp
  refine Calls.mono (PA.out _) ?_
  rintro e w9 ⟨rfl, rfl⟩
  refine hK.out _ _ (S2H.out) (fun hHeld => ?_)
  clear hK
  (try simp only [Act.put, List.setIfInBounds_toArray, List.set_cons_zero, List.set_cons_succ])
  refine wpAnyH_take (i := 6) (v := (.pointer (some ⟨B, 2 + j, none⟩))) rfl (by kernel_rfl) (by kernel_rfl) (by kernel_rfl) (fun _ _ _ h => h) (Or.inl ⟨by rfl, ?_⟩) (by assumption) ?_
  · intro w' hSw
    (try dsimp only at hSw)
    (go_simp; intro hx; exact absurd hx (by omega))
  (try simp only [Act.put, List.setIfInBounds_toArray, List.set_cons_zero, List.set_cons_succ])
  refine wpAnyH_take (i := 7) (v := (.pointer qa)) rfl (by kernel_rfl) (by kernel_rfl) (by kernel_rfl) (fun _ _ _ h => h) (Or.inl ⟨by rfl, ?_⟩) (by assumption) ?_
  · intro w' hSw
    (try dsimp only at hSw)
    (have y := hSw.2; go_simp)
  (try simp only [Act.put, List.setIfInBounds_toArray, List.set_cons_zero, List.set_cons_succ])
  refine wpAnyH_ready (rs := [8]) (by kernel_rfl) (by simp) ?_
  refine AllReadyH.cons rfl (fun K hK => ?_) AllReadyH.nil
  go_simp
  refine hK.out _ _ (S2H.out) (fun hHeld => ?_)
  clear hK
  (try simp only [Act.put, List.setIfInBounds_toArray, List.set_cons_zero, List.set_cons_succ])
  refine wpAnyH_done (by kernel_rfl) ?_ _
  clear hHeld
  rw [← HW2.out]
  clear HW2 HW1 S1H S2H O1 B1
  have SBW : Hid (∀ k, S k → k < W2.heap.size) := fun k e => Nat.lt_of_lt_of_le (SBH.out k e) B2.out.size
  rcases PL2.out with ⟨e1, e2⟩ | ⟨R, Q, d, e1, e2, TW, g, la, lt⟩
  · cases e1
    cases e2
    clear PL2
    have q0 := O2.out.c0
    go_wp2_with (first | (go_at_call 30; refine Calls.mono (mcount_nil _) ?_; rintro e w8 ⟨rfl, rfl⟩) | (go_at_call 31; refine Calls.mono (rcount_nil _) ?_; rintro e w8 ⟨rfl, rfl⟩))
    go_ret
    have PLZ : Pl W2 S (.pointer none) (.pointer none) (m + 1) := Or.inl ⟨rfl, rfl⟩
    obtain ⟨z1, z2⟩ := PB.out W2 S (m + 1) (by omega) PLZ (Kp.of_below B2.out S) (Nr.refl _ _) (fun k e => Nat.lt_of_lt_of_le (SBH.out k e) B2.out.size)
    exact ⟨by simp, z1, z2⟩
  · simp only [Value.pointer.injEq] at e1 e2
    subst e1
    subst e2
    have TW2 := hide TW
    have G := hide g
    have FT : Hid (DFit d) := ⟨by omega, by omega⟩
    have LA : Hid (d.A.length ≤ m ∧ d.T.length ≤ m) := ⟨la, lt⟩
    clear PL2 TW g la lt
    have q0 := O2.out.c0
    have PC := hide (p_count TW2.out G.out)
    have QC := hide (q_count TW2.out FT.out)
    go_wp2_with (first | (go_at_call 30; refine Calls.mono PC.out ?_; rintro e w8 ⟨rfl, rfl⟩) | (go_at_call 31; refine Calls.mono QC.out ?_; rintro e w8 ⟨rfl, hb8⟩))
    go_ret
    have b8 : Below w.heap.size w w8 := B2.out.trans (hb8.mono B2.out.size)
    have PLZ : Pl w8 S (.pointer (some ⟨R, 0, none⟩)) (.pointer (some ⟨Q, 0, none⟩)) (m + 1) := Or.inr ⟨R, Q, d, rfl, rfl, TW2.out.below hb8, G.out, by have := LA.out.1; omega, by have := LA.out.2; omega⟩
    obtain ⟨z1, z2⟩ := PB.out w8 S (m + 1) (by omega) PLZ (Kp.of_below b8 S) (Nr.refl _ _) (fun k e => Nat.lt_of_lt_of_le (SBH.out k e) b8.size)
    exact ⟨by simp, z1, z2⟩
end Go.Proofs.Ytnphdbmacccblab
