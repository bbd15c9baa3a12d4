import Derived.Test.YtkfiaahgcljljabTbNew
namespace Go.Proofs.Ytkfiaahgcljljab
open Go.RowKit
/-- the document's bucket in memory -/
def RfAt (w : World) (Q : Nat) (r p c k : Int) : Prop := w.heap[Q]? = some (.cells #[.int .i64 r, .int .i64 p, .int .i64 c, .int .i64 k] 68)
theorem RfAt.c0 {w : World} {Q : Nat} {r p c k : Int} (h : RfAt w Q r p c k) : w.cell? ⟨Q, 0, none⟩ = some (.int .i64 r) := by unfold World.cell?; rw [h]; rfl
theorem RfAt.c1 {w : World} {Q : Nat} {r p c k : Int} (h : RfAt w Q r p c k) : w.cell? ⟨Q, 1, none⟩ = some (.int .i64 p) := by unfold World.cell?; rw [h]; rfl
theorem RfAt.c2 {w : World} {Q : Nat} {r p c k : Int} (h : RfAt w Q r p c k) : w.cell? ⟨Q, 2, none⟩ = some (.int .i64 c) := by unfold World.cell?; rw [h]; rfl
theorem RfAt.c3 {w : World} {Q : Nat} {r p c k : Int} (h : RfAt w Q r p c k) : w.cell? ⟨Q, 3, none⟩ = some (.int .i64 k) := by unfold World.cell?; rw [h]; rfl
theorem RfAt.fz {w : World} {Q : Nat} {r p c k : Int} (h : RfAt w Q r p c k) (j : Nat) : w.frozen? ⟨Q, j, none⟩ = false := by unfold World.frozen?; rw [h]; simp
theorem RfAt.set {w : World} {Q : Nat} {r p c k : Int} (h : RfAt w Q r p c k) (k' : Int) : RfAt (w.setCell ⟨Q, 3, none⟩ (.int .i64 k')) Q r p c k' := heap_setCell _ _ _ _ _ _ _ h
theorem RfAt.drew {w : World} {Q : Nat} {r p c k : Int} (h : RfAt w Q r p c k) : RfAt w.drew Q r p c k := h
theorem RfAt.drewN {w : World} {Q : Nat} {r p c k : Int} (h : RfAt w Q r p c k) (n : Nat) : RfAt (w.drewN n) Q r p c k := h
theorem RfAt.below {w w' : World} {Q : Nat} {r p c k : Int} (h : RfAt w Q r p c k) (hb : Below w.heap.size w w') : RfAt w' Q r p c k := (hb.block _ (blk_lt h)).trans h
theorem RfAt.other {w w' : World} {Q R : Nat} {r p c k : Int} (h : RfAt w Q r p c k) (hb : w.grownBy w' (some R)) (hq : Q ≠ R) : RfAt w' Q r p c k := (hb.block _ (blk_lt h) (fun e => hq (by cases e; rfl))).trans h
set_option maxHeartbeats 8000000 in
set_option maxRecDepth 100000 in
set_option linter.unusedSimpArgs false in
set_option linter.unusedVariables false in
theorem rtick_nil (n : Int) (w : World) : Calls Try.prog 11 #[.pointer none, .int .i64 n] w fun e w' => e = .returned (.int .i64 2) ∧ w = w' := by
  go_enter Try.func11, Try.ntmps11
  go_wp2_with fail
  go_ret
  exact ⟨rfl, rfl⟩
set_option maxHeartbeats 8000000 in
set_option maxRecDepth 100000 in
set_option linter.unusedSimpArgs false in
set_option linter.unusedVariables false in
theorem rlevel_nil (w : World) : Calls Try.prog 17 #[.pointer none] w fun e w' => e = .returned (.int .i64 0) ∧ w = w' := by
  go_enter Try.func17, Try.ntmps17
  go_wp2_with fail
  go_ret
  exact ⟨rfl, rfl⟩
set_option maxHeartbeats 8000000 in
set_option maxRecDepth 100000 in
set_option linter.unusedSimpArgs false in
set_option linter.unusedVariables false in
theorem rasked_nil (n : Int) (w : World) : Calls Try.prog 23 #[.pointer none, .int .i64 n] w fun e w' => e = .returned (.int .i64 2) ∧ w = w' := by
  go_enter Try.func23, Try.ntmps23
  go_wp2_with fail
  go_ret
  exact ⟨rfl, rfl⟩
set_option maxHeartbeats 8000000 in
set_option maxRecDepth 100000 in
set_option linter.unusedSimpArgs false in
set_option linter.unusedVariables false in
theorem rasked_any (w : World) (Q : Nat) (r p c k n : Int) (h : RfAt w Q r p c k) : Calls Try.prog 23 #[.pointer (some ⟨Q, 0, none⟩), .int .i64 n] w fun e w' => e = .returned (.int .i64 (askE c n)) ∧ w = w' := by
  have c2 := h.c2
  unfold askE
  by_cases h1 : n < 0
  · go_enter Try.func23, Try.ntmps23
    go_wp2_with fail
    go_ret
    exact ⟨by simp, rfl⟩
  · by_cases h2 : c < n
    · go_enter Try.func23, Try.ntmps23
      go_wp2_with fail
      go_ret
      exact ⟨by simp, rfl⟩
    · go_enter Try.func23, Try.ntmps23
      go_wp2_with fail
      go_ret
      exact ⟨by simp, rfl⟩
set_option maxHeartbeats 8000000 in
set_option maxRecDepth 100000 in
set_option linter.unusedSimpArgs false in
set_option linter.unusedVariables false in
theorem rtake_nil (n : Int) (w : World) : Calls Try.prog 13 #[.pointer none, .int .i64 n] w fun e w' => e = .returned (.tuple #[.bool false, .int .i64 2]) ∧ w = w' := by
  have AS := hide (rasked_nil n w)
  go_enter Try.func13, Try.ntmps13
  go_wp2_with (go_at_call 23; refine Calls.mono AS.out ?_; rintro e w1 ⟨rfl, rfl⟩)
  go_ret2
  exact ⟨rfl, rfl⟩
set_option maxHeartbeats 8000000 in
set_option maxRecDepth 100000 in
set_option linter.unusedSimpArgs false in
set_option linter.unusedVariables false in
theorem rtake_bad (w : World) (Q : Nat) (r p c k n : Int) (h : RfAt w Q r p c k) (ee : Int) (he : askE c n = ee) (h0 : ¬ ee = 0) :
    Calls Try.prog 13 #[.pointer (some ⟨Q, 0, none⟩), .int .i64 n] w fun e w' => e = .returned (.tuple #[.bool false, .int .i64 ee]) ∧ w = w' := by
  have AS := rasked_any w Q r p c k n h
  rw [he] at AS
  have AS := hide AS
  have hb : (ee == 0) = false := by simp; exact h0
  go_enter Try.func13, Try.ntmps13
  go_wp2_with (go_at_call 23; refine Calls.mono AS.out ?_; rintro e w1 ⟨rfl, rfl⟩)
  go_ret2
  exact ⟨rfl, rfl⟩
set_option maxHeartbeats 8000000 in
set_option maxRecDepth 100000 in
set_option linter.unusedSimpArgs false in
set_option linter.unusedVariables false in
theorem rwait_nil (n : Int) (w : World) : Calls Try.prog 15 #[.pointer none, .int .i64 n] w fun e w' => e = .returned (.tuple #[.int .i64 0, .int .i64 2]) ∧ w = w' := by
  have AS := hide (rasked_nil n w)
  go_enter Try.func15, Try.ntmps15
  go_wp2_with (go_at_call 23; refine Calls.mono AS.out ?_; rintro e w1 ⟨rfl, rfl⟩)
  go_ret2
  exact ⟨rfl, rfl⟩
set_option maxHeartbeats 8000000 in
set_option maxRecDepth 100000 in
set_option linter.unusedSimpArgs false in
set_option linter.unusedVariables false in
theorem rwait_bad (w : World) (Q : Nat) (r p c k n : Int) (h : RfAt w Q r p c k) (ee : Int) (he : askE c n = ee) (h0 : ¬ ee = 0) :
    Calls Try.prog 15 #[.pointer (some ⟨Q, 0, none⟩), .int .i64 n] w fun e w' => e = .returned (.tuple #[.int .i64 0, .int .i64 ee]) ∧ w = w' := by
  have AS := rasked_any w Q r p c k n h
  rw [he] at AS
  have AS := hide AS
  have hb : (ee == 0) = false := by simp; exact h0
  go_enter Try.func15, Try.ntmps15
  go_wp2_with (go_at_call 23; refine Calls.mono AS.out ?_; rintro e w1 ⟨rfl, rfl⟩)
  go_ret2
  exact ⟨rfl, rfl⟩
set_option maxHeartbeats 8000000 in
set_option maxRecDepth 100000 in
set_option linter.unusedSimpArgs false in
set_option linter.unusedVariables false in
theorem rtick_low (w : World) (Q : Nat) (r p c k n : Int) (h : RfAt w Q r p c k) (hf : Fits r p c k) (hn : 0 ≤ n) (hn2 : n ≤ 1099511627776) (hk : k + n * r ≤ c * p) :
    Calls Try.prog 11 #[.pointer (some ⟨Q, 0, none⟩), .int .i64 n] w fun e w' => e = .returned (.int .i64 0) ∧ RfAt w' Q r p c (tickP r p c k n) ∧ w.grownBy w' (some Q) := by
  have m1 := mul_in (A := 1099511627776) (B := 65536) hn hn2 (by have := hf.r1; omega) hf.r2
  have m2 := hf.cp
  have k1 := hf.k1
  have k2 := hf.k2
  have IZ : Hid (RfAt w Q r p c k ∧ w.grownBy w (some Q)) := ⟨h, grown_refl _ _⟩
  obtain ⟨X, hX⟩ : ∃ X, X = w := ⟨_, rfl⟩
  clear h
  go_enter Try.func11, Try.ntmps11
  go_wp2_with fail
  refine wp_region_held_drew (S := fun X => ∃ k', RfAt X Q r p c k' ∧ w.grownBy X (some Q)) (by kernel_rfl) ⟨_, IZ.out.1.drew, grown_drew IZ.out.2⟩ (fun hHeld => ?_)
  refine wpAnyH_take (i := 0) (v := (.pointer (some ⟨Q, 0, none⟩))) rfl (by kernel_rfl) (by kernel_rfl) (by kernel_rfl) (fun _ _ _ h => h) (Or.inl ⟨by rfl, ?_⟩) (by assumption) ?_
  · intro w' hSw
    (try dsimp only at hSw)
    go_simp
  (try simp only [Act.put, List.setIfInBounds_toArray, List.set_cons_zero, List.set_cons_succ])
  refine wpAnyH_take (i := 1) (v := (.pointer (some ⟨Q, 0, none⟩))) rfl (by kernel_rfl) (by kernel_rfl) (by kernel_rfl) (fun _ _ _ h => h) (Or.inl ⟨by rfl, ?_⟩) (by assumption) ?_
  · intro w' hSw
    (try dsimp only at hSw)
    go_simp
  (try simp only [Act.put, List.setIfInBounds_toArray, List.set_cons_zero, List.set_cons_succ])
  refine wpAnyH_take (i := 2) (v := (.pointer (some ⟨Q, 0, none⟩))) rfl (by kernel_rfl) (by kernel_rfl) (by kernel_rfl) (fun _ _ _ h => h) (Or.inl ⟨by rfl, ?_⟩) (by assumption) ?_
  · intro w' hSw
    (try dsimp only at hSw)
    go_simp
  (try simp only [Act.put, List.setIfInBounds_toArray, List.set_cons_zero, List.set_cons_succ])
  refine wpAnyH_take (i := 3) (v := (.pointer (some ⟨Q, 3, none⟩))) rfl (by kernel_rfl) (by kernel_rfl) (by kernel_rfl) (fun _ _ _ h => h) (Or.inl ⟨by rfl, ?_⟩) (by assumption) ?_
  · intro w' hSw
    (try dsimp only at hSw)
    go_simp
  (try simp only [Act.put, List.setIfInBounds_toArray, List.set_cons_zero, List.set_cons_succ])
  refine wpAnyH_take (i := 5) (v := (.int .i64 n)) rfl (by kernel_rfl) (by kernel_rfl) (by kernel_rfl) (fun _ _ _ h => h) (Or.inl ⟨by rfl, ?_⟩) (by assumption) ?_
  · intro w' hSw
    (try dsimp only at hSw)
    go_simp
  (try simp only [Act.put, List.setIfInBounds_toArray, List.set_cons_zero, List.set_cons_succ])
  refine wpAnyH_take (i := 6) (v := (.pointer (some ⟨Q, 0, none⟩))) rfl (by kernel_rfl) (by kernel_rfl) (by kernel_rfl) (fun _ _ _ h => h) (Or.inl ⟨by rfl, ?_⟩) (by assumption) ?_
  · intro w' hSw
    (try dsimp only at hSw)
    go_simp
  (try simp only [Act.put, List.setIfInBounds_toArray, List.set_cons_zero, List.set_cons_succ])
  refine wpAnyH_take (i := 7) (v := (.pointer (some ⟨Q, 0, none⟩))) rfl (by kernel_rfl) (by kernel_rfl) (by kernel_rfl) (fun _ _ _ h => h) (Or.inl ⟨by rfl, ?_⟩) (by assumption) ?_
  · intro w' hSw
    (try dsimp only at hSw)
    go_simp
  (try simp only [Act.put, List.setIfInBounds_toArray, List.set_cons_zero, List.set_cons_succ])
  refine wpAnyH_take (i := 8) (v := (.pointer (some ⟨Q, 0, none⟩))) rfl (by kernel_rfl) (by kernel_rfl) (by kernel_rfl) (fun _ _ _ h => h) (Or.inl ⟨by rfl, ?_⟩) (by assumption) ?_
  · intro w' hSw
    (try dsimp only at hSw)
    go_simp
  (try simp only [Act.put, List.setIfInBounds_toArray, List.set_cons_zero, List.set_cons_succ])
  refine wpAnyH_take (i := 9) (v := (.int .i64 r)) rfl (by kernel_rfl) (by kernel_rfl) (by kernel_rfl) (fun _ _ _ h => h) (Or.inl ⟨by rfl, ?_⟩) (by assumption) ?_
  · intro w' hSw
    (try dsimp only at hSw)
    (obtain ⟨_, hSw, _⟩ := hSw; have := hSw.c0; go_simp)
  (try simp only [Act.put, List.setIfInBounds_toArray, List.set_cons_zero, List.set_cons_succ])
  refine wpAnyH_take (i := 10) (v := (.int .i64 (n * r))) rfl (by kernel_rfl) (by kernel_rfl) (by kernel_rfl) (fun _ _ _ h => h) (Or.inl ⟨by rfl, ?_⟩) (by assumption) ?_
  · intro w' hSw
    (try dsimp only at hSw)
    (go_simp; exact i64_in (by omega) (by omega))
  (try simp only [Act.put, List.setIfInBounds_toArray, List.set_cons_zero, List.set_cons_succ])
  have d5 := IZ.out.1.drew.c3
  refine wpAnyH_ready (rs := [4]) (by kernel_rfl) (by simp) ?_
  refine AllReadyH.cons rfl (fun K hK => ?_) AllReadyH.nil
  go_simp
  refine hK.out _ _ (⟨_, IZ.out.1.drew, grown_drew IZ.out.2⟩) (fun hHeld => ?_)
  clear hK
  (try simp only [Act.put, List.setIfInBounds_toArray, List.set_cons_zero, List.set_cons_succ])
  clear d5
  refine wpAnyH_take (i := 11) (v := (.int .i64 (k + n * r))) rfl (by kernel_rfl) (by kernel_rfl) (by kernel_rfl) (fun _ _ _ h => h) (Or.inl ⟨by rfl, ?_⟩) (by assumption) ?_
  · intro w' hSw
    (try dsimp only at hSw)
    (go_simp; exact i64_in (by omega) (by omega))
  (try simp only [Act.put, List.setIfInBounds_toArray, List.set_cons_zero, List.set_cons_succ])
  refine wpAnyH_take (i := 12) (v := (.pointer (some ⟨Q, 0, none⟩))) rfl (by kernel_rfl) (by kernel_rfl) (by kernel_rfl) (fun _ _ _ h => h) (Or.inl ⟨by rfl, ?_⟩) (by assumption) ?_
  · intro w' hSw
    (try dsimp only at hSw)
    go_simp
  (try simp only [Act.put, List.setIfInBounds_toArray, List.set_cons_zero, List.set_cons_succ])
  refine wpAnyH_take (i := 13) (v := (.pointer (some ⟨Q, 3, none⟩))) rfl (by kernel_rfl) (by kernel_rfl) (by kernel_rfl) (fun _ _ _ h => h) (Or.inl ⟨by rfl, ?_⟩) (by assumption) ?_
  · intro w' hSw
    (try dsimp only at hSw)
    go_simp
  (try simp only [Act.put, List.setIfInBounds_toArray, List.set_cons_zero, List.set_cons_succ])
  have g5 := IZ.out.1.drew.fz 3
  have d9 := IZ.out.1.drew.c3
  refine wpAnyH_ready (rs := [14]) (by kernel_rfl) (by simp) ?_
  refine AllReadyH.cons rfl (fun K hK => ?_) AllReadyH.nil
  go_simp
  replace IZ : Hid (RfAt (w.setCell ⟨Q, 3, none⟩ (.int .i64 (k + n * r))).drew Q r p c (k + n * r) ∧ w.grownBy (w.setCell ⟨Q, 3, none⟩ (.int .i64 (k + n * r))).drew (some Q)) := ⟨(IZ.out.1.set _).drew, grown_drew (grown_set IZ.out.2 _)⟩
  generalize (w.setCell ⟨Q, 3, none⟩ (.int .i64 (k + n * r))).drew = W2 at *
  refine hK.out _ _ (⟨_, IZ.out⟩) (fun hHeld => ?_)
  clear hK
  (try simp only [Act.put, List.setIfInBounds_toArray, List.set_cons_zero, List.set_cons_succ])
  refine wpAnyH_done (by kernel_rfl) ?_ _
  clear hHeld g5 d9
  have d1 := IZ.out.1.c1
  have d2 := IZ.out.1.c2
  have d3 := IZ.out.1.c3
  have ew := wrap_in (x := c * p) (by omega) (by omega)
  have hc : ¬ wrap64 (c * p) < k + n * r := by rw [ew]; omega
  go_wp2_with fail
  go_quiet (fail)
  have IQ : Hid (RfAt (W2.drewN nq) Q r p c (k + n * r) ∧ w.grownBy (W2.drewN nq) (some Q)) := ⟨IZ.out.1.drewN _, grown_drewN IZ.out.2 _⟩
  generalize W2.drewN nq = W3 at *
  clear d1 d2 d3
  go_wp2_with fail
  go_ret
  have e : tickP r p c k n = k + n * r := by unfold tickP; omega
  rw [e]
  exact ⟨rfl, IQ.out⟩
set_option maxHeartbeats 8000000 in
set_option maxRecDepth 100000 in
set_option linter.unusedSimpArgs false in
set_option linter.unusedVariables false in
theorem rtick_high (w : World) (Q : Nat) (r p c k n : Int) (h : RfAt w Q r p c k) (hf : Fits r p c k) (hn : 0 ≤ n) (hn2 : n ≤ 1099511627776) (hk : c * p < k + n * r) :
    Calls Try.prog 11 #[.pointer (some ⟨Q, 0, none⟩), .int .i64 n] w fun e w' => e = .returned (.int .i64 0) ∧ RfAt w' Q r p c (tickP r p c k n) ∧ w.grownBy w' (some Q) := by
  have m1 := mul_in (A := 1099511627776) (B := 65536) hn hn2 (by have := hf.r1; omega) hf.r2
  have m2 := hf.cp
  have k1 := hf.k1
  have k2 := hf.k2
  have IZ : Hid (RfAt w Q r p c k ∧ w.grownBy w (some Q)) := ⟨h, grown_refl _ _⟩
  obtain ⟨X, hX⟩ : ∃ X, X = w := ⟨_, rfl⟩
  clear h
  go_enter Try.func11, Try.ntmps11
  go_wp2_with fail
  refine wp_region_held_drew (S := fun X => ∃ k', RfAt X Q r p c k' ∧ w.grownBy X (some Q)) (by kernel_rfl) ⟨_, IZ.out.1.drew, grown_drew IZ.out.2⟩ (fun hHeld => ?_)
  refine wpAnyH_take (i := 0) (v := (.pointer (some ⟨Q, 0, none⟩))) rfl (by kernel_rfl) (by kernel_rfl) (by kernel_rfl) (fun _ _ _ h => h) (Or.inl ⟨by rfl, ?_⟩) (by assumption) ?_
  · intro w' hSw
    (try dsimp only at hSw)
    go_simp
  (try simp only [Act.put, List.setIfInBounds_toArray, List.set_cons_zero, List.set_cons_succ])
  refine wpAnyH_take (i := 1) (v := (.pointer (some ⟨Q, 0, none⟩))) rfl (by kernel_rfl) (by kernel_rfl) (by kernel_rfl) (fun _ _ _ h => h) (Or.inl ⟨by rfl, ?_⟩) (by assumption) ?_
  · intro w' hSw
    (try dsimp only at hSw)
    go_simp
  (try simp only [Act.put, List.setIfInBounds_toArray, List.set_cons_zero, List.set_cons_succ])
  refine wpAnyH_take (i := 2) (v := (.pointer (some ⟨Q, 0, none⟩))) rfl (by kernel_rfl) (by kernel_rfl) (by kernel_rfl) (fun _ _ _ h => h) (Or.inl ⟨by rfl, ?_⟩) (by assumption) ?_
  · intro w' hSw
    (try dsimp only at hSw)
    go_simp
  (try simp only [Act.put, List.setIfInBounds_toArray, List.set_cons_zero, List.set_cons_succ])
  refine wpAnyH_take (i := 3) (v := (.pointer (some ⟨Q, 3, none⟩))) rfl (by kernel_rfl) (by kernel_rfl) (by kernel_rfl) (fun _ _ _ h => h) (Or.inl ⟨by rfl, ?_⟩) (by assumption) ?_
  · intro w' hSw
    (try dsimp only at hSw)
    go_simp
  (try simp only [Act.put, List.setIfInBounds_toArray, List.set_cons_zero, List.set_cons_succ])
  refine wpAnyH_take (i := 5) (v := (.int .i64 n)) rfl (by kernel_rfl) (by kernel_rfl) (by kernel_rfl) (fun _ _ _ h => h) (Or.inl ⟨by rfl, ?_⟩) (by assumption) ?_
  · intro w' hSw
    (try dsimp only at hSw)
    go_simp
  (try simp only [Act.put, List.setIfInBounds_toArray, List.set_cons_zero, List.set_cons_succ])
  refine wpAnyH_take (i := 6) (v := (.pointer (some ⟨Q, 0, none⟩))) rfl (by kernel_rfl) (by kernel_rfl) (by kernel_rfl) (fun _ _ _ h => h) (Or.inl ⟨by rfl, ?_⟩) (by assumption) ?_
  · intro w' hSw
    (try dsimp only at hSw)
    go_simp
  (try simp only [Act.put, List.setIfInBounds_toArray, List.set_cons_zero, List.set_cons_succ])
  refine wpAnyH_take (i := 7) (v := (.pointer (some ⟨Q, 0, none⟩))) rfl (by kernel_rfl) (by kernel_rfl) (by kernel_rfl) (fun _ _ _ h => h) (Or.inl ⟨by rfl, ?_⟩) (by assumption) ?_
  · intro w' hSw
    (try dsimp only at hSw)
    go_simp
  (try simp only [Act.put, List.setIfInBounds_toArray, List.set_cons_zero, List.set_cons_succ])
  refine wpAnyH_take (i := 8) (v := (.pointer (some ⟨Q, 0, none⟩))) rfl (by kernel_rfl) (by kernel_rfl) (by kernel_rfl) (fun _ _ _ h => h) (Or.inl ⟨by rfl, ?_⟩) (by assumption) ?_
  · intro w' hSw
    (try dsimp only at hSw)
    go_simp
  (try simp only [Act.put, List.setIfInBounds_toArray, List.set_cons_zero, List.set_cons_succ])
  refine wpAnyH_take (i := 9) (v := (.int .i64 r)) rfl (by kernel_rfl) (by kernel_rfl) (by kernel_rfl) (fun _ _ _ h => h) (Or.inl ⟨by rfl, ?_⟩) (by assumption) ?_
  · intro w' hSw
    (try dsimp only at hSw)
    (obtain ⟨_, hSw, _⟩ := hSw; have := hSw.c0; go_simp)
  (try simp only [Act.put, List.setIfInBounds_toArray, List.set_cons_zero, List.set_cons_succ])
  refine wpAnyH_take (i := 10) (v := (.int .i64 (n * r))) rfl (by kernel_rfl) (by kernel_rfl) (by kernel_rfl) (fun _ _ _ h => h) (Or.inl ⟨by rfl, ?_⟩) (by assumption) ?_
  · intro w' hSw
    (try dsimp only at hSw)
    (go_simp; exact i64_in (by omega) (by omega))
  (try simp only [Act.put, List.setIfInBounds_toArray, List.set_cons_zero, List.set_cons_succ])
  have d5 := IZ.out.1.drew.c3
  refine wpAnyH_ready (rs := [4]) (by kernel_rfl) (by simp) ?_
  refine AllReadyH.cons rfl (fun K hK => ?_) AllReadyH.nil
  go_simp
  refine hK.out _ _ (⟨_, IZ.out.1.drew, grown_drew IZ.out.2⟩) (fun hHeld => ?_)
  clear hK
  (try simp only [Act.put, List.setIfInBounds_toArray, List.set_cons_zero, List.set_cons_succ])
  clear d5
  refine wpAnyH_take (i := 11) (v := (.int .i64 (k + n * r))) rfl (by kernel_rfl) (by kernel_rfl) (by kernel_rfl) (fun _ _ _ h => h) (Or.inl ⟨by rfl, ?_⟩) (by assumption) ?_
  · intro w' hSw
    (try dsimp only at hSw)
    (go_simp; exact i64_in (by omega) (by omega))
  (try simp only [Act.put, List.setIfInBounds_toArray, List.set_cons_zero, List.set_cons_succ])
  refine wpAnyH_take (i := 12) (v := (.pointer (some ⟨Q, 0, none⟩))) rfl (by kernel_rfl) (by kernel_rfl) (by kernel_rfl) (fun _ _ _ h => h) (Or.inl ⟨by rfl, ?_⟩) (by assumption) ?_
  · intro w' hSw
    (try dsimp only at hSw)
    go_simp
  (try simp only [Act.put, List.setIfInBounds_toArray, List.set_cons_zero, List.set_cons_succ])
  refine wpAnyH_take (i := 13) (v := (.pointer (some ⟨Q, 3, none⟩))) rfl (by kernel_rfl) (by kernel_rfl) (by kernel_rfl) (fun _ _ _ h => h) (Or.inl ⟨by rfl, ?_⟩) (by assumption) ?_
  · intro w' hSw
    (try dsimp only at hSw)
    go_simp
  (try simp only [Act.put, List.setIfInBounds_toArray, List.set_cons_zero, List.set_cons_succ])
  have g5 := IZ.out.1.drew.fz 3
  have d9 := IZ.out.1.drew.c3
  refine wpAnyH_ready (rs := [14]) (by kernel_rfl) (by simp) ?_
  refine AllReadyH.cons rfl (fun K hK => ?_) AllReadyH.nil
  go_simp
  replace IZ : Hid (RfAt (w.setCell ⟨Q, 3, none⟩ (.int .i64 (k + n * r))).drew Q r p c (k + n * r) ∧ w.grownBy (w.setCell ⟨Q, 3, none⟩ (.int .i64 (k + n * r))).drew (some Q)) := ⟨(IZ.out.1.set _).drew, grown_drew (grown_set IZ.out.2 _)⟩
  generalize (w.setCell ⟨Q, 3, none⟩ (.int .i64 (k + n * r))).drew = W2 at *
  refine hK.out _ _ (⟨_, IZ.out⟩) (fun hHeld => ?_)
  clear hK
  (try simp only [Act.put, List.setIfInBounds_toArray, List.set_cons_zero, List.set_cons_succ])
  refine wpAnyH_done (by kernel_rfl) ?_ _
  clear hHeld g5 d9
  have d1 := IZ.out.1.c1
  have d2 := IZ.out.1.c2
  have d3 := IZ.out.1.c3
  have ew := wrap_in (x := c * p) (by omega) (by omega)
  have hc : wrap64 (c * p) < k + n * r := by rw [ew]; omega
  go_wp2_with fail
  go_quiet (fail)
  replace IZ : Hid (RfAt (W2.drewN nq) Q r p c (k + n * r) ∧ w.grownBy (W2.drewN nq) (some Q)) := ⟨IZ.out.1.drewN _, grown_drewN IZ.out.2 _⟩
  generalize W2.drewN nq = W3 at *
  clear d1 d2 d3
  go_wp2_with fail
  refine wp_region_held_drew (S := fun X => ∃ k', RfAt X Q r p c k' ∧ w.grownBy X (some Q)) (by kernel_rfl) ⟨_, IZ.out.1.drew, grown_drew IZ.out.2⟩ (fun hHeld => ?_)
  refine wpAnyH_take (i := 0) (v := (.pointer (some ⟨Q, 0, none⟩))) rfl (by kernel_rfl) (by kernel_rfl) (by kernel_rfl) (fun _ _ _ h => h) (Or.inl ⟨by rfl, ?_⟩) (by assumption) ?_
  · intro w' hSw
    (try dsimp only at hSw)
    go_simp
  (try simp only [Act.put, List.setIfInBounds_toArray, List.set_cons_zero, List.set_cons_succ])
  refine wpAnyH_take (i := 1) (v := (.pointer (some ⟨Q, 0, none⟩))) rfl (by kernel_rfl) (by kernel_rfl) (by kernel_rfl) (fun _ _ _ h => h) (Or.inl ⟨by rfl, ?_⟩) (by assumption) ?_
  · intro w' hSw
    (try dsimp only at hSw)
    go_simp
  (try simp only [Act.put, List.setIfInBounds_toArray, List.set_cons_zero, List.set_cons_succ])
  refine wpAnyH_take (i := 2) (v := (.pointer (some ⟨Q, 0, none⟩))) rfl (by kernel_rfl) (by kernel_rfl) (by kernel_rfl) (fun _ _ _ h => h) (Or.inl ⟨by rfl, ?_⟩) (by assumption) ?_
  · intro w' hSw
    (try dsimp only at hSw)
    go_simp
  (try simp only [Act.put, List.setIfInBounds_toArray, List.set_cons_zero, List.set_cons_succ])
  refine wpAnyH_take (i := 3) (v := (.pointer (some ⟨Q, 2, none⟩))) rfl (by kernel_rfl) (by kernel_rfl) (by kernel_rfl) (fun _ _ _ h => h) (Or.inl ⟨by rfl, ?_⟩) (by assumption) ?_
  · intro w' hSw
    (try dsimp only at hSw)
    go_simp
  (try simp only [Act.put, List.setIfInBounds_toArray, List.set_cons_zero, List.set_cons_succ])
  refine wpAnyH_take (i := 4) (v := (.int .i64 c)) rfl (by kernel_rfl) (by kernel_rfl) (by kernel_rfl) (fun _ _ _ h => h) (Or.inl ⟨by rfl, ?_⟩) (by assumption) ?_
  · intro w' hSw
    (try dsimp only at hSw)
    (obtain ⟨_, hSw, _⟩ := hSw; have := hSw.c2; go_simp)
  (try simp only [Act.put, List.setIfInBounds_toArray, List.set_cons_zero, List.set_cons_succ])
  refine wpAnyH_take (i := 5) (v := (.pointer (some ⟨Q, 0, none⟩))) rfl (by kernel_rfl) (by kernel_rfl) (by kernel_rfl) (fun _ _ _ h => h) (Or.inl ⟨by rfl, ?_⟩) (by assumption) ?_
  · intro w' hSw
    (try dsimp only at hSw)
    go_simp
  (try simp only [Act.put, List.setIfInBounds_toArray, List.set_cons_zero, List.set_cons_succ])
  refine wpAnyH_take (i := 6) (v := (.pointer (some ⟨Q, 0, none⟩))) rfl (by kernel_rfl) (by kernel_rfl) (by kernel_rfl) (fun _ _ _ h => h) (Or.inl ⟨by rfl, ?_⟩) (by assumption) ?_
  · intro w' hSw
    (try dsimp only at hSw)
    go_simp
  (try simp only [Act.put, List.setIfInBounds_toArray, List.set_cons_zero, List.set_cons_succ])
  refine wpAnyH_take (i := 7) (v := (.pointer (some ⟨Q, 1, none⟩))) rfl (by kernel_rfl) (by kernel_rfl) (by kernel_rfl) (fun _ _ _ h => h) (Or.inl ⟨by rfl, ?_⟩) (by assumption) ?_
  · intro w' hSw
    (try dsimp only at hSw)
    go_simp
  (try simp only [Act.put, List.setIfInBounds_toArray, List.set_cons_zero, List.set_cons_succ])
  refine wpAnyH_take (i := 8) (v := (.int .i64 p)) rfl (by kernel_rfl) (by kernel_rfl) (by kernel_rfl) (fun _ _ _ h => h) (Or.inl ⟨by rfl, ?_⟩) (by assumption) ?_
  · intro w' hSw
    (try dsimp only at hSw)
    (obtain ⟨_, hSw, _⟩ := hSw; have := hSw.c1; go_simp)
  (try simp only [Act.put, List.setIfInBounds_toArray, List.set_cons_zero, List.set_cons_succ])
  refine wpAnyH_take (i := 9) (v := (.int .i64 (c * p))) rfl (by kernel_rfl) (by kernel_rfl) (by kernel_rfl) (fun _ _ _ h => h) (Or.inl ⟨by rfl, ?_⟩) (by assumption) ?_
  · intro w' hSw
    (try dsimp only at hSw)
    (go_simp; exact i64_in (by omega) (by omega))
  (try simp only [Act.put, List.setIfInBounds_toArray, List.set_cons_zero, List.set_cons_succ])
  refine wpAnyH_take (i := 10) (v := (.pointer (some ⟨Q, 0, none⟩))) rfl (by kernel_rfl) (by kernel_rfl) (by kernel_rfl) (fun _ _ _ h => h) (Or.inl ⟨by rfl, ?_⟩) (by assumption) ?_
  · intro w' hSw
    (try dsimp only at hSw)
    go_simp
  (try simp only [Act.put, List.setIfInBounds_toArray, List.set_cons_zero, List.set_cons_succ])
  refine wpAnyH_take (i := 11) (v := (.pointer (some ⟨Q, 3, none⟩))) rfl (by kernel_rfl) (by kernel_rfl) (by kernel_rfl) (fun _ _ _ h => h) (Or.inl ⟨by rfl, ?_⟩) (by assumption) ?_
  · intro w' hSw
    (try dsimp only at hSw)
    go_simp
  (try simp only [Act.put, List.setIfInBounds_toArray, List.set_cons_zero, List.set_cons_succ])
  have g5 := IZ.out.1.drew.fz 3
  have d9 := IZ.out.1.drew.c3
  refine wpAnyH_ready (rs := [12]) (by kernel_rfl) (by simp) ?_
  refine AllReadyH.cons rfl (fun K hK => ?_) AllReadyH.nil
  go_simp
  replace IZ : Hid (RfAt (W3.setCell ⟨Q, 3, none⟩ (.int .i64 (c * p))).drew Q r p c (c * p) ∧ w.grownBy (W3.setCell ⟨Q, 3, none⟩ (.int .i64 (c * p))).drew (some Q)) := ⟨(IZ.out.1.set _).drew, grown_drew (grown_set IZ.out.2 _)⟩
  generalize (W3.setCell ⟨Q, 3, none⟩ (.int .i64 (c * p))).drew = W4 at *
  refine hK.out _ _ (⟨_, IZ.out⟩) (fun hHeld => ?_)
  clear hK
  (try simp only [Act.put, List.setIfInBounds_toArray, List.set_cons_zero, List.set_cons_succ])
  refine wpAnyH_done (by kernel_rfl) ?_ _
  clear hHeld g5 d9
  go_wp2_with fail
  go_ret
  have e : tickP r p c k n = c * p := by unfold tickP; omega
  rw [e]
  exact ⟨rfl, IZ.out⟩
set_option maxHeartbeats 8000000 in
set_option maxRecDepth 100000 in
set_option linter.unusedSimpArgs false in
set_option linter.unusedVariables false in
theorem rtick_neg (w : World) (Q : Nat) (n : Int) (hn : n < 0) : Calls Try.prog 11 #[.pointer (some ⟨Q, 0, none⟩), .int .i64 n] w fun e w' => e = .returned (.int .i64 1) ∧ w = w' := by
  go_enter Try.func11, Try.ntmps11
  go_wp2_with fail
  go_ret
  exact ⟨rfl, rfl⟩
set_option maxHeartbeats 8000000 in
set_option maxRecDepth 100000 in
set_option linter.unusedSimpArgs false in
set_option linter.unusedVariables false in
theorem rtick_over (w : World) (Q : Nat) (n : Int) (hn : 1099511627776 < n) : Calls Try.prog 11 #[.pointer (some ⟨Q, 0, none⟩), .int .i64 n] w fun e w' => e = .returned (.int .i64 1) ∧ w = w' := by
  have h1 : ¬ n < 0 := by omega
  go_enter Try.func11, Try.ntmps11
  go_wp2_with fail
  go_ret
  exact ⟨rfl, rfl⟩
theorem rtick_all (w : World) (Q : Nat) (r p c k n : Int) (h : RfAt w Q r p c k) (hf : Fits r p c k) :
    Calls Try.prog 11 #[.pointer (some ⟨Q, 0, none⟩), .int .i64 n] w fun e w' => e = .returned (.int .i64 (tickE n)) ∧ RfAt w' Q r p c (tickQ r p c k n) ∧ w.grownBy w' (some Q) := by
  unfold tickE tickQ
  by_cases h1 : 0 ≤ n ∧ n ≤ 1099511627776
  · rw [if_pos h1, if_pos h1]
    by_cases h2 : k + n * r ≤ c * p
    · exact rtick_low w Q r p c k n h hf h1.1 h1.2 h2
    · exact rtick_high w Q r p c k n h hf h1.1 h1.2 (by omega)
  · rw [if_neg h1, if_neg h1]
    by_cases h2 : n < 0
    · exact (rtick_neg w Q n h2).mono fun e w' ⟨a, b⟩ => by subst b; exact ⟨a, h, grown_refl _ _⟩
    · exact (rtick_over w Q n (by omega)).mono fun e w' ⟨a, b⟩ => by subst b; exact ⟨a, h, grown_refl _ _⟩
set_option maxHeartbeats 8000000 in
set_option maxRecDepth 100000 in
set_option linter.unusedSimpArgs false in
set_option linter.unusedVariables false in
theorem rlevel_any (w : World) (Q : Nat) (r p c k : Int) (h : RfAt w Q r p c k) (hf : Fits r p c k) :
    Calls Try.prog 17 #[.pointer (some ⟨Q, 0, none⟩)] w fun e w' => e = .returned (.int .i64 (k / p)) ∧ RfAt w' Q r p c k ∧ w.grownBy w' (some Q) := by
  have k1 := hf.k1
  have p1 := hf.p1
  have p0 : (p == 0) = false := by simp; omega
  have p0' : p ≠ 0 := by omega
  have p3 : ¬ p = -1 := by omega
  have ed : Int.tdiv k p = k / p := Int.tdiv_eq_ediv_of_nonneg k1
  have d1 := h.c1
  have d3 := h.c3
  have ew := wrap_in (x := k / p) (by have := Int.ediv_nonneg k1 (show 0 ≤ p by omega); omega) (by have := Int.ediv_le_self p k1; have := hf.cp; have := hf.k2; omega)
  go_enter Try.func17, Try.ntmps17
  go_wp2_with fail
  go_quiet (fail)
  have IQ : Hid (RfAt (w.drewN nq) Q r p c k ∧ w.grownBy (w.drewN nq) (some Q)) := ⟨h.drewN _, grown_drewN (grown_refl _ _) _⟩
  generalize w.drewN nq = W3 at *
  clear d1 d3 ed
  go_wp2_with fail
  go_ret
  exact ⟨by first | rfl | exact congrArg (fun z => Ending.returned (.int .i64 z)) ew, IQ.out⟩
set_option maxHeartbeats 8000000 in
set_option maxRecDepth 100000 in
set_option linter.unusedSimpArgs false in
set_option linter.unusedVariables false in
theorem rtake_lack (w : World) (Q : Nat) (r p c k n : Int) (h : RfAt w Q r p c k) (hf : Fits r p c k) (hn : 0 ≤ n) (hn2 : n ≤ c) (hk : k < n * p) :
    Calls Try.prog 13 #[.pointer (some ⟨Q, 0, none⟩), .int .i64 n] w fun e w' => e = .returned (.tuple #[.bool false, .int .i64 0]) ∧ RfAt w' Q r p c k ∧ w.grownBy w' (some Q) := by
  have AS := rasked_any w Q r p c k n h
  rw [show askE c n = 0 by unfold askE; rw [if_neg (by omega), if_neg (by omega)]] at AS
  have AS := hide AS
  have m1 := mul_in (A := 65536) (B := 1024) hn (Int.le_trans hn2 hf.c2) (by have := hf.p1; omega) hf.p2
  have m2 := hf.cp
  have k1 := hf.k1
  have k2 := hf.k2
  have d1 := h.c1
  have d3 := h.c3
  have IZ : Hid (RfAt w Q r p c k ∧ w.grownBy w (some Q)) := ⟨h, grown_refl _ _⟩
  clear h
  have ew := wrap_in (x := n * p) (by omega) (by omega)
  have hc : k < wrap64 (n * p) := by rw [ew]; omega
  go_enter Try.func13, Try.ntmps13
  go_wp2_with (go_at_call 23; refine Calls.mono AS.out ?_; rintro e w1 ⟨rfl, rfl⟩)
  go_quiet (fail)
  replace IZ : Hid (RfAt (w.drewN nq) Q r p c k ∧ w.grownBy (w.drewN nq) (some Q)) := ⟨IZ.out.1.drewN _, grown_drewN IZ.out.2 _⟩
  generalize w.drewN nq = W2 at *
  clear d1 d3
  go_wp2_with fail
  go_ret2
  exact ⟨rfl, IZ.out⟩
set_option maxHeartbeats 8000000 in
set_option maxRecDepth 100000 in
set_option linter.unusedSimpArgs false in
set_option linter.unusedVariables false in
theorem rtake_there (w : World) (Q : Nat) (r p c k n : Int) (h : RfAt w Q r p c k) (hf : Fits r p c k) (hn : 0 ≤ n) (hn2 : n ≤ c) (hk : n * p ≤ k) :
    Calls Try.prog 13 #[.pointer (some ⟨Q, 0, none⟩), .int .i64 n] w fun e w' => e = .returned (.tuple #[.bool true, .int .i64 0]) ∧ RfAt w' Q r p c (k - n * p) ∧ w.grownBy w' (some Q) := by
  have AS := rasked_any w Q r p c k n h
  rw [show askE c n = 0 by unfold askE; rw [if_neg (by omega), if_neg (by omega)]] at AS
  have AS := hide AS
  have m1 := mul_in (A := 65536) (B := 1024) hn (Int.le_trans hn2 hf.c2) (by have := hf.p1; omega) hf.p2
  have m2 := hf.cp
  have k1 := hf.k1
  have k2 := hf.k2
  have d1 := h.c1
  have d3 := h.c3
  have IZ : Hid (RfAt w Q r p c k ∧ w.grownBy w (some Q)) := ⟨h, grown_refl _ _⟩
  clear h
  have ew := wrap_in (x := n * p) (by omega) (by omega)
  have hc : ¬ k < wrap64 (n * p) := by rw [ew]; omega
  go_enter Try.func13, Try.ntmps13
  go_wp2_with (go_at_call 23; refine Calls.mono AS.out ?_; rintro e w1 ⟨rfl, rfl⟩)
  go_quiet (fail)
  replace IZ : Hid (RfAt (w.drewN nq) Q r p c k ∧ w.grownBy (w.drewN nq) (some Q)) := ⟨IZ.out.1.drewN _, grown_drewN IZ.out.2 _⟩
  generalize w.drewN nq = W2 at *
  clear d1 d3
  go_wp2_with fail
  refine wp_region_held_drew (S := fun X => ∃ k', RfAt X Q r p c k' ∧ w.grownBy X (some Q)) (by kernel_rfl) ⟨_, IZ.out.1.drew, grown_drew IZ.out.2⟩ (fun hHeld => ?_)
  refine wpAnyH_take (i := 0) (v := (.pointer (some ⟨Q, 0, none⟩))) rfl (by kernel_rfl) (by kernel_rfl) (by kernel_rfl) (fun _ _ _ h => h) (Or.inl ⟨by rfl, ?_⟩) (by assumption) ?_
  · intro w' hSw
    (try dsimp only at hSw)
    go_simp
  (try simp only [Act.put, List.setIfInBounds_toArray, List.set_cons_zero, List.set_cons_succ])
  refine wpAnyH_take (i := 1) (v := (.pointer (some ⟨Q, 0, none⟩))) rfl (by kernel_rfl) (by kernel_rfl) (by kernel_rfl) (fun _ _ _ h => h) (Or.inl ⟨by rfl, ?_⟩) (by assumption) ?_
  · intro w' hSw
    (try dsimp only at hSw)
    go_simp
  (try simp only [Act.put, List.setIfInBounds_toArray, List.set_cons_zero, List.set_cons_succ])
  refine wpAnyH_take (i := 2) (v := (.pointer (some ⟨Q, 0, none⟩))) rfl (by kernel_rfl) (by kernel_rfl) (by kernel_rfl) (fun _ _ _ h => h) (Or.inl ⟨by rfl, ?_⟩) (by assumption) ?_
  · intro w' hSw
    (try dsimp only at hSw)
    go_simp
  (try simp only [Act.put, List.setIfInBounds_toArray, List.set_cons_zero, List.set_cons_succ])
  refine wpAnyH_take (i := 3) (v := (.pointer (some ⟨Q, 3, none⟩))) rfl (by kernel_rfl) (by kernel_rfl) (by kernel_rfl) (fun _ _ _ h => h) (Or.inl ⟨by rfl, ?_⟩) (by assumption) ?_
  · intro w' hSw
    (try dsimp only at hSw)
    go_simp
  (try simp only [Act.put, List.setIfInBounds_toArray, List.set_cons_zero, List.set_cons_succ])
  refine wpAnyH_take (i := 5) (v := (.int .i64 n)) rfl (by kernel_rfl) (by kernel_rfl) (by kernel_rfl) (fun _ _ _ h => h) (Or.inl ⟨by rfl, ?_⟩) (by assumption) ?_
  · intro w' hSw
    (try dsimp only at hSw)
    go_simp
  (try simp only [Act.put, List.setIfInBounds_toArray, List.set_cons_zero, List.set_cons_succ])
  refine wpAnyH_take (i := 6) (v := (.pointer (some ⟨Q, 0, none⟩))) rfl (by kernel_rfl) (by kernel_rfl) (by kernel_rfl) (fun _ _ _ h => h) (Or.inl ⟨by rfl, ?_⟩) (by assumption) ?_
  · intro w' hSw
    (try dsimp only at hSw)
    go_simp
  (try simp only [Act.put, List.setIfInBounds_toArray, List.set_cons_zero, List.set_cons_succ])
  refine wpAnyH_take (i := 7) (v := (.pointer (some ⟨Q, 0, none⟩))) rfl (by kernel_rfl) (by kernel_rfl) (by kernel_rfl) (fun _ _ _ h => h) (Or.inl ⟨by rfl, ?_⟩) (by assumption) ?_
  · intro w' hSw
    (try dsimp only at hSw)
    go_simp
  (try simp only [Act.put, List.setIfInBounds_toArray, List.set_cons_zero, List.set_cons_succ])
  refine wpAnyH_take (i := 8) (v := (.pointer (some ⟨Q, 1, none⟩))) rfl (by kernel_rfl) (by kernel_rfl) (by kernel_rfl) (fun _ _ _ h => h) (Or.inl ⟨by rfl, ?_⟩) (by assumption) ?_
  · intro w' hSw
    (try dsimp only at hSw)
    go_simp
  (try simp only [Act.put, List.setIfInBounds_toArray, List.set_cons_zero, List.set_cons_succ])
  refine wpAnyH_take (i := 9) (v := (.int .i64 p)) rfl (by kernel_rfl) (by kernel_rfl) (by kernel_rfl) (fun _ _ _ h => h) (Or.inl ⟨by rfl, ?_⟩) (by assumption) ?_
  · intro w' hSw
    (try dsimp only at hSw)
    (obtain ⟨_, hSw, _⟩ := hSw; have := hSw.c1; go_simp)
  (try simp only [Act.put, List.setIfInBounds_toArray, List.set_cons_zero, List.set_cons_succ])
  refine wpAnyH_take (i := 10) (v := (.int .i64 (n * p))) rfl (by kernel_rfl) (by kernel_rfl) (by kernel_rfl) (fun _ _ _ h => h) (Or.inl ⟨by rfl, ?_⟩) (by assumption) ?_
  · intro w' hSw
    (try dsimp only at hSw)
    (go_simp; exact i64_in (by omega) (by omega))
  (try simp only [Act.put, List.setIfInBounds_toArray, List.set_cons_zero, List.set_cons_succ])
  have d5 := IZ.out.1.drew.c3
  refine wpAnyH_ready (rs := [4]) (by kernel_rfl) (by simp) ?_
  refine AllReadyH.cons rfl (fun K hK => ?_) AllReadyH.nil
  go_simp
  refine hK.out _ _ (⟨_, IZ.out.1.drew, grown_drew IZ.out.2⟩) (fun hHeld => ?_)
  clear hK
  (try simp only [Act.put, List.setIfInBounds_toArray, List.set_cons_zero, List.set_cons_succ])
  clear d5
  refine wpAnyH_take (i := 11) (v := (.int .i64 (k - n * p))) rfl (by kernel_rfl) (by kernel_rfl) (by kernel_rfl) (fun _ _ _ h => h) (Or.inl ⟨by rfl, ?_⟩) (by assumption) ?_
  · intro w' hSw
    (try dsimp only at hSw)
    (go_simp; exact i64_in (by omega) (by omega))
  (try simp only [Act.put, List.setIfInBounds_toArray, List.set_cons_zero, List.set_cons_succ])
  refine wpAnyH_take (i := 12) (v := (.pointer (some ⟨Q, 0, none⟩))) rfl (by kernel_rfl) (by kernel_rfl) (by kernel_rfl) (fun _ _ _ h => h) (Or.inl ⟨by rfl, ?_⟩) (by assumption) ?_
  · intro w' hSw
    (try dsimp only at hSw)
    go_simp
  (try simp only [Act.put, List.setIfInBounds_toArray, List.set_cons_zero, List.set_cons_succ])
  refine wpAnyH_take (i := 13) (v := (.pointer (some ⟨Q, 3, none⟩))) rfl (by kernel_rfl) (by kernel_rfl) (by kernel_rfl) (fun _ _ _ h => h) (Or.inl ⟨by rfl, ?_⟩) (by assumption) ?_
  · intro w' hSw
    (try dsimp only at hSw)
    go_simp
  (try simp only [Act.put, List.setIfInBounds_toArray, List.set_cons_zero, List.set_cons_succ])
  have g5 := IZ.out.1.drew.fz 3
  have d9 := IZ.out.1.drew.c3
  refine wpAnyH_ready (rs := [14]) (by kernel_rfl) (by simp) ?_
  refine AllReadyH.cons rfl (fun K hK => ?_) AllReadyH.nil
  go_simp
  replace IZ : Hid (RfAt (W2.setCell ⟨Q, 3, none⟩ (.int .i64 (k - n * p))).drew Q r p c (k - n * p) ∧ w.grownBy (W2.setCell ⟨Q, 3, none⟩ (.int .i64 (k - n * p))).drew (some Q)) := ⟨(IZ.out.1.set _).drew, grown_drew (grown_set IZ.out.2 _)⟩
  generalize (W2.setCell ⟨Q, 3, none⟩ (.int .i64 (k - n * p))).drew = W3 at *
  refine hK.out _ _ (⟨_, IZ.out⟩) (fun hHeld => ?_)
  clear hK
  (try simp only [Act.put, List.setIfInBounds_toArray, List.set_cons_zero, List.set_cons_succ])
  refine wpAnyH_done (by kernel_rfl) ?_ _
  clear hHeld g5 d9
  go_wp2_with fail
  go_ret2
  exact ⟨rfl, IZ.out⟩
theorem rtake_any (w : World) (Q : Nat) (r p c k n : Int) (h : RfAt w Q r p c k) (hf : Fits r p c k) :
    Calls Try.prog 13 #[.pointer (some ⟨Q, 0, none⟩), .int .i64 n] w fun e w' => e = .returned (.tuple #[.bool (tookP p c k n), .int .i64 (askE c n)]) ∧ RfAt w' Q r p c (takeP p c k n) ∧ w.grownBy w' (some Q) := by
  unfold takeP
  by_cases h1 : 0 ≤ n ∧ n ≤ c
  · have e2 : askE c n = 0 := by unfold askE; rw [if_neg (by omega), if_neg (by omega)]
    rw [e2]
    by_cases h3 : k < n * p
    · have e1 : tookP p c k n = false := by unfold tookP; rw [decide_eq_false_iff_not]; omega
      rw [e1]
      exact rtake_lack w Q r p c k n h hf h1.1 h1.2 h3
    · have e1 : tookP p c k n = true := by unfold tookP; rw [decide_eq_true_iff]; omega
      rw [e1]
      exact rtake_there w Q r p c k n h hf h1.1 h1.2 (by omega)
  · have e1 : tookP p c k n = false := by unfold tookP; rw [decide_eq_false_iff_not]; omega
    rw [e1]
    refine (rtake_bad w Q r p c k n h _ rfl (by unfold askE; split; omega; split <;> omega)).mono fun e w' ⟨a, b⟩ => by subst b; exact ⟨a, h, grown_refl _ _⟩
set_option maxHeartbeats 8000000 in
set_option maxRecDepth 100000 in
set_option linter.unusedSimpArgs false in
set_option linter.unusedVariables false in
theorem rwait_zero (w : World) (Q : Nat) (r p c k n : Int) (h : RfAt w Q r p c k) (hf : Fits r p c k) (hn : 0 ≤ n) (hn2 : n ≤ c) (hk : n * p ≤ k) :
    Calls Try.prog 15 #[.pointer (some ⟨Q, 0, none⟩), .int .i64 n] w fun e w' => e = .returned (.tuple #[.int .i64 0, .int .i64 0]) ∧ RfAt w' Q r p c k ∧ w.grownBy w' (some Q) := by
  have AS := rasked_any w Q r p c k n h
  rw [show askE c n = 0 by unfold askE; rw [if_neg (by omega), if_neg (by omega)]] at AS
  have AS := hide AS
  have m1 := mul_in (A := 65536) (B := 1024) hn (Int.le_trans hn2 hf.c2) (by have := hf.p1; omega) hf.p2
  have m2 := hf.cp
  have k1 := hf.k1
  have k2 := hf.k2
  have d1 := h.c1
  have d3 := h.c3
  have IZ : Hid (RfAt w Q r p c k ∧ w.grownBy w (some Q)) := ⟨h, grown_refl _ _⟩
  clear h
  have r1 := hf.r1
  have r2 := hf.r2
  have w1 := wrap_in (x := n * p) (by omega) (by omega)
  have w2 := wrap_in (x := n * p - k) (by omega) (by omega)
  have r0 : (r == 0) = false := by simp; omega
  have r0' : r ≠ 0 := by omega
  have r3 : ¬ r = -1 := by omega
  go_enter Try.func15, Try.ntmps15
  go_wp2_with (go_at_call 23; refine Calls.mono AS.out ?_; rintro e w1 ⟨rfl, rfl⟩)
  go_quiet (fail)
  replace IZ : Hid (RfAt (w.drewN nq) Q r p c k ∧ w.grownBy (w.drewN nq) (some Q)) := ⟨IZ.out.1.drewN _, grown_drewN IZ.out.2 _⟩
  generalize w.drewN nq = W2 at *
  clear d1 d3
  try rw [w1, w2]
  obtain ⟨L, hL⟩ : ∃ L, n * p - k = L := ⟨_, rfl⟩
  rw [hL]
  have hl : L ≤ 0 := by omega
  go_wp2_with fail
  go_ret2
  exact ⟨rfl, IZ.out⟩
set_option maxHeartbeats 8000000 in
set_option maxRecDepth 100000 in
set_option linter.unusedSimpArgs false in
set_option linter.unusedVariables false in
theorem rwait_some (w : World) (Q : Nat) (r p c k n : Int) (h : RfAt w Q r p c k) (hf : Fits r p c k) (hn : 0 ≤ n) (hn2 : n ≤ c) (hk : k < n * p) :
    Calls Try.prog 15 #[.pointer (some ⟨Q, 0, none⟩), .int .i64 n] w fun e w' => e = .returned (.tuple #[.int .i64 ((n * p - k + r - 1) / r), .int .i64 0]) ∧ RfAt w' Q r p c k ∧ w.grownBy w' (some Q) := by
  have AS := rasked_any w Q r p c k n h
  rw [show askE c n = 0 by unfold askE; rw [if_neg (by omega), if_neg (by omega)]] at AS
  have AS := hide AS
  have m1 := mul_in (A := 65536) (B := 1024) hn (Int.le_trans hn2 hf.c2) (by have := hf.p1; omega) hf.p2
  have m2 := hf.cp
  have k1 := hf.k1
  have k2 := hf.k2
  have d1 := h.c1
  have d3 := h.c3
  have IZ : Hid (RfAt w Q r p c k ∧ w.grownBy w (some Q)) := ⟨h, grown_refl _ _⟩
  clear h
  have r1 := hf.r1
  have r2 := hf.r2
  have w1 := wrap_in (x := n * p) (by omega) (by omega)
  have w2 := wrap_in (x := n * p - k) (by omega) (by omega)
  have r0 : (r == 0) = false := by simp; omega
  have r0' : r ≠ 0 := by omega
  have r3 : ¬ r = -1 := by omega
  go_enter Try.func15, Try.ntmps15
  go_wp2_with (go_at_call 23; refine Calls.mono AS.out ?_; rintro e w1 ⟨rfl, rfl⟩)
  go_quiet (fail)
  replace IZ : Hid (RfAt (w.drewN nq) Q r p c k ∧ w.grownBy (w.drewN nq) (some Q)) := ⟨IZ.out.1.drewN _, grown_drewN IZ.out.2 _⟩
  generalize w.drewN nq = W2 at *
  clear d1 d3
  try rw [w1, w2]
  obtain ⟨L, hL⟩ : ∃ L, n * p - k = L := ⟨_, rfl⟩
  rw [hL]
  have l1 : 0 < L := by omega
  have l0 : ¬ L ≤ 0 := by omega
  have l2 : L ≤ 67108864 := by omega
  have w3 := wrap_in (x := L + r) (by omega) (by omega)
  have w4 := wrap_in (x := L + r - 1) (by omega) (by omega)
  have q1 := Int.ediv_nonneg (show 0 ≤ L + r - 1 by omega) (show 0 ≤ r by omega)
  have q2 := Int.ediv_le_self r (show 0 ≤ L + r - 1 by omega)
  have w5 := wrap_in (x := (L + r - 1) / r) (by omega) (by omega)
  have ed : Int.tdiv (L + r - 1) r = (L + r - 1) / r := Int.tdiv_eq_ediv_of_nonneg (by omega)
  have d0 := IZ.out.1.c0
  go_wp2_with fail
  go_quiet (fail)
  replace IZ : Hid (RfAt (W2.drewN nq) Q r p c k ∧ w.grownBy (W2.drewN nq) (some Q)) := ⟨IZ.out.1.drewN _, grown_drewN IZ.out.2 _⟩
  generalize W2.drewN nq = W3 at *
  clear d0
  go_wp2_with fail
  go_ret2
  exact ⟨by subst hL; rfl, IZ.out⟩
theorem rwait_any (w : World) (Q : Nat) (r p c k n : Int) (h : RfAt w Q r p c k) (hf : Fits r p c k) :
    Calls Try.prog 15 #[.pointer (some ⟨Q, 0, none⟩), .int .i64 n] w fun e w' => e = .returned (.tuple #[.int .i64 (waitP r p c k n), .int .i64 (askE c n)]) ∧ RfAt w' Q r p c k ∧ w.grownBy w' (some Q) := by
  by_cases h1 : 0 ≤ n ∧ n ≤ c
  · have e2 : askE c n = 0 := by unfold askE; rw [if_neg (by omega), if_neg (by omega)]
    rw [e2]
    by_cases h3 : n * p ≤ k
    · have e1 : waitP r p c k n = 0 := by
        unfold waitP
        rw [if_pos h1, show max (n * p - k) 0 = 0 by omega]
        exact Int.ediv_eq_zero_of_lt (by have := hf.r1; omega) (by omega)
      rw [e1]
      exact rwait_zero w Q r p c k n h hf h1.1 h1.2 h3
    · have e1 : waitP r p c k n = (n * p - k + r - 1) / r := by
        unfold waitP
        rw [if_pos h1, show max (n * p - k) 0 = n * p - k by omega]
      rw [e1]
      exact rwait_some w Q r p c k n h hf h1.1 h1.2 (by omega)
  · have e1 : waitP r p c k n = 0 := by unfold waitP; rw [if_neg h1]
    rw [e1]
    refine (rwait_bad w Q r p c k n h _ rfl (by unfold askE; split; omega; split <;> omega)).mono fun e w' ⟨a, b⟩ => by subst b; exact ⟨a, h, grown_refl _ _⟩
set_option maxHeartbeats 8000000 in
set_option maxRecDepth 100000 in
set_option linter.unusedSimpArgs false in
set_option linter.unusedVariables false in
theorem rnew_any (r p c : Int) (w : World) (hf : Fits r p c (c * p)) :
    Calls Try.prog 7 #[.int .i64 r, .int .i64 p, .int .i64 c] w fun e w' => e = .returned (.tuple #[.pointer (some ⟨w.heap.size, 0, none⟩), .int .i64 0]) ∧ RfAt w' w.heap.size r p c (c * p) ∧ Below w.heap.size w w' := by
  have h1 := hf.r1
  have h2 := hf.r2
  have h3 := hf.p1
  have h4 := hf.p2
  have h5 := hf.c1
  have h6 := hf.c2
  have h7 := hf.cp
  have ew := wrap_in (x := c * p) (by omega) (by omega)
  go_enter Try.func7, Try.ntmps7
  go_wp2_with fail
  go_ret2
  exact ⟨rfl, heap_last w _, (Below.refl _ w).alloc (Nat.le_refl _) _⟩
set_option maxHeartbeats 8000000 in
set_option maxRecDepth 100000 in
set_option linter.unusedSimpArgs false in
set_option linter.unusedVariables false in
theorem rnew_bad0 (r p c : Int) (w : World)  (h0 : r < 1) :
    Calls Try.prog 7 #[.int .i64 r, .int .i64 p, .int .i64 c] w fun e w' => e = .returned (.tuple #[.pointer none, .int .i64 1]) ∧ w = w' := by
  go_enter Try.func7, Try.ntmps7
  go_wp2_with fail
  go_ret2
  exact ⟨rfl, rfl⟩
set_option maxHeartbeats 8000000 in
set_option maxRecDepth 100000 in
set_option linter.unusedSimpArgs false in
set_option linter.unusedVariables false in
theorem rnew_bad1 (r p c : Int) (w : World) (h0 : ¬ r < 1) (h1 : 65536 < r) :
    Calls Try.prog 7 #[.int .i64 r, .int .i64 p, .int .i64 c] w fun e w' => e = .returned (.tuple #[.pointer none, .int .i64 1]) ∧ w = w' := by
  go_enter Try.func7, Try.ntmps7
  go_wp2_with fail
  go_ret2
  exact ⟨rfl, rfl⟩
set_option maxHeartbeats 8000000 in
set_option maxRecDepth 100000 in
set_option linter.unusedSimpArgs false in
set_option linter.unusedVariables false in
theorem rnew_bad2 (r p c : Int) (w : World) (h0 : ¬ r < 1) (h1 : ¬ 65536 < r) (h2 : p < 1) :
    Calls Try.prog 7 #[.int .i64 r, .int .i64 p, .int .i64 c] w fun e w' => e = .returned (.tuple #[.pointer none, .int .i64 1]) ∧ w = w' := by
  go_enter Try.func7, Try.ntmps7
  go_wp2_with fail
  go_ret2
  exact ⟨rfl, rfl⟩
set_option maxHeartbeats 8000000 in
set_option maxRecDepth 100000 in
set_option linter.unusedSimpArgs false in
set_option linter.unusedVariables false in
theorem rnew_bad3 (r p c : Int) (w : World) (h0 : ¬ r < 1) (h1 : ¬ 65536 < r) (h2 : ¬ p < 1) (h3 : 1024 < p) :
    Calls Try.prog 7 #[.int .i64 r, .int .i64 p, .int .i64 c] w fun e w' => e = .returned (.tuple #[.pointer none, .int .i64 1]) ∧ w = w' := by
  go_enter Try.func7, Try.ntmps7
  go_wp2_with fail
  go_ret2
  exact ⟨rfl, rfl⟩
set_option maxHeartbeats 8000000 in
set_option maxRecDepth 100000 in
set_option linter.unusedSimpArgs false in
set_option linter.unusedVariables false in
theorem rnew_bad4 (r p c : Int) (w : World) (h0 : ¬ r < 1) (h1 : ¬ 65536 < r) (h2 : ¬ p < 1) (h3 : ¬ 1024 < p) (h4 : c < 1) :
    Calls Try.prog 7 #[.int .i64 r, .int .i64 p, .int .i64 c] w fun e w' => e = .returned (.tuple #[.pointer none, .int .i64 1]) ∧ w = w' := by
  go_enter Try.func7, Try.ntmps7
  go_wp2_with fail
  go_ret2
  exact ⟨rfl, rfl⟩
set_option maxHeartbeats 8000000 in
set_option maxRecDepth 100000 in
set_option linter.unusedSimpArgs false in
set_option linter.unusedVariables false in
theorem rnew_bad5 (r p c : Int) (w : World) (h0 : ¬ r < 1) (h1 : ¬ 65536 < r) (h2 : ¬ p < 1) (h3 : ¬ 1024 < p) (h4 : ¬ c < 1) (h5 : 65536 < c) :
    Calls Try.prog 7 #[.int .i64 r, .int .i64 p, .int .i64 c] w fun e w' => e = .returned (.tuple #[.pointer none, .int .i64 1]) ∧ w = w' := by
  go_enter Try.func7, Try.ntmps7
  go_wp2_with fail
  go_ret2
  exact ⟨rfl, rfl⟩
theorem rnew_bad (r p c : Int) (w : World) (h : ¬ (1 ≤ r ∧ r ≤ 65536 ∧ 1 ≤ p ∧ p ≤ 1024 ∧ 1 ≤ c ∧ c ≤ 65536)) :
    Calls Try.prog 7 #[.int .i64 r, .int .i64 p, .int .i64 c] w fun e w' => e = .returned (.tuple #[.pointer none, .int .i64 1]) ∧ w = w' := by
  by_cases h0 : r < 1
  case pos => exact rnew_bad0 r p c w h0
  by_cases h1 : 65536 < r
  case pos => exact rnew_bad1 r p c w h0 h1
  by_cases h2 : p < 1
  case pos => exact rnew_bad2 r p c w h0 h1 h2
  by_cases h3 : 1024 < p
  case pos => exact rnew_bad3 r p c w h0 h1 h2 h3
  by_cases h4 : c < 1
  case pos => exact rnew_bad4 r p c w h0 h1 h2 h3 h4
  exact rnew_bad5 r p c w h0 h1 h2 h3 h4 (by omega)
end Go.Proofs.Ytkfiaahgcljljab
