import Derived.Test.YtkfiaahgcljljaaTbPlain
namespace Go.Proofs.Ytkfiaahgcljljaa
open Go.RowKit
/-- an exit that is the normal one, or none -/
def only (Q : Exit → Act → World → Prop) : Exit → Act → World → Prop
  | .normal, a, w => Q .normal a w
  | _, _, _ => False
theorem only_mk {Q : Exit → Act → World → Prop} {a : Act} {w : World} (h : Q .normal a w) : only Q .normal a w := h
theorem wrap_in {x : Int} (h0 : -9223372036854775808 ≤ x) (h1 : x < 9223372036854775808) : wrap64 x = x := by unfold wrap64; omega
theorem grown_drewN {w w' : World} {r : Option Nat} (h : w.grownBy w' r) (n : Nat) : w.grownBy (w'.drewN n) r := ⟨h.os, h.tape, h.output, h.size, h.block⟩
theorem BkIn.drewN {w : World} {R : Nat} {r p c k : Int} (h : BkIn w R r p c k) (n : Nat) : BkIn (w.drewN n) R r p c k := h
theorem wp_only {P : Program} {x : Code} {Q : Exit → Act → World → Prop} {a : Act} {w : World} (h : x.wp P (only Q) a w) : x.wp P Q a w :=
  Code.wp_mono (fun e a w hq => by cases e <;> first | exact hq | exact hq.elim) h
set_option maxHeartbeats 4000000 in
set_option maxRecDepth 100000 in
set_option linter.unusedSimpArgs false in
set_option linter.unusedVariables false in
theorem check_nil (n : Int) (w : World) : Calls Try.prog 32 #[.pointer none, .int .i64 n] w fun e w' => e = .returned (.int .i64 2) ∧ w = w' := by
  have NO := hide (none_nil w)
  go_enter Try.func32, Try.ntmps32
  go_wp2_with (first | (go_at_call 29; refine Calls.mono NO.out ?_; rintro e w1 ⟨rfl, rfl⟩))
  go_ret
  exact ⟨rfl, rfl⟩
set_option maxHeartbeats 4000000 in
set_option maxRecDepth 100000 in
set_option linter.unusedSimpArgs false in
set_option linter.unusedVariables false in
theorem check_any (w : World) (R : Nat) (r p c k n : Int) (h : BkAt w R r p c k) (hr : 1 ≤ r) : Calls Try.prog 32 #[.pointer (some ⟨R, 0, none⟩), .int .i64 n] w fun e w' => e = .returned (.int .i64 (askE c n)) ∧ w = w' := by
  have c2 := h.c2
  have NO := hide (none_any w R r p c k h hr)
  unfold askE
  by_cases h1 : n < 0
  · go_enter Try.func32, Try.ntmps32
    go_wp2_with (first | (go_at_call 29; refine Calls.mono NO.out ?_; rintro e w1 ⟨rfl, rfl⟩))
    go_ret
    exact ⟨by simp, rfl⟩
  · by_cases h2 : c < n
    · go_enter Try.func32, Try.ntmps32
      go_wp2_with (first | (go_at_call 29; refine Calls.mono NO.out ?_; rintro e w1 ⟨rfl, rfl⟩))
      go_ret
      exact ⟨by simp, rfl⟩
    · go_enter Try.func32, Try.ntmps32
      go_wp2_with (first | (go_at_call 29; refine Calls.mono NO.out ?_; rintro e w1 ⟨rfl, rfl⟩))
      go_ret
      exact ⟨by simp, rfl⟩
set_option maxHeartbeats 4000000 in
set_option maxRecDepth 100000 in
set_option linter.unusedSimpArgs false in
set_option linter.unusedVariables false in
theorem tick_nil (n : Int) (w : World) : Calls Try.prog 18 #[.pointer none, .int .i64 n] w fun e w' => e = .returned (.int .i64 2) ∧ w = w' := by
  have NO := hide (none_nil w)
  go_enter_defers Try.func18, Try.ntmps18
  go_wp2_with (first | (go_at_call 29; refine Calls.mono NO.out ?_; rintro e w1 ⟨rfl, rfl⟩))
  exact ⟨_, results_tmp rfl _ _ _, rfl, rfl⟩
set_option maxHeartbeats 4000000 in
set_option maxRecDepth 100000 in
set_option linter.unusedSimpArgs false in
set_option linter.unusedVariables false in
theorem take_nil (n : Int) (w : World) : Calls Try.prog 19 #[.pointer none, .int .i64 n] w fun e w' => e = .returned (.tuple #[.bool false, .int .i64 2]) ∧ w = w' := by
  have CK := hide (check_nil n w)
  go_enter_defers Try.func19, Try.ntmps19
  go_wp2_with (first | (go_at_call 32; refine Calls.mono CK.out ?_; rintro e w1 ⟨rfl, rfl⟩))
  exact ⟨_, results_tmp2 rfl _ _ _, rfl, rfl⟩
set_option maxHeartbeats 4000000 in
set_option maxRecDepth 100000 in
set_option linter.unusedSimpArgs false in
set_option linter.unusedVariables false in
theorem wait_nil (n : Int) (w : World) : Calls Try.prog 20 #[.pointer none, .int .i64 n] w fun e w' => e = .returned (.tuple #[.int .i64 0, .int .i64 2]) ∧ w = w' := by
  have CK := hide (check_nil n w)
  go_enter_defers Try.func20, Try.ntmps20
  go_wp2_with (first | (go_at_call 32; refine Calls.mono CK.out ?_; rintro e w1 ⟨rfl, rfl⟩))
  exact ⟨_, results_tmp2 rfl _ _ _, rfl, rfl⟩
set_option maxHeartbeats 4000000 in
set_option maxRecDepth 100000 in
set_option linter.unusedSimpArgs false in
set_option linter.unusedVariables false in
theorem level_nil (w : World) : Calls Try.prog 21 #[.pointer none] w fun e w' => e = .returned (.int .i64 0) ∧ w = w' := by
  have NO := hide (none_nil w)
  go_enter_defers Try.func21, Try.ntmps21
  go_wp2_with (first | (go_at_call 29; refine Calls.mono NO.out ?_; rintro e w1 ⟨rfl, rfl⟩))
  exact ⟨_, results_tmp rfl _ _ _, rfl, rfl⟩
set_option maxHeartbeats 4000000 in
set_option maxRecDepth 100000 in
set_option linter.unusedSimpArgs false in
set_option linter.unusedVariables false in
theorem tick_any (w : World) (R : Nat) (r p c k n : Int) (h : BkAt w R r p c k) (hf : Fits r p c k) (hn : 0 ≤ n) (hn2 : n ≤ 1099511627776) :
    Calls Try.prog 18 #[.pointer (some ⟨R, 0, none⟩), .int .i64 n] w fun e w' => e = .returned (.int .i64 0) ∧ BkAt w' R r p c (tickP r p c k n) ∧ w.grownBy w' (some R) := by
  have NO := hide (none_any w R r p c k h hf.r1)
  have WI := hide (within_any n 0 1099511627776 w)
  have c3 := h.c3
  have f3 := h.fz 3
  have I0 : Hid (BkIn (w.setCell ⟨R, 3, none⟩ (.int .i32 1)) R r p c k ∧ w.grownBy (w.setCell ⟨R, 3, none⟩ (.int .i32 1)) (some R)) := ⟨h.lock, grown_set (grown_refl _ _) _⟩
  have m1 := mul_in (A := 1099511627776) (B := 65536) hn hn2 (by have := hf.r1; omega) hf.r2
  have m2 := hf.cp
  have k1 := hf.k1
  have k2 := hf.k2
  clear h
  go_enter_defers Try.func18, Try.ntmps18
  go_wp2_with (first | (go_at_call 29; refine Calls.mono NO.out ?_; rintro e w1 ⟨rfl, rfl⟩) | (go_at_call 26; refine Calls.mono WI.out ?_; rintro e w1 ⟨rfl, rfl⟩) | (go_at_call 30; refine (Go.MuLone.lock_free Try.muLib ⟨R, 3, none⟩ _ c3 f3).mono ?_; rintro e w' ⟨rfl, rfl⟩))
  clear c3 f3
  generalize w.setCell ⟨R, 3, none⟩ (.int .i32 1) = W at *
  refine wp_only ?_
  refine wp_region_held_drew (S := fun X => ∃ k', BkIn X R r p c k' ∧ w.grownBy X (some R)) (by kernel_rfl) ⟨k, I0.out.1.drew, grown_drew I0.out.2⟩ (fun hHeld => ?_)
  refine wpAnyH_take (i := 0) (v := (.pointer (some ⟨R, 0, none⟩))) rfl (by kernel_rfl) (by kernel_rfl) (by kernel_rfl) (fun _ _ _ h => h) (Or.inl ⟨by rfl, ?_⟩) (by assumption) ?_
  · intro w' hSw
    (try dsimp only at hSw)
    go_simp
  (try simp only [Act.put, List.setIfInBounds_toArray, List.set_cons_zero, List.set_cons_succ])
  refine wpAnyH_take (i := 1) (v := (.pointer (some ⟨R, 0, none⟩))) rfl (by kernel_rfl) (by kernel_rfl) (by kernel_rfl) (fun _ _ _ h => h) (Or.inl ⟨by rfl, ?_⟩) (by assumption) ?_
  · intro w' hSw
    (try dsimp only at hSw)
    go_simp
  (try simp only [Act.put, List.setIfInBounds_toArray, List.set_cons_zero, List.set_cons_succ])
  refine wpAnyH_take (i := 2) (v := (.pointer (some ⟨R, 0, none⟩))) rfl (by kernel_rfl) (by kernel_rfl) (by kernel_rfl) (fun _ _ _ h => h) (Or.inl ⟨by rfl, ?_⟩) (by assumption) ?_
  · intro w' hSw
    (try dsimp only at hSw)
    go_simp
  (try simp only [Act.put, List.setIfInBounds_toArray, List.set_cons_zero, List.set_cons_succ])
  refine wpAnyH_take (i := 3) (v := (.pointer (some ⟨R, 5, none⟩))) rfl (by kernel_rfl) (by kernel_rfl) (by kernel_rfl) (fun _ _ _ h => h) (Or.inl ⟨by rfl, ?_⟩) (by assumption) ?_
  · intro w' hSw
    (try dsimp only at hSw)
    go_simp
  (try simp only [Act.put, List.setIfInBounds_toArray, List.set_cons_zero, List.set_cons_succ])
  refine wpAnyH_take (i := 5) (v := (.int .i64 n)) rfl (by kernel_rfl) (by kernel_rfl) (by kernel_rfl) (fun _ _ _ h => h) (Or.inl ⟨by rfl, ?_⟩) (by assumption) ?_
  · intro w' hSw
    (try dsimp only at hSw)
    go_simp
  (try simp only [Act.put, List.setIfInBounds_toArray, List.set_cons_zero, List.set_cons_succ])
  refine wpAnyH_take (i := 6) (v := (.pointer (some ⟨R, 0, none⟩))) rfl (by kernel_rfl) (by kernel_rfl) (by kernel_rfl) (fun _ _ _ h => h) (Or.inl ⟨by rfl, ?_⟩) (by assumption) ?_
  · intro w' hSw
    (try dsimp only at hSw)
    go_simp
  (try simp only [Act.put, List.setIfInBounds_toArray, List.set_cons_zero, List.set_cons_succ])
  refine wpAnyH_take (i := 7) (v := (.pointer (some ⟨R, 0, none⟩))) rfl (by kernel_rfl) (by kernel_rfl) (by kernel_rfl) (fun _ _ _ h => h) (Or.inl ⟨by rfl, ?_⟩) (by assumption) ?_
  · intro w' hSw
    (try dsimp only at hSw)
    go_simp
  (try simp only [Act.put, List.setIfInBounds_toArray, List.set_cons_zero, List.set_cons_succ])
  refine wpAnyH_take (i := 8) (v := (.pointer (some ⟨R, 0, none⟩))) rfl (by kernel_rfl) (by kernel_rfl) (by kernel_rfl) (fun _ _ _ h => h) (Or.inl ⟨by rfl, ?_⟩) (by assumption) ?_
  · intro w' hSw
    (try dsimp only at hSw)
    go_simp
  (try simp only [Act.put, List.setIfInBounds_toArray, List.set_cons_zero, List.set_cons_succ])
  refine wpAnyH_take (i := 9) (v := (.int .i64 r)) rfl (by kernel_rfl) (by kernel_rfl) (by kernel_rfl) (fun _ _ _ h => h) (Or.inl ⟨by rfl, ?_⟩) (by assumption) ?_
  · intro w' hSw
    (try dsimp only at hSw)
    (obtain ⟨_, hSw, _⟩ := hSw; have := hSw.c0; go_simp)
  (try simp only [Act.put, List.setIfInBounds_toArray, List.set_cons_zero, List.set_cons_succ])
  refine wpAnyH_take (i := 10) (v := (.int .i64 (n * r))) rfl (by kernel_rfl) (by kernel_rfl) (by kernel_rfl) (fun _ _ _ h => h) (Or.inl ⟨by rfl, ?_⟩) (by assumption) ?_
  · intro w' hSw
    (try dsimp only at hSw)
    (go_simp; exact i64_in (by omega) (by omega))
  (try simp only [Act.put, List.setIfInBounds_toArray, List.set_cons_zero, List.set_cons_succ])
  refine wpAnyH_take (i := 12) (v := (.pointer (some ⟨R, 0, none⟩))) rfl (by kernel_rfl) (by kernel_rfl) (by kernel_rfl) (fun _ _ _ h => h) (Or.inl ⟨by rfl, ?_⟩) (by assumption) ?_
  · intro w' hSw
    (try dsimp only at hSw)
    go_simp
  (try simp only [Act.put, List.setIfInBounds_toArray, List.set_cons_zero, List.set_cons_succ])
  refine wpAnyH_take (i := 13) (v := (.pointer (some ⟨R, 0, none⟩))) rfl (by kernel_rfl) (by kernel_rfl) (by kernel_rfl) (fun _ _ _ h => h) (Or.inl ⟨by rfl, ?_⟩) (by assumption) ?_
  · intro w' hSw
    (try dsimp only at hSw)
    go_simp
  (try simp only [Act.put, List.setIfInBounds_toArray, List.set_cons_zero, List.set_cons_succ])
  refine wpAnyH_take (i := 14) (v := (.pointer (some ⟨R, 2, none⟩))) rfl (by kernel_rfl) (by kernel_rfl) (by kernel_rfl) (fun _ _ _ h => h) (Or.inl ⟨by rfl, ?_⟩) (by assumption) ?_
  · intro w' hSw
    (try dsimp only at hSw)
    go_simp
  (try simp only [Act.put, List.setIfInBounds_toArray, List.set_cons_zero, List.set_cons_succ])
  refine wpAnyH_take (i := 15) (v := (.int .i64 c)) rfl (by kernel_rfl) (by kernel_rfl) (by kernel_rfl) (fun _ _ _ h => h) (Or.inl ⟨by rfl, ?_⟩) (by assumption) ?_
  · intro w' hSw
    (try dsimp only at hSw)
    (obtain ⟨_, hSw, _⟩ := hSw; have := hSw.c2; go_simp)
  (try simp only [Act.put, List.setIfInBounds_toArray, List.set_cons_zero, List.set_cons_succ])
  refine wpAnyH_take (i := 16) (v := (.pointer (some ⟨R, 0, none⟩))) rfl (by kernel_rfl) (by kernel_rfl) (by kernel_rfl) (fun _ _ _ h => h) (Or.inl ⟨by rfl, ?_⟩) (by assumption) ?_
  · intro w' hSw
    (try dsimp only at hSw)
    go_simp
  (try simp only [Act.put, List.setIfInBounds_toArray, List.set_cons_zero, List.set_cons_succ])
  refine wpAnyH_take (i := 17) (v := (.pointer (some ⟨R, 0, none⟩))) rfl (by kernel_rfl) (by kernel_rfl) (by kernel_rfl) (fun _ _ _ h => h) (Or.inl ⟨by rfl, ?_⟩) (by assumption) ?_
  · intro w' hSw
    (try dsimp only at hSw)
    go_simp
  (try simp only [Act.put, List.setIfInBounds_toArray, List.set_cons_zero, List.set_cons_succ])
  refine wpAnyH_take (i := 18) (v := (.pointer (some ⟨R, 1, none⟩))) rfl (by kernel_rfl) (by kernel_rfl) (by kernel_rfl) (fun _ _ _ h => h) (Or.inl ⟨by rfl, ?_⟩) (by assumption) ?_
  · intro w' hSw
    (try dsimp only at hSw)
    go_simp
  (try simp only [Act.put, List.setIfInBounds_toArray, List.set_cons_zero, List.set_cons_succ])
  refine wpAnyH_take (i := 19) (v := (.int .i64 p)) rfl (by kernel_rfl) (by kernel_rfl) (by kernel_rfl) (fun _ _ _ h => h) (Or.inl ⟨by rfl, ?_⟩) (by assumption) ?_
  · intro w' hSw
    (try dsimp only at hSw)
    (obtain ⟨_, hSw, _⟩ := hSw; have := hSw.c1; go_simp)
  (try simp only [Act.put, List.setIfInBounds_toArray, List.set_cons_zero, List.set_cons_succ])
  refine wpAnyH_take (i := 20) (v := (.int .i64 (c * p))) rfl (by kernel_rfl) (by kernel_rfl) (by kernel_rfl) (fun _ _ _ h => h) (Or.inl ⟨by rfl, ?_⟩) (by assumption) ?_
  · intro w' hSw
    (try dsimp only at hSw)
    (go_simp; exact i64_in (by omega) (by omega))
  (try simp only [Act.put, List.setIfInBounds_toArray, List.set_cons_zero, List.set_cons_succ])
  have d5 := I0.out.1.drew.c5
  refine wpAnyH_ready (rs := [4]) (by kernel_rfl) (by simp) ?_
  refine AllReadyH.cons rfl (fun K hK => ?_) AllReadyH.nil
  go_simp
  refine hK.out _ _ (⟨k, I0.out.1.drew, grown_drew I0.out.2⟩) (fun hHeld => ?_)
  clear hK
  (try simp only [Act.put, List.setIfInBounds_toArray, List.set_cons_zero, List.set_cons_succ])
  refine wpAnyH_take (i := 11) (v := (.int .i64 (k + n * r))) rfl (by kernel_rfl) (by kernel_rfl) (by kernel_rfl) (fun _ _ _ h => h) (Or.inl ⟨by rfl, ?_⟩) (by assumption) ?_
  · intro w' hSw
    (try dsimp only at hSw)
    (go_simp; exact i64_in (by omega) (by omega))
  (try simp only [Act.put, List.setIfInBounds_toArray, List.set_cons_zero, List.set_cons_succ])
  refine wpAnyH_take (i := 21) (v := (.int .i64 (min (k + n * r) (c * p)))) rfl (by kernel_rfl) (by kernel_rfl) (by kernel_rfl) (fun _ _ _ h => h) (Or.inl ⟨by rfl, ?_⟩) (by assumption) ?_
  · intro w' hSw
    (try dsimp only at hSw)
    go_simp
  (try simp only [Act.put, List.setIfInBounds_toArray, List.set_cons_zero, List.set_cons_succ])
  refine wpAnyH_take (i := 22) (v := (.pointer (some ⟨R, 0, none⟩))) rfl (by kernel_rfl) (by kernel_rfl) (by kernel_rfl) (fun _ _ _ h => h) (Or.inl ⟨by rfl, ?_⟩) (by assumption) ?_
  · intro w' hSw
    (try dsimp only at hSw)
    go_simp
  (try simp only [Act.put, List.setIfInBounds_toArray, List.set_cons_zero, List.set_cons_succ])
  refine wpAnyH_take (i := 23) (v := (.pointer (some ⟨R, 5, none⟩))) rfl (by kernel_rfl) (by kernel_rfl) (by kernel_rfl) (fun _ _ _ h => h) (Or.inl ⟨by rfl, ?_⟩) (by assumption) ?_
  · intro w' hSw
    (try dsimp only at hSw)
    go_simp
  (try simp only [Act.put, List.setIfInBounds_toArray, List.set_cons_zero, List.set_cons_succ])
  have g5 := I0.out.1.drew.fz 5
  refine wpAnyH_ready (rs := [24]) (by kernel_rfl) (by simp) ?_
  refine AllReadyH.cons rfl (fun K hK => ?_) AllReadyH.nil
  go_simp
  have IZ : Hid (BkIn (W.setCell ⟨R, 5, none⟩ (.int .i64 (min (k + n * r) (c * p)))).drew R r p c (tickP r p c k n) ∧ w.grownBy (W.setCell ⟨R, 5, none⟩ (.int .i64 (min (k + n * r) (c * p)))).drew (some R)) := ⟨(I0.out.1.set _).drew, grown_drew (grown_set I0.out.2 _)⟩
  generalize (W.setCell ⟨R, 5, none⟩ (.int .i64 (min (k + n * r) (c * p)))).drew = W2 at *
  refine hK.out _ _ (⟨_, IZ.out⟩) (fun hHeld => ?_)
  clear hK
  (try simp only [Act.put, List.setIfInBounds_toArray, List.set_cons_zero, List.set_cons_succ])
  refine wpAnyH_done (by kernel_rfl) ?_ _
  refine only_mk ?_
  clear hHeld d5 g5
  go_wp2_with fail
  refine leaves_cons (f := 31) (args := #[.pointer (some ⟨R, 3, none⟩)]) (by simp) (by simp [go_sem]) ?_
  refine (Go.MuLone.unlock_deferred Try.muLib ⟨R, 3, none⟩ .returning _ IZ.out.1.c3 (IZ.out.1.fz 3)).mono ?_
  rintro e u' w'' ⟨rfl, rfl, rfl⟩
  refine ⟨_, results_tmp rfl _ _ _, rfl, IZ.out.1.free, grown_set IZ.out.2 _⟩
set_option maxHeartbeats 4000000 in
set_option maxRecDepth 100000 in
set_option linter.unusedSimpArgs false in
set_option linter.unusedVariables false in
theorem tick_bad (w : World) (R : Nat) (r p c k n : Int) (h : BkAt w R r p c k) (hr : 1 ≤ r) (hn : ¬ (0 ≤ n ∧ n ≤ 1099511627776)) :
    Calls Try.prog 18 #[.pointer (some ⟨R, 0, none⟩), .int .i64 n] w fun e w' => e = .returned (.int .i64 1) ∧ w = w' := by
  have NO := hide (none_any w R r p c k h hr)
  have WI := within_any n 0 1099511627776 w
  have e0 : (decide (0 ≤ n) && decide (n ≤ 1099511627776)) = false := by
    rw [Bool.eq_false_iff]
    intro e
    simp only [Bool.and_eq_true, decide_eq_true_eq] at e
    exact hn e
  rw [e0] at WI
  have WI := hide WI
  go_enter_defers Try.func18, Try.ntmps18
  go_wp2_with (first | (go_at_call 29; refine Calls.mono NO.out ?_; rintro e w1 ⟨rfl, rfl⟩) | (go_at_call 26; refine Calls.mono WI.out ?_; rintro e w1 ⟨rfl, rfl⟩))
  exact ⟨_, results_tmp rfl _ _ _, rfl, rfl⟩
set_option maxHeartbeats 4000000 in
set_option maxRecDepth 100000 in
set_option linter.unusedSimpArgs false in
set_option linter.unusedVariables false in
theorem level_any (w : World) (R : Nat) (r p c k : Int) (h : BkAt w R r p c k) (hf : Fits r p c k) :
    Calls Try.prog 21 #[.pointer (some ⟨R, 0, none⟩)] w fun e w' => e = .returned (.int .i64 (k / p)) ∧ BkAt w' R r p c k ∧ w.grownBy w' (some R) := by
  have NO := hide (none_any w R r p c k h hf.r1)
  have c3 := h.c3
  have f3 := h.fz 3
  have I0 : Hid (BkIn (w.setCell ⟨R, 3, none⟩ (.int .i32 1)) R r p c k ∧ w.grownBy (w.setCell ⟨R, 3, none⟩ (.int .i32 1)) (some R)) := ⟨h.lock, grown_set (grown_refl _ _) _⟩
  have k1 := hf.k1
  have p1 := hf.p1
  have p0 : (p == 0) = false := by simp; omega
  have p0' : p ≠ 0 := by omega
  have p3 : ¬ p = -1 := by omega
  have ed : Int.tdiv k p = k / p := Int.tdiv_eq_ediv_of_nonneg k1
  clear h
  go_enter_defers Try.func21, Try.ntmps21
  go_wp2_with (first | (go_at_call 29; refine Calls.mono NO.out ?_; rintro e w1 ⟨rfl, rfl⟩) | (go_at_call 30; refine (Go.MuLone.lock_free Try.muLib ⟨R, 3, none⟩ _ c3 f3).mono ?_; rintro e w' ⟨rfl, rfl⟩))
  clear c3 f3
  generalize w.setCell ⟨R, 3, none⟩ (.int .i32 1) = W at *
  have d1 := I0.out.1.c1
  have d5 := I0.out.1.c5
  have ew := wrap_in (x := k / p) (by have := Int.ediv_nonneg k1 (show 0 ≤ p by omega); omega) (by have := Int.ediv_le_self p k1; have := hf.cp; have := hf.k2; omega)
  go_quiet (fail)
  have IZ : Hid (BkIn (W.drewN nq) R r p c k ∧ w.grownBy (W.drewN nq) (some R)) := ⟨I0.out.1.drewN _, grown_drewN I0.out.2 _⟩
  generalize W.drewN nq = W2 at *
  clear d1 d5 ed
  go_wp2_with fail
  refine leaves_cons (f := 31) (args := #[.pointer (some ⟨R, 3, none⟩)]) (by simp) (by simp [go_sem]) ?_
  refine (Go.MuLone.unlock_deferred Try.muLib ⟨R, 3, none⟩ .returning _ IZ.out.1.c3 (IZ.out.1.fz 3)).mono ?_
  rintro e u' w'' ⟨rfl, rfl, rfl⟩
  refine ⟨_, results_tmp rfl _ _ _, (by first | rfl | exact congrArg (fun z => Ending.returned (.int .i64 z)) ew), IZ.out.1.free, grown_set IZ.out.2 _⟩
set_option maxHeartbeats 4000000 in
set_option maxRecDepth 100000 in
set_option linter.unusedSimpArgs false in
set_option linter.unusedVariables false in
theorem take_neg (w : World) (R : Nat) (r p c k n : Int) (h : BkAt w R r p c k) (hr : 1 ≤ r) (hn : n < 0) :
    Calls Try.prog 19 #[.pointer (some ⟨R, 0, none⟩), .int .i64 n] w fun e w' => e = .returned (.tuple #[.bool false, .int .i64 1]) ∧ w = w' := by
  have CK := check_any w R r p c k n h hr
  have e0 : askE c n = 1 := by unfold askE; rw [if_pos hn]
  rw [e0] at CK
  have CK := hide CK
  go_enter_defers Try.func19, Try.ntmps19
  go_wp2_with (first | (go_at_call 32; refine Calls.mono CK.out ?_; rintro e w1 ⟨rfl, rfl⟩))
  exact ⟨_, results_tmp2 rfl _ _ _, rfl, rfl⟩
set_option maxHeartbeats 4000000 in
set_option maxRecDepth 100000 in
set_option linter.unusedSimpArgs false in
set_option linter.unusedVariables false in
theorem wait_neg (w : World) (R : Nat) (r p c k n : Int) (h : BkAt w R r p c k) (hr : 1 ≤ r) (hn : n < 0) :
    Calls Try.prog 20 #[.pointer (some ⟨R, 0, none⟩), .int .i64 n] w fun e w' => e = .returned (.tuple #[.int .i64 0, .int .i64 1]) ∧ w = w' := by
  have CK := check_any w R r p c k n h hr
  have e0 : askE c n = 1 := by unfold askE; rw [if_pos hn]
  rw [e0] at CK
  have CK := hide CK
  go_enter_defers Try.func20, Try.ntmps20
  go_wp2_with (first | (go_at_call 32; refine Calls.mono CK.out ?_; rintro e w1 ⟨rfl, rfl⟩))
  exact ⟨_, results_tmp2 rfl _ _ _, rfl, rfl⟩
set_option maxHeartbeats 4000000 in
set_option maxRecDepth 100000 in
set_option linter.unusedSimpArgs false in
set_option linter.unusedVariables false in
theorem take_over (w : World) (R : Nat) (r p c k n : Int) (h : BkAt w R r p c k) (hr : 1 ≤ r) (hf : Fits r p c k) (hn : c < n) :
    Calls Try.prog 19 #[.pointer (some ⟨R, 0, none⟩), .int .i64 n] w fun e w' => e = .returned (.tuple #[.bool false, .int .i64 101]) ∧ w = w' := by
  have CK := check_any w R r p c k n h hr
  have e0 : askE c n = 101 := by unfold askE; rw [if_neg (by have := hf.c1; omega), if_pos hn]
  rw [e0] at CK
  have CK := hide CK
  go_enter_defers Try.func19, Try.ntmps19
  go_wp2_with (first | (go_at_call 32; refine Calls.mono CK.out ?_; rintro e w1 ⟨rfl, rfl⟩))
  exact ⟨_, results_tmp2 rfl _ _ _, rfl, rfl⟩
set_option maxHeartbeats 4000000 in
set_option maxRecDepth 100000 in
set_option linter.unusedSimpArgs false in
set_option linter.unusedVariables false in
theorem wait_over (w : World) (R : Nat) (r p c k n : Int) (h : BkAt w R r p c k) (hr : 1 ≤ r) (hf : Fits r p c k) (hn : c < n) :
    Calls Try.prog 20 #[.pointer (some ⟨R, 0, none⟩), .int .i64 n] w fun e w' => e = .returned (.tuple #[.int .i64 0, .int .i64 101]) ∧ w = w' := by
  have CK := check_any w R r p c k n h hr
  have e0 : askE c n = 101 := by unfold askE; rw [if_neg (by have := hf.c1; omega), if_pos hn]
  rw [e0] at CK
  have CK := hide CK
  go_enter_defers Try.func20, Try.ntmps20
  go_wp2_with (first | (go_at_call 32; refine Calls.mono CK.out ?_; rintro e w1 ⟨rfl, rfl⟩))
  exact ⟨_, results_tmp2 rfl _ _ _, rfl, rfl⟩
set_option maxHeartbeats 4000000 in
set_option maxRecDepth 100000 in
set_option linter.unusedSimpArgs false in
set_option linter.unusedVariables false in
theorem take_lack (w : World) (R : Nat) (r p c k n : Int) (h : BkAt w R r p c k) (hf : Fits r p c k) (hn : 0 ≤ n) (hn2 : n ≤ c) (hk : k < n * p) :
    Calls Try.prog 19 #[.pointer (some ⟨R, 0, none⟩), .int .i64 n] w fun e w' => e = .returned (.tuple #[.bool false, .int .i64 0]) ∧ BkAt w' R r p c k ∧ w.grownBy w' (some R) := by
  have CK := check_any w R r p c k n h hf.r1
  have e0 : askE c n = 0 := by unfold askE; rw [if_neg (by omega), if_neg (by omega)]
  rw [e0] at CK
  have CK := hide CK
  have c3 := h.c3
  have f3 := h.fz 3
  have I0 : Hid (BkIn (w.setCell ⟨R, 3, none⟩ (.int .i32 1)) R r p c k ∧ w.grownBy (w.setCell ⟨R, 3, none⟩ (.int .i32 1)) (some R)) := ⟨h.lock, grown_set (grown_refl _ _) _⟩
  have m1 := mul_in (A := 65536) (B := 1024) hn (Int.le_trans hn2 hf.c2) (by have := hf.p1; omega) hf.p2
  have m2 := hf.cp
  have k1 := hf.k1
  have k2 := hf.k2
  clear h
  have ew := wrap_in (x := n * p) (by omega) (by omega)
  have hc : k < wrap64 (n * p) := by rw [ew]; omega
  go_enter_defers Try.func19, Try.ntmps19
  go_wp2_with (first | (go_at_call 32; refine Calls.mono CK.out ?_; rintro e w1 ⟨rfl, rfl⟩) | (go_at_call 30; refine (Go.MuLone.lock_free Try.muLib ⟨R, 3, none⟩ _ c3 f3).mono ?_; rintro e w' ⟨rfl, rfl⟩))
  clear c3 f3
  generalize w.setCell ⟨R, 3, none⟩ (.int .i32 1) = W at *
  have d1 := I0.out.1.c1
  have d5 := I0.out.1.c5
  go_quiet (fail)
  have IZ : Hid (BkIn (W.drewN nq) R r p c k ∧ w.grownBy (W.drewN nq) (some R)) := ⟨I0.out.1.drewN _, grown_drewN I0.out.2 _⟩
  generalize W.drewN nq = W2 at *
  clear d1 d5
  go_wp2_with fail
  refine leaves_cons (f := 31) (args := #[.pointer (some ⟨R, 3, none⟩)]) (by simp) (by simp [go_sem]) ?_
  refine (Go.MuLone.unlock_deferred Try.muLib ⟨R, 3, none⟩ .returning _ IZ.out.1.c3 (IZ.out.1.fz 3)).mono ?_
  rintro e u' w'' ⟨rfl, rfl, rfl⟩
  refine ⟨_, results_tmp2 rfl _ _ _, rfl, IZ.out.1.free, grown_set IZ.out.2 _⟩
set_option maxHeartbeats 4000000 in
set_option maxRecDepth 100000 in
set_option linter.unusedSimpArgs false in
set_option linter.unusedVariables false in
theorem take_there (w : World) (R : Nat) (r p c k n : Int) (h : BkAt w R r p c k) (hf : Fits r p c k) (hn : 0 ≤ n) (hn2 : n ≤ c) (hk : n * p ≤ k) :
    Calls Try.prog 19 #[.pointer (some ⟨R, 0, none⟩), .int .i64 n] w fun e w' => e = .returned (.tuple #[.bool true, .int .i64 0]) ∧ BkAt w' R r p c (k - n * p) ∧ w.grownBy w' (some R) := by
  have CK := check_any w R r p c k n h hf.r1
  have e0 : askE c n = 0 := by unfold askE; rw [if_neg (by omega), if_neg (by omega)]
  rw [e0] at CK
  have CK := hide CK
  have c3 := h.c3
  have f3 := h.fz 3
  have I0 : Hid (BkIn (w.setCell ⟨R, 3, none⟩ (.int .i32 1)) R r p c k ∧ w.grownBy (w.setCell ⟨R, 3, none⟩ (.int .i32 1)) (some R)) := ⟨h.lock, grown_set (grown_refl _ _) _⟩
  have m1 := mul_in (A := 65536) (B := 1024) hn (Int.le_trans hn2 hf.c2) (by have := hf.p1; omega) hf.p2
  have m2 := hf.cp
  have k1 := hf.k1
  have k2 := hf.k2
  clear h
  have ew := wrap_in (x := n * p) (by omega) (by omega)
  have hc : ¬ k < wrap64 (n * p) := by rw [ew]; omega
  go_enter_defers Try.func19, Try.ntmps19
  go_wp2_with (first | (go_at_call 32; refine Calls.mono CK.out ?_; rintro e w1 ⟨rfl, rfl⟩) | (go_at_call 30; refine (Go.MuLone.lock_free Try.muLib ⟨R, 3, none⟩ _ c3 f3).mono ?_; rintro e w' ⟨rfl, rfl⟩))
  clear c3 f3
  generalize w.setCell ⟨R, 3, none⟩ (.int .i32 1) = W at *
  have d1 := I0.out.1.c1
  have d5 := I0.out.1.c5
  go_quiet (fail)
  have IZ : Hid (BkIn (W.drewN nq) R r p c k ∧ w.grownBy (W.drewN nq) (some R)) := ⟨I0.out.1.drewN _, grown_drewN I0.out.2 _⟩
  generalize W.drewN nq = W2 at *
  clear d1 d5
  go_wp2_with fail
  refine wp_only ?_
  refine wp_region_held_drew (S := fun X => ∃ k', BkIn X R r p c k' ∧ w.grownBy X (some R)) (by kernel_rfl) ⟨k, IZ.out.1.drew, grown_drew IZ.out.2⟩ (fun hHeld => ?_)
  refine wpAnyH_take (i := 0) (v := (.pointer (some ⟨R, 0, none⟩))) rfl (by kernel_rfl) (by kernel_rfl) (by kernel_rfl) (fun _ _ _ h => h) (Or.inl ⟨by rfl, ?_⟩) (by assumption) ?_
  · intro w' hSw
    (try dsimp only at hSw)
    go_simp
  (try simp only [Act.put, List.setIfInBounds_toArray, List.set_cons_zero, List.set_cons_succ])
  refine wpAnyH_take (i := 1) (v := (.pointer (some ⟨R, 0, none⟩))) rfl (by kernel_rfl) (by kernel_rfl) (by kernel_rfl) (fun _ _ _ h => h) (Or.inl ⟨by rfl, ?_⟩) (by assumption) ?_
  · intro w' hSw
    (try dsimp only at hSw)
    go_simp
  (try simp only [Act.put, List.setIfInBounds_toArray, List.set_cons_zero, List.set_cons_succ])
  refine wpAnyH_take (i := 2) (v := (.pointer (some ⟨R, 5, none⟩))) rfl (by kernel_rfl) (by kernel_rfl) (by kernel_rfl) (fun _ _ _ h => h) (Or.inl ⟨by rfl, ?_⟩) (by assumption) ?_
  · intro w' hSw
    (try dsimp only at hSw)
    go_simp
  (try simp only [Act.put, List.setIfInBounds_toArray, List.set_cons_zero, List.set_cons_succ])
  refine wpAnyH_take (i := 4) (v := (.int .i64 n)) rfl (by kernel_rfl) (by kernel_rfl) (by kernel_rfl) (fun _ _ _ h => h) (Or.inl ⟨by rfl, ?_⟩) (by assumption) ?_
  · intro w' hSw
    (try dsimp only at hSw)
    go_simp
  (try simp only [Act.put, List.setIfInBounds_toArray, List.set_cons_zero, List.set_cons_succ])
  refine wpAnyH_take (i := 5) (v := (.pointer (some ⟨R, 0, none⟩))) rfl (by kernel_rfl) (by kernel_rfl) (by kernel_rfl) (fun _ _ _ h => h) (Or.inl ⟨by rfl, ?_⟩) (by assumption) ?_
  · intro w' hSw
    (try dsimp only at hSw)
    go_simp
  (try simp only [Act.put, List.setIfInBounds_toArray, List.set_cons_zero, List.set_cons_succ])
  refine wpAnyH_take (i := 6) (v := (.pointer (some ⟨R, 0, none⟩))) rfl (by kernel_rfl) (by kernel_rfl) (by kernel_rfl) (fun _ _ _ h => h) (Or.inl ⟨by rfl, ?_⟩) (by assumption) ?_
  · intro w' hSw
    (try dsimp only at hSw)
    go_simp
  (try simp only [Act.put, List.setIfInBounds_toArray, List.set_cons_zero, List.set_cons_succ])
  refine wpAnyH_take (i := 7) (v := (.pointer (some ⟨R, 1, none⟩))) rfl (by kernel_rfl) (by kernel_rfl) (by kernel_rfl) (fun _ _ _ h => h) (Or.inl ⟨by rfl, ?_⟩) (by assumption) ?_
  · intro w' hSw
    (try dsimp only at hSw)
    go_simp
  (try simp only [Act.put, List.setIfInBounds_toArray, List.set_cons_zero, List.set_cons_succ])
  refine wpAnyH_take (i := 8) (v := (.int .i64 p)) rfl (by kernel_rfl) (by kernel_rfl) (by kernel_rfl) (fun _ _ _ h => h) (Or.inl ⟨by rfl, ?_⟩) (by assumption) ?_
  · intro w' hSw
    (try dsimp only at hSw)
    (obtain ⟨_, hSw, _⟩ := hSw; have := hSw.c1; go_simp)
  (try simp only [Act.put, List.setIfInBounds_toArray, List.set_cons_zero, List.set_cons_succ])
  refine wpAnyH_take (i := 9) (v := (.int .i64 (n * p))) rfl (by kernel_rfl) (by kernel_rfl) (by kernel_rfl) (fun _ _ _ h => h) (Or.inl ⟨by rfl, ?_⟩) (by assumption) ?_
  · intro w' hSw
    (try dsimp only at hSw)
    (go_simp; exact i64_in (by omega) (by omega))
  (try simp only [Act.put, List.setIfInBounds_toArray, List.set_cons_zero, List.set_cons_succ])
  have d5 := IZ.out.1.drew.c5
  refine wpAnyH_ready (rs := [3]) (by kernel_rfl) (by simp) ?_
  refine AllReadyH.cons rfl (fun K hK => ?_) AllReadyH.nil
  go_simp
  refine hK.out _ _ (⟨k, IZ.out.1.drew, grown_drew IZ.out.2⟩) (fun hHeld => ?_)
  clear hK
  (try simp only [Act.put, List.setIfInBounds_toArray, List.set_cons_zero, List.set_cons_succ])
  refine wpAnyH_take (i := 10) (v := (.int .i64 (k - n * p))) rfl (by kernel_rfl) (by kernel_rfl) (by kernel_rfl) (fun _ _ _ h => h) (Or.inl ⟨by rfl, ?_⟩) (by assumption) ?_
  · intro w' hSw
    (try dsimp only at hSw)
    (go_simp; exact i64_in (by omega) (by omega))
  (try simp only [Act.put, List.setIfInBounds_toArray, List.set_cons_zero, List.set_cons_succ])
  refine wpAnyH_take (i := 11) (v := (.pointer (some ⟨R, 0, none⟩))) rfl (by kernel_rfl) (by kernel_rfl) (by kernel_rfl) (fun _ _ _ h => h) (Or.inl ⟨by rfl, ?_⟩) (by assumption) ?_
  · intro w' hSw
    (try dsimp only at hSw)
    go_simp
  (try simp only [Act.put, List.setIfInBounds_toArray, List.set_cons_zero, List.set_cons_succ])
  refine wpAnyH_take (i := 12) (v := (.pointer (some ⟨R, 5, none⟩))) rfl (by kernel_rfl) (by kernel_rfl) (by kernel_rfl) (fun _ _ _ h => h) (Or.inl ⟨by rfl, ?_⟩) (by assumption) ?_
  · intro w' hSw
    (try dsimp only at hSw)
    go_simp
  (try simp only [Act.put, List.setIfInBounds_toArray, List.set_cons_zero, List.set_cons_succ])
  have g5 := IZ.out.1.drew.fz 5
  refine wpAnyH_ready (rs := [13]) (by kernel_rfl) (by simp) ?_
  refine AllReadyH.cons rfl (fun K hK => ?_) AllReadyH.nil
  go_simp
  replace IZ : Hid (BkIn (W2.setCell ⟨R, 5, none⟩ (.int .i64 (k - n * p))).drew R r p c (k - n * p) ∧ w.grownBy (W2.setCell ⟨R, 5, none⟩ (.int .i64 (k - n * p))).drew (some R)) := ⟨(IZ.out.1.set _).drew, grown_drew (grown_set IZ.out.2 _)⟩
  generalize (W2.setCell ⟨R, 5, none⟩ (.int .i64 (k - n * p))).drew = W3 at *
  refine hK.out _ _ (⟨_, IZ.out⟩) (fun hHeld => ?_)
  clear hK
  (try simp only [Act.put, List.setIfInBounds_toArray, List.set_cons_zero, List.set_cons_succ])
  refine wpAnyH_done (by kernel_rfl) ?_ _
  refine only_mk ?_
  clear hHeld d5 g5
  go_wp2_with fail
  refine leaves_cons (f := 31) (args := #[.pointer (some ⟨R, 3, none⟩)]) (by simp) (by simp [go_sem]) ?_
  refine (Go.MuLone.unlock_deferred Try.muLib ⟨R, 3, none⟩ .returning _ IZ.out.1.c3 (IZ.out.1.fz 3)).mono ?_
  rintro e u' w'' ⟨rfl, rfl, rfl⟩
  refine ⟨_, results_tmp2 rfl _ _ _, rfl, IZ.out.1.free, grown_set IZ.out.2 _⟩
set_option maxHeartbeats 4000000 in
set_option maxRecDepth 100000 in
set_option linter.unusedSimpArgs false in
set_option linter.unusedVariables false in
theorem wait_in (w : World) (R : Nat) (r p c k n : Int) (h : BkAt w R r p c k) (hf : Fits r p c k) (hn : 0 ≤ n) (hn2 : n ≤ c) :
    Calls Try.prog 20 #[.pointer (some ⟨R, 0, none⟩), .int .i64 n] w fun e w' => e = .returned (.tuple #[.int .i64 ((max (n * p - k) 0 + r - 1) / r), .int .i64 0]) ∧ BkAt w' R r p c k ∧ w.grownBy w' (some R) := by
  have CK := check_any w R r p c k n h hf.r1
  have e0 : askE c n = 0 := by unfold askE; rw [if_neg (by omega), if_neg (by omega)]
  rw [e0] at CK
  have CK := hide CK
  have c3 := h.c3
  have f3 := h.fz 3
  have I0 : Hid (BkIn (w.setCell ⟨R, 3, none⟩ (.int .i32 1)) R r p c k ∧ w.grownBy (w.setCell ⟨R, 3, none⟩ (.int .i32 1)) (some R)) := ⟨h.lock, grown_set (grown_refl _ _) _⟩
  have m1 := mul_in (A := 65536) (B := 1024) hn (Int.le_trans hn2 hf.c2) (by have := hf.p1; omega) hf.p2
  have m2 := hf.cp
  have k1 := hf.k1
  have k2 := hf.k2
  clear h
  have r1 := hf.r1
  have r2 := hf.r2
  have w1 := wrap_in (x := n * p) (by omega) (by omega)
  have w2 := wrap_in (x := n * p - k) (by omega) (by omega)
  have r0 : (r == 0) = false := by simp; omega
  have r0' : r ≠ 0 := by omega
  have r3 : ¬ r = -1 := by omega
  go_enter_defers Try.func20, Try.ntmps20
  go_wp2_with (first | (go_at_call 32; refine Calls.mono CK.out ?_; rintro e w1 ⟨rfl, rfl⟩) | (go_at_call 30; refine (Go.MuLone.lock_free Try.muLib ⟨R, 3, none⟩ _ c3 f3).mono ?_; rintro e w' ⟨rfl, rfl⟩))
  clear c3 f3
  generalize w.setCell ⟨R, 3, none⟩ (.int .i32 1) = W at *
  have d1 := I0.out.1.c1
  have d5 := I0.out.1.c5
  go_quiet (fail)
  have IZ : Hid (BkIn (W.drewN nq) R r p c k ∧ w.grownBy (W.drewN nq) (some R)) := ⟨I0.out.1.drewN _, grown_drewN I0.out.2 _⟩
  generalize W.drewN nq = W2 at *
  clear d1 d5
  try rw [w1, w2]
  obtain ⟨L, hL⟩ : ∃ L, max (n * p - k) 0 = L := ⟨_, rfl⟩
  rw [hL]
  have l1 : 0 ≤ L := by omega
  have l2 : L ≤ 67108864 := by omega
  have w3 := wrap_in (x := L + r) (by omega) (by omega)
  have w4 := wrap_in (x := L + r - 1) (by omega) (by omega)
  have q1 := Int.ediv_nonneg (show 0 ≤ L + r - 1 by omega) (show 0 ≤ r by omega)
  have q2 := Int.ediv_le_self r (show 0 ≤ L + r - 1 by omega)
  have w5 := wrap_in (x := (L + r - 1) / r) (by omega) (by omega)
  have ed : Int.tdiv (L + r - 1) r = (L + r - 1) / r := Int.tdiv_eq_ediv_of_nonneg (by omega)
  have d0 := IZ.out.1.c0
  go_wp2_with fail
  go_quiet (fail)
  replace IZ : Hid (BkIn (W2.drewN nq) R r p c k ∧ w.grownBy (W2.drewN nq) (some R)) := ⟨IZ.out.1.drewN _, grown_drewN IZ.out.2 _⟩
  generalize W2.drewN nq = W3 at *
  clear d0
  go_wp2_with fail
  refine leaves_cons (f := 31) (args := #[.pointer (some ⟨R, 3, none⟩)]) (by simp) (by simp [go_sem]) ?_
  refine (Go.MuLone.unlock_deferred Try.muLib ⟨R, 3, none⟩ .returning _ IZ.out.1.c3 (IZ.out.1.fz 3)).mono ?_
  rintro e u' w'' ⟨rfl, rfl, rfl⟩
  refine ⟨_, results_tmp2 rfl _ _ _, (by subst hL; rfl), IZ.out.1.free, grown_set IZ.out.2 _⟩
/-- Take -/
theorem take_any (w : World) (R : Nat) (r p c k n : Int) (h : BkAt w R r p c k) (hf : Fits r p c k) :
    Calls Try.prog 19 #[.pointer (some ⟨R, 0, none⟩), .int .i64 n] w fun e w' => e = .returned (.tuple #[.bool (tookP p c k n), .int .i64 (askE c n)]) ∧ BkAt w' R r p c (takeP p c k n) ∧ w.grownBy w' (some R) := by
  unfold takeP
  by_cases h1 : n < 0
  · have e1 : tookP p c k n = false := by unfold tookP; rw [decide_eq_false_iff_not]; omega
    have e2 : askE c n = 1 := by unfold askE; rw [if_pos h1]
    rw [e1, e2]
    exact (take_neg w R r p c k n h hf.r1 h1).mono fun e w' ⟨a, b⟩ => by subst b; exact ⟨a, h, grown_refl _ _⟩
  by_cases h2 : c < n
  · have e1 : tookP p c k n = false := by unfold tookP; rw [decide_eq_false_iff_not]; omega
    have e2 : askE c n = 101 := by unfold askE; rw [if_neg h1, if_pos h2]
    rw [e1, e2]
    exact (take_over w R r p c k n h hf.r1 hf h2).mono fun e w' ⟨a, b⟩ => by subst b; exact ⟨a, h, grown_refl _ _⟩
  have e2 : askE c n = 0 := by unfold askE; rw [if_neg h1, if_neg h2]
  rw [e2]
  by_cases h3 : k < n * p
  · have e1 : tookP p c k n = false := by unfold tookP; rw [decide_eq_false_iff_not]; omega
    rw [e1]
    exact take_lack w R r p c k n h hf (by omega) (by omega) h3
  · have e1 : tookP p c k n = true := by unfold tookP; rw [decide_eq_true_iff]; omega
    rw [e1]
    exact take_there w R r p c k n h hf (by omega) (by omega) (by omega)
/-- Wait -/
theorem wait_any (w : World) (R : Nat) (r p c k n : Int) (h : BkAt w R r p c k) (hf : Fits r p c k) :
    Calls Try.prog 20 #[.pointer (some ⟨R, 0, none⟩), .int .i64 n] w fun e w' => e = .returned (.tuple #[.int .i64 (waitP r p c k n), .int .i64 (askE c n)]) ∧ BkAt w' R r p c k ∧ w.grownBy w' (some R) := by
  by_cases h1 : n < 0
  · have e1 : waitP r p c k n = 0 := by unfold waitP; rw [if_neg (by omega)]
    have e2 : askE c n = 1 := by unfold askE; rw [if_pos h1]
    rw [e1, e2]
    exact (wait_neg w R r p c k n h hf.r1 h1).mono fun e w' ⟨a, b⟩ => by subst b; exact ⟨a, h, grown_refl _ _⟩
  by_cases h2 : c < n
  · have e1 : waitP r p c k n = 0 := by unfold waitP; rw [if_neg (by omega)]
    have e2 : askE c n = 101 := by unfold askE; rw [if_neg h1, if_pos h2]
    rw [e1, e2]
    exact (wait_over w R r p c k n h hf.r1 hf h2).mono fun e w' ⟨a, b⟩ => by subst b; exact ⟨a, h, grown_refl _ _⟩
  have e2 : askE c n = 0 := by unfold askE; rw [if_neg h1, if_neg h2]
  have e1 : waitP r p c k n = (max (n * p - k) 0 + r - 1) / r := by unfold waitP; rw [if_pos (by omega)]
  rw [e1, e2]
  exact wait_in w R r p c k n h hf (by omega) (by omega)
/-- Tick -/
def tickE (n : Int) : Int := if 0 ≤ n ∧ n ≤ 1099511627776 then 0 else 1
def tickQ (r p c k n : Int) : Int := if 0 ≤ n ∧ n ≤ 1099511627776 then tickP r p c k n else k
theorem tick_all (w : World) (R : Nat) (r p c k n : Int) (h : BkAt w R r p c k) (hf : Fits r p c k) :
    Calls Try.prog 18 #[.pointer (some ⟨R, 0, none⟩), .int .i64 n] w fun e w' => e = .returned (.int .i64 (tickE n)) ∧ BkAt w' R r p c (tickQ r p c k n) ∧ w.grownBy w' (some R) := by
  unfold tickE tickQ
  by_cases h1 : 0 ≤ n ∧ n ≤ 1099511627776
  · rw [if_pos h1, if_pos h1]
    exact tick_any w R r p c k n h hf h1.1 h1.2
  · rw [if_neg h1, if_neg h1]
    exact (tick_bad w R r p c k n h hf.r1 h1).mono fun e w' ⟨a, b⟩ => by subst b; exact ⟨a, h, grown_refl _ _⟩
end Go.Proofs.Ytkfiaahgcljljaa
