import Derived.Test.YtkfiaahgcljljaaTdBudget
namespace Go.Proofs.Ytkfiaahgcljljaa
open Go.RowKit
set_option maxHeartbeats 8000000 in
set_option maxRecDepth 100000 in
set_option linter.unusedSimpArgs false in
set_option linter.unusedVariables false in
theorem fail_nil (X : World) (a b now : Int) : Calls Try.prog 12 #[.pointer none, .agg #[.int .i64 a, .int .i64 b], .int .i64 now] X fun e X' => e = .returned (.tuple #[.int .i64 0, .int .i64 2]) ∧ Below X.heap.size X X' := by
  have NO := hide (bnone_nil (X.alloc (.cells #[.int .i64 a, .int .i64 b] 25)))
  go_enter Try.func12, Try.ntmps12
  go_wp2_with (go_at_call 27; refine Calls.mono NO.out ?_; rintro e w1 ⟨rfl, rfl⟩)
  go_ret2
  exact ⟨rfl, (Below.refl _ _).alloc (Nat.le_refl _) _⟩
set_option maxHeartbeats 8000000 in
set_option maxRecDepth 100000 in
set_option linter.unusedSimpArgs false in
set_option linter.unusedVariables false in
theorem fail_neg (X : World) (B M n : Nat) (t s m a b now : Int) (F : Int → Int → Int) (h : BgAt X B M n t s m F) (hf : BFits t s m) (ha : (Lit.int .i64 a).wf = true) (hb : (Lit.int .i64 b).wf = true) (hw : ¬ 0 ≤ now) :
    Calls Try.prog 12 #[.pointer (some ⟨B, 0, none⟩), .agg #[.int .i64 a, .int .i64 b], .int .i64 now] X fun e X' => e = .returned (.tuple #[.int .i64 0, .int .i64 1]) ∧ BgAt X' B M n t s m F ∧ X.grownBy X' (some M) := by
  obtain ⟨WI, hWI⟩ : ∃ WI, WI = X.alloc (.cells #[.int .i64 a, .int .i64 b] 25) := ⟨_, rfl⟩
  obtain ⟨I, hI⟩ : ∃ I, I = X.heap.size := ⟨_, rfl⟩
  have II : Hid (ItAt WI I a b) := by subst hWI; subst hI; exact heap_last _ _
  have bI : Below X.heap.size X WI := by subst hWI; exact (Below.refl _ _).alloc (Nat.le_refl _) _
  have HB := hide (h.below bI)
  have BI := hide bI
  clear bI h
  have NO := hide (bnone_any WI B M t s m HB.out.blk hf.t1)
  go_enter Try.func12, Try.ntmps12
  go_wp2_with fail
  rw [← hWI, ← hI]
  clear hWI hI
  go_wp2_with (first | (go_at_call 27; refine Calls.mono NO.out ?_; rintro e w1 ⟨rfl, rfl⟩) | (go_at_call 26; refine Calls.mono (within_any _ _ _ _) ?_; rintro e w1 ⟨rfl, rfl⟩))
  · go_ret2
    exact ⟨rfl, HB.out, below_grown BI.out⟩
  · exfalso
    have hx : (!decide (0 ≤ now)) = false ∧ (!decide (now ≤ 9007199254740992)) = false := by assumption
    simp at hx
    omega
set_option maxHeartbeats 8000000 in
set_option maxRecDepth 100000 in
set_option linter.unusedSimpArgs false in
set_option linter.unusedVariables false in
theorem fail_late (X : World) (B M n : Nat) (t s m a b now : Int) (F : Int → Int → Int) (h : BgAt X B M n t s m F) (hf : BFits t s m) (ha : (Lit.int .i64 a).wf = true) (hb : (Lit.int .i64 b).wf = true) (hw0 : 0 ≤ now) (hw : ¬ now ≤ 9007199254740992) :
    Calls Try.prog 12 #[.pointer (some ⟨B, 0, none⟩), .agg #[.int .i64 a, .int .i64 b], .int .i64 now] X fun e X' => e = .returned (.tuple #[.int .i64 0, .int .i64 1]) ∧ BgAt X' B M n t s m F ∧ X.grownBy X' (some M) := by
  obtain ⟨WI, hWI⟩ : ∃ WI, WI = X.alloc (.cells #[.int .i64 a, .int .i64 b] 25) := ⟨_, rfl⟩
  obtain ⟨I, hI⟩ : ∃ I, I = X.heap.size := ⟨_, rfl⟩
  have II : Hid (ItAt WI I a b) := by subst hWI; subst hI; exact heap_last _ _
  have bI : Below X.heap.size X WI := by subst hWI; exact (Below.refl _ _).alloc (Nat.le_refl _) _
  have HB := hide (h.below bI)
  have BI := hide bI
  clear bI h
  have NO := hide (bnone_any WI B M t s m HB.out.blk hf.t1)
  go_enter Try.func12, Try.ntmps12
  go_wp2_with fail
  rw [← hWI, ← hI]
  clear hWI hI
  go_wp2_with (first | (go_at_call 27; refine Calls.mono NO.out ?_; rintro e w1 ⟨rfl, rfl⟩) | (go_at_call 26; refine Calls.mono (within_any _ _ _ _) ?_; rintro e w1 ⟨rfl, rfl⟩))
  · go_ret2
    exact ⟨rfl, HB.out, below_grown BI.out⟩
  · exfalso
    have hx : (!decide (now ≤ 9007199254740992)) = false := by assumption
    simp at hx
    omega
set_option maxHeartbeats 8000000 in
set_option maxRecDepth 100000 in
set_option linter.unusedSimpArgs false in
set_option linter.unusedVariables false in
theorem fail_spent (X : World) (B M n : Nat) (t s m a b now : Int) (F : Int → Int → Int) (h : BgAt X B M n t s m F) (hf : BFits t s m) (ha : (Lit.int .i64 a).wf = true) (hb : (Lit.int .i64 b).wf = true) (hw0 : 0 ≤ now) (hw : now ≤ 9007199254740992) (f : Int) (hF : F a b = f) (hft : f = t) :
    Calls Try.prog 12 #[.pointer (some ⟨B, 0, none⟩), .agg #[.int .i64 a, .int .i64 b], .int .i64 now] X fun e X' => e = .returned (.tuple #[.int .i64 0, .int .i64 100]) ∧ BgAt X' B M n t s m F ∧ X.grownBy X' (some M) := by
  obtain ⟨WI, hWI⟩ : ∃ WI, WI = X.alloc (.cells #[.int .i64 a, .int .i64 b] 25) := ⟨_, rfl⟩
  obtain ⟨I, hI⟩ : ∃ I, I = X.heap.size := ⟨_, rfl⟩
  have II : Hid (ItAt WI I a b) := by subst hWI; subst hI; exact heap_last _ _
  have bI : Below X.heap.size X WI := by subst hWI; exact (Below.refl _ _).alloc (Nat.le_refl _) _
  have HB := hide (h.below bI)
  have BI := hide bI
  clear bI h
  have hq : (f == t) = true := by simp; exact hft
  have NO := hide (bnone_any WI B M t s m HB.out.blk hf.t1)
  have t1 := hf.t1
  have t2 := hf.t2
  have L0 : ∀ k, (Instr.lookup 67 (.map (some M)) (.agg #[.int .i64 a, .int .i64 b]) false).run Try.prog (WI.drewN k) = .ok (.int .i64 f) (WI.drewN k) := fun k => by rw [← hF]; exact (HB.out.drewN k).map.look ha hb
  have c0 := HB.out.blk.c0
  have c3 := HB.out.blk.c3
  have i0 := II.out.c0
  have i1 := II.out.c1
  go_enter Try.func12, Try.ntmps12
  go_wp2_with fail
  rw [← hWI, ← hI]
  clear hWI hI
  go_wp2_with (first | (go_at_call 27; refine Calls.mono NO.out ?_; rintro e w1 ⟨rfl, rfl⟩) | (go_at_call 26; refine Calls.mono (within_any _ _ _ _) ?_; rintro e w1 ⟨rfl, rfl⟩))
  go_quiet (fail)
  replace HB : Hid (BgAt (WI.drewN nq) B M n t s m F) := HB.out.drewN _
  replace BI : Hid (Below X.heap.size X (WI.drewN nq)) := BI.out.trans ⟨rfl, rfl, rfl, Nat.le_refl _, fun _ _ => rfl⟩
  replace II : Hid (ItAt (WI.drewN nq) I a b) := II.out.drewN _
  clear L0 c0 c3 i0 i1 NO
  generalize WI.drewN nq = W at *
  go_wp2_with fail
  go_ret2
  exact ⟨rfl, HB.out, below_grown BI.out⟩
set_option maxHeartbeats 8000000 in
set_option maxRecDepth 100000 in
set_option linter.unusedSimpArgs false in
set_option linter.unusedVariables false in
theorem fail_last (X : World) (B M n : Nat) (t s m a b now : Int) (F : Int → Int → Int) (h : BgAt X B M n t s m F) (hf : BFits t s m) (ha : (Lit.int .i64 a).wf = true) (hb : (Lit.int .i64 b).wf = true) (hn : n < maxLen) (hw0 : 0 ≤ now) (hw : now ≤ 9007199254740992) (f : Int) (hF : F a b = f) (hf0 : 0 ≤ f) (hft : f + 1 = t) :
    Calls Try.prog 12 #[.pointer (some ⟨B, 0, none⟩), .agg #[.int .i64 a, .int .i64 b], .int .i64 now] X fun e X' => e = .returned (.tuple #[.int .i64 0, .int .i64 100]) ∧ BgAt X' B M (n + 1) t s m (upd F a b (f + 1)) ∧ X.grownBy X' (some M) := by
  obtain ⟨WI, hWI⟩ : ∃ WI, WI = X.alloc (.cells #[.int .i64 a, .int .i64 b] 25) := ⟨_, rfl⟩
  obtain ⟨I, hI⟩ : ∃ I, I = X.heap.size := ⟨_, rfl⟩
  have II : Hid (ItAt WI I a b) := by subst hWI; subst hI; exact heap_last _ _
  have bI : Below X.heap.size X WI := by subst hWI; exact (Below.refl _ _).alloc (Nat.le_refl _) _
  have HB := hide (h.below bI)
  have BI := hide bI
  clear bI h
  have hq : (f == t) = false := by simp; omega
  have NO := hide (bnone_any WI B M t s m HB.out.blk hf.t1)
  have t1 := hf.t1
  have t2 := hf.t2
  have L0 : ∀ k, (Instr.lookup 67 (.map (some M)) (.agg #[.int .i64 a, .int .i64 b]) false).run Try.prog (WI.drewN k) = .ok (.int .i64 f) (WI.drewN k) := fun k => by rw [← hF]; exact (HB.out.drewN k).map.look ha hb
  have c0 := HB.out.blk.c0
  have c3 := HB.out.blk.c3
  have i0 := II.out.c0
  have i1 := II.out.c1
  go_enter Try.func12, Try.ntmps12
  go_wp2_with fail
  rw [← hWI, ← hI]
  clear hWI hI
  go_wp2_with (first | (go_at_call 27; refine Calls.mono NO.out ?_; rintro e w1 ⟨rfl, rfl⟩) | (go_at_call 26; refine Calls.mono (within_any _ _ _ _) ?_; rintro e w1 ⟨rfl, rfl⟩))
  go_quiet (fail)
  replace HB : Hid (BgAt (WI.drewN nq) B M n t s m F) := HB.out.drewN _
  replace BI : Hid (Below X.heap.size X (WI.drewN nq)) := BI.out.trans ⟨rfl, rfl, rfl, Nat.le_refl _, fun _ _ => rfl⟩
  replace II : Hid (ItAt (WI.drewN nq) I a b) := II.out.drewN _
  clear L0 c0 c3 i0 i1 NO
  generalize WI.drewN nq = W at *
  have hq2 : (f + 1 == t) = true := by simp; omega
  have x1 := wrap_in (x := f + 1) (by omega) (by omega)
  have hv : (Lit.int .i64 (f + 1)).wf = true := by simp [Lit.wf, IntKind.min, IntKind.max, IntKind.signed, IntKind.bits]; omega
  obtain ⟨v0, st, X1, r1, g1, look1, store1⟩ := HB.out.drew.map.entry hn ha hb hv
  have R1 : (Instr.mapEntry 67 (.map (some M)) (.agg #[.int .i64 a, .int .i64 b])).run Try.prog W.drew = .ok (.tuple #[v0, .int .i64 (st : Int)]) X1 := r1
  have LA : (Instr.lookup 67 (.map (some M)) (.agg #[.int .i64 a, .int .i64 b]) false).run Try.prog W.drew = .ok (.int .i64 f) W.drew := by rw [← hF]; exact HB.out.drew.map.look ha hb
  have LB : (Instr.lookup 67 (.map (some M)) (.agg #[.int .i64 a, .int .i64 b]) false).run Try.prog X1 = .ok (.int .i64 f) X1 := by rw [← hF]; exact look1 X1 rfl
  obtain ⟨X2, r2, m2', g2⟩ := store1 X1 rfl
  have R2 : (Instr.entryStore 67 (.map (some M)) (.int .i64 (st : Int)) (.int .i64 (f + 1))).run Try.prog X1 = .ok () X2 := r2
  have g1' : W.grownBy X1 (some M) := ⟨g1.os, g1.tape, g1.output, g1.size, g1.block⟩
  have I1 := hide (II.out.turn HB.out.map g1')
  have B1 : Hid (BgBlk X1 B M t s m) := (g1'.block _ (blk_lt HB.out.blk) (fun e => HB.out.ne (by cases e; rfl))).trans HB.out.blk
  have HZ : Hid (BgAt X2 B M (n + 1) t s m (upd F a b (f + 1))) := HB.out.turn m2' (grown_trans g1' g2)
  have IZ := hide (II.out.turn HB.out.map (grown_trans g1' g2))
  have GZ := hide (grown_trans (below_grown BI.out) (grown_trans g1' g2))
  clear r1 r2 m2' g1 g2 g1' look1 store1
  have hf9 : f ≤ 64 := by omega
  have HFT := hide hft
  clear hft
  go_wp2_with fail
  have SC : Hid (∀ Y, Y = W.drew ∨ Y = X1 ∨ Y = X2 → Y.cell? ⟨B, 3, none⟩ = some (.map (some M)) ∧ Y.cell? ⟨I, 0, none⟩ = some (.int .i64 a) ∧ Y.cell? ⟨I, 1, none⟩ = some (.int .i64 b)) := by
    rintro Y (rfl | rfl | rfl)
    · exact ⟨HB.out.blk.c3, II.out.c0, II.out.c1⟩
    · exact ⟨B1.out.c3, I1.out.c0, I1.out.c1⟩
    · exact ⟨HZ.out.blk.c3, IZ.out.c0, IZ.out.c1⟩
  refine wp_region_held_drew (S := fun Y => Y = W.drew ∨ Y = X1 ∨ Y = X2) (by kernel_rfl) (Or.inl rfl) (fun hHeld => ?_)
  refine wpAnyH_take (i := 0) (v := (.pointer (some ⟨B, 0, none⟩))) rfl (by kernel_rfl) (by kernel_rfl) (by kernel_rfl) (fun _ _ _ h => h) (Or.inl ⟨by rfl, ?_⟩) (by assumption) ?_
  · intro w' hSw
    (try dsimp only at hSw)
    go_simp
  (try simp only [Act.put, List.setIfInBounds_toArray, List.set_cons_zero, List.set_cons_succ])
  refine wpAnyH_take (i := 1) (v := (.pointer (some ⟨B, 0, none⟩))) rfl (by kernel_rfl) (by kernel_rfl) (by kernel_rfl) (fun _ _ _ h => h) (Or.inl ⟨by rfl, ?_⟩) (by assumption) ?_
  · intro w' hSw
    (try dsimp only at hSw)
    go_simp
  (try simp only [Act.put, List.setIfInBounds_toArray, List.set_cons_zero, List.set_cons_succ])
  refine wpAnyH_take (i := 2) (v := (.pointer (some ⟨B, 3, none⟩))) rfl (by kernel_rfl) (by kernel_rfl) (by kernel_rfl) (fun _ _ _ h => h) (Or.inl ⟨by rfl, ?_⟩) (by assumption) ?_
  · intro w' hSw
    (try dsimp only at hSw)
    go_simp
  (try simp only [Act.put, List.setIfInBounds_toArray, List.set_cons_zero, List.set_cons_succ])
  refine wpAnyH_take (i := 3) (v := (.map (some M))) rfl (by kernel_rfl) (by kernel_rfl) (by kernel_rfl) (fun _ _ _ h => h) (Or.inl ⟨by rfl, ?_⟩) (by assumption) ?_
  · intro w' hSw
    (try dsimp only at hSw)
    (obtain ⟨y0, y1, y2⟩ := SC.out _ hSw; go_simp)
  (try simp only [Act.put, List.setIfInBounds_toArray, List.set_cons_zero, List.set_cons_succ])
  refine wpAnyH_take (i := 4) (v := (.agg #[.int .i64 a, .int .i64 b])) rfl (by kernel_rfl) (by kernel_rfl) (by kernel_rfl) (fun _ _ _ h => h) (Or.inl ⟨by rfl, ?_⟩) (by assumption) ?_
  · intro w' hSw
    (try dsimp only at hSw)
    (obtain ⟨y0, y1, y2⟩ := SC.out _ hSw; go_simp)
  (try simp only [Act.put, List.setIfInBounds_toArray, List.set_cons_zero, List.set_cons_succ])
  refine wpAnyH_ready (rs := [5, 7]) (by kernel_rfl) (by simp) ?_
  refine AllReadyH.cons rfl (fun K hK => ?_) (AllReadyH.cons rfl (fun K hK => ?_) AllReadyH.nil)
  · go_simp
    refine hK.out _ _ ((Or.inl rfl)) (fun hHeld => ?_)
    clear hK
    (try simp only [Act.put, List.setIfInBounds_toArray, List.set_cons_zero, List.set_cons_succ])
    refine wpAnyH_take (i := 6) (v := (.int .i64 (f + 1))) rfl (by kernel_rfl) (by kernel_rfl) (by kernel_rfl) (fun _ _ _ h => h) (Or.inl ⟨by rfl, ?_⟩) (by assumption) ?_
    · intro w' hSw
      (try dsimp only at hSw)
      (go_simp; first | done | exact i64_in (by omega) (by omega))
    (try simp only [Act.put, List.setIfInBounds_toArray, List.set_cons_zero, List.set_cons_succ])
    refine wpAnyH_ready (rs := [7]) (by kernel_rfl) (by simp) ?_
    refine AllReadyH.cons rfl (fun K hK => ?_) AllReadyH.nil
    go_simp
    refine hK.out _ _ ((Or.inr (Or.inl rfl))) (fun hHeld => ?_)
    clear hK
    (try simp only [Act.put, List.setIfInBounds_toArray, List.set_cons_zero, List.set_cons_succ])
    refine wpAnyH_take (i := 8) (v := (.int .i64 (st : Int))) rfl (by kernel_rfl) (by kernel_rfl) (by kernel_rfl) (fun _ _ _ h => h) (Or.inl ⟨by rfl, ?_⟩) (by assumption) ?_
    · intro w' hSw
      (try dsimp only at hSw)
      go_simp
    (try simp only [Act.put, List.setIfInBounds_toArray, List.set_cons_zero, List.set_cons_succ])
    refine wpAnyH_ready (rs := [9]) (by kernel_rfl) (by simp) ?_
    refine AllReadyH.cons rfl (fun K hK => ?_) AllReadyH.nil
    go_simp
    refine hK.out _ _ ((Or.inr (Or.inr rfl))) (fun hHeld => ?_)
    clear hK
    (try simp only [Act.put, List.setIfInBounds_toArray, List.set_cons_zero, List.set_cons_succ])
    refine wpAnyH_done (by kernel_rfl) ?_ _
    clear hHeld R1 R2 LA LB
    have L1 : ∀ k, (Instr.lookup 67 (.map (some M)) (.agg #[.int .i64 a, .int .i64 b]) false).run Try.prog (X2.drewN k) = .ok (.int .i64 (f + 1)) (X2.drewN k) := fun k => by
      have := (HZ.out.drewN k).map.look ha hb
      rw [upd_self] at this
      exact this
    have c0 := HZ.out.blk.c0
    have c3 := HZ.out.blk.c3
    have i0 := IZ.out.c0
    have i1 := IZ.out.c1
    go_wp2_with fail
    go_quiet (fail)
    replace HZ : Hid (BgAt (X2.drewN nq) B M (n + 1) t s m (upd F a b (f + 1))) := HZ.out.drewN _
    replace GZ : Hid (X.grownBy (X2.drewN nq) (some M)) := grown_drewN GZ.out _
    clear L1 c0 c3 i0 i1
    generalize X2.drewN nq = W3 at *
    go_wp2_with fail
    go_ret2
    exact ⟨rfl, HZ.out, GZ.out⟩
  · go_simp
    refine hK.out _ _ ((Or.inr (Or.inl rfl))) (fun hHeld => ?_)
    clear hK
    (try simp only [Act.put, List.setIfInBounds_toArray, List.set_cons_zero, List.set_cons_succ])
    refine wpAnyH_take (i := 8) (v := (.int .i64 (st : Int))) rfl (by kernel_rfl) (by kernel_rfl) (by kernel_rfl) (fun _ _ _ h => h) (Or.inl ⟨by rfl, ?_⟩) (by assumption) ?_
    · intro w' hSw
      (try dsimp only at hSw)
      go_simp
    (try simp only [Act.put, List.setIfInBounds_toArray, List.set_cons_zero, List.set_cons_succ])
    refine wpAnyH_ready (rs := [5]) (by kernel_rfl) (by simp) ?_
    refine AllReadyH.cons rfl (fun K hK => ?_) AllReadyH.nil
    go_simp
    refine hK.out _ _ ((Or.inr (Or.inl rfl))) (fun hHeld => ?_)
    clear hK
    (try simp only [Act.put, List.setIfInBounds_toArray, List.set_cons_zero, List.set_cons_succ])
    refine wpAnyH_take (i := 6) (v := (.int .i64 (f + 1))) rfl (by kernel_rfl) (by kernel_rfl) (by kernel_rfl) (fun _ _ _ h => h) (Or.inl ⟨by rfl, ?_⟩) (by assumption) ?_
    · intro w' hSw
      (try dsimp only at hSw)
      (go_simp; first | done | exact i64_in (by omega) (by omega))
    (try simp only [Act.put, List.setIfInBounds_toArray, List.set_cons_zero, List.set_cons_succ])
    refine wpAnyH_ready (rs := [9]) (by kernel_rfl) (by simp) ?_
    refine AllReadyH.cons rfl (fun K hK => ?_) AllReadyH.nil
    go_simp
    refine hK.out _ _ ((Or.inr (Or.inr rfl))) (fun hHeld => ?_)
    clear hK
    (try simp only [Act.put, List.setIfInBounds_toArray, List.set_cons_zero, List.set_cons_succ])
    refine wpAnyH_done (by kernel_rfl) ?_ _
    clear hHeld R1 R2 LA LB
    have L1 : ∀ k, (Instr.lookup 67 (.map (some M)) (.agg #[.int .i64 a, .int .i64 b]) false).run Try.prog (X2.drewN k) = .ok (.int .i64 (f + 1)) (X2.drewN k) := fun k => by
      have := (HZ.out.drewN k).map.look ha hb
      rw [upd_self] at this
      exact this
    have c0 := HZ.out.blk.c0
    have c3 := HZ.out.blk.c3
    have i0 := IZ.out.c0
    have i1 := IZ.out.c1
    go_wp2_with fail
    go_quiet (fail)
    replace HZ : Hid (BgAt (X2.drewN nq) B M (n + 1) t s m (upd F a b (f + 1))) := HZ.out.drewN _
    replace GZ : Hid (X.grownBy (X2.drewN nq) (some M)) := grown_drewN GZ.out _
    clear L1 c0 c3 i0 i1
    generalize X2.drewN nq = W3 at *
    go_wp2_with fail
    go_ret2
    exact ⟨rfl, HZ.out, GZ.out⟩
set_option maxHeartbeats 8000000 in
set_option maxRecDepth 100000 in
set_option linter.unusedSimpArgs false in
set_option linter.unusedVariables false in
theorem fail_wait (X : World) (B M n : Nat) (t s m a b now : Int) (F : Int → Int → Int) (h : BgAt X B M n t s m F) (hf : BFits t s m) (ha : (Lit.int .i64 a).wf = true) (hb : (Lit.int .i64 b).wf = true) (hn : n < maxLen) (hw0 : 0 ≤ now) (hw : now ≤ 9007199254740992) (f : Int) (hF : F a b = f) (hf0 : 0 ≤ f) (hft : f + 1 < t) :
    Calls Try.prog 12 #[.pointer (some ⟨B, 0, none⟩), .agg #[.int .i64 a, .int .i64 b], .int .i64 now] X fun e X' => e = .returned (.tuple #[.int .i64 (now + wtN s m f.toNat), .int .i64 0]) ∧ BgAt X' B M (n + 1) t s m (upd F a b (f + 1)) ∧ X.grownBy X' (some M) := by
  obtain ⟨WI, hWI⟩ : ∃ WI, WI = X.alloc (.cells #[.int .i64 a, .int .i64 b] 25) := ⟨_, rfl⟩
  obtain ⟨I, hI⟩ : ∃ I, I = X.heap.size := ⟨_, rfl⟩
  have II : Hid (ItAt WI I a b) := by subst hWI; subst hI; exact heap_last _ _
  have bI : Below X.heap.size X WI := by subst hWI; exact (Below.refl _ _).alloc (Nat.le_refl _) _
  have HB := hide (h.below bI)
  have BI := hide bI
  clear bI h
  have hq : (f == t) = false := by simp; omega
  have NO := hide (bnone_any WI B M t s m HB.out.blk hf.t1)
  have t1 := hf.t1
  have t2 := hf.t2
  have L0 : ∀ k, (Instr.lookup 67 (.map (some M)) (.agg #[.int .i64 a, .int .i64 b]) false).run Try.prog (WI.drewN k) = .ok (.int .i64 f) (WI.drewN k) := fun k => by rw [← hF]; exact (HB.out.drewN k).map.look ha hb
  have c0 := HB.out.blk.c0
  have c3 := HB.out.blk.c3
  have i0 := II.out.c0
  have i1 := II.out.c1
  go_enter Try.func12, Try.ntmps12
  go_wp2_with fail
  rw [← hWI, ← hI]
  clear hWI hI
  go_wp2_with (first | (go_at_call 27; refine Calls.mono NO.out ?_; rintro e w1 ⟨rfl, rfl⟩) | (go_at_call 26; refine Calls.mono (within_any _ _ _ _) ?_; rintro e w1 ⟨rfl, rfl⟩))
  go_quiet (fail)
  replace HB : Hid (BgAt (WI.drewN nq) B M n t s m F) := HB.out.drewN _
  replace BI : Hid (Below X.heap.size X (WI.drewN nq)) := BI.out.trans ⟨rfl, rfl, rfl, Nat.le_refl _, fun _ _ => rfl⟩
  replace II : Hid (ItAt (WI.drewN nq) I a b) := II.out.drewN _
  clear L0 c0 c3 i0 i1 NO
  generalize WI.drewN nq = W at *
  have hq2 : (f + 1 == t) = false := by simp; omega
  have x1 := wrap_in (x := f + 1) (by omega) (by omega)
  have hv : (Lit.int .i64 (f + 1)).wf = true := by simp [Lit.wf, IntKind.min, IntKind.max, IntKind.signed, IntKind.bits]; omega
  obtain ⟨v0, st, X1, r1, g1, look1, store1⟩ := HB.out.drew.map.entry hn ha hb hv
  have R1 : (Instr.mapEntry 67 (.map (some M)) (.agg #[.int .i64 a, .int .i64 b])).run Try.prog W.drew = .ok (.tuple #[v0, .int .i64 (st : Int)]) X1 := r1
  have LA : (Instr.lookup 67 (.map (some M)) (.agg #[.int .i64 a, .int .i64 b]) false).run Try.prog W.drew = .ok (.int .i64 f) W.drew := by rw [← hF]; exact HB.out.drew.map.look ha hb
  have LB : (Instr.lookup 67 (.map (some M)) (.agg #[.int .i64 a, .int .i64 b]) false).run Try.prog X1 = .ok (.int .i64 f) X1 := by rw [← hF]; exact look1 X1 rfl
  obtain ⟨X2, r2, m2', g2⟩ := store1 X1 rfl
  have R2 : (Instr.entryStore 67 (.map (some M)) (.int .i64 (st : Int)) (.int .i64 (f + 1))).run Try.prog X1 = .ok () X2 := r2
  have g1' : W.grownBy X1 (some M) := ⟨g1.os, g1.tape, g1.output, g1.size, g1.block⟩
  have I1 := hide (II.out.turn HB.out.map g1')
  have B1 : Hid (BgBlk X1 B M t s m) := (g1'.block _ (blk_lt HB.out.blk) (fun e => HB.out.ne (by cases e; rfl))).trans HB.out.blk
  have HZ : Hid (BgAt X2 B M (n + 1) t s m (upd F a b (f + 1))) := HB.out.turn m2' (grown_trans g1' g2)
  have IZ := hide (II.out.turn HB.out.map (grown_trans g1' g2))
  have GZ := hide (grown_trans (below_grown BI.out) (grown_trans g1' g2))
  clear r1 r2 m2' g1 g2 g1' look1 store1
  go_wp2_with fail
  have SC : Hid (∀ Y, Y = W.drew ∨ Y = X1 ∨ Y = X2 → Y.cell? ⟨B, 3, none⟩ = some (.map (some M)) ∧ Y.cell? ⟨I, 0, none⟩ = some (.int .i64 a) ∧ Y.cell? ⟨I, 1, none⟩ = some (.int .i64 b)) := by
    rintro Y (rfl | rfl | rfl)
    · exact ⟨HB.out.blk.c3, II.out.c0, II.out.c1⟩
    · exact ⟨B1.out.c3, I1.out.c0, I1.out.c1⟩
    · exact ⟨HZ.out.blk.c3, IZ.out.c0, IZ.out.c1⟩
  refine wp_region_held_drew (S := fun Y => Y = W.drew ∨ Y = X1 ∨ Y = X2) (by kernel_rfl) (Or.inl rfl) (fun hHeld => ?_)
  refine wpAnyH_take (i := 0) (v := (.pointer (some ⟨B, 0, none⟩))) rfl (by kernel_rfl) (by kernel_rfl) (by kernel_rfl) (fun _ _ _ h => h) (Or.inl ⟨by rfl, ?_⟩) (by assumption) ?_
  · intro w' hSw
    (try dsimp only at hSw)
    go_simp
  (try simp only [Act.put, List.setIfInBounds_toArray, List.set_cons_zero, List.set_cons_succ])
  refine wpAnyH_take (i := 1) (v := (.pointer (some ⟨B, 0, none⟩))) rfl (by kernel_rfl) (by kernel_rfl) (by kernel_rfl) (fun _ _ _ h => h) (Or.inl ⟨by rfl, ?_⟩) (by assumption) ?_
  · intro w' hSw
    (try dsimp only at hSw)
    go_simp
  (try simp only [Act.put, List.setIfInBounds_toArray, List.set_cons_zero, List.set_cons_succ])
  refine wpAnyH_take (i := 2) (v := (.pointer (some ⟨B, 3, none⟩))) rfl (by kernel_rfl) (by kernel_rfl) (by kernel_rfl) (fun _ _ _ h => h) (Or.inl ⟨by rfl, ?_⟩) (by assumption) ?_
  · intro w' hSw
    (try dsimp only at hSw)
    go_simp
  (try simp only [Act.put, List.setIfInBounds_toArray, List.set_cons_zero, List.set_cons_succ])
  refine wpAnyH_take (i := 3) (v := (.map (some M))) rfl (by kernel_rfl) (by kernel_rfl) (by kernel_rfl) (fun _ _ _ h => h) (Or.inl ⟨by rfl, ?_⟩) (by assumption) ?_
  · intro w' hSw
    (try dsimp only at hSw)
    (obtain ⟨y0, y1, y2⟩ := SC.out _ hSw; go_simp)
  (try simp only [Act.put, List.setIfInBounds_toArray, List.set_cons_zero, List.set_cons_succ])
  refine wpAnyH_take (i := 4) (v := (.agg #[.int .i64 a, .int .i64 b])) rfl (by kernel_rfl) (by kernel_rfl) (by kernel_rfl) (fun _ _ _ h => h) (Or.inl ⟨by rfl, ?_⟩) (by assumption) ?_
  · intro w' hSw
    (try dsimp only at hSw)
    (obtain ⟨y0, y1, y2⟩ := SC.out _ hSw; go_simp)
  (try simp only [Act.put, List.setIfInBounds_toArray, List.set_cons_zero, List.set_cons_succ])
  refine wpAnyH_ready (rs := [5, 7]) (by kernel_rfl) (by simp) ?_
  refine AllReadyH.cons rfl (fun K hK => ?_) (AllReadyH.cons rfl (fun K hK => ?_) AllReadyH.nil)
  · go_simp
    refine hK.out _ _ ((Or.inl rfl)) (fun hHeld => ?_)
    clear hK
    (try simp only [Act.put, List.setIfInBounds_toArray, List.set_cons_zero, List.set_cons_succ])
    refine wpAnyH_take (i := 6) (v := (.int .i64 (f + 1))) rfl (by kernel_rfl) (by kernel_rfl) (by kernel_rfl) (fun _ _ _ h => h) (Or.inl ⟨by rfl, ?_⟩) (by assumption) ?_
    · intro w' hSw
      (try dsimp only at hSw)
      (go_simp; first | done | exact i64_in (by omega) (by omega))
    (try simp only [Act.put, List.setIfInBounds_toArray, List.set_cons_zero, List.set_cons_succ])
    refine wpAnyH_ready (rs := [7]) (by kernel_rfl) (by simp) ?_
    refine AllReadyH.cons rfl (fun K hK => ?_) AllReadyH.nil
    go_simp
    refine hK.out _ _ ((Or.inr (Or.inl rfl))) (fun hHeld => ?_)
    clear hK
    (try simp only [Act.put, List.setIfInBounds_toArray, List.set_cons_zero, List.set_cons_succ])
    refine wpAnyH_take (i := 8) (v := (.int .i64 (st : Int))) rfl (by kernel_rfl) (by kernel_rfl) (by kernel_rfl) (fun _ _ _ h => h) (Or.inl ⟨by rfl, ?_⟩) (by assumption) ?_
    · intro w' hSw
      (try dsimp only at hSw)
      go_simp
    (try simp only [Act.put, List.setIfInBounds_toArray, List.set_cons_zero, List.set_cons_succ])
    refine wpAnyH_ready (rs := [9]) (by kernel_rfl) (by simp) ?_
    refine AllReadyH.cons rfl (fun K hK => ?_) AllReadyH.nil
    go_simp
    refine hK.out _ _ ((Or.inr (Or.inr rfl))) (fun hHeld => ?_)
    clear hK
    (try simp only [Act.put, List.setIfInBounds_toArray, List.set_cons_zero, List.set_cons_succ])
    refine wpAnyH_done (by kernel_rfl) ?_ _
    clear hHeld R1 R2 LA LB
    have L1 : ∀ k, (Instr.lookup 67 (.map (some M)) (.agg #[.int .i64 a, .int .i64 b]) false).run Try.prog (X2.drewN k) = .ok (.int .i64 (f + 1)) (X2.drewN k) := fun k => by
      have := (HZ.out.drewN k).map.look ha hb
      rw [upd_self] at this
      exact this
    have c0 := HZ.out.blk.c0
    have c3 := HZ.out.blk.c3
    have i0 := IZ.out.c0
    have i1 := IZ.out.c1
    go_wp2_with fail
    go_quiet (fail)
    replace HZ : Hid (BgAt (X2.drewN nq) B M (n + 1) t s m (upd F a b (f + 1))) := HZ.out.drewN _
    replace GZ : Hid (X.grownBy (X2.drewN nq) (some M)) := grown_drewN GZ.out _
    replace IZ : Hid (ItAt (X2.drewN nq) I a b) := IZ.out.drewN _
    clear L1 c0 c3 i0 i1
    generalize X2.drewN nq = W3 at *
    have L1 : ∀ k, (Instr.lookup 67 (.map (some M)) (.agg #[.int .i64 a, .int .i64 b]) false).run Try.prog (W3.drewN k) = .ok (.int .i64 (f + 1)) (W3.drewN k) := fun k => by
      have := (HZ.out.drewN k).map.look ha hb
      rw [upd_self] at this
      exact this
    have WT : Hid (∀ k, Calls Try.prog 28 #[.pointer (some ⟨B, 0, none⟩), .int .i64 (f + 1)] (W3.drewN k) fun e w' => e = .returned (.int .i64 (wtN s m f.toNat)) ∧ w' = W3.drewN k) := fun k => by
      have := bwait_any (W3.drewN k) B M t s m (f.toNat + 1) HZ.out.blk hf (by omega) (by omega)
      rw [show ((f.toNat + 1 : Nat) : Int) = f + 1 by omega, Nat.add_sub_cancel] at this
      exact this
    have c0 := HZ.out.blk.c0
    have c3 := HZ.out.blk.c3
    have i0 := IZ.out.c0
    have i1 := IZ.out.c1
    have wi := wtN_in hf f.toNat
    have m2 := hf.m2
    have s1 := hf.s1
    have ew := wrap_in (x := now + wtN s m f.toNat) (by omega) (by omega)
    generalize hwv : wtN s m f.toNat = wv at *
    go_wp2_with fail
    go_quiet (first | (go_at_call 28; refine Calls.quiet_of_same (WT.out _)))
    replace HZ : Hid (BgAt (W3.drewN nq) B M (n + 1) t s m (upd F a b (f + 1))) := HZ.out.drewN _
    replace GZ : Hid (X.grownBy (W3.drewN nq) (some M)) := grown_drewN GZ.out _
    clear L1 c0 c3 i0 i1 WT
    generalize W3.drewN nq = W4 at *
    go_wp2_with fail
    go_ret2
    exact ⟨by subst hwv; first | rfl | exact congrArg (fun z => Ending.returned (.tuple #[.int .i64 z, .int .i64 0])) ew, HZ.out, GZ.out⟩
  · go_simp
    refine hK.out _ _ ((Or.inr (Or.inl rfl))) (fun hHeld => ?_)
    clear hK
    (try simp only [Act.put, List.setIfInBounds_toArray, List.set_cons_zero, List.set_cons_succ])
    refine wpAnyH_take (i := 8) (v := (.int .i64 (st : Int))) rfl (by kernel_rfl) (by kernel_rfl) (by kernel_rfl) (fun _ _ _ h => h) (Or.inl ⟨by rfl, ?_⟩) (by assumption) ?_
    · intro w' hSw
      (try dsimp only at hSw)
      go_simp
    (try simp only [Act.put, List.setIfInBounds_toArray, List.set_cons_zero, List.set_cons_succ])
    refine wpAnyH_ready (rs := [5]) (by kernel_rfl) (by simp) ?_
    refine AllReadyH.cons rfl (fun K hK => ?_) AllReadyH.nil
    go_simp
    refine hK.out _ _ ((Or.inr (Or.inl rfl))) (fun hHeld => ?_)
    clear hK
    (try simp only [Act.put, List.setIfInBounds_toArray, List.set_cons_zero, List.set_cons_succ])
    refine wpAnyH_take (i := 6) (v := (.int .i64 (f + 1))) rfl (by kernel_rfl) (by kernel_rfl) (by kernel_rfl) (fun _ _ _ h => h) (Or.inl ⟨by rfl, ?_⟩) (by assumption) ?_
    · intro w' hSw
      (try dsimp only at hSw)
      (go_simp; first | done | exact i64_in (by omega) (by omega))
    (try simp only [Act.put, List.setIfInBounds_toArray, List.set_cons_zero, List.set_cons_succ])
    refine wpAnyH_ready (rs := [9]) (by kernel_rfl) (by simp) ?_
    refine AllReadyH.cons rfl (fun K hK => ?_) AllReadyH.nil
    go_simp
    refine hK.out _ _ ((Or.inr (Or.inr rfl))) (fun hHeld => ?_)
    clear hK
    (try simp only [Act.put, List.setIfInBounds_toArray, List.set_cons_zero, List.set_cons_succ])
    refine wpAnyH_done (by kernel_rfl) ?_ _
    clear hHeld R1 R2 LA LB
    have L1 : ∀ k, (Instr.lookup 67 (.map (some M)) (.agg #[.int .i64 a, .int .i64 b]) false).run Try.prog (X2.drewN k) = .ok (.int .i64 (f + 1)) (X2.drewN k) := fun k => by
      have := (HZ.out.drewN k).map.look ha hb
      rw [upd_self] at this
      exact this
    have c0 := HZ.out.blk.c0
    have c3 := HZ.out.blk.c3
    have i0 := IZ.out.c0
    have i1 := IZ.out.c1
    go_wp2_with fail
    go_quiet (fail)
    replace HZ : Hid (BgAt (X2.drewN nq) B M (n + 1) t s m (upd F a b (f + 1))) := HZ.out.drewN _
    replace GZ : Hid (X.grownBy (X2.drewN nq) (some M)) := grown_drewN GZ.out _
    replace IZ : Hid (ItAt (X2.drewN nq) I a b) := IZ.out.drewN _
    clear L1 c0 c3 i0 i1
    generalize X2.drewN nq = W3 at *
    have L1 : ∀ k, (Instr.lookup 67 (.map (some M)) (.agg #[.int .i64 a, .int .i64 b]) false).run Try.prog (W3.drewN k) = .ok (.int .i64 (f + 1)) (W3.drewN k) := fun k => by
      have := (HZ.out.drewN k).map.look ha hb
      rw [upd_self] at this
      exact this
    have WT : Hid (∀ k, Calls Try.prog 28 #[.pointer (some ⟨B, 0, none⟩), .int .i64 (f + 1)] (W3.drewN k) fun e w' => e = .returned (.int .i64 (wtN s m f.toNat)) ∧ w' = W3.drewN k) := fun k => by
      have := bwait_any (W3.drewN k) B M t s m (f.toNat + 1) HZ.out.blk hf (by omega) (by omega)
      rw [show ((f.toNat + 1 : Nat) : Int) = f + 1 by omega, Nat.add_sub_cancel] at this
      exact this
    have c0 := HZ.out.blk.c0
    have c3 := HZ.out.blk.c3
    have i0 := IZ.out.c0
    have i1 := IZ.out.c1
    have wi := wtN_in hf f.toNat
    have m2 := hf.m2
    have s1 := hf.s1
    have ew := wrap_in (x := now + wtN s m f.toNat) (by omega) (by omega)
    generalize hwv : wtN s m f.toNat = wv at *
    go_wp2_with fail
    go_quiet (first | (go_at_call 28; refine Calls.quiet_of_same (WT.out _)))
    replace HZ : Hid (BgAt (W3.drewN nq) B M (n + 1) t s m (upd F a b (f + 1))) := HZ.out.drewN _
    replace GZ : Hid (X.grownBy (W3.drewN nq) (some M)) := grown_drewN GZ.out _
    clear L1 c0 c3 i0 i1 WT
    generalize W3.drewN nq = W4 at *
    go_wp2_with fail
    go_ret2
    exact ⟨by subst hwv; first | rfl | exact congrArg (fun z => Ending.returned (.tuple #[.int .i64 z, .int .i64 0])) ew, HZ.out, GZ.out⟩
end Go.Proofs.Ytkfiaahgcljljaa
