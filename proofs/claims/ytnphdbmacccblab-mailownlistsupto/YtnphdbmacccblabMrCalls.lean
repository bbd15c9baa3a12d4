import Derived.Test.YtnphdbmacccblabMrGrow
namespace Go.Proofs.Ytnphdbmacccblab
open Go.RowKit
/-- the letter i is in flight no more -/
def killI (A : AB) (i : Int) : AB := match plc A i.toNat with
  | some k => (match A[k]? with | some y => A.set k (y.1, true) | none => A)
  | none => A
theorem at_no {A : AB} {i : Int} (h : ¬ okI (live A) i) : atI A i = -1 := by
  unfold okI at h
  unfold atI
  by_cases h0 : i < 0
  · rw [if_pos h0]
  · rw [if_neg h0, plc_none.2 (by omega)]
    rfl
theorem at_ok {A : AB} {i : Int} (h : okI (live A) i) : ∃ k, ∃ hk : k < A.length, atI A i = (k : Int) ∧ A[k] = (ltI (live A) i, false) ∧ killI A i = A.set k (ltI (live A) i, true) ∧ live (killI A i) = (live A).eraseIdx i.toNat := by
  unfold okI at h
  cases hp : plc A i.toNat with
  | none =>
    have := plc_none.1 hp
    omega
  | some k =>
    obtain ⟨x, e1, e2, e3⟩ := plc_some hp
    have hk : k < A.length := (List.getElem?_eq_some_iff.1 e1).1
    have hx : A[k] = (x, false) := (List.getElem?_eq_some_iff.1 e1).2
    have hl : ltI (live A) i = x := by unfold ltI; rw [e2]; rfl
    have hkl : killI A i = A.set k (x, true) := by unfold killI; rw [hp]; simp only [e1]
    refine ⟨k, hk, ?_, by rw [hl]; exact hx, by rw [hl]; exact hkl, by rw [hkl]; exact e3⟩
    unfold atI
    rw [if_neg (by omega), hp]
    rfl
theorem kill_fst (A : AB) (i : Int) : (killI A i).map (·.1) = A.map (·.1) := by
  unfold killI
  split
  · rename_i k _
    split
    · rename_i y hy
      rw [List.map_set]
      refine List.ext_getElem? fun j => ?_
      rw [List.getElem?_set]
      split
      · rename_i hj
        subst hj
        simp only [List.getElem?_map, hy, Option.map_some, List.length_map]
        rw [if_pos (List.getElem?_eq_some_iff.1 hy).1]
      · rfl
    · rfl
  · rfl
theorem kill_len (A : AB) (i : Int) : (killI A i).length = A.length := by
  have := congrArg List.length (kill_fst A i)
  simpa using this
theorem RfX.kill {w : World} {S : Nat → Prop} {Q g capg : Nat} {vA vT : Value} {lim : Int} {A : AB} {T : TN} (h : RfX w S Q vA (.slice (some ⟨g, 0, none⟩) A.length capg) vT lim A T) (k : Nat) (x : Lt) (hk : k < A.length) (hx : A[k].1 = x) : RfX (w.setCell ⟨g, k, none⟩ (.bool true)) S Q vA (.slice (some ⟨g, 0, none⟩) A.length capg) vT lim (A.set k (x, true)) T ∧ Kp w (w.setCell ⟨g, k, none⟩ (.bool true)) S := by
  obtain ⟨o, gr⟩ := h.pr.rG.stored k (.bool true)
  have hk2 : Kp w (w.setCell ⟨g, k, none⟩ (.bool true)) S := (Kp.refl w S).set (Or.inl (h.pr.sG g rfl)) k _
  have kk : Kp w (w.setCell ⟨g, k, none⟩ (.bool true)) (fun q => q = g) := Kp.set (S := fun q => q = g) (Kp.refl w _) (Or.inl rfl) k _
  have nQ : Q ≠ g := fun e => own_ty h.pr.rG h.blk (by decide) (by rw [e]; rfl)
  have e1 : (A.set k (x, true)).map (·.1) = A.map (·.1) := by
    rw [List.map_set]
    refine List.ext_getElem? fun j => ?_
    rw [List.getElem?_set]
    split
    · rename_i hj
      subst hj
      rw [if_pos (by simpa using hk)]
      simp [hk, hx]
    · rfl
  have e2 : blc ((A.set k (x, true)).map (·.2)) = (blc (A.map (·.2))).set k (.bool true) := by
    rw [List.map_set]
    unfold blc
    rw [List.map_set]
  refine ⟨⟨(kk.block _ (blk_lt h.blk) nQ).trans h.blk, ⟨?_, ?_, h.pr.sA, h.pr.sG⟩, own_kp h.rT kk (fun q e1 e2 => own_apart h.rT h.pr.rG (by decide) q e1 (by rw [e2]; rfl)), h.sQ, h.sT, fun q e => by rw [World.size_setCell]; exact h.sb q e⟩, hk2⟩
  · rw [e1, List.length_set]
    exact own_kp h.pr.rA kk (fun q e1 e2 => own_apart h.pr.rA h.pr.rG (by decide) q e1 (by rw [e2]; rfl))
  · rw [e2, List.length_set]
    exact o
set_option maxHeartbeats 8000000 in
set_option maxRecDepth 100000 in
set_option linter.unusedSimpArgs false in
set_option linter.unusedVariables false in
theorem rsend_nil (a b : Int) (t : ByteArray) (w : World) : Calls Try.prog 18 #[.pointer none, .int .i64 a, .int .i64 b, .string t] w fun e w' => e = .returned (.tuple #[.int .i64 0, .int .i64 2]) ∧ w = w' := by
  go_enter Try.func18, Try.ntmps18
  go_wp2_with fail
  go_ret2
  exact ⟨rfl, rfl⟩
set_option maxHeartbeats 8000000 in
set_option maxRecDepth 100000 in
set_option linter.unusedSimpArgs false in
set_option linter.unusedVariables false in
theorem rdrop_nil (i : Int) (w : World) : Calls Try.prog 23 #[.pointer none, .int .i64 i] w fun e w' => e = .returned (.int .i64 2) ∧ w = w' := by
  go_enter Try.func23, Try.ntmps23
  go_wp2_with fail
  go_ret
  exact ⟨rfl, rfl⟩
set_option maxHeartbeats 8000000 in
set_option maxRecDepth 100000 in
set_option linter.unusedSimpArgs false in
set_option linter.unusedVariables false in
theorem rcopy_nil (i : Int) (w : World) : Calls Try.prog 25 #[.pointer none, .int .i64 i] w fun e w' => e = .returned (.int .i64 2) ∧ w = w' := by
  go_enter Try.func25, Try.ntmps25
  go_wp2_with fail
  go_ret
  exact ⟨rfl, rfl⟩
set_option maxHeartbeats 8000000 in
set_option maxRecDepth 100000 in
set_option linter.unusedSimpArgs false in
set_option linter.unusedVariables false in
theorem rsent_nil (w : World) : Calls Try.prog 33 #[.pointer none] w fun e w' => e = .returned (.int .i64 0) ∧ w = w' := by
  go_enter Try.func33, Try.ntmps33
  go_wp2_with fail
  go_ret
  exact ⟨rfl, rfl⟩
set_option maxHeartbeats 8000000 in
set_option maxRecDepth 100000 in
set_option linter.unusedSimpArgs false in
set_option linter.unusedVariables false in
theorem rflying_nil (w : World) : Calls Try.prog 9 #[.pointer none] w fun e w' => e = .returned (.slice none 0 0) ∧ w = w' := by
  go_enter Try.func9, Try.ntmps9
  go_wp2_with fail
  go_ret
  exact ⟨rfl, rfl⟩
set_option maxHeartbeats 8000000 in
set_option maxRecDepth 100000 in
set_option linter.unusedSimpArgs false in
set_option linter.unusedVariables false in
theorem rcount_nil (w : World) : Calls Try.prog 31 #[.pointer none] w fun e w' => e = .returned (.int .i64 0) ∧ w = w' := by
  go_enter Try.func31, Try.ntmps31
  go_wp2_with (go_at_call 9; refine Calls.mono (rflying_nil _) ?_; rintro e w1 ⟨rfl, rfl⟩)
  go_ret
  exact ⟨rfl, rfl⟩
set_option maxHeartbeats 8000000 in
set_option maxRecDepth 100000 in
set_option linter.unusedSimpArgs false in
set_option linter.unusedVariables false in
theorem rcount_any {w : World} {S : Nat → Prop} {Q : Nat} {vA vG vT : Value} {lim : Int} {A : AB} {T : TN} (h : RfX w S Q vA vG vT lim A T) (hA : A.length ≤ 3298534883328) : Calls Try.prog 31 #[.pointer (some ⟨Q, 0, none⟩)] w fun e w' => e = .returned (.int .i64 ((live A).length : Int)) ∧ Below w.heap.size w w' := by
  have FL := hide (rflying_any h hA)
  clear h
  go_enter Try.func31, Try.ntmps31
  go_wp2_with (go_at_call 9; refine Calls.mono FL.out ?_; rintro e w1 ⟨v, rfl, ho, hb⟩; obtain ⟨ba, cap, rfl⟩ := own_sl ho)
  go_ret
  exact ⟨rfl, hb⟩
set_option maxHeartbeats 8000000 in
set_option maxRecDepth 100000 in
set_option linter.unusedSimpArgs false in
set_option linter.unusedVariables false in
theorem rsent_any {w : World} {S : Nat → Prop} {Q : Nat} {vA vG vT : Value} {lim : Int} {A : AB} {T : TN} (h : RfX w S Q vA vG vT lim A T) : Calls Try.prog 33 #[.pointer (some ⟨Q, 0, none⟩)] w fun e w' => e = .returned (.int .i64 (A.length : Int)) ∧ w = w' := by
  have c1 := h.c1
  obtain ⟨ba, cap, rfl⟩ := own_sl h.pr.rA
  clear h
  go_enter Try.func33, Try.ntmps33
  go_wp2_with fail
  go_ret
  exact ⟨rfl, rfl⟩
set_option maxHeartbeats 8000000 in
set_option maxRecDepth 100000 in
set_option linter.unusedSimpArgs false in
set_option linter.unusedVariables false in
theorem rcutc_nil (a b : Int) (w : World) : Calls Try.prog 27 #[.pointer none, .int .i64 a, .int .i64 b] w fun e w' => e = .returned (.int .i64 2) ∧ w = w' := by
  go_enter Try.func27, Try.ntmps27
  go_wp2_with (go_at_call 49; refine Calls.mono (turn_nil _ _ _ _) ?_; rintro e w1 ⟨rfl, rfl⟩)
  go_ret
  exact ⟨rfl, rfl⟩
set_option maxHeartbeats 8000000 in
set_option maxRecDepth 100000 in
set_option linter.unusedSimpArgs false in
set_option linter.unusedVariables false in
theorem rcutc_bad (Q : Nat) (a b : Int) (w : World) (he : ckE a b = 1) : Calls Try.prog 27 #[.pointer (some ⟨Q, 0, none⟩), .int .i64 a, .int .i64 b] w fun e w' => e = .returned (.int .i64 1) ∧ w = w' := by
  go_enter Try.func27, Try.ntmps27
  go_wp2_with (go_at_call 49; refine Calls.mono (turn_bad _ _ _ _ _ he) ?_; rintro e w1 ⟨rfl, rfl⟩)
  go_ret
  exact ⟨rfl, rfl⟩
set_option maxHeartbeats 8000000 in
set_option maxRecDepth 100000 in
set_option linter.unusedSimpArgs false in
set_option linter.unusedVariables false in
theorem rcutc_ok {w : World} {S : Nat → Prop} {Q : Nat} {vA vG vT : Value} {lim : Int} {A : AB} {T : TN} (h : RfX w S Q vA vG vT lim A T) (hT : T.length ≤ 3298534883328) (a b : Int) (he : ckE a b = 0) : Calls Try.prog 27 #[.pointer (some ⟨Q, 0, none⟩), .int .i64 a, .int .i64 b] w fun e w' => e = .returned (.int .i64 0) ∧ ∃ vT' S', RfX w' S' Q vA vG vT' lim A (T ++ [(a, b, true)]) ∧ Kp w w' S ∧ Nr w S S' := by
  have TU := hide (turn_ok h hT a b true he)
  clear h he
  go_enter Try.func27, Try.ntmps27
  go_wp2_with (go_at_call 49; refine Calls.mono TU.out ?_; rintro e w1 ⟨rfl, hz⟩)
  go_ret
  exact ⟨rfl, hz⟩
set_option maxHeartbeats 8000000 in
set_option maxRecDepth 100000 in
set_option linter.unusedSimpArgs false in
set_option linter.unusedVariables false in
theorem rheal_nil (a b : Int) (w : World) : Calls Try.prog 29 #[.pointer none, .int .i64 a, .int .i64 b] w fun e w' => e = .returned (.int .i64 2) ∧ w = w' := by
  go_enter Try.func29, Try.ntmps29
  go_wp2_with (go_at_call 49; refine Calls.mono (turn_nil _ _ _ _) ?_; rintro e w1 ⟨rfl, rfl⟩)
  go_ret
  exact ⟨rfl, rfl⟩
set_option maxHeartbeats 8000000 in
set_option maxRecDepth 100000 in
set_option linter.unusedSimpArgs false in
set_option linter.unusedVariables false in
theorem rheal_bad (Q : Nat) (a b : Int) (w : World) (he : ckE a b = 1) : Calls Try.prog 29 #[.pointer (some ⟨Q, 0, none⟩), .int .i64 a, .int .i64 b] w fun e w' => e = .returned (.int .i64 1) ∧ w = w' := by
  go_enter Try.func29, Try.ntmps29
  go_wp2_with (go_at_call 49; refine Calls.mono (turn_bad _ _ _ _ _ he) ?_; rintro e w1 ⟨rfl, rfl⟩)
  go_ret
  exact ⟨rfl, rfl⟩
set_option maxHeartbeats 8000000 in
set_option maxRecDepth 100000 in
set_option linter.unusedSimpArgs false in
set_option linter.unusedVariables false in
theorem rheal_ok {w : World} {S : Nat → Prop} {Q : Nat} {vA vG vT : Value} {lim : Int} {A : AB} {T : TN} (h : RfX w S Q vA vG vT lim A T) (hT : T.length ≤ 3298534883328) (a b : Int) (he : ckE a b = 0) : Calls Try.prog 29 #[.pointer (some ⟨Q, 0, none⟩), .int .i64 a, .int .i64 b] w fun e w' => e = .returned (.int .i64 0) ∧ ∃ vT' S', RfX w' S' Q vA vG vT' lim A (T ++ [(a, b, false)]) ∧ Kp w w' S ∧ Nr w S S' := by
  have TU := hide (turn_ok h hT a b false he)
  clear h he
  go_enter Try.func29, Try.ntmps29
  go_wp2_with (go_at_call 49; refine Calls.mono TU.out ?_; rintro e w1 ⟨rfl, hz⟩)
  go_ret
  exact ⟨rfl, hz⟩
set_option maxHeartbeats 8000000 in
set_option maxRecDepth 100000 in
set_option linter.unusedSimpArgs false in
set_option linter.unusedVariables false in
theorem rsend_adr (Q : Nat) (a b : Int) (t : ByteArray) (w : World) (he : ¬ (adr a = true ∧ adr b = true)) : Calls Try.prog 18 #[.pointer (some ⟨Q, 0, none⟩), .int .i64 a, .int .i64 b, .string t] w fun e w' => e = .returned (.tuple #[.int .i64 0, .int .i64 1]) ∧ w = w' := by
  by_cases ea : adr a = true
  case neg =>
    clear he
    rw [Bool.not_eq_true] at ea
    go_enter Try.func18, Try.ntmps18
    go_wp2_with (first | (go_at_call 41; refine Calls.mono (address_any _ _) ?_; rintro e w1 ⟨rfl, rfl⟩))
    go_ret2
    exact ⟨rfl, rfl⟩
  have eb : adr b = false := by rw [← Bool.not_eq_true]; exact fun e => he ⟨ea, e⟩
  clear he
  go_enter Try.func18, Try.ntmps18
  go_wp2_with (first | (go_at_call 41; refine Calls.mono (address_any _ _) ?_; rintro e w1 ⟨rfl, rfl⟩))
  go_ret2
  exact ⟨rfl, rfl⟩
set_option maxHeartbeats 8000000 in
set_option maxRecDepth 100000 in
set_option linter.unusedSimpArgs false in
set_option linter.unusedVariables false in
theorem rsend_cut {w : World} {S : Nat → Prop} {Q : Nat} {vA vG vT : Value} {lim : Int} {A : AB} {T : TN} (h : RfX w S Q vA vG vT lim A T) (hT : T.length ≤ 3298534883328) (a b : Int) (t : ByteArray) (ea : adr a = true) (eb : adr b = true) (hc : cutF T a b = true) : Calls Try.prog 18 #[.pointer (some ⟨Q, 0, none⟩), .int .i64 a, .int .i64 b, .string t] w fun e w' => e = .returned (.tuple #[.int .i64 0, .int .i64 132]) ∧ Below w.heap.size w w' := by
  have IC := rcut_any h (by omega) a b
  rw [hc] at IC
  have IC := hide IC
  clear h hc
  go_enter Try.func18, Try.ntmps18
  go_wp2_with (first | (go_at_call 41; refine Calls.mono (address_any _ _) ?_; rintro e w1 ⟨rfl, rfl⟩) | (go_at_call 42; refine Calls.mono IC.out ?_; rintro e w2 ⟨rfl, hb2⟩))
  go_ret2
  exact ⟨rfl, hb2⟩
set_option maxHeartbeats 8000000 in
set_option maxRecDepth 100000 in
set_option linter.unusedSimpArgs false in
set_option linter.unusedVariables false in
theorem rsend_full {w : World} {S : Nat → Prop} {Q : Nat} {vA vG vT : Value} {lim : Int} {A : AB} {T : TN} (h : RfX w S Q vA vG vT lim A T) (hA : A.length ≤ 3298534883328) (hT : T.length ≤ 3298534883328) (a b : Int) (t : ByteArray) (ea : adr a = true) (eb : adr b = true) (hc : cutF T a b = false) (hf : lim ≤ ((live A).length : Int)) : Calls Try.prog 18 #[.pointer (some ⟨Q, 0, none⟩), .int .i64 a, .int .i64 b, .string t] w fun e w' => e = .returned (.tuple #[.int .i64 0, .int .i64 130]) ∧ Below w.heap.size w w' := by
  have IC := rcut_any h (by omega) a b
  rw [hc] at IC
  have IC := hide IC
  have HX := hide h
  clear h hc
  go_enter Try.func18, Try.ntmps18
  go_wp2_with (first | (go_at_call 41; refine Calls.mono (address_any _ _) ?_; rintro e w1 ⟨rfl, rfl⟩) | (go_at_call 42; refine Calls.mono IC.out ?_; rintro e w2 ⟨rfl, hb2⟩))
  have H2 := hide ((HX.out.below hb2).drew)
  have B2 := hide hb2
  have CO := hide (rcount_any H2.out hA)
  clear hb2 HX IC
  refine wp_region_held_drew (S := fun X => X.cell? ⟨Q, 0, none⟩ = some (.int .i64 lim)) (by kernel_rfl) H2.out.c0 (fun hHeld => ?_)
  refine wpAnyH_take (i := 0) (v := (.pointer (some ⟨Q, 0, none⟩))) rfl (by kernel_rfl) (by kernel_rfl) (by kernel_rfl) (fun _ _ _ h => h) (Or.inl ⟨by rfl, ?_⟩) (by assumption) ?_
  · intro w' hSw
    (try dsimp only at hSw)
    go_simp
  (try simp only [Act.put, List.setIfInBounds_toArray, List.set_cons_zero, List.set_cons_succ])
  refine wpAnyH_take (i := 2) (v := (.pointer (some ⟨Q, 0, none⟩))) rfl (by kernel_rfl) (by kernel_rfl) (by kernel_rfl) (fun _ _ _ h => h) (Or.inl ⟨by rfl, ?_⟩) (by assumption) ?_
  · intro w' hSw
    (try dsimp only at hSw)
    go_simp
  (try simp only [Act.put, List.setIfInBounds_toArray, List.set_cons_zero, List.set_cons_succ])
  refine wpAnyH_take (i := 3) (v := (.pointer (some ⟨Q, 0, none⟩))) rfl (by kernel_rfl) (by kernel_rfl) (by kernel_rfl) (fun _ _ _ h => h) (Or.inl ⟨by rfl, ?_⟩) (by assumption) ?_
  · intro w' hSw
    (try dsimp only at hSw)
    go_simp
  (try simp only [Act.put, List.setIfInBounds_toArray, List.set_cons_zero, List.set_cons_succ])
  refine wpAnyH_take (i := 4) (v := (.pointer (some ⟨Q, 0, none⟩))) rfl (by kernel_rfl) (by kernel_rfl) (by kernel_rfl) (fun _ _ _ h => h) (Or.inl ⟨by rfl, ?_⟩) (by assumption) ?_
  · intro w' hSw
    (try dsimp only at hSw)
    go_simp
  (try simp only [Act.put, List.setIfInBounds_toArray, List.set_cons_zero, List.set_cons_succ])
  refine wpAnyH_take (i := 5) (v := (.int .i64 lim)) rfl (by kernel_rfl) (by kernel_rfl) (by kernel_rfl) (fun _ _ _ h => h) (Or.inl ⟨by rfl, ?_⟩) (by assumption) ?_
  · intro w' hSw
    (try dsimp only at hSw)
    go_simp
  (try simp only [Act.put, List.setIfInBounds_toArray, List.set_cons_zero, List.set_cons_succ])
  refine wpAnyH_ready (rs := [1]) (by kernel_rfl) (by simp) ?_
  refine AllReadyH.cons rfl (fun K hK => ?_) AllReadyH.nil
  go_simp
  refine Calls.mono CO.out ?_
  rintro e w3 ⟨rfl, hb3⟩
  have H3 := hide (H2.out.below hb3)
  have B3 : Hid (Below w.heap.size w w3) := B2.out.trans ((show Below w.heap.size w2 w2.drew from ⟨rfl, rfl, rfl, Nat.le_refl _, fun _ _ => rfl⟩).trans (hb3.mono B2.out.size))
  clear hb3 CO H2 B2
  refine hK.out _ _ (H3.out.c0) (fun hHeld => ?_)
  clear hK
  (try simp only [Act.put, List.setIfInBounds_toArray, List.set_cons_zero, List.set_cons_succ])
  refine wpAnyH_ready (rs := [6]) (by kernel_rfl) (by simp) ?_
  refine AllReadyH.cons rfl (fun K hK => ?_) AllReadyH.nil
  go_simp
  refine hK.out _ _ (H3.out.c0) (fun hHeld => ?_)
  clear hK
  (try simp only [Act.put, List.setIfInBounds_toArray, List.set_cons_zero, List.set_cons_succ])
  refine wpAnyH_done (by kernel_rfl) ?_ _
  clear hHeld
  go_wp2_with fail
  go_ret2
  exact ⟨rfl, B3.out⟩
set_option maxHeartbeats 8000000 in
set_option maxRecDepth 100000 in
set_option linter.unusedSimpArgs false in
set_option linter.unusedVariables false in
theorem rsend_ok {w : World} {S : Nat → Prop} {Q : Nat} {vA vG vT : Value} {lim : Int} {A : AB} {T : TN} (h : RfX w S Q vA vG vT lim A T) (hA : A.length ≤ 3298534883328) (hT : T.length ≤ 3298534883328) (a b : Int) (t : ByteArray) (ea : adr a = true) (eb : adr b = true) (hc : cutF T a b = false) (hf : ¬ lim ≤ ((live A).length : Int)) : Calls Try.prog 18 #[.pointer (some ⟨Q, 0, none⟩), .int .i64 a, .int .i64 b, .string t] w fun e w' => e = .returned (.tuple #[.int .i64 ((A.length : Int) + 1), .int .i64 0]) ∧ ∃ vA' vG' S', RfX w' S' Q vA' vG' vT lim (A ++ [(⟨(A.length : Int) + 1, a, b, t⟩, false)]) T ∧ Kp w w' S ∧ Nr w S S' := by
  have IC := rcut_any h (by omega) a b
  rw [hc] at IC
  have IC := hide IC
  have HX := hide h
  clear h hc
  go_enter Try.func18, Try.ntmps18
  go_wp2_with (first | (go_at_call 41; refine Calls.mono (address_any _ _) ?_; rintro e w1 ⟨rfl, rfl⟩) | (go_at_call 42; refine Calls.mono IC.out ?_; rintro e w2 ⟨rfl, hb2⟩))
  have H2 := hide ((HX.out.below hb2).drew)
  have B2 := hide hb2
  have CO := hide (rcount_any H2.out hA)
  clear hb2 HX IC
  refine wp_region_held_drew (S := fun X => X.cell? ⟨Q, 0, none⟩ = some (.int .i64 lim)) (by kernel_rfl) H2.out.c0 (fun hHeld => ?_)
  refine wpAnyH_take (i := 0) (v := (.pointer (some ⟨Q, 0, none⟩))) rfl (by kernel_rfl) (by kernel_rfl) (by kernel_rfl) (fun _ _ _ h => h) (Or.inl ⟨by rfl, ?_⟩) (by assumption) ?_
  · intro w' hSw
    (try dsimp only at hSw)
    go_simp
  (try simp only [Act.put, List.setIfInBounds_toArray, List.set_cons_zero, List.set_cons_succ])
  refine wpAnyH_take (i := 2) (v := (.pointer (some ⟨Q, 0, none⟩))) rfl (by kernel_rfl) (by kernel_rfl) (by kernel_rfl) (fun _ _ _ h => h) (Or.inl ⟨by rfl, ?_⟩) (by assumption) ?_
  · intro w' hSw
    (try dsimp only at hSw)
    go_simp
  (try simp only [Act.put, List.setIfInBounds_toArray, List.set_cons_zero, List.set_cons_succ])
  refine wpAnyH_take (i := 3) (v := (.pointer (some ⟨Q, 0, none⟩))) rfl (by kernel_rfl) (by kernel_rfl) (by kernel_rfl) (fun _ _ _ h => h) (Or.inl ⟨by rfl, ?_⟩) (by assumption) ?_
  · intro w' hSw
    (try dsimp only at hSw)
    go_simp
  (try simp only [Act.put, List.setIfInBounds_toArray, List.set_cons_zero, List.set_cons_succ])
  refine wpAnyH_take (i := 4) (v := (.pointer (some ⟨Q, 0, none⟩))) rfl (by kernel_rfl) (by kernel_rfl) (by kernel_rfl) (fun _ _ _ h => h) (Or.inl ⟨by rfl, ?_⟩) (by assumption) ?_
  · intro w' hSw
    (try dsimp only at hSw)
    go_simp
  (try simp only [Act.put, List.setIfInBounds_toArray, List.set_cons_zero, List.set_cons_succ])
  refine wpAnyH_take (i := 5) (v := (.int .i64 lim)) rfl (by kernel_rfl) (by kernel_rfl) (by kernel_rfl) (fun _ _ _ h => h) (Or.inl ⟨by rfl, ?_⟩) (by assumption) ?_
  · intro w' hSw
    (try dsimp only at hSw)
    go_simp
  (try simp only [Act.put, List.setIfInBounds_toArray, List.set_cons_zero, List.set_cons_succ])
  refine wpAnyH_ready (rs := [1]) (by kernel_rfl) (by simp) ?_
  refine AllReadyH.cons rfl (fun K hK => ?_) AllReadyH.nil
  go_simp
  refine Calls.mono CO.out ?_
  rintro e w3 ⟨rfl, hb3⟩
  have H3 := hide (H2.out.below hb3)
  have B3 : Hid (Below w.heap.size w w3) := B2.out.trans ((show Below w.heap.size w2 w2.drew from ⟨rfl, rfl, rfl, Nat.le_refl _, fun _ _ => rfl⟩).trans (hb3.mono B2.out.size))
  clear hb3 CO H2 B2
  refine hK.out _ _ (H3.out.c0) (fun hHeld => ?_)
  clear hK
  (try simp only [Act.put, List.setIfInBounds_toArray, List.set_cons_zero, List.set_cons_succ])
  refine wpAnyH_ready (rs := [6]) (by kernel_rfl) (by simp) ?_
  refine AllReadyH.cons rfl (fun K hK => ?_) AllReadyH.nil
  go_simp
  refine hK.out _ _ (H3.out.c0) (fun hHeld => ?_)
  clear hK
  (try simp only [Act.put, List.setIfInBounds_toArray, List.set_cons_zero, List.set_cons_succ])
  refine wpAnyH_done (by kernel_rfl) ?_ _
  clear hHeld
  have SE := hide (sets_any H3.out hA a b t)
  go_wp2_with (go_at_call 43; refine Calls.mono SE.out ?_; rintro e w4 ⟨rfl, vA', vG', S', hX, hK, hN⟩)
  go_ret2
  exact ⟨rfl, vA', vG', S', hX, (Kp.of_below B3.out S).trans hK (fun k e => Or.inl e), fun k e => by rcases hN k e with a | a; exact Or.inl a; exact Or.inr (Nat.le_trans B3.out.size a)⟩
set_option maxHeartbeats 8000000 in
set_option maxRecDepth 100000 in
set_option linter.unusedSimpArgs false in
set_option linter.unusedVariables false in
theorem rdrop_no {w : World} {S : Nat → Prop} {Q : Nat} {vA vG vT : Value} {lim : Int} {A : AB} {T : TN} (h : RfX w S Q vA vG vT lim A T) (hA : A.length ≤ 3298534883328) (i : Int) (hi : i < 9223372036854775808) (hn : ¬ okI (live A) i) : Calls Try.prog 23 #[.pointer (some ⟨Q, 0, none⟩), .int .i64 i] w fun e w' => e = .returned (.int .i64 131) ∧ w = w' := by
  have AT := rat_any h (by omega) i hi
  rw [at_no hn] at AT
  have AT := hide AT
  clear h hn
  go_enter Try.func23, Try.ntmps23
  go_wp2_with (go_at_call 46; refine Calls.mono AT.out ?_; rintro e w1 ⟨rfl, rfl⟩)
  go_ret
  exact ⟨rfl, rfl⟩
set_option maxHeartbeats 8000000 in
set_option maxRecDepth 100000 in
set_option linter.unusedSimpArgs false in
set_option linter.unusedVariables false in
theorem rdrop_ok {w : World} {S : Nat → Prop} {Q : Nat} {vA vG vT : Value} {lim : Int} {A : AB} {T : TN} (h : RfX w S Q vA vG vT lim A T) (hA : A.length ≤ 3298534883328) (i : Int) (hi : i < 9223372036854775808) (hn : okI (live A) i) : Calls Try.prog 23 #[.pointer (some ⟨Q, 0, none⟩), .int .i64 i] w fun e w' => e = .returned (.int .i64 0) ∧ RfX w' S Q vA vG vT lim (killI A i) T ∧ Kp w w' S := by
  have AT := rat_any h (by omega) i hi
  obtain ⟨k, hk, e1, e2, e3, e4⟩ := at_ok hn
  rw [e1] at AT
  rw [e3]
  have AT := hide AT
  obtain ⟨g, capg, rfl⟩ := own_g h.pr.rG (by omega)
  have KI := hide (h.kill k (ltI (live A) i) hk (by rw [e2]))
  have c2 := h.c2
  have x0 := h.pr.gn k hk
  have z0 := h.pr.rG.frozenAt k
  have hki : (k : Int) < (A.length : Int) := by omega
  rw [e2] at x0
  generalize ltI (live A) i = xx at *
  clear h hn e1 e2 e3 e4
  go_enter Try.func23, Try.ntmps23
  go_wp2_with (go_at_call 46; refine Calls.mono AT.out ?_; rintro e w1 ⟨rfl, rfl⟩)
  go_ret
  exact ⟨rfl, KI.out⟩
set_option maxHeartbeats 8000000 in
set_option maxRecDepth 100000 in
set_option linter.unusedSimpArgs false in
set_option linter.unusedVariables false in
theorem rcopy_no {w : World} {S : Nat → Prop} {Q : Nat} {vA vG vT : Value} {lim : Int} {A : AB} {T : TN} (h : RfX w S Q vA vG vT lim A T) (hA : A.length ≤ 3298534883328) (i : Int) (hi : i < 9223372036854775808) (hn : ¬ okI (live A) i) : Calls Try.prog 25 #[.pointer (some ⟨Q, 0, none⟩), .int .i64 i] w fun e w' => e = .returned (.int .i64 131) ∧ w = w' := by
  have AT := rat_any h (by omega) i hi
  rw [at_no hn] at AT
  have AT := hide AT
  clear h hn
  go_enter Try.func25, Try.ntmps25
  go_wp2_with (go_at_call 46; refine Calls.mono AT.out ?_; rintro e w1 ⟨rfl, rfl⟩)
  go_ret
  exact ⟨rfl, rfl⟩
set_option maxHeartbeats 8000000 in
set_option maxRecDepth 100000 in
set_option linter.unusedSimpArgs false in
set_option linter.unusedVariables false in
theorem rcopy_full {w : World} {S : Nat → Prop} {Q : Nat} {vA vG vT : Value} {lim : Int} {A : AB} {T : TN} (h : RfX w S Q vA vG vT lim A T) (hA : A.length ≤ 3298534883328) (i : Int) (hi : i < 9223372036854775808) (hn : okI (live A) i) (hf : lim ≤ ((live A).length : Int)) : Calls Try.prog 25 #[.pointer (some ⟨Q, 0, none⟩), .int .i64 i] w fun e w' => e = .returned (.int .i64 130) ∧ Below w.heap.size w w' := by
  have AT := rat_any h (by omega) i hi
  obtain ⟨k, hk, e1, e2, _, _⟩ := at_ok hn
  rw [e1] at AT
  have AT := hide AT
  have E2 := hide e2
  have HX := hide h
  have hki : (k : Int) < (A.length : Int) := by omega
  clear h hn e1 e2
  generalize ltI (live A) i = xx at *
  go_enter Try.func25, Try.ntmps25
  go_wp2_with (go_at_call 46; refine Calls.mono AT.out ?_; rintro e w1 ⟨rfl, rfl⟩)
  have H2 := hide HX.out.drew
  have CO := hide (rcount_any H2.out hA)
  clear HX AT
  refine wp_region_held_drew (S := fun X => X.cell? ⟨Q, 0, none⟩ = some (.int .i64 lim)) (by kernel_rfl) H2.out.c0 (fun hHeld => ?_)
  refine wpAnyH_take (i := 0) (v := (.pointer (some ⟨Q, 0, none⟩))) rfl (by kernel_rfl) (by kernel_rfl) (by kernel_rfl) (fun _ _ _ h => h) (Or.inl ⟨by rfl, ?_⟩) (by assumption) ?_
  · intro w' hSw
    (try dsimp only at hSw)
    go_simp
  (try simp only [Act.put, List.setIfInBounds_toArray, List.set_cons_zero, List.set_cons_succ])
  refine wpAnyH_take (i := 2) (v := (.pointer (some ⟨Q, 0, none⟩))) rfl (by kernel_rfl) (by kernel_rfl) (by kernel_rfl) (fun _ _ _ h => h) (Or.inl ⟨by rfl, ?_⟩) (by assumption) ?_
  · intro w' hSw
    (try dsimp only at hSw)
    go_simp
  (try simp only [Act.put, List.setIfInBounds_toArray, List.set_cons_zero, List.set_cons_succ])
  refine wpAnyH_take (i := 3) (v := (.pointer (some ⟨Q, 0, none⟩))) rfl (by kernel_rfl) (by kernel_rfl) (by kernel_rfl) (fun _ _ _ h => h) (Or.inl ⟨by rfl, ?_⟩) (by assumption) ?_
  · intro w' hSw
    (try dsimp only at hSw)
    go_simp
  (try simp only [Act.put, List.setIfInBounds_toArray, List.set_cons_zero, List.set_cons_succ])
  refine wpAnyH_take (i := 4) (v := (.pointer (some ⟨Q, 0, none⟩))) rfl (by kernel_rfl) (by kernel_rfl) (by kernel_rfl) (fun _ _ _ h => h) (Or.inl ⟨by rfl, ?_⟩) (by assumption) ?_
  · intro w' hSw
    (try dsimp only at hSw)
    go_simp
  (try simp only [Act.put, List.setIfInBounds_toArray, List.set_cons_zero, List.set_cons_succ])
  refine wpAnyH_take (i := 5) (v := (.int .i64 lim)) rfl (by kernel_rfl) (by kernel_rfl) (by kernel_rfl) (fun _ _ _ h => h) (Or.inl ⟨by rfl, ?_⟩) (by assumption) ?_
  · intro w' hSw
    (try dsimp only at hSw)
    go_simp
  (try simp only [Act.put, List.setIfInBounds_toArray, List.set_cons_zero, List.set_cons_succ])
  refine wpAnyH_ready (rs := [1]) (by kernel_rfl) (by simp) ?_
  refine AllReadyH.cons rfl (fun K hK => ?_) AllReadyH.nil
  go_simp
  refine Calls.mono CO.out ?_
  rintro e w3 ⟨rfl, hb3⟩
  have H3 := hide (H2.out.below hb3)
  have B3 : Hid (Below w.heap.size w w3) := (show Below w.heap.size w w.drew from ⟨rfl, rfl, rfl, Nat.le_refl _, fun _ _ => rfl⟩).trans hb3
  clear hb3 CO H2
  refine hK.out _ _ (H3.out.c0) (fun hHeld => ?_)
  clear hK
  (try simp only [Act.put, List.setIfInBounds_toArray, List.set_cons_zero, List.set_cons_succ])
  refine wpAnyH_ready (rs := [6]) (by kernel_rfl) (by simp) ?_
  refine AllReadyH.cons rfl (fun K hK => ?_) AllReadyH.nil
  go_simp
  refine hK.out _ _ (H3.out.c0) (fun hHeld => ?_)
  clear hK
  (try simp only [Act.put, List.setIfInBounds_toArray, List.set_cons_zero, List.set_cons_succ])
  refine wpAnyH_done (by kernel_rfl) ?_ _
  clear hHeld
  go_wp2_with fail
  go_ret
  exact ⟨rfl, B3.out⟩
set_option maxHeartbeats 8000000 in
set_option maxRecDepth 100000 in
set_option linter.unusedSimpArgs false in
set_option linter.unusedVariables false in
theorem rcopy_ok {w : World} {S : Nat → Prop} {Q : Nat} {vA vG vT : Value} {lim : Int} {A : AB} {T : TN} (h : RfX w S Q vA vG vT lim A T) (hA : A.length ≤ 3298534883328) (i : Int) (hi : i < 9223372036854775808) (hn : okI (live A) i) (hf : ¬ lim ≤ ((live A).length : Int)) : Calls Try.prog 25 #[.pointer (some ⟨Q, 0, none⟩), .int .i64 i] w fun e w' => e = .returned (.int .i64 0) ∧ ∃ vA' vG' S', RfX w' S' Q vA' vG' vT lim (A ++ [(⟨(A.length : Int) + 1, (ltI (live A) i).fr, (ltI (live A) i).td, (ltI (live A) i).tx⟩, false)]) T ∧ Kp w w' S ∧ Nr w S S' := by
  have AT := rat_any h (by omega) i hi
  obtain ⟨k, hk, e1, e2, _, _⟩ := at_ok hn
  rw [e1] at AT
  have AT := hide AT
  have E2 := hide e2
  have HX := hide h
  have hki : (k : Int) < (A.length : Int) := by omega
  clear h hn e1 e2
  generalize ltI (live A) i = xx at *
  go_enter Try.func25, Try.ntmps25
  go_wp2_with (go_at_call 46; refine Calls.mono AT.out ?_; rintro e w1 ⟨rfl, rfl⟩)
  have H2 := hide HX.out.drew
  have CO := hide (rcount_any H2.out hA)
  clear HX AT
  refine wp_region_held_drew (S := fun X => X.cell? ⟨Q, 0, none⟩ = some (.int .i64 lim)) (by kernel_rfl) H2.out.c0 (fun hHeld => ?_)
  refine wpAnyH_take (i := 0) (v := (.pointer (some ⟨Q, 0, none⟩))) rfl (by kernel_rfl) (by kernel_rfl) (by kernel_rfl) (fun _ _ _ h => h) (Or.inl ⟨by rfl, ?_⟩) (by assumption) ?_
  · intro w' hSw
    (try dsimp only at hSw)
    go_simp
  (try simp only [Act.put, List.setIfInBounds_toArray, List.set_cons_zero, List.set_cons_succ])
  refine wpAnyH_take (i := 2) (v := (.pointer (some ⟨Q, 0, none⟩))) rfl (by kernel_rfl) (by kernel_rfl) (by kernel_rfl) (fun _ _ _ h => h) (Or.inl ⟨by rfl, ?_⟩) (by assumption) ?_
  · intro w' hSw
    (try dsimp only at hSw)
    go_simp
  (try simp only [Act.put, List.setIfInBounds_toArray, List.set_cons_zero, List.set_cons_succ])
  refine wpAnyH_take (i := 3) (v := (.pointer (some ⟨Q, 0, none⟩))) rfl (by kernel_rfl) (by kernel_rfl) (by kernel_rfl) (fun _ _ _ h => h) (Or.inl ⟨by rfl, ?_⟩) (by assumption) ?_
  · intro w' hSw
    (try dsimp only at hSw)
    go_simp
  (try simp only [Act.put, List.setIfInBounds_toArray, List.set_cons_zero, List.set_cons_succ])
  refine wpAnyH_take (i := 4) (v := (.pointer (some ⟨Q, 0, none⟩))) rfl (by kernel_rfl) (by kernel_rfl) (by kernel_rfl) (fun _ _ _ h => h) (Or.inl ⟨by rfl, ?_⟩) (by assumption) ?_
  · intro w' hSw
    (try dsimp only at hSw)
    go_simp
  (try simp only [Act.put, List.setIfInBounds_toArray, List.set_cons_zero, List.set_cons_succ])
  refine wpAnyH_take (i := 5) (v := (.int .i64 lim)) rfl (by kernel_rfl) (by kernel_rfl) (by kernel_rfl) (fun _ _ _ h => h) (Or.inl ⟨by rfl, ?_⟩) (by assumption) ?_
  · intro w' hSw
    (try dsimp only at hSw)
    go_simp
  (try simp only [Act.put, List.setIfInBounds_toArray, List.set_cons_zero, List.set_cons_succ])
  refine wpAnyH_ready (rs := [1]) (by kernel_rfl) (by simp) ?_
  refine AllReadyH.cons rfl (fun K hK => ?_) AllReadyH.nil
  go_simp
  refine Calls.mono CO.out ?_
  rintro e w3 ⟨rfl, hb3⟩
  have H3 := hide (H2.out.below hb3)
  have B3 : Hid (Below w.heap.size w w3) := (show Below w.heap.size w w.drew from ⟨rfl, rfl, rfl, Nat.le_refl _, fun _ _ => rfl⟩).trans hb3
  clear hb3 CO H2
  refine hK.out _ _ (H3.out.c0) (fun hHeld => ?_)
  clear hK
  (try simp only [Act.put, List.setIfInBounds_toArray, List.set_cons_zero, List.set_cons_succ])
  refine wpAnyH_ready (rs := [6]) (by kernel_rfl) (by simp) ?_
  refine AllReadyH.cons rfl (fun K hK => ?_) AllReadyH.nil
  go_simp
  refine hK.out _ _ (H3.out.c0) (fun hHeld => ?_)
  clear hK
  (try simp only [Act.put, List.setIfInBounds_toArray, List.set_cons_zero, List.set_cons_succ])
  refine wpAnyH_done (by kernel_rfl) ?_ _
  clear hHeld
  obtain ⟨g, cap, hv⟩ := own_g H3.out.pr.rA (by omega)
  subst hv
  have c1 := H3.out.c1
  obtain ⟨l0, l1, l2, l3⟩ := H3.out.pr.lt k hk
  rw [E2.out] at l0 l1 l2 l3
  simp only [] at l0 l1 l2 l3
  have J3 : Hid (LtAt (w3.alloc (.cells #[.int .i64 xx.id, .int .i64 xx.fr, .int .i64 xx.td, .string xx.tx] 53)) w3.heap.size xx) := heap_last w3 _
  have H4 := hide (H3.out.alloc (.cells #[.int .i64 xx.id, .int .i64 xx.fr, .int .i64 xx.td, .string xx.tx] 53))
  have B4 : Hid (Below w.heap.size w (w3.alloc (.cells #[.int .i64 xx.id, .int .i64 xx.fr, .int .i64 xx.td, .string xx.tx] 53))) := B3.out.alloc B3.out.size _
  have SE := hide (sets_any H4.out hA xx.fr xx.td xx.tx)
  go_wp2_with (go_at_call 43; refine Calls.mono SE.out ?_; rintro e w4 ⟨rfl, hz⟩)
  go_ret
  obtain ⟨vA', vG', S', hX, hK, hN⟩ := hz
  exact ⟨rfl, vA', vG', S', hX, (Kp.of_below B4.out S).trans hK (fun k e => Or.inl e), fun k e => by rcases hN k e with a | a; exact Or.inl a; exact Or.inr (Nat.le_trans B4.out.size a)⟩
set_option maxHeartbeats 8000000 in
set_option maxRecDepth 100000 in
set_option linter.unusedSimpArgs false in
set_option linter.unusedVariables false in
theorem rdeliver_nil (i : Int) (w : World) : Calls Try.prog 21 #[.pointer none, .int .i64 i] w fun e w' => e = .returned (.tuple #[noL.v, .int .i64 2]) ∧ Below w.heap.size w w' := by
  obtain ⟨W0, hW0⟩ : ∃ W0, W0 = w.alloc (.cells #[.int .i64 0, .int .i64 0, .int .i64 0, .string ⟨#[]⟩] 53) := ⟨_, rfl⟩
  have B0 : Hid (Below w.heap.size w W0) := by subst hW0; exact (Below.refl _ w).alloc (Nat.le_refl _) _
  have R0 : Hid (LtAt W0 w.heap.size noL) := by subst hW0; exact heap_last w _
  go_enter Try.func21, Try.ntmps21
  go_upto_region 2 with fail
  rw [← hW0]
  clear hW0
  have r0 := R0.out.c0
  have r1 := R0.out.c1
  have r2 := R0.out.c2
  have r3 := R0.out.c3
  have y0 := R0.out.fz 0
  have y1 := R0.out.fz 1
  have y2 := R0.out.fz 2
  have y3 := R0.out.fz 3
  have E9 : Hid (LtAt (st4 W0 w.heap.size noL) w.heap.size noL ∧ Below w.heap.size w (st4 W0 w.heap.size noL)) := ⟨R0.out.st noL, ((Kp.of_below B0.out non).st (Or.inr (Nat.le_refl _)) noL).below⟩
  unfold st4 at E9
  simp only [noL] at *
  go_wp2_with fail
  exact bodyPost_ret (v := .tuple #[noL.v, .int .i64 2]) (res_lt Try.results21 _ noL _ w.heap.size rfl E9.out.1 _ rfl) rfl ⟨rfl, E9.out.2⟩
set_option maxHeartbeats 8000000 in
set_option maxRecDepth 100000 in
set_option linter.unusedSimpArgs false in
set_option linter.unusedVariables false in
theorem rdeliver_no {w : World} {S : Nat → Prop} {Q : Nat} {vA vG vT : Value} {lim : Int} {A : AB} {T : TN} (h : RfX w S Q vA vG vT lim A T) (hA : A.length ≤ 3298534883328) (i : Int) (hi : i < 9223372036854775808) (hn : ¬ okI (live A) i) : Calls Try.prog 21 #[.pointer (some ⟨Q, 0, none⟩), .int .i64 i] w fun e w' => e = .returned (.tuple #[noL.v, .int .i64 131]) ∧ Below w.heap.size w w' := by
  obtain ⟨W0, hW0⟩ : ∃ W0, W0 = w.alloc (.cells #[.int .i64 0, .int .i64 0, .int .i64 0, .string ⟨#[]⟩] 53) := ⟨_, rfl⟩
  have H0 : Hid (RfX W0 S Q vA vG vT lim A T) := by subst hW0; exact h.alloc _
  have B0 : Hid (Below w.heap.size w W0) := by subst hW0; exact (Below.refl _ w).alloc (Nat.le_refl _) _
  have R0 : Hid (LtAt W0 w.heap.size noL) := by subst hW0; exact heap_last w _
  have NS : Hid (∀ k, S k → k < w.heap.size) := h.sb
  obtain ⟨I, hI⟩ : ∃ I, I = w.heap.size := ⟨_, rfl⟩
  rw [← hI] at R0
  have HI := hide hI
  have AT := rat_any H0.out (by omega) i hi
  rw [at_no hn] at AT
  have AT := hide AT
  clear h hn
  have r0 := R0.out.c0
  have r1 := R0.out.c1
  have r2 := R0.out.c2
  have r3 := R0.out.c3
  have y0 := R0.out.fz 0
  have y1 := R0.out.fz 1
  have y2 := R0.out.fz 2
  have y3 := R0.out.fz 3
  have E9 : Hid (LtAt (st4 W0 I noL) I noL ∧ Below w.heap.size w (st4 W0 I noL)) := ⟨R0.out.st noL, ((Kp.of_below B0.out non).st (Or.inr (by rw [HI.out]; exact Nat.le_refl _)) noL).below⟩
  unfold st4 at E9
  simp only [noL] at *
  go_enter Try.func21, Try.ntmps21
  go_upto_region 3 with fail
  rw [← hW0, ← hI]
  clear hW0 hI
  go_wp2_with (go_at_call 46; refine Calls.mono AT.out ?_; rintro e w1 ⟨rfl, rfl⟩)
  exact bodyPost_ret (v := .tuple #[noL.v, .int .i64 131]) (res_lt Try.results21 _ noL _ I rfl E9.out.1 _ rfl) rfl ⟨rfl, E9.out.2⟩
set_option maxHeartbeats 8000000 in
set_option maxRecDepth 100000 in
set_option linter.unusedSimpArgs false in
set_option linter.unusedVariables false in
theorem rdeliver_cut {w : World} {S : Nat → Prop} {Q : Nat} {vA vG vT : Value} {lim : Int} {A : AB} {T : TN} (h : RfX w S Q vA vG vT lim A T) (hA : A.length ≤ 3298534883328) (hT : T.length ≤ 3298534883328) (i : Int) (hi : i < 9223372036854775808) (hn : okI (live A) i) (hc : cutF T (ltI (live A) i).fr (ltI (live A) i).td = true) : Calls Try.prog 21 #[.pointer (some ⟨Q, 0, none⟩), .int .i64 i] w fun e w' => e = .returned (.tuple #[noL.v, .int .i64 132]) ∧ Below w.heap.size w w' := by
  obtain ⟨W0, hW0⟩ : ∃ W0, W0 = w.alloc (.cells #[.int .i64 0, .int .i64 0, .int .i64 0, .string ⟨#[]⟩] 53) := ⟨_, rfl⟩
  have H0 : Hid (RfX W0 S Q vA vG vT lim A T) := by subst hW0; exact h.alloc _
  have B0 : Hid (Below w.heap.size w W0) := by subst hW0; exact (Below.refl _ w).alloc (Nat.le_refl _) _
  have R0 : Hid (LtAt W0 w.heap.size noL) := by subst hW0; exact heap_last w _
  have NS : Hid (∀ k, S k → k < w.heap.size) := h.sb
  obtain ⟨I, hI⟩ : ∃ I, I = w.heap.size := ⟨_, rfl⟩
  rw [← hI] at R0
  have HI := hide hI
  have AT := rat_any H0.out (by omega) i hi
  obtain ⟨k, hk, e1, e2, e3, e4⟩ := at_ok hn
  rw [e1] at AT
  have AT := hide AT
  have E2 := hide e2
  have hki : (k : Int) < (A.length : Int) := by omega
  generalize ltI (live A) i = xx at *
  have CC := hide hc
  clear h hn e1 e2 e3 e4 hc
  obtain ⟨ga, capa, hva⟩ := own_g H0.out.pr.rA (by omega)
  subst hva
  have c1 := H0.out.c1
  obtain ⟨l0, l1, l2, l3⟩ := H0.out.pr.lt k hk
  rw [E2.out] at l0 l1 l2 l3
  simp only [] at l0 l1 l2 l3
  obtain ⟨W2, hW2⟩ : ∃ W2, W2 = W0.alloc (.cells #[.int .i64 xx.id, .int .i64 xx.fr, .int .i64 xx.td, .string xx.tx] 53) := ⟨_, rfl⟩
  obtain ⟨J, hJ⟩ : ∃ J, J = W0.heap.size := ⟨_, rfl⟩
  have R2 : Hid (LtAt W2 I noL) := by subst hW2; exact (((Below.refl _ W0).alloc (Nat.le_refl _) _).block _ (blk_lt R0.out)).trans R0.out
  have B2 : Hid (Below w.heap.size w W2) := by subst hW2; exact B0.out.alloc B0.out.size _
  have J2 : Hid (LtAt W2 J xx) := by subst hW2; subst hJ; exact heap_last W0 _
  have JI : Hid (I ≠ J ∧ w.heap.size ≤ J) := ⟨fun e => by have := blk_lt R0.out; omega, by rw [hJ]; exact B0.out.size⟩
  have H2 : Hid (RfX W2 S Q (.slice (some ⟨ga, 0, none⟩) A.length capa) vG vT lim A T) := by subst hW2; exact H0.out.alloc _
  have IC := rcut_any H2.out (by omega) xx.fr xx.td
  rw [CC.out] at IC
  have IC := hide IC
  have j0 := J2.out.c0
  have j1 := J2.out.c1
  have j2 := J2.out.c2
  have j3 := J2.out.c3
  go_enter Try.func21, Try.ntmps21
  go_upto_region 3 with fail
  rw [← hW0, ← hI]
  clear hW0 hI
  go_upto_region 7 with (go_at_call 46; refine Calls.mono AT.out ?_; rintro e w1 ⟨rfl, rfl⟩)
  rw [← hW2, ← hJ]
  clear hW2 hJ l0 l1 l2 l3 c1 AT
  go_wp2_with fail
  refine Calls.mono IC.out ?_
  rintro e w3 ⟨rfl, hb3⟩
  have R3 : Hid (LtAt w3 I noL) := (hb3.block _ (blk_lt R2.out)).trans R2.out
  have J3 : Hid (LtAt w3 J xx) := (hb3.block _ (blk_lt J2.out)).trans J2.out
  have B3 : Hid (Below w.heap.size w w3) := B2.out.trans (hb3.mono B2.out.size)
  have H3 := hide (H2.out.below hb3)
  clear hb3 IC j0 j1 j2 j3 R2 J2 B2 H2 H0 R0 B0
  have r0 := R3.out.c0
  have r1 := R3.out.c1
  have r2 := R3.out.c2
  have r3 := R3.out.c3
  have y0 := R3.out.fz 0
  have y1 := R3.out.fz 1
  have y2 := R3.out.fz 2
  have y3 := R3.out.fz 3
  have E9 : Hid (LtAt (st4 w3 I noL) I noL ∧ Below w.heap.size w (st4 w3 I noL)) := ⟨R3.out.st noL, ((Kp.of_below B3.out non).st (Or.inr (by rw [HI.out]; exact Nat.le_refl _)) noL).below⟩
  unfold st4 at E9
  simp only [noL] at *
  go_wp2_with fail
  exact bodyPost_ret (v := .tuple #[noL.v, .int .i64 132]) (res_lt Try.results21 _ noL _ I rfl E9.out.1 _ rfl) rfl ⟨rfl, E9.out.2⟩
set_option maxHeartbeats 8000000 in
set_option maxRecDepth 100000 in
set_option linter.unusedSimpArgs false in
set_option linter.unusedVariables false in
theorem rdeliver_ok {w : World} {S : Nat → Prop} {Q : Nat} {vA vG vT : Value} {lim : Int} {A : AB} {T : TN} (h : RfX w S Q vA vG vT lim A T) (hA : A.length ≤ 3298534883328) (hT : T.length ≤ 3298534883328) (i : Int) (hi : i < 9223372036854775808) (hn : okI (live A) i) (hc : cutF T (ltI (live A) i).fr (ltI (live A) i).td = false) : Calls Try.prog 21 #[.pointer (some ⟨Q, 0, none⟩), .int .i64 i] w fun e w' => e = .returned (.tuple #[(ltI (live A) i).v, .int .i64 0]) ∧ RfX w' S Q vA vG vT lim (killI A i) T ∧ Kp w w' S := by
  obtain ⟨W0, hW0⟩ : ∃ W0, W0 = w.alloc (.cells #[.int .i64 0, .int .i64 0, .int .i64 0, .string ⟨#[]⟩] 53) := ⟨_, rfl⟩
  have H0 : Hid (RfX W0 S Q vA vG vT lim A T) := by subst hW0; exact h.alloc _
  have B0 : Hid (Below w.heap.size w W0) := by subst hW0; exact (Below.refl _ w).alloc (Nat.le_refl _) _
  have R0 : Hid (LtAt W0 w.heap.size noL) := by subst hW0; exact heap_last w _
  have NS : Hid (∀ k, S k → k < w.heap.size) := h.sb
  obtain ⟨I, hI⟩ : ∃ I, I = w.heap.size := ⟨_, rfl⟩
  rw [← hI] at R0
  have HI := hide hI
  have AT := rat_any H0.out (by omega) i hi
  obtain ⟨k, hk, e1, e2, e3, e4⟩ := at_ok hn
  rw [e1] at AT
  have AT := hide AT
  have E2 := hide e2
  rw [e3]
  have hki : (k : Int) < (A.length : Int) := by omega
  generalize ltI (live A) i = xx at *
  have CC := hide hc
  clear h hn e1 e2 e3 e4 hc
  obtain ⟨ga, capa, hva⟩ := own_g H0.out.pr.rA (by omega)
  subst hva
  have c1 := H0.out.c1
  obtain ⟨l0, l1, l2, l3⟩ := H0.out.pr.lt k hk
  rw [E2.out] at l0 l1 l2 l3
  simp only [] at l0 l1 l2 l3
  obtain ⟨W2, hW2⟩ : ∃ W2, W2 = W0.alloc (.cells #[.int .i64 xx.id, .int .i64 xx.fr, .int .i64 xx.td, .string xx.tx] 53) := ⟨_, rfl⟩
  obtain ⟨J, hJ⟩ : ∃ J, J = W0.heap.size := ⟨_, rfl⟩
  have R2 : Hid (LtAt W2 I noL) := by subst hW2; exact (((Below.refl _ W0).alloc (Nat.le_refl _) _).block _ (blk_lt R0.out)).trans R0.out
  have B2 : Hid (Below w.heap.size w W2) := by subst hW2; exact B0.out.alloc B0.out.size _
  have J2 : Hid (LtAt W2 J xx) := by subst hW2; subst hJ; exact heap_last W0 _
  have JI : Hid (I ≠ J ∧ w.heap.size ≤ J) := ⟨fun e => by have := blk_lt R0.out; omega, by rw [hJ]; exact B0.out.size⟩
  have H2 : Hid (RfX W2 S Q (.slice (some ⟨ga, 0, none⟩) A.length capa) vG vT lim A T) := by subst hW2; exact H0.out.alloc _
  have IC := rcut_any H2.out (by omega) xx.fr xx.td
  rw [CC.out] at IC
  have IC := hide IC
  have j0 := J2.out.c0
  have j1 := J2.out.c1
  have j2 := J2.out.c2
  have j3 := J2.out.c3
  go_enter Try.func21, Try.ntmps21
  go_upto_region 3 with fail
  rw [← hW0, ← hI]
  clear hW0 hI
  go_upto_region 7 with (go_at_call 46; refine Calls.mono AT.out ?_; rintro e w1 ⟨rfl, rfl⟩)
  rw [← hW2, ← hJ]
  clear hW2 hJ l0 l1 l2 l3 c1 AT
  go_wp2_with fail
  refine Calls.mono IC.out ?_
  rintro e w3 ⟨rfl, hb3⟩
  have R3 : Hid (LtAt w3 I noL) := (hb3.block _ (blk_lt R2.out)).trans R2.out
  have J3 : Hid (LtAt w3 J xx) := (hb3.block _ (blk_lt J2.out)).trans J2.out
  have B3 : Hid (Below w.heap.size w w3) := B2.out.trans (hb3.mono B2.out.size)
  have H3 := hide (H2.out.below hb3)
  clear hb3 IC j0 j1 j2 j3 R2 J2 B2 H2 H0 R0 B0
  obtain ⟨g, capg, hvg⟩ := own_g H3.out.pr.rG (by omega)
  subst hvg
  have d2 := H3.out.c2
  have x0 := H3.out.pr.gn k hk
  have z0 := H3.out.pr.rG.frozenAt k
  rw [E2.out] at x0
  obtain ⟨H4, K4⟩ := H3.out.kill k xx hk (by rw [E2.out])
  have gS : S g := H3.out.pr.sG g rfl
  have R4 := hide (R3.out.kp K4 (fun e => by have := NS.out _ e; have := HI.out; omega))
  have J4 := hide (J3.out.kp K4 (fun e => by have := NS.out _ e; have := JI.out.2; omega))
  have KK : Hid (Kp w (w3.setCell ⟨g, k, none⟩ (.bool true)) S) := (Kp.of_below B3.out S).trans K4 (fun k e => Or.inl e)
  have HZ := hide H4
  clear H4 K4 R3 J3 B3 H3 gS
  obtain ⟨W4, hW4⟩ : ∃ W4, W4 = w3.setCell ⟨g, k, none⟩ (.bool true) := ⟨_, rfl⟩
  rw [← hW4] at R4 J4 KK HZ
  go_upto_region 10 with fail
  rw [← hW4]
  clear hW4 d2 x0 z0
  have r0 := R4.out.c0
  have r1 := R4.out.c1
  have r2 := R4.out.c2
  have r3 := R4.out.c3
  have y0 := R4.out.fz 0
  have y1 := R4.out.fz 1
  have y2 := R4.out.fz 2
  have y3 := R4.out.fz 3
  have j0 := J4.out.c0
  have j1 := J4.out.c1
  have j2 := J4.out.c2
  have j3 := J4.out.c3
  have E9 : Hid (LtAt (st4 W4 I xx) I xx ∧ Kp w (st4 W4 I xx) S ∧ RfX (st4 W4 I xx) S Q (.slice (some ⟨ga, 0, none⟩) A.length capa) (.slice (some ⟨g, 0, none⟩) A.length capg) vT lim (A.set k (xx, true)) T) := ⟨R4.out.st xx, KK.out.st (Or.inr (by rw [HI.out]; exact Nat.le_refl _)) xx, HZ.out.kp ((Kp.refl W4 (fun k => k = I)).st (Or.inl rfl) xx) (fun k e ek => by have := NS.out k e; have := HI.out; omega)⟩
  unfold st4 at E9
  go_wp2_with fail
  exact bodyPost_ret (v := .tuple #[xx.v, .int .i64 0]) (res_lt Try.results21 _ xx _ I rfl E9.out.1 _ rfl) rfl ⟨rfl, E9.out.2.2, E9.out.2.1⟩
set_option maxHeartbeats 8000000 in
set_option maxRecDepth 100000 in
set_option linter.unusedSimpArgs false in
set_option linter.unusedVariables false in
theorem rnew_bad (lim : Int) (w : World) (hl : ¬ limOk lim) : Calls Try.prog 35 #[.int .i64 lim] w fun e w' => e = .returned (.tuple #[.pointer none, .int .i64 1]) ∧ w = w' := by
  unfold limOk at hl
  by_cases h1 : lim < 1
  · clear hl
    go_enter Try.func35, Try.ntmps35
    go_wp2_with fail
    go_ret2
    exact ⟨rfl, rfl⟩
  · have h2 : 1024 < lim := by omega
    clear hl
    go_enter Try.func35, Try.ntmps35
    go_wp2_with fail
    go_ret2
    exact ⟨rfl, rfl⟩
set_option maxHeartbeats 8000000 in
set_option maxRecDepth 100000 in
set_option linter.unusedSimpArgs false in
set_option linter.unusedVariables false in
theorem rnew_any (lim : Int) (w : World) (hl : limOk lim) : Calls Try.prog 35 #[.int .i64 lim] w fun e w' => e = .returned (.tuple #[.pointer (some ⟨w.heap.size, 0, none⟩), .int .i64 0]) ∧ RfX w' (fun k => k = w.heap.size) w.heap.size (.slice none 0 0) (.slice none 0 0) (.slice none 0 0) lim [] [] ∧ Below w.heap.size w w' := by
  obtain ⟨h1, h2⟩ := hl
  have n1 : ¬ lim < 1 := by omega
  have n2 : ¬ 1024 < lim := by omega
  go_enter Try.func35, Try.ntmps35
  go_wp2_with fail
  go_ret2
  refine ⟨rfl, ⟨heap_last w _, ⟨⟨rfl, .inl ⟨rfl, rfl⟩⟩, ⟨rfl, .inl ⟨rfl, rfl⟩⟩, fun k e => by simp [Value.ownBlock] at e, fun k e => by simp [Value.ownBlock] at e⟩, ⟨rfl, .inl ⟨rfl, rfl⟩⟩, rfl, fun k e => by simp [Value.ownBlock] at e, fun k e => by subst e; simp⟩, (Below.refl _ w).alloc (Nat.le_refl _) _⟩
end Go.Proofs.Ytnphdbmacccblab
