import Derived.Test.YtnphdbmacccblabMaPut
import Derived.Test.YtnphdbmacccblabMaShelf
namespace Go.Proofs.Ytnphdbmacccblab
open Go.RowKit
set_option maxHeartbeats 4000000 in
set_option maxRecDepth 100000 in
theorem clone_any (s : ByteArray) (w : World) (hs : s.size ≤ 281474976710656) : Calls Try.prog 40 #[.string s] w fun e w' => e = .returned (.string s) ∧ Below w.heap.size w w' := by
  have CL := hide (Try.stringslite_Clone s w hs)
  go_enter Try.func40, Try.ntmps40
  go_wp2_with (go_at_call 52; refine Calls.mono CL.out ?_; rintro e w1 ⟨rfl, hb⟩)
  go_ret
  exact ⟨rfl, hb⟩
theorem MlX.sent {w : World} {S : Nat → Prop} {R M : Nat} {v : Value} {lim : Int} {s : Nat} {L : List Lt} {n : Nat} {C : Int → Int → Bool} (h : MlX w S R M v lim s L n C) : MlX (w.setCell ⟨R, 1, none⟩ (.int .i64 ((s : Int) + 1))) S R M v lim (s + 1) L n C := by
  have k : Kp w (w.setCell ⟨R, 1, none⟩ (.int .i64 ((s : Int) + 1))) (fun k => k = R) := Kp.set (S := fun k => k = R) (Kp.refl w _) (Or.inl rfl) 1 _
  refine ⟨heap_setCell _ _ _ _ _ _ _ h.blk, own_kp h.row k (fun q e eq => h.nvR (by rw [e, eq])), h.map.same (k.block _ h.map.lt (fun e => h.nRM e.symm)), h.sR, h.sM, h.sv, fun q e => by rw [World.size_setCell]; exact h.sb q e⟩
set_option maxHeartbeats 4000000 in
set_option maxRecDepth 100000 in
set_option linter.unusedSimpArgs false in
set_option linter.unusedVariables false in
theorem setOff_any {w : World} {S : Nat → Prop} {R M : Nat} {v : Value} {lim : Int} {s : Nat} {L : List Lt} {n : Nat} {C : Int → Int → Bool} (h : MlX w S R M v lim s L n C) (a b : Int) (t : ByteArray) (hL : L.length ≤ 1048576) (hs : s ≤ 1125899906842624) :
    Calls Try.prog 39 #[.pointer (some ⟨R, 0, none⟩), .int .i64 a, .int .i64 b, .string t] w fun e w' => e = .returned (.int .i64 ((s : Int) + 1)) ∧ ∃ v' S', MlX w' S' R M v' lim (s + 1) (L ++ [⟨(s : Int) + 1, a, b, t⟩]) n C ∧ Kp w w' S ∧ (∀ k, S' k → S k ∨ w.heap.size ≤ k) := by
  have c1 := h.c1
  have f1 := h.fz 1
  have x1 : wrap64 ((s : Int) + 1) = (s : Int) + 1 := wrap_in (by omega) (by omega)
  have H1 := hide h.sent
  have K1 : Hid (Kp w (w.setCell ⟨R, 1, none⟩ (.int .i64 ((s : Int) + 1))) S) := (Kp.refl w S).set (Or.inl h.sR) 1 _
  clear h
  go_enter Try.func39, Try.ntmps39
  go_wp2_with fail
  generalize w.setCell ⟨R, 1, none⟩ (.int .i64 ((s : Int) + 1)) = W at *
  clear c1 f1
  have PU := hide (put_any H1.out.drew ⟨(s : Int) + 1, a, b, t⟩ hL)
  have d1 := H1.out.drew.c1
  refine wp_region_held_drew (S := fun X => True) (by kernel_rfl) trivial (fun hHeld => ?_)
  refine wpAnyH_take (i := 0) (v := (.pointer (some ⟨R, 0, none⟩))) rfl (by kernel_rfl) (by kernel_rfl) (by kernel_rfl) (fun _ _ _ h => h) (Or.inl ⟨by rfl, ?_⟩) (by assumption) ?_
  · intro w' hSw
    (try dsimp only at hSw)
    go_simp
  (try simp only [Act.put, List.setIfInBounds_toArray, List.set_cons_zero, List.set_cons_succ])
  refine wpAnyH_take (i := 1) (v := (.pointer (some ⟨R, 0, none⟩))) rfl (by kernel_rfl) (by kernel_rfl) (by kernel_rfl) (fun _ _ _ h => h) (Or.inl ⟨by rfl, ?_⟩) (by assumption) ?_
  · intro w' hSw
    (try dsimp only at hSw)
    go_simp
  (try simp only [Act.put, List.setIfInBounds_toArray, List.set_cons_zero, List.set_cons_succ])
  refine wpAnyH_take (i := 2) (v := (.pointer (some ⟨R, 2, none⟩))) rfl (by kernel_rfl) (by kernel_rfl) (by kernel_rfl) (fun _ _ _ h => h) (Or.inl ⟨by rfl, ?_⟩) (by assumption) ?_
  · intro w' hSw
    (try dsimp only at hSw)
    go_simp
  (try simp only [Act.put, List.setIfInBounds_toArray, List.set_cons_zero, List.set_cons_succ])
  refine wpAnyH_take (i := 3) (v := (.pointer (some ⟨R, 0, none⟩))) rfl (by kernel_rfl) (by kernel_rfl) (by kernel_rfl) (fun _ _ _ h => h) (Or.inl ⟨by rfl, ?_⟩) (by assumption) ?_
  · intro w' hSw
    (try dsimp only at hSw)
    go_simp
  (try simp only [Act.put, List.setIfInBounds_toArray, List.set_cons_zero, List.set_cons_succ])
  refine wpAnyH_take (i := 4) (v := (.pointer (some ⟨R, 0, none⟩))) rfl (by kernel_rfl) (by kernel_rfl) (by kernel_rfl) (fun _ _ _ h => h) (Or.inl ⟨by rfl, ?_⟩) (by assumption) ?_
  · intro w' hSw
    (try dsimp only at hSw)
    go_simp
  (try simp only [Act.put, List.setIfInBounds_toArray, List.set_cons_zero, List.set_cons_succ])
  refine wpAnyH_take (i := 5) (v := (.pointer (some ⟨R, 1, none⟩))) rfl (by kernel_rfl) (by kernel_rfl) (by kernel_rfl) (fun _ _ _ h => h) (Or.inl ⟨by rfl, ?_⟩) (by assumption) ?_
  · intro w' hSw
    (try dsimp only at hSw)
    go_simp
  (try simp only [Act.put, List.setIfInBounds_toArray, List.set_cons_zero, List.set_cons_succ])
  refine wpAnyH_take (i := 7) (v := (.int .i64 a)) rfl (by kernel_rfl) (by kernel_rfl) (by kernel_rfl) (fun _ _ _ h => h) (Or.inl ⟨by rfl, ?_⟩) (by assumption) ?_
  · intro w' hSw
    (try dsimp only at hSw)
    go_simp
  (try simp only [Act.put, List.setIfInBounds_toArray, List.set_cons_zero, List.set_cons_succ])
  refine wpAnyH_take (i := 8) (v := (.int .i64 b)) rfl (by kernel_rfl) (by kernel_rfl) (by kernel_rfl) (fun _ _ _ h => h) (Or.inl ⟨by rfl, ?_⟩) (by assumption) ?_
  · intro w' hSw
    (try dsimp only at hSw)
    go_simp
  (try simp only [Act.put, List.setIfInBounds_toArray, List.set_cons_zero, List.set_cons_succ])
  refine wpAnyH_take (i := 9) (v := (.string t)) rfl (by kernel_rfl) (by kernel_rfl) (by kernel_rfl) (fun _ _ _ h => h) (Or.inl ⟨by rfl, ?_⟩) (by assumption) ?_
  · intro w' hSw
    (try dsimp only at hSw)
    go_simp
  (try simp only [Act.put, List.setIfInBounds_toArray, List.set_cons_zero, List.set_cons_succ])
  refine wpAnyH_ready (rs := [6]) (by kernel_rfl) (by simp) ?_
  refine AllReadyH.cons rfl (fun K hK => ?_) AllReadyH.nil
  go_simp
  refine hK.out _ _ (trivial) (fun hHeld => ?_)
  clear hK
  (try simp only [Act.put, List.setIfInBounds_toArray, List.set_cons_zero, List.set_cons_succ])
  refine wpAnyH_take (i := 10) (v := (.agg #[.int .i64 ((s : Int) + 1), .int .i64 a, .int .i64 b, .string t])) rfl (by kernel_rfl) (by kernel_rfl) (by kernel_rfl) (fun _ _ _ h => h) (Or.inl ⟨by rfl, ?_⟩) (by assumption) ?_
  · intro w' hSw
    (try dsimp only at hSw)
    go_simp
  (try simp only [Act.put, List.setIfInBounds_toArray, List.set_cons_zero, List.set_cons_succ])
  refine wpAnyH_ready (rs := [11]) (by kernel_rfl) (by simp) ?_
  refine AllReadyH.cons rfl (fun K hK => ?_) AllReadyH.nil
  go_simp
  refine Calls.mono PU.out ?_
  rintro e w2 ⟨rfl, v', S', hX, hK, hN⟩
  have HX := hide hX
  have HK : Hid (Kp w w2 S) := K1.out.drew.trans hK (fun k e => Or.inl e)
  have HN : Hid (∀ k, S' k → S k ∨ w.heap.size ≤ k) := fun k e => by
    rcases hN k e with a | a
    · exact Or.inl a
    · exact Or.inr (Nat.le_trans K1.out.size a)
  clear hX hK hN PU d1
  have e1 := HX.out.c1
  refine hK.out _ _ (trivial) (fun hHeld => ?_)
  clear hK
  (try simp only [Act.put, List.setIfInBounds_toArray, List.set_cons_zero, List.set_cons_succ])
  refine wpAnyH_done (by kernel_rfl) ?_ _
  clear hHeld
  go_wp2_with fail
  go_ret
  exact ⟨by simp, _, _, HX.out, HK.out, HN.out⟩
set_option maxHeartbeats 4000000 in
set_option maxRecDepth 100000 in
set_option linter.unusedSimpArgs false in
set_option linter.unusedVariables false in
theorem send_nil (a b : Int) (t : ByteArray) (w : World) : Calls Try.prog 17 #[.pointer none, .int .i64 a, .int .i64 b, .string t] w fun e w' => e = .returned (.tuple #[.int .i64 0, .int .i64 2]) ∧ w = w' := by
  have NO := hide (none_nil w)
  go_enter Try.func17, Try.ntmps17
  go_wp2_with (first | (go_at_call 15; refine Calls.mono NO.out ?_; rintro e w1 ⟨rfl, rfl⟩))
  go_ret2
  exact ⟨rfl, rfl⟩
set_option maxHeartbeats 4000000 in
set_option maxRecDepth 100000 in
set_option linter.unusedSimpArgs false in
set_option linter.unusedVariables false in
theorem send_adr {w : World} {S : Nat → Prop} {R M : Nat} {v : Value} {lim : Int} {s : Nat} {L : List Lt} {n : Nat} {C : Int → Int → Bool} (h : MlX w S R M v lim s L n C) (hl : 1 ≤ lim) (a b : Int) (t : ByteArray) (he : ¬ (adr a = true ∧ adr b = true)) : Calls Try.prog 17 #[.pointer (some ⟨R, 0, none⟩), .int .i64 a, .int .i64 b, .string t] w fun e w' => e = .returned (.tuple #[.int .i64 0, .int .i64 1]) ∧ w = w' := by
  have NO := hide (none_any h hl)
  clear h
  by_cases ea : adr a = true
  case neg =>
    clear he
    rw [Bool.not_eq_true] at ea
    go_enter Try.func17, Try.ntmps17
    go_wp2_with (first | (go_at_call 15; refine Calls.mono NO.out ?_; rintro e w1 ⟨rfl, rfl⟩) | (go_at_call 36; refine Calls.mono (isAddress_any _ _) ?_; rintro e w1 ⟨rfl, rfl⟩))
    go_ret2
    exact ⟨rfl, rfl⟩
  have eb : adr b = false := by rw [← Bool.not_eq_true]; exact fun e => he ⟨ea, e⟩
  clear he
  go_enter Try.func17, Try.ntmps17
  go_wp2_with (first | (go_at_call 15; refine Calls.mono NO.out ?_; rintro e w1 ⟨rfl, rfl⟩) | (go_at_call 36; refine Calls.mono (isAddress_any _ _) ?_; rintro e w1 ⟨rfl, rfl⟩))
  go_ret2
  exact ⟨rfl, rfl⟩
set_option maxHeartbeats 4000000 in
set_option maxRecDepth 100000 in
set_option linter.unusedSimpArgs false in
set_option linter.unusedVariables false in
theorem send_cut {w : World} {S : Nat → Prop} {R M : Nat} {v : Value} {lim : Int} {s : Nat} {L : List Lt} {n : Nat} {C : Int → Int → Bool} (h : MlX w S R M v lim s L n C) (hl : 1 ≤ lim) (a b : Int) (t : ByteArray) (ea : adr a = true) (eb : adr b = true) (hc : C (min a b) (max a b) = true) : Calls Try.prog 17 #[.pointer (some ⟨R, 0, none⟩), .int .i64 a, .int .i64 b, .string t] w fun e w' => e = .returned (.tuple #[.int .i64 0, .int .i64 132]) ∧ Below w.heap.size w w' := by
  have NO := hide (none_any h hl)
  have IC := isCut_any h a b ea eb
  rw [hc] at IC
  have IC := hide IC
  clear h hc
  go_enter Try.func17, Try.ntmps17
  go_wp2_with (first | (go_at_call 15; refine Calls.mono NO.out ?_; rintro e w1 ⟨rfl, rfl⟩) | (go_at_call 36; refine Calls.mono (isAddress_any _ _) ?_; rintro e w1 ⟨rfl, rfl⟩) | (go_at_call 37; refine Calls.mono IC.out ?_; rintro e w2 ⟨rfl, hb2⟩))
  go_ret2
  exact ⟨rfl, hb2⟩
set_option maxHeartbeats 4000000 in
set_option maxRecDepth 100000 in
set_option linter.unusedSimpArgs false in
set_option linter.unusedVariables false in
theorem send_full {w : World} {S : Nat → Prop} {R M : Nat} {v : Value} {lim : Int} {s : Nat} {L : List Lt} {n : Nat} {C : Int → Int → Bool} (h : MlX w S R M v lim s L n C) (hl : 1 ≤ lim) (a b : Int) (t : ByteArray) (ea : adr a = true) (eb : adr b = true) (hc : C (min a b) (max a b) = false) (hf : lim ≤ (L.length : Int)) : Calls Try.prog 17 #[.pointer (some ⟨R, 0, none⟩), .int .i64 a, .int .i64 b, .string t] w fun e w' => e = .returned (.tuple #[.int .i64 0, .int .i64 130]) ∧ Below w.heap.size w w' := by
  have NO := hide (none_any h hl)
  have IC := isCut_any h a b ea eb
  rw [hc] at IC
  have IC := hide IC
  have HX := hide h
  clear h hc
  go_enter Try.func17, Try.ntmps17
  go_wp2_with (first | (go_at_call 15; refine Calls.mono NO.out ?_; rintro e w1 ⟨rfl, rfl⟩) | (go_at_call 36; refine Calls.mono (isAddress_any _ _) ?_; rintro e w1 ⟨rfl, rfl⟩) | (go_at_call 37; refine Calls.mono IC.out ?_; rintro e w2 ⟨rfl, hb2⟩) | (go_at_call 38; refine Calls.mono (isFull_any (HX.out.below hb2)) ?_; rintro e w3 ⟨rfl, hb3⟩))
  go_ret2
  exact ⟨rfl, hb2.trans (hb3.mono hb2.size)⟩
set_option maxHeartbeats 4000000 in
set_option maxRecDepth 100000 in
set_option linter.unusedSimpArgs false in
set_option linter.unusedVariables false in
theorem send_ok {w : World} {S : Nat → Prop} {R M : Nat} {v : Value} {lim : Int} {s : Nat} {L : List Lt} {n : Nat} {C : Int → Int → Bool} (h : MlX w S R M v lim s L n C) (hl : 1 ≤ lim) (a b : Int) (t : ByteArray) (ea : adr a = true) (eb : adr b = true) (hc : C (min a b) (max a b) = false) (hf : ¬ lim ≤ (L.length : Int)) (hlm : lim ≤ 1024) (hs : s ≤ 1125899906842624) (ht : t.size ≤ 281474976710656) : Calls Try.prog 17 #[.pointer (some ⟨R, 0, none⟩), .int .i64 a, .int .i64 b, .string t] w fun e w' => e = .returned (.tuple #[.int .i64 ((s : Int) + 1), .int .i64 0]) ∧ ∃ v' S', MlX w' S' R M v' lim (s + 1) (L ++ [⟨(s : Int) + 1, a, b, t⟩]) n C ∧ Kp w w' S ∧ (∀ k, S' k → S k ∨ w.heap.size ≤ k) := by
  have NO := hide (none_any h hl)
  have IC := isCut_any h a b ea eb
  rw [hc] at IC
  have IC := hide IC
  have HX := hide h
  clear h hc
  have hL : L.length ≤ 1048576 := by omega
  go_enter Try.func17, Try.ntmps17
  go_wp2_with (first | (go_at_call 15; refine Calls.mono NO.out ?_; rintro e w1 ⟨rfl, rfl⟩) | (go_at_call 36; refine Calls.mono (isAddress_any _ _) ?_; rintro e w1 ⟨rfl, rfl⟩) | (go_at_call 37; refine Calls.mono IC.out ?_; rintro e w2 ⟨rfl, hb2⟩) | (go_at_call 38; refine Calls.mono (isFull_any (HX.out.below hb2)) ?_; rintro e w3 ⟨rfl, hb3⟩) | (go_at_call 40; refine Calls.mono (clone_any _ _ ht) ?_; rintro e w4 ⟨rfl, hb4⟩) | (go_at_call 39; refine Calls.mono (setOff_any ((HX.out.below (hb2.trans (hb3.mono hb2.size))).below hb4) a b t hL hs) ?_; rintro e w5 ⟨rfl, v', S', hX, hK, hN⟩))
  go_ret2
  have b4 : Below w.heap.size w w4 := (hb2.trans (hb3.mono hb2.size)).trans (hb4.mono (Nat.le_trans hb2.size hb3.size))
  exact ⟨rfl, v', S', hX, (Kp.of_below b4 S).trans hK (fun k e => Or.inl e), fun k e => by rcases hN k e with a | a; exact Or.inl a; exact Or.inr (Nat.le_trans b4.size a)⟩
end Go.Proofs.Ytnphdbmacccblab
