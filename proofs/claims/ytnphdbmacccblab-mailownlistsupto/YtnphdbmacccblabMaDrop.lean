import Derived.Test.YtnphdbmacccblabMaDeliver
namespace Go.Proofs.Ytnphdbmacccblab
open Go.RowKit
set_option maxHeartbeats 4000000 in
set_option maxRecDepth 100000 in
set_option linter.unusedSimpArgs false in
set_option linter.unusedVariables false in
theorem drop_nil (i : Int) (w : World) : Calls Try.prog 22 #[.pointer none, .int .i64 i] w fun e w' => e = .returned (.int .i64 2) ∧ w = w' := by
  have NO := hide (none_nil w)
  go_enter Try.func22, Try.ntmps22
  go_wp2_with (first | (go_at_call 15; refine Calls.mono NO.out ?_; rintro e w9 ⟨rfl, rfl⟩))
  go_ret
  exact ⟨rfl, rfl⟩
set_option maxHeartbeats 4000000 in
set_option maxRecDepth 100000 in
set_option linter.unusedSimpArgs false in
set_option linter.unusedVariables false in
theorem copy_nil (i : Int) (w : World) : Calls Try.prog 24 #[.pointer none, .int .i64 i] w fun e w' => e = .returned (.int .i64 2) ∧ w = w' := by
  have NO := hide (none_nil w)
  go_enter Try.func24, Try.ntmps24
  go_wp2_with (first | (go_at_call 15; refine Calls.mono NO.out ?_; rintro e w9 ⟨rfl, rfl⟩))
  go_ret
  exact ⟨rfl, rfl⟩
set_option maxHeartbeats 4000000 in
set_option maxRecDepth 100000 in
set_option linter.unusedSimpArgs false in
set_option linter.unusedVariables false in
theorem drop_no {w : World} {S : Nat → Prop} {R M : Nat} {v : Value} {lim : Int} {s : Nat} {L : List Lt} {n : Nat} {C : Int → Int → Bool} (h : MlX w S R M v lim s L n C) (hl : 1 ≤ lim) (i : Int) (hi : ¬ okI L i) : Calls Try.prog 22 #[.pointer (some ⟨R, 0, none⟩), .int .i64 i] w fun e w' => e = .returned (.int .i64 131) ∧ Below w.heap.size w w' := by
  have NO := hide (none_any h hl)
  have TK := hide (take_no h i hi)
  clear h
  go_enter Try.func22, Try.ntmps22
  go_wp2_with (first | (go_at_call 15; refine Calls.mono NO.out ?_; rintro e w9 ⟨rfl, rfl⟩) | (go_at_call 45; refine Calls.mono TK.out ?_; rintro e w1 ⟨rfl, hb1⟩; unfold Lt.v; (try simp only [noL])))
  go_ret
  exact ⟨rfl, hb1.alloc hb1.size _⟩
set_option maxHeartbeats 4000000 in
set_option maxRecDepth 100000 in
set_option linter.unusedSimpArgs false in
set_option linter.unusedVariables false in
theorem drop_ok {w : World} {S : Nat → Prop} {R M : Nat} {v : Value} {lim : Int} {s : Nat} {L : List Lt} {n : Nat} {C : Int → Int → Bool} (h : MlX w S R M v lim s L n C) (hl : 1 ≤ lim) (hL : L.length ≤ 1048576) (i : Int) (hi : okI L i) : Calls Try.prog 22 #[.pointer (some ⟨R, 0, none⟩), .int .i64 i] w fun e w' => e = .returned (.int .i64 0) ∧ ∃ v', MlX w' S R M v' lim s (L.eraseIdx i.toNat) n C ∧ Kp w w' S := by
  have NO := hide (none_any h hl)
  have TK := hide (take_ok h i hi hL)
  clear h
  generalize ltI L i = xx at *
  go_enter Try.func22, Try.ntmps22
  go_wp2_with (first | (go_at_call 15; refine Calls.mono NO.out ?_; rintro e w9 ⟨rfl, rfl⟩) | (go_at_call 45; refine Calls.mono TK.out ?_; rintro e w1 ⟨rfl, hb1⟩; unfold Lt.v; (try simp only [noL])))
  go_ret
  obtain ⟨v', H1, K1⟩ := hb1
  exact ⟨rfl, v', H1.alloc _, K1.alloc _⟩
set_option maxHeartbeats 4000000 in
set_option maxRecDepth 100000 in
set_option linter.unusedSimpArgs false in
set_option linter.unusedVariables false in
theorem copy_no {w : World} {S : Nat → Prop} {R M : Nat} {v : Value} {lim : Int} {s : Nat} {L : List Lt} {n : Nat} {C : Int → Int → Bool} (h : MlX w S R M v lim s L n C) (hl : 1 ≤ lim) (i : Int) (hi : ¬ okI L i) : Calls Try.prog 24 #[.pointer (some ⟨R, 0, none⟩), .int .i64 i] w fun e w' => e = .returned (.int .i64 131) ∧ Below w.heap.size w w' := by
  have NO := hide (none_any h hl)
  have AT := hide (bat_no h i hi)
  clear h
  go_enter Try.func24, Try.ntmps24
  go_wp2_with (first | (go_at_call 15; refine Calls.mono NO.out ?_; rintro e w9 ⟨rfl, rfl⟩) | (go_at_call 44; refine Calls.mono AT.out ?_; rintro e w1 ⟨rfl, hb1⟩; unfold Lt.v; (try simp only [noL])))
  go_ret
  exact ⟨rfl, hb1.alloc hb1.size _⟩
set_option maxHeartbeats 4000000 in
set_option maxRecDepth 100000 in
set_option linter.unusedSimpArgs false in
set_option linter.unusedVariables false in
theorem copy_full {w : World} {S : Nat → Prop} {R M : Nat} {v : Value} {lim : Int} {s : Nat} {L : List Lt} {n : Nat} {C : Int → Int → Bool} (h : MlX w S R M v lim s L n C) (hl : 1 ≤ lim) (i : Int) (hi : okI L i) (hf : lim ≤ (L.length : Int)) : Calls Try.prog 24 #[.pointer (some ⟨R, 0, none⟩), .int .i64 i] w fun e w' => e = .returned (.int .i64 130) ∧ Below w.heap.size w w' := by
  have NO := hide (none_any h hl)
  have AT := hide (bat_ok h i hi)
  have HX := hide h
  clear h
  generalize ltI L i = xx at *
  go_enter Try.func24, Try.ntmps24
  go_wp2_with (first | (go_at_call 15; refine Calls.mono NO.out ?_; rintro e w9 ⟨rfl, rfl⟩))
  refine Calls.mono AT.out ?_
  rintro e w1 ⟨rfl, hb1⟩
  obtain ⟨W2, hW2⟩ : ∃ W2, W2 = w1.alloc (.cells #[.int .i64 xx.id, .int .i64 xx.fr, .int .i64 xx.td, .string xx.tx] 53) := ⟨_, rfl⟩
  obtain ⟨J, hJ⟩ : ∃ J, J = w1.heap.size := ⟨_, rfl⟩
  have J2 : Hid (LtAt W2 J xx) := by subst hW2; subst hJ; exact heap_last w1 _
  have B2 : Hid (Below w.heap.size w W2) := by subst hW2; exact hb1.alloc hb1.size _
  have H2 := hide (HX.out.below B2.out)
  have IF := hide (isFull_any H2.out)
  clear hb1 HX AT NO
  unfold Lt.v
  go_upto_region 6 with fail
  rw [← hW2, ← hJ]
  clear hW2 hJ
  go_wp2_with fail
  refine Calls.mono IF.out ?_
  rintro e w3 ⟨rfl, hb3⟩
  go_wp2_with fail
  go_ret
  exact ⟨rfl, B2.out.trans (hb3.mono B2.out.size)⟩
set_option maxHeartbeats 4000000 in
set_option maxRecDepth 100000 in
set_option linter.unusedSimpArgs false in
set_option linter.unusedVariables false in
theorem copy_ok {w : World} {S : Nat → Prop} {R M : Nat} {v : Value} {lim : Int} {s : Nat} {L : List Lt} {n : Nat} {C : Int → Int → Bool} (h : MlX w S R M v lim s L n C) (hl : 1 ≤ lim) (hlm : lim ≤ 1024) (hs : s ≤ 1125899906842624) (i : Int) (hi : okI L i) (hf : ¬ lim ≤ (L.length : Int)) : Calls Try.prog 24 #[.pointer (some ⟨R, 0, none⟩), .int .i64 i] w fun e w' => e = .returned (.int .i64 0) ∧ ∃ v' S', MlX w' S' R M v' lim (s + 1) (L ++ [⟨(s : Int) + 1, (ltI L i).fr, (ltI L i).td, (ltI L i).tx⟩]) n C ∧ Kp w w' S ∧ (∀ k, S' k → S k ∨ w.heap.size ≤ k) := by
  have NO := hide (none_any h hl)
  have AT := hide (bat_ok h i hi)
  have HX := hide h
  clear h
  generalize ltI L i = xx at *
  go_enter Try.func24, Try.ntmps24
  go_wp2_with (first | (go_at_call 15; refine Calls.mono NO.out ?_; rintro e w9 ⟨rfl, rfl⟩))
  refine Calls.mono AT.out ?_
  rintro e w1 ⟨rfl, hb1⟩
  obtain ⟨W2, hW2⟩ : ∃ W2, W2 = w1.alloc (.cells #[.int .i64 xx.id, .int .i64 xx.fr, .int .i64 xx.td, .string xx.tx] 53) := ⟨_, rfl⟩
  obtain ⟨J, hJ⟩ : ∃ J, J = w1.heap.size := ⟨_, rfl⟩
  have J2 : Hid (LtAt W2 J xx) := by subst hW2; subst hJ; exact heap_last w1 _
  have B2 : Hid (Below w.heap.size w W2) := by subst hW2; exact hb1.alloc hb1.size _
  have H2 := hide (HX.out.below B2.out)
  have IF := hide (isFull_any H2.out)
  clear hb1 HX AT NO
  unfold Lt.v
  go_upto_region 6 with fail
  rw [← hW2, ← hJ]
  clear hW2 hJ
  go_wp2_with fail
  refine Calls.mono IF.out ?_
  rintro e w3 ⟨rfl, hb3⟩
  have J3 : Hid (LtAt w3 J xx) := (hb3.block _ (blk_lt J2.out)).trans J2.out
  have SO := hide (setOff_any (H2.out.below hb3) xx.fr xx.td xx.tx (by omega) hs)
  have B3 : Hid (Below w.heap.size w w3) := B2.out.trans (hb3.mono B2.out.size)
  have j1 := J3.out.c1
  have j2 := J3.out.c2
  have j3 := J3.out.c3
  clear hb3 B2 H2 J2 IF
  go_wp2_with fail
  refine Calls.mono SO.out ?_
  rintro e w4 ⟨rfl, v', S', H4, K4, N4⟩
  have HZ := hide H4
  have KZ : Hid (Kp w w4 S ∧ ∀ k, S' k → S k ∨ w.heap.size ≤ k) := ⟨(Kp.of_below B3.out S).trans K4 (fun k e => Or.inl e), fun k e => by rcases N4 k e with a | a; exact Or.inl a; exact Or.inr (Nat.le_trans B3.out.size a)⟩
  clear H4 K4 N4 SO j1 j2 j3
  go_wp2_with fail
  go_ret
  exact ⟨rfl, _, _, HZ.out, KZ.out.1, KZ.out.2⟩
end Go.Proofs.Ytnphdbmacccblab
