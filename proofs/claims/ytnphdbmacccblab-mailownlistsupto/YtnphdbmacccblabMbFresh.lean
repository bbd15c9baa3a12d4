import Derived.Test.YtnphdbmacccblabMbPl
namespace Go.Proofs.Ytnphdbmacccblab
open Go.RowKit
theorem cutC_nil : cutC [] = fun _ _ => false := by
  funext a b
  simp [cutC, cutF]
theorem good_new {lim : Int} (h : limOk lim) : DGood ⟨lim, [], []⟩ := ⟨h.1, h.2, by have := h.1; show (0 : Int) ≤ lim; omega, fun y hy => by simp at hy, fun t ht => by simp at ht⟩
theorem BnB.c {w : World} {B : Nat} {p0 p1 q0 q1 : Value} (h : BnB w B p0 p1 q0 q1) : w.cell? ⟨B, 0, none⟩ = some p0 ∧ w.cell? ⟨B, 1, none⟩ = some p1 ∧ w.cell? ⟨B, 2, none⟩ = some q0 ∧ w.cell? ⟨B, 3, none⟩ = some q1 := by
  unfold World.cell?
  rw [h]
  exact ⟨rfl, rfl, rfl, rfl⟩
theorem BnB.fz {w : World} {B : Nat} {p0 p1 q0 q1 : Value} (h : BnB w B p0 p1 q0 q1) (j : Nat) : w.frozen? ⟨B, j, none⟩ = false := by unfold World.frozen?; rw [h]; simp
theorem BnB.below {w w' : World} {B : Nat} {p0 p1 q0 q1 : Value} (h : BnB w B p0 p1 q0 q1) (hb : Below w.heap.size w w') : BnB w' B p0 p1 q0 q1 := (hb.block _ (blk_lt h)).trans h
/-- what fresh leaves at its place -/
def Frs (w w' : World) (B : Nat) (S : Nat → Prop) (p q : Value) (lim : Int) : Prop := Pl w' S p q 0 ∧ (limOk lim → p ≠ .pointer none ∧ q ≠ .pointer none) ∧ (¬ limOk lim → p = .pointer none ∧ q = .pointer none) ∧ Kp w w' (fun k => k = B) ∧ ∀ k, S k → w.heap.size ≤ k ∧ k < w'.heap.size
set_option maxHeartbeats 8000000 in
set_option maxRecDepth 100000 in
set_option linter.unusedSimpArgs false in
set_option linter.unusedVariables false in
theorem fresh0_bad {w : World} {B : Nat} {a0 a1 c0 c1 : Option Addr} (h : BnB w B (.pointer a0) (.pointer a1) (.pointer c0) (.pointer c1)) (lim : Int) (hl : ¬ limOk lim) :
    Calls Try.prog 12 #[.pointer (some ⟨B, 0, none⟩), .int .i64 0, .int .i64 lim] w fun e w' => e = .returned (.bool true) ∧ ∃ S p q, BnB w' B p (.pointer a1) q (.pointer c1) ∧ Frs w w' B S p q lim := by
  have NB := hide (new_bad lim w hl)
  have RB := hide (rnew_bad lim w hl)
  obtain ⟨k0, k1, k2, k3⟩ := h.c
  have z0 := h.fz 0
  have z1 := h.fz 2
  have HB := hide h
  have HL := hide hl
  clear h hl
  go_enter Try.func12, Try.ntmps12
  go_wp2_with (first | (go_at_call 34; refine Calls.mono NB.out ?_; rintro e w8 ⟨rfl, rfl⟩) | (go_at_call 35; refine Calls.mono RB.out ?_; rintro e w8 ⟨rfl, rfl⟩) | (go_at_call 19; refine Calls.mono (num_any _ _) ?_; rintro e w8 ⟨rfl, rfl⟩))
  go_ret
  refine ⟨by simp, non, .pointer none, .pointer none, heap_setCell _ _ _ _ _ _ _ (heap_setCell _ _ _ _ _ _ _ HB.out), Or.inl ⟨rfl, rfl⟩, fun h => absurd h HL.out, fun _ => ⟨rfl, rfl⟩, Kp.set (S := fun k => k = B) (Kp.set (S := fun k => k = B) (Kp.refl w _) (Or.inl rfl) _ _) (Or.inl rfl) _ _, fun k e => e.elim⟩
set_option maxHeartbeats 8000000 in
set_option maxRecDepth 100000 in
set_option linter.unusedSimpArgs false in
set_option linter.unusedVariables false in
theorem fresh0_ok {w : World} {B : Nat} {a0 a1 c0 c1 : Option Addr} (h : BnB w B (.pointer a0) (.pointer a1) (.pointer c0) (.pointer c1)) (lim : Int) (hl : limOk lim) :
    Calls Try.prog 12 #[.pointer (some ⟨B, 0, none⟩), .int .i64 0, .int .i64 lim] w fun e w' => e = .returned (.bool true) ∧ ∃ S p q, BnB w' B p (.pointer a1) q (.pointer c1) ∧ Frs w w' B S p q lim := by
  have NB := hide (new_any lim w hl)
  have HB := hide h
  have HL := hide hl
  clear h hl
  go_enter Try.func12, Try.ntmps12
  go_wp2_with (first | (go_at_call 34; refine Calls.mono NB.out ?_; rintro e w1 ⟨rfl, S1, M, v, m1, b1, n1⟩))
  obtain ⟨R, hR⟩ : ∃ R, R = w.heap.size + 1 := ⟨_, rfl⟩
  rw [← hR] at m1 ⊢
  clear hR
  have M1 := hide m1
  have B1 := hide b1
  have N1 := hide n1
  have RB := hide (rnew_any lim w1 HL.out)
  clear m1 b1 n1 NB
  go_wp2_with fail
  refine Calls.mono RB.out ?_
  rintro e w2 ⟨rfl, r2, b2⟩
  obtain ⟨Q, hQ⟩ : ∃ Q, Q = w1.heap.size := ⟨_, rfl⟩
  rw [← hQ] at r2 ⊢
  have HQ := hide hQ
  have R2 := hide r2
  have M2 := hide (M1.out.below b2)
  have B2 : Hid (Below w.heap.size w w2) := B1.out.trans (b2.mono B1.out.size)
  have HB2 := hide (HB.out.below B2.out)
  have S1B := hide M1.out.sb
  clear r2 b2 hQ RB B1 M1
  obtain ⟨k0, k1, k2, k3⟩ := HB2.out.c
  have z0 := HB2.out.fz 0
  have z1 := HB2.out.fz 2
  go_wp2_with (first | (go_at_call 19; refine Calls.mono (num_any _ _) ?_; rintro e w8 ⟨rfl, rfl⟩))
  go_ret
  have nB1 : ∀ k, S1 k → ¬ k = B := fun k e e2 => by have := N1.out k e; have := blk_lt HB.out; omega
  have nB2 : ∀ k, k = Q → ¬ k = B := fun k e e2 => by have := blk_lt HB.out; have := HQ.out; have := S1B.out; subst e; subst e2; have := M2.out.sb; have h1 := N1.out R M2.out.sR; have h2 := S1B.out R M2.out.sR; omega
  have kB : Kp w2 ((w2.setCell ⟨B, 0, none⟩ (.pointer (some ⟨R, 0, none⟩))).setCell ⟨B, 2, none⟩ (.pointer (some ⟨Q, 0, none⟩))) (fun k => k = B) := Kp.set (S := fun k => k = B) (Kp.set (S := fun k => k = B) (Kp.refl w2 _) (Or.inl rfl) _ _) (Or.inl rfl) _ _
  have m3 := M2.out.kp kB nB1
  have r3 := R2.out.kp kB nB2
  refine ⟨by simp, fun k => S1 k ∨ k = Q, .pointer (some ⟨R, 0, none⟩), .pointer (some ⟨Q, 0, none⟩), heap_setCell _ _ _ _ _ _ _ (heap_setCell _ _ _ _ _ _ _ HB2.out), Or.inr ⟨R, Q, ⟨lim, [], []⟩, rfl, rfl, ⟨S1, fun k => k = Q, 0, ⟨M, v, ?_⟩, Nat.le_refl _, ⟨_, _, _, r3⟩, fun k e e2 => ?_, fun k => Iff.rfl⟩, good_new HL.out, Nat.le_refl _, Nat.le_refl _⟩, fun _ => ⟨by simp, by simp⟩, fun h => absurd HL.out h, (Kp.of_below B2.out _).trans kB (fun k e => Or.inl e), ?_⟩
  · show MlX _ S1 R M v lim 0 [] 0 (cutC [])
    rw [cutC_nil]
    exact m3
  · have := S1B.out k e
    have := HQ.out
    omega
  · rintro k (e | e)
    · exact ⟨N1.out k e, m3.sb k e⟩
    · subst e
      exact ⟨by have h1 := N1.out R M2.out.sR; have h2 := S1B.out R M2.out.sR; have := HQ.out; omega, r3.sb _ rfl⟩
theorem fresh0_any {w : World} {B : Nat} {a0 a1 c0 c1 : Option Addr} (h : BnB w B (.pointer a0) (.pointer a1) (.pointer c0) (.pointer c1)) (lim : Int) :
    Calls Try.prog 12 #[.pointer (some ⟨B, 0, none⟩), .int .i64 0, .int .i64 lim] w fun e w' => e = .returned (.bool true) ∧ ∃ S p q, BnB w' B p (.pointer a1) q (.pointer c1) ∧ Frs w w' B S p q lim := by
  by_cases hl : limOk lim
  · exact fresh0_ok h lim hl
  · exact fresh0_bad h lim hl
set_option maxHeartbeats 8000000 in
set_option maxRecDepth 100000 in
set_option linter.unusedSimpArgs false in
set_option linter.unusedVariables false in
theorem fresh1_bad {w : World} {B : Nat} {a0 a1 c0 c1 : Option Addr} (h : BnB w B (.pointer a0) (.pointer a1) (.pointer c0) (.pointer c1)) (lim : Int) (hl : ¬ limOk lim) :
    Calls Try.prog 12 #[.pointer (some ⟨B, 0, none⟩), .int .i64 1, .int .i64 lim] w fun e w' => e = .returned (.bool true) ∧ ∃ S p q, BnB w' B (.pointer a0) p (.pointer c0) q ∧ Frs w w' B S p q lim := by
  have NB := hide (new_bad lim w hl)
  have RB := hide (rnew_bad lim w hl)
  obtain ⟨k0, k1, k2, k3⟩ := h.c
  have z0 := h.fz 1
  have z1 := h.fz 3
  have HB := hide h
  have HL := hide hl
  clear h hl
  go_enter Try.func12, Try.ntmps12
  go_wp2_with (first | (go_at_call 34; refine Calls.mono NB.out ?_; rintro e w8 ⟨rfl, rfl⟩) | (go_at_call 35; refine Calls.mono RB.out ?_; rintro e w8 ⟨rfl, rfl⟩) | (go_at_call 19; refine Calls.mono (num_any _ _) ?_; rintro e w8 ⟨rfl, rfl⟩))
  go_ret
  refine ⟨by simp, non, .pointer none, .pointer none, heap_setCell _ _ _ _ _ _ _ (heap_setCell _ _ _ _ _ _ _ HB.out), Or.inl ⟨rfl, rfl⟩, fun h => absurd h HL.out, fun _ => ⟨rfl, rfl⟩, Kp.set (S := fun k => k = B) (Kp.set (S := fun k => k = B) (Kp.refl w _) (Or.inl rfl) _ _) (Or.inl rfl) _ _, fun k e => e.elim⟩
set_option maxHeartbeats 8000000 in
set_option maxRecDepth 100000 in
set_option linter.unusedSimpArgs false in
set_option linter.unusedVariables false in
theorem fresh1_ok {w : World} {B : Nat} {a0 a1 c0 c1 : Option Addr} (h : BnB w B (.pointer a0) (.pointer a1) (.pointer c0) (.pointer c1)) (lim : Int) (hl : limOk lim) :
    Calls Try.prog 12 #[.pointer (some ⟨B, 0, none⟩), .int .i64 1, .int .i64 lim] w fun e w' => e = .returned (.bool true) ∧ ∃ S p q, BnB w' B (.pointer a0) p (.pointer c0) q ∧ Frs w w' B S p q lim := by
  have NB := hide (new_any lim w hl)
  have HB := hide h
  have HL := hide hl
  clear h hl
  go_enter Try.func12, Try.ntmps12
  go_wp2_with (first | (go_at_call 34; refine Calls.mono NB.out ?_; rintro e w1 ⟨rfl, S1, M, v, m1, b1, n1⟩))
  obtain ⟨R, hR⟩ : ∃ R, R = w.heap.size + 1 := ⟨_, rfl⟩
  rw [← hR] at m1 ⊢
  clear hR
  have M1 := hide m1
  have B1 := hide b1
  have N1 := hide n1
  have RB := hide (rnew_any lim w1 HL.out)
  clear m1 b1 n1 NB
  go_wp2_with fail
  refine Calls.mono RB.out ?_
  rintro e w2 ⟨rfl, r2, b2⟩
  obtain ⟨Q, hQ⟩ : ∃ Q, Q = w1.heap.size := ⟨_, rfl⟩
  rw [← hQ] at r2 ⊢
  have HQ := hide hQ
  have R2 := hide r2
  have M2 := hide (M1.out.below b2)
  have B2 : Hid (Below w.heap.size w w2) := B1.out.trans (b2.mono B1.out.size)
  have HB2 := hide (HB.out.below B2.out)
  have S1B := hide M1.out.sb
  clear r2 b2 hQ RB B1 M1
  obtain ⟨k0, k1, k2, k3⟩ := HB2.out.c
  have z0 := HB2.out.fz 1
  have z1 := HB2.out.fz 3
  go_wp2_with (first | (go_at_call 19; refine Calls.mono (num_any _ _) ?_; rintro e w8 ⟨rfl, rfl⟩))
  go_ret
  have nB1 : ∀ k, S1 k → ¬ k = B := fun k e e2 => by have := N1.out k e; have := blk_lt HB.out; omega
  have nB2 : ∀ k, k = Q → ¬ k = B := fun k e e2 => by have := blk_lt HB.out; have := HQ.out; have := S1B.out; subst e; subst e2; have := M2.out.sb; have h1 := N1.out R M2.out.sR; have h2 := S1B.out R M2.out.sR; omega
  have kB : Kp w2 ((w2.setCell ⟨B, 1, none⟩ (.pointer (some ⟨R, 0, none⟩))).setCell ⟨B, 3, none⟩ (.pointer (some ⟨Q, 0, none⟩))) (fun k => k = B) := Kp.set (S := fun k => k = B) (Kp.set (S := fun k => k = B) (Kp.refl w2 _) (Or.inl rfl) _ _) (Or.inl rfl) _ _
  have m3 := M2.out.kp kB nB1
  have r3 := R2.out.kp kB nB2
  refine ⟨by simp, fun k => S1 k ∨ k = Q, .pointer (some ⟨R, 0, none⟩), .pointer (some ⟨Q, 0, none⟩), heap_setCell _ _ _ _ _ _ _ (heap_setCell _ _ _ _ _ _ _ HB2.out), Or.inr ⟨R, Q, ⟨lim, [], []⟩, rfl, rfl, ⟨S1, fun k => k = Q, 0, ⟨M, v, ?_⟩, Nat.le_refl _, ⟨_, _, _, r3⟩, fun k e e2 => ?_, fun k => Iff.rfl⟩, good_new HL.out, Nat.le_refl _, Nat.le_refl _⟩, fun _ => ⟨by simp, by simp⟩, fun h => absurd HL.out h, (Kp.of_below B2.out _).trans kB (fun k e => Or.inl e), ?_⟩
  · show MlX _ S1 R M v lim 0 [] 0 (cutC [])
    rw [cutC_nil]
    exact m3
  · have := S1B.out k e
    have := HQ.out
    omega
  · rintro k (e | e)
    · exact ⟨N1.out k e, m3.sb k e⟩
    · subst e
      exact ⟨by have h1 := N1.out R M2.out.sR; have h2 := S1B.out R M2.out.sR; have := HQ.out; omega, r3.sb _ rfl⟩
theorem fresh1_any {w : World} {B : Nat} {a0 a1 c0 c1 : Option Addr} (h : BnB w B (.pointer a0) (.pointer a1) (.pointer c0) (.pointer c1)) (lim : Int) :
    Calls Try.prog 12 #[.pointer (some ⟨B, 0, none⟩), .int .i64 1, .int .i64 lim] w fun e w' => e = .returned (.bool true) ∧ ∃ S p q, BnB w' B (.pointer a0) p (.pointer c0) q ∧ Frs w w' B S p q lim := by
  by_cases hl : limOk lim
  · exact fresh1_ok h lim hl
  · exact fresh1_bad h lim hl
theorem bn_of {w w1 w2 : World} {B : Nat} {S0 S1 : Nat → Prop} {p0 p1 q0 q1 : Value} {l0 l1 : Int} (hB : B < w.heap.size) (h0 : Frs w w1 B S0 p0 q0 l0) (h1 : Frs w1 w2 B S1 p1 q1 l1) (hb : BnB w2 B p0 p1 q0 q1) : Bn w2 (fun k => k < w.heap.size ∧ k ≠ B) B 0 ∧ Kp w w2 (fun k => k = B) := by
  obtain ⟨a1, a2, a3, a4, a5⟩ := h0
  obtain ⟨b1, b2, b3, b4, b5⟩ := h1
  refine ⟨⟨p0, p1, q0, q1, S0, S1, hb, a1.kp b4 (fun k e e2 => by have := a5 k e; omega), b1, fun k e e2 => by have := a5 k e; have := b5 k e2; omega, fun k e => ?_, fun e => e.2 rfl, fun k e => by have := a4.size; have := b4.size; omega⟩, a4.trans b4 (fun _ e => Or.inl e)⟩
  rcases e with e | e
  · have := a5 k e
    have := b4.size
    exact ⟨by omega, by omega, by omega⟩
  · have := b5 k e
    have := a4.size
    exact ⟨by omega, by omega, by omega⟩
theorem frs_again {w w1 w2 : World} {B : Nat} {S S' : Nat → Prop} {p q p' q' : Value} {l l' : Int} (h0 : Frs w w1 B S p q l) (h1 : Frs w1 w2 B S' p' q' l') : Frs w w2 B S' p' q' l' :=
  ⟨h1.1, h1.2.1, h1.2.2.1, h0.2.2.2.1.trans h1.2.2.2.1 (fun _ e => Or.inl e), fun k e => ⟨Nat.le_trans h0.2.2.2.1.size (h1.2.2.2.2 k e).1, (h1.2.2.2.2 k e).2⟩⟩
set_option maxHeartbeats 8000000 in
set_option maxRecDepth 100000 in
set_option linter.unusedSimpArgs false in
set_option linter.unusedVariables false in
theorem begins_any {w : World} {B : Nat} (h : BnB w B (.pointer none) (.pointer none) (.pointer none) (.pointer none)) (lim : Int) :
    Calls Try.prog 4 #[.pointer (some ⟨B, 0, none⟩), .int .i64 lim] w fun e w' => e = .returned (.bool true) ∧ Bn w' (fun k => k < w.heap.size ∧ k ≠ B) B 0 ∧ Kp w w' (fun k => k = B) := by
  have F0 := hide (fresh0_any h lim)
  have hB := blk_lt h
  clear h
  by_cases hl : limOk lim
  case pos =>
    go_enter Try.func4, Try.ntmps4
    go_wp2_with fail
    refine Calls.mono F0.out ?_
    rintro e w1 ⟨rfl, S0, p0, q0, hb1, fr1⟩
    obtain ⟨⟨x0, rfl⟩, ⟨y0, rfl⟩⟩ := fr1.1.ptr
    have hy : y0 ≠ none := fun e => (fr1.2.1 hl).2 (by rw [e])
    obtain ⟨ad, rfl⟩ := Option.ne_none_iff_exists'.1 hy
    have F1 := hide (fresh1_any hb1 lim)
    have FR1 := hide fr1
    have k2 := hb1.c.2.2.1
    clear hy fr1 hb1 hl F0
    go_wp2_with fail
    refine Calls.mono F1.out ?_
    rintro e w2 ⟨rfl, S1, p1, q1, hb2, fr2⟩
    have Z := hide (bn_of hB FR1.out fr2 hb2)
    clear fr2 hb2 FR1 F1 k2
    go_wp2_with fail
    go_ret
    exact ⟨rfl, Z.out⟩
  case neg =>
    go_enter Try.func4, Try.ntmps4
    go_wp2_with fail
    refine Calls.mono F0.out ?_
    rintro e w1 ⟨rfl, S0, p0, q0, hb1, fr1⟩
    obtain ⟨rfl, rfl⟩ := fr1.2.2.1 hl
    have F5 := hide (fresh0_any hb1 5)
    have FR1 := hide fr1
    have k2 := hb1.c.2.2.1
    clear fr1 hb1 hl F0
    go_wp2_with fail
    refine Calls.mono F5.out ?_
    rintro e w2 ⟨rfl, S2, p2, q2, hb2, fr2⟩
    obtain ⟨⟨x0, rfl⟩, ⟨y0, rfl⟩⟩ := fr2.1.ptr
    have F1 := hide (fresh1_any hb2 lim)
    have FR2 := hide (frs_again FR1.out fr2)
    clear fr2 hb2 F5 k2 FR1
    go_wp2_with fail
    refine Calls.mono F1.out ?_
    rintro e w3 ⟨rfl, S1, p1, q1, hb3, fr3⟩
    have Z := hide (bn_of hB FR2.out fr3 hb3)
    clear fr3 hb3 FR2 F1
    go_wp2_with fail
    go_ret
    exact ⟨rfl, Z.out⟩
end Go.Proofs.Ytnphdbmacccblab
