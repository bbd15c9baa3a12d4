import Derived.Test.YtnphdbmacccblabMbDuo
namespace Go.Proofs.Ytnphdbmacccblab
open Go.RowKit
/-- a mail of the program that holds d1, and beside it one of the document that holds d2 -/
def Two (w : World) (S : Nat → Prop) (R Q : Nat) (d1 d2 : DS) : Prop := ∃ S1 S2 n, Ml w S1 R (d1.st n) ∧ n ≤ d1.T.length ∧ Rf w S2 Q d2 ∧ (∀ k, S1 k → ¬ S2 k) ∧ (∀ k, S k ↔ S1 k ∨ S2 k)
theorem Two.sb {w : World} {S : Nat → Prop} {R Q : Nat} {d1 d2 : DS} (h : Two w S R Q d1 d2) : ∀ k, S k → k < w.heap.size := by
  obtain ⟨S1, S2, n, h1, _, h3, _, h5⟩ := h
  intro k hk
  rcases (h5 k).1 hk with a | a
  · exact h1.sb k a
  · exact h3.sb k a
theorem Two.kp {w w' : World} {S U : Nat → Prop} {R Q : Nat} {d1 d2 : DS} (h : Two w S R Q d1 d2) (hk : Kp w w' U) (hd : ∀ k, S k → ¬ U k) : Two w' S R Q d1 d2 := by
  obtain ⟨S1, S2, n, h1, h2, h3, h4, h5⟩ := h
  exact ⟨S1, S2, n, h1.kp hk (fun k e => hd k ((h5 k).2 (Or.inl e))), h2, h3.kp hk (fun k e => hd k ((h5 k).2 (Or.inr e))), h4, h5⟩
theorem Two.below {w w' : World} {S : Nat → Prop} {R Q : Nat} {d1 d2 : DS} (h : Two w S R Q d1 d2) (hb : Below w.heap.size w w') : Two w' S R Q d1 d2 := h.kp (Kp.of_below hb non) (fun _ _ f => f)
/-- the program's mail has made a step -/
theorem Two.prog {w : World} {S : Nat → Prop} {R Q : Nat} {d1 d2 d1' : DS} {f : FuncId} {args : Array Value} {r : Value} (h : Two w S R Q d1 d2)
    (hc : ∀ S1 n, Ml w S1 R (d1.st n) → n ≤ d1.T.length → Calls Try.prog f args w fun e w' => e = .returned r ∧ ∃ S1' n', Ml w' S1' R (d1'.st n') ∧ n' ≤ d1'.T.length ∧ Kp w w' S1 ∧ Nr w S1 S1') :
    Calls Try.prog f args w fun e w' => e = .returned r ∧ ∃ S', Two w' S' R Q d1' d2 ∧ Kp w w' S ∧ Nr w S S' := by
  obtain ⟨S1, S2, n, h1, h2, h3, h4, h5⟩ := h
  refine (hc S1 n h1 h2).mono ?_
  rintro e w' ⟨rfl, S1', n', m', hn', k', nr'⟩
  refine ⟨rfl, fun k => S1' k ∨ S2 k, ⟨S1', S2, n', m', hn', h3.kp k' (fun k e2 e1 => h4 k e1 e2), fun k e1 e2 => ?_, fun k => Iff.rfl⟩, k'.mono (fun k e => (h5 k).2 (Or.inl e)), fun k e => ?_⟩
  · rcases nr' k e1 with a | a
    · exact h4 k a e2
    · have := h3.sb k e2
      omega
  · rcases e with e | e
    · rcases nr' k e with a | a
      · exact Or.inl ((h5 k).2 (Or.inl a))
      · exact Or.inr a
    · exact Or.inl ((h5 k).2 (Or.inr e))
/-- the document's mail has made a step -/
theorem Two.doc {w : World} {S : Nat → Prop} {R Q : Nat} {d1 d2 d2' : DS} {f : FuncId} {args : Array Value} {r : Value} (h : Two w S R Q d1 d2)
    (hc : ∀ S2, Rf w S2 Q d2 → Calls Try.prog f args w fun e w' => e = .returned r ∧ ∃ S2', Rf w' S2' Q d2' ∧ Kp w w' S2 ∧ Nr w S2 S2') :
    Calls Try.prog f args w fun e w' => e = .returned r ∧ ∃ S', Two w' S' R Q d1 d2' ∧ Kp w w' S ∧ Nr w S S' := by
  obtain ⟨S1, S2, n, h1, h2, h3, h4, h5⟩ := h
  refine (hc S2 h3).mono ?_
  rintro e w' ⟨rfl, S2', m', k', nr'⟩
  refine ⟨rfl, fun k => S1 k ∨ S2' k, ⟨S1, S2', n, h1.kp k' (fun k e1 e2 => h4 k e1 e2), h2, m', fun k e1 e2 => ?_, fun k => Iff.rfl⟩, k'.mono (fun k e => (h5 k).2 (Or.inr e)), fun k e => ?_⟩
  · rcases nr' k e2 with a | a
    · exact h4 k e1 a
    · have := h1.sb k e1
      omega
  · rcases e with e | e
    · exact Or.inl ((h5 k).2 (Or.inl e))
    · rcases nr' k e with a | a
      · exact Or.inl ((h5 k).2 (Or.inr a))
      · exact Or.inr a
theorem sndD_T (d : DS) (a b : Int) (t : ByteArray) : (sndD d a b t).T = d.T := by unfold sndD; split <;> rfl
theorem dlvD_T (d : DS) (i : Int) : (dlvD d i).T = d.T := by unfold dlvD; split <;> rfl
theorem drpD_T (d : DS) (i : Int) : (drpD d i).T = d.T := by unfold drpD; split <;> rfl
theorem cpyD_T (d : DS) (i : Int) : (cpyD d i).T = d.T := by unfold cpyD; split <;> rfl
theorem sndD_A (d : DS) (a b : Int) (t : ByteArray) : (sndD d a b t).A.length ≤ d.A.length + 1 := by unfold sndD; split <;> simp
theorem dlvD_A (d : DS) (i : Int) : (dlvD d i).A.length ≤ d.A.length + 1 := by unfold dlvD; split <;> simp [kill_len]
theorem drpD_A (d : DS) (i : Int) : (drpD d i).A.length ≤ d.A.length + 1 := by unfold drpD; split <;> simp [kill_len]
theorem cpyD_A (d : DS) (i : Int) : (cpyD d i).A.length ≤ d.A.length + 1 := by unfold cpyD; split <;> simp
theorem cutD_T (d : DS) (a b : Int) (c : Bool) : (cutD d a b c).T.length ≤ d.T.length + 1 ∧ d.T.length ≤ (cutD d a b c).T.length ∧ (ckE a b = 0 → (cutD d a b c).T.length = d.T.length + 1) := by
  unfold cutD turnT
  split
  · simp
  · rename_i h
    exact ⟨by simp, by simp, fun e => absurd e h⟩
theorem DFit.s {d : DS} (f : DFit d) (n : Nat) : (d.st n).s ≤ 1125899906842624 := by
  have := f.a
  show d.A.length ≤ _
  omega
section
variable {w : World} {S : Nat → Prop} {R Q : Nat} {d d' : DS}
theorem p_send (h : Two w S R Q d d') (g : DGood d) (f : DFit d) (a b : Int) (t : ByteArray) (ht : t.size ≤ 281474976710656) : Calls Try.prog 17 #[.pointer (some ⟨R, 0, none⟩), .int .i64 a, .int .i64 b, .string t] w fun e w' => e = .returned (.tuple #[.int .i64 (sndN (d.st 0) a b), .int .i64 (sndE (d.st 0) a b)]) ∧ ∃ S', Two w' S' R Q (sndD d a b t) d' ∧ Kp w w' S ∧ Nr w S S' :=
  h.prog fun S1 n hm hn => (send_all hm (g.good n) a b t (f.s n) ht).mono (by
    rintro e w' ⟨rfl, S', m', k', n'⟩
    rw [sndS_st] at m'
    exact ⟨rfl, S', n, m', by rw [sndD_T]; exact hn, k', n'⟩)
theorem q_send {d1 : DS} (h : Two w S R Q d1 d) (g : DGood d) (f : DFit d) (a b : Int) (t : ByteArray) : Calls Try.prog 18 #[.pointer (some ⟨Q, 0, none⟩), .int .i64 a, .int .i64 b, .string t] w fun e w' => e = .returned (.tuple #[.int .i64 (sndN (d.st 0) a b), .int .i64 (sndE (d.st 0) a b)]) ∧ ∃ S', Two w' S' R Q d1 (sndD d a b t) ∧ Kp w w' S ∧ Nr w S S' :=
  h.doc fun _ hm => rsend_all hm g f a b t
theorem p_deliver (h : Two w S R Q d d') (g : DGood d) (i : Int) : Calls Try.prog 20 #[.pointer (some ⟨R, 0, none⟩), .int .i64 i] w fun e w' => e = .returned (.tuple #[(dlvV (d.st 0) i).v, .int .i64 (dlvE (d.st 0) i)]) ∧ ∃ S', Two w' S' R Q (dlvD d i) d' ∧ Kp w w' S ∧ Nr w S S' :=
  h.prog fun S1 n hm hn => (deliver_all hm (g.good n) i).mono (by
    rintro e w' ⟨rfl, m', k'⟩
    rw [dlvS_st] at m'
    exact ⟨rfl, S1, n, m', by rw [dlvD_T]; exact hn, k', Nr.refl _ _⟩)
theorem q_deliver {d1 : DS} (h : Two w S R Q d1 d) (g : DGood d) (f : DFit d) (i : Int) (hi : i < 9223372036854775808) : Calls Try.prog 21 #[.pointer (some ⟨Q, 0, none⟩), .int .i64 i] w fun e w' => e = .returned (.tuple #[(dlvV (d.st 0) i).v, .int .i64 (dlvE (d.st 0) i)]) ∧ ∃ S', Two w' S' R Q d1 (dlvD d i) ∧ Kp w w' S ∧ Nr w S S' :=
  h.doc fun S2 hm => (rdeliver_all hm g f i hi).mono (by
    rintro e w' ⟨rfl, m', k'⟩
    exact ⟨rfl, S2, m', k', Nr.refl _ _⟩)
theorem p_drop (h : Two w S R Q d d') (g : DGood d) (i : Int) : Calls Try.prog 22 #[.pointer (some ⟨R, 0, none⟩), .int .i64 i] w fun e w' => e = .returned (.int .i64 (drpE (d.st 0) i)) ∧ ∃ S', Two w' S' R Q (drpD d i) d' ∧ Kp w w' S ∧ Nr w S S' :=
  h.prog fun S1 n hm hn => (drop_all hm (g.good n) i).mono (by
    rintro e w' ⟨rfl, m', k'⟩
    rw [drpS_st] at m'
    exact ⟨rfl, S1, n, m', by rw [drpD_T]; exact hn, k', Nr.refl _ _⟩)
theorem q_drop {d1 : DS} (h : Two w S R Q d1 d) (f : DFit d) (i : Int) (hi : i < 9223372036854775808) : Calls Try.prog 23 #[.pointer (some ⟨Q, 0, none⟩), .int .i64 i] w fun e w' => e = .returned (.int .i64 (drpE (d.st 0) i)) ∧ ∃ S', Two w' S' R Q d1 (drpD d i) ∧ Kp w w' S ∧ Nr w S S' :=
  h.doc fun S2 hm => (rdrop_all hm f i hi).mono (by
    rintro e w' ⟨rfl, m', k'⟩
    exact ⟨rfl, S2, m', k', Nr.refl _ _⟩)
theorem p_copy (h : Two w S R Q d d') (g : DGood d) (f : DFit d) (i : Int) : Calls Try.prog 24 #[.pointer (some ⟨R, 0, none⟩), .int .i64 i] w fun e w' => e = .returned (.int .i64 (cpyE (d.st 0) i)) ∧ ∃ S', Two w' S' R Q (cpyD d i) d' ∧ Kp w w' S ∧ Nr w S S' :=
  h.prog fun S1 n hm hn => (copy_all hm (g.good n) i (f.s n)).mono (by
    rintro e w' ⟨rfl, S', m', k', n'⟩
    rw [cpyS_st] at m'
    exact ⟨rfl, S', n, m', by rw [cpyD_T]; exact hn, k', n'⟩)
theorem q_copy {d1 : DS} (h : Two w S R Q d1 d) (f : DFit d) (i : Int) (hi : i < 9223372036854775808) : Calls Try.prog 25 #[.pointer (some ⟨Q, 0, none⟩), .int .i64 i] w fun e w' => e = .returned (.int .i64 (cpyE (d.st 0) i)) ∧ ∃ S', Two w' S' R Q d1 (cpyD d i) ∧ Kp w w' S ∧ Nr w S S' :=
  h.doc fun _ hm => rcopy_all hm f i hi
theorem p_cut (h : Two w S R Q d d') (g : DGood d) (f : DFit d) (a b : Int) : Calls Try.prog 26 #[.pointer (some ⟨R, 0, none⟩), .int .i64 a, .int .i64 b] w fun e w' => e = .returned (.int .i64 (ckE a b)) ∧ ∃ S', Two w' S' R Q (cutD d a b true) d' ∧ Kp w w' S ∧ Nr w S S' :=
  h.prog fun S1 n hm hn => (cut_all hm (g.good n) a b (by have := f.t; show n < _; unfold maxLen; omega)).mono (by
    rintro e w' ⟨rfl, m', k'⟩
    obtain ⟨n', hn1, hn2, e⟩ := cutS_st d n a b
    rw [e] at m'
    obtain ⟨t1, t2, t3⟩ := cutD_T d a b true
    refine ⟨rfl, S1, n', m', ?_, k', Nr.refl _ _⟩
    rcases ckE_or a b with e1 | e1
    · rw [t3 e1]; omega
    · rw [hn2 (by omega)]; omega)
theorem q_cut {d1 : DS} (h : Two w S R Q d1 d) (f : DFit d) (a b : Int) : Calls Try.prog 27 #[.pointer (some ⟨Q, 0, none⟩), .int .i64 a, .int .i64 b] w fun e w' => e = .returned (.int .i64 (ckE a b)) ∧ ∃ S', Two w' S' R Q d1 (cutD d a b true) ∧ Kp w w' S ∧ Nr w S S' :=
  h.doc fun _ hm => rcutc_all hm f a b
theorem p_heal (h : Two w S R Q d d') (g : DGood d) (a b : Int) : Calls Try.prog 28 #[.pointer (some ⟨R, 0, none⟩), .int .i64 a, .int .i64 b] w fun e w' => e = .returned (.int .i64 (ckE a b)) ∧ ∃ S', Two w' S' R Q (cutD d a b false) d' ∧ Kp w w' S ∧ Nr w S S' :=
  h.prog fun S1 n hm hn => (heal_all hm (g.good n) a b).mono (by
    rintro e w' ⟨rfl, m', k'⟩
    rw [healS_st] at m'
    obtain ⟨t1, t2, t3⟩ := cutD_T d a b false
    exact ⟨rfl, S1, n, m', by omega, k', Nr.refl _ _⟩)
theorem q_heal {d1 : DS} (h : Two w S R Q d1 d) (f : DFit d) (a b : Int) : Calls Try.prog 29 #[.pointer (some ⟨Q, 0, none⟩), .int .i64 a, .int .i64 b] w fun e w' => e = .returned (.int .i64 (ckE a b)) ∧ ∃ S', Two w' S' R Q d1 (cutD d a b false) ∧ Kp w w' S ∧ Nr w S S' :=
  h.doc fun _ hm => rheal_all hm f a b
theorem p_flying (h : Two w S R Q d d') (g : DGood d) : Calls Try.prog 7 #[.pointer (some ⟨R, 0, none⟩)] w fun e w' => ∃ v, e = .returned v ∧ LL w' v (live d.A) ∧ Below w.heap.size w w' := by
  obtain ⟨S1, S2, n, ⟨M, v, hm⟩, _⟩ := h
  refine (flying_any hm g.l1 (g.good n).len).mono ?_
  rintro e w' ⟨rfl, hl, hb⟩
  exact ⟨_, rfl, LL.of_own (LsAt.own hl (by have := (g.good n).len; show (live d.A).length ≤ _; unfold maxLen; change (live d.A).length ≤ _ at this; omega)), hb⟩
theorem q_flying {d1 : DS} (h : Two w S R Q d1 d) (f : DFit d) : Calls Try.prog 9 #[.pointer (some ⟨Q, 0, none⟩)] w fun e w' => ∃ v, e = .returned v ∧ LL w' v (live d.A) ∧ Below w.heap.size w w' := by
  obtain ⟨S1, S2, n, _, _, hr, _⟩ := h
  refine (rflying_all hr f).mono ?_
  rintro e w' ⟨v, rfl, ho, hb⟩
  exact ⟨v, rfl, LL.of_own ho, hb⟩
theorem p_count (h : Two w S R Q d d') (g : DGood d) : Calls Try.prog 30 #[.pointer (some ⟨R, 0, none⟩)] w fun e w' => e = .returned (.int .i64 ((live d.A).length : Int)) ∧ w = w' := by
  obtain ⟨S1, S2, n, ⟨M, v, hm⟩, _⟩ := h
  exact mcount_any hm g.l1
theorem q_count {d1 : DS} (h : Two w S R Q d1 d) (f : DFit d) : Calls Try.prog 31 #[.pointer (some ⟨Q, 0, none⟩)] w fun e w' => e = .returned (.int .i64 ((live d.A).length : Int)) ∧ Below w.heap.size w w' := by
  obtain ⟨S1, S2, n, _, _, hr, _⟩ := h
  exact rcount_all hr f
theorem p_sent (h : Two w S R Q d d') (g : DGood d) : Calls Try.prog 32 #[.pointer (some ⟨R, 0, none⟩)] w fun e w' => e = .returned (.int .i64 (d.A.length : Int)) ∧ w = w' := by
  obtain ⟨S1, S2, n, ⟨M, v, hm⟩, _⟩ := h
  exact msent_any hm g.l1
theorem q_sent {d1 : DS} (h : Two w S R Q d1 d) : Calls Try.prog 33 #[.pointer (some ⟨Q, 0, none⟩)] w fun e w' => e = .returned (.int .i64 (d.A.length : Int)) ∧ w = w' := by
  obtain ⟨S1, S2, n, _, _, hr, _⟩ := h
  exact rsent_all hr
end
end Go.Proofs.Ytnphdbmacccblab
