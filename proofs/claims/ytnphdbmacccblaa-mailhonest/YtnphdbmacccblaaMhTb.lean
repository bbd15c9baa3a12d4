import Derived.Test.YtnphdbmacccblaaMhOut
namespace Go.Proofs.Ytnphdbmacccblaa
open Go.RowKit
/-- a mail of the program that holds d1, and beside it the book -/
def Tb (w : World) (S : Nat → Prop) (R Q : Nat) (d1 : DS) (A : AB) : Prop := ∃ S1 S2 n, Ml w S1 R (d1.st n) ∧ n ≤ d1.T.length ∧ Bo w S2 Q A ∧ (∀ k, S1 k → ¬ S2 k) ∧ (∀ k, S k ↔ S1 k ∨ S2 k)
theorem Tb.sb {w : World} {S : Nat → Prop} {R Q : Nat} {d1 : DS} {A : AB} (h : Tb w S R Q d1 A) : ∀ k, S k → k < w.heap.size := by
  obtain ⟨S1, S2, n, h1, _, h3, _, h5⟩ := h
  intro k hk
  rcases (h5 k).1 hk with a | a
  · exact h1.sb k a
  · exact h3.sb k a
theorem Tb.kp {w w' : World} {S U : Nat → Prop} {R Q : Nat} {d1 : DS} {A : AB} (h : Tb w S R Q d1 A) (hk : Kp w w' U) (hd : ∀ k, S k → ¬ U k) : Tb w' S R Q d1 A := by
  obtain ⟨S1, S2, n, h1, h2, h3, h4, h5⟩ := h
  exact ⟨S1, S2, n, h1.kp hk (fun k e => hd k ((h5 k).2 (Or.inl e))), h2, h3.kp hk (fun k e => hd k ((h5 k).2 (Or.inr e))), h4, h5⟩
theorem Tb.below {w w' : World} {S : Nat → Prop} {R Q : Nat} {d1 : DS} {A : AB} (h : Tb w S R Q d1 A) (hb : Below w.heap.size w w') : Tb w' S R Q d1 A := h.kp (Kp.of_below hb non) (fun _ _ f => f)
/-- the program's mail has made a step -/
theorem Tb.prog {w : World} {S : Nat → Prop} {R Q : Nat} {d1 d1' : DS} {A : AB} {f : FuncId} {args : Array Value} {r : Value} (h : Tb w S R Q d1 A)
    (hc : ∀ S1 n, Ml w S1 R (d1.st n) → n ≤ d1.T.length → Calls Try.prog f args w fun e w' => e = .returned r ∧ ∃ S1' n', Ml w' S1' R (d1'.st n') ∧ n' ≤ d1'.T.length ∧ Kp w w' S1 ∧ Nr w S1 S1') :
    Calls Try.prog f args w fun e w' => e = .returned r ∧ ∃ S', Tb w' S' R Q d1' A ∧ Kp w w' S ∧ Nr w S S' := by
  obtain ⟨S1, S2, n, h1, h2, h3, h4, h5⟩ := h
  refine (hc S1 n h1 h2).mono ?_
  rintro e w' ⟨rfl, S1', n', m', hn', k', nr'⟩
  refine ⟨rfl, fun k => S1' k ∨ S2 k, ⟨S1', S2, n', m', hn', h3.kp k' (fun k e2 e1 => h4 k e1 e2), fun k e1 e2 => ?_, fun k => Iff.rfl⟩, k'.mono (fun k e => (h5 k).2 (Or.inl e)), fun k e => ?_⟩
  · rcases nr' k e1 with a | a
    · exact h4 k a e2
    · have := h3.sb k e2
      omega
  · rcases e with e | e
    · rcases nr' k e with a | a
      · exact Or.inl ((h5 k).2 (Or.inl a))
      · exact Or.inr a
    · exact Or.inl ((h5 k).2 (Or.inr e))
/-- a step of the book -/
theorem Tb.book {w : World} {S : Nat → Prop} {R Q : Nat} {d1 : DS} {A A' : AB} {f : FuncId} {args : Array Value} {r : Value} (h : Tb w S R Q d1 A)
    (hc : ∀ S2, Bo w S2 Q A → Calls Try.prog f args w fun e w' => e = .returned r ∧ ∃ S2', Bo w' S2' Q A' ∧ Kp w w' S2 ∧ Nr w S2 S2') :
    Calls Try.prog f args w fun e w' => e = .returned r ∧ ∃ S', Tb w' S' R Q d1 A' ∧ Kp w w' S ∧ Nr w S S' := by
  obtain ⟨S1, S2, n, h1, h2, h3, h4, h5⟩ := h
  refine (hc S2 h3).mono ?_
  rintro e w' ⟨rfl, S2', m', k', nr'⟩
  refine ⟨rfl, fun k => S1 k ∨ S2' k, ⟨S1, S2', n, h1.kp k' (fun k e1 e2 => h4 k e1 e2), h2, m', fun k e1 e2 => ?_, fun k => Iff.rfl⟩, k'.mono (fun k e => (h5 k).2 (Or.inr e)), fun k e => ?_⟩
  · rcases nr' k e2 with a | a
    · exact h4 k e1 a
    · have := h1.sb k e1
      omega
  · rcases e with e | e
    · exact Or.inl ((h5 k).2 (Or.inl e))
    · rcases nr' k e with a | a
      · exact Or.inl ((h5 k).2 (Or.inr a))
      · exact Or.inr a
section
variable {w : World} {S : Nat → Prop} {R Q : Nat} {d : DS} {A : AB}
theorem b_send (h : Tb w S R Q d A) (g : DGood d) (f : DFit d) (a b : Int) (t : ByteArray) (ht : t.size ≤ 281474976710656) : Calls Try.prog 11 #[.pointer (some ⟨R, 0, none⟩), .int .i64 a, .int .i64 b, .string t] w fun e w' => e = .returned (.tuple #[.int .i64 (sndN (d.st 0) a b), .int .i64 (sndE (d.st 0) a b)]) ∧ ∃ S', Tb w' S' R Q (sndD d a b t) A ∧ Kp w w' S ∧ Nr w S S' :=
  h.prog fun S1 n hm hn => (send_all hm (g.good n) a b t (f.s n) ht).mono (by
    rintro e w' ⟨rfl, S', m', k', n'⟩
    rw [sndS_st] at m'
    exact ⟨rfl, S', n, m', by rw [sndD_T]; exact hn, k', n'⟩)
theorem b_deliver (h : Tb w S R Q d A) (g : DGood d) (i : Int) : Calls Try.prog 12 #[.pointer (some ⟨R, 0, none⟩), .int .i64 i] w fun e w' => e = .returned (.tuple #[(dlvV (d.st 0) i).v, .int .i64 (dlvE (d.st 0) i)]) ∧ ∃ S', Tb w' S' R Q (dlvD d i) A ∧ Kp w w' S ∧ Nr w S S' :=
  h.prog fun S1 n hm hn => (deliver_all hm (g.good n) i).mono (by
    rintro e w' ⟨rfl, m', k'⟩
    rw [dlvS_st] at m'
    exact ⟨rfl, S1, n, m', by rw [dlvD_T]; exact hn, k', Nr.refl _ _⟩)
theorem b_drop (h : Tb w S R Q d A) (g : DGood d) (i : Int) : Calls Try.prog 16 #[.pointer (some ⟨R, 0, none⟩), .int .i64 i] w fun e w' => e = .returned (.int .i64 (drpE (d.st 0) i)) ∧ ∃ S', Tb w' S' R Q (drpD d i) A ∧ Kp w w' S ∧ Nr w S S' :=
  h.prog fun S1 n hm hn => (drop_all hm (g.good n) i).mono (by
    rintro e w' ⟨rfl, m', k'⟩
    rw [drpS_st] at m'
    exact ⟨rfl, S1, n, m', by rw [drpD_T]; exact hn, k', Nr.refl _ _⟩)
theorem b_copy (h : Tb w S R Q d A) (g : DGood d) (f : DFit d) (i : Int) : Calls Try.prog 17 #[.pointer (some ⟨R, 0, none⟩), .int .i64 i] w fun e w' => e = .returned (.int .i64 (cpyE (d.st 0) i)) ∧ ∃ S', Tb w' S' R Q (cpyD d i) A ∧ Kp w w' S ∧ Nr w S S' :=
  h.prog fun S1 n hm hn => (copy_all hm (g.good n) i (f.s n)).mono (by
    rintro e w' ⟨rfl, S', m', k', n'⟩
    rw [cpyS_st] at m'
    exact ⟨rfl, S', n, m', by rw [cpyD_T]; exact hn, k', n'⟩)
theorem b_cut (h : Tb w S R Q d A) (g : DGood d) (f : DFit d) (a b : Int) : Calls Try.prog 14 #[.pointer (some ⟨R, 0, none⟩), .int .i64 a, .int .i64 b] w fun e w' => e = .returned (.int .i64 (ckE a b)) ∧ ∃ S', Tb w' S' R Q (cutD d a b true) A ∧ Kp w w' S ∧ Nr w S S' :=
  h.prog fun S1 n hm hn => (cut_all hm (g.good n) a b (by have := f.t; show n < _; unfold maxLen; omega)).mono (by
    rintro e w' ⟨rfl, m', k'⟩
    obtain ⟨n', hn1, hn2, e⟩ := cutS_st d n a b
    rw [e] at m'
    obtain ⟨t1, t2, t3⟩ := cutD_T d a b true
    refine ⟨rfl, S1, n', m', ?_, k', Nr.refl _ _⟩
    rcases ckE_or a b with e1 | e1
    · rw [t3 e1]; omega
    · rw [hn2 (by omega)]; omega)
theorem b_heal (h : Tb w S R Q d A) (g : DGood d) (a b : Int) : Calls Try.prog 18 #[.pointer (some ⟨R, 0, none⟩), .int .i64 a, .int .i64 b] w fun e w' => e = .returned (.int .i64 (ckE a b)) ∧ ∃ S', Tb w' S' R Q (cutD d a b false) A ∧ Kp w w' S ∧ Nr w S S' :=
  h.prog fun S1 n hm hn => (heal_all hm (g.good n) a b).mono (by
    rintro e w' ⟨rfl, m', k'⟩
    rw [healS_st] at m'
    obtain ⟨t1, t2, t3⟩ := cutD_T d a b false
    exact ⟨rfl, S1, n, m', by omega, k', Nr.refl _ _⟩)
theorem b_flying (h : Tb w S R Q d A) (g : DGood d) : Calls Try.prog 23 #[.pointer (some ⟨R, 0, none⟩)] w fun e w' => ∃ v, e = .returned v ∧ LL w' v (live d.A) ∧ Below w.heap.size w w' := by
  obtain ⟨S1, S2, n, ⟨M, v, hm⟩, _⟩ := h
  refine (flying_any hm g.l1 (g.good n).len).mono ?_
  rintro e w' ⟨rfl, hl, hb⟩
  exact ⟨_, rfl, LL.of_own (LsAt.own hl (by have := (g.good n).len; show (live d.A).length ≤ _; unfold maxLen; change (live d.A).length ≤ _ at this; omega)), hb⟩
theorem b_count (h : Tb w S R Q d A) (g : DGood d) : Calls Try.prog 13 #[.pointer (some ⟨R, 0, none⟩)] w fun e w' => e = .returned (.int .i64 ((live d.A).length : Int)) ∧ w = w' := by
  obtain ⟨S1, S2, n, ⟨M, v, hm⟩, _⟩ := h
  exact mcount_any hm g.l1
theorem b_sent (h : Tb w S R Q d A) (g : DGood d) : Calls Try.prog 20 #[.pointer (some ⟨R, 0, none⟩)] w fun e w' => e = .returned (.int .i64 (d.A.length : Int)) ∧ w = w' := by
  obtain ⟨S1, S2, n, ⟨M, v, hm⟩, _⟩ := h
  exact msent_any hm g.l1
end
def IdsOk (A : AB) : Prop := ∀ k (h : k < A.length), A[k].1.id = (k : Int) + 1
theorem ids_snoc {A : AB} (h : IdsOk A) (a b : Int) (t : ByteArray) : IdsOk (A ++ [(⟨(A.length : Int) + 1, a, b, t⟩, false)]) := by
  intro k hk
  by_cases h1 : k < A.length
  · rw [List.getElem_append_left h1]
    exact h k h1
  · have e : k = A.length := by simp at hk; omega
    subst e
    simp
theorem ids_kill {A : AB} (h : IdsOk A) (i : Int) : IdsOk (killI A i) := by
  intro k hk
  have hk2 : k < A.length := by rw [kill_len] at hk; exact hk
  have e : ((killI A i).map (·.1))[k]? = (A.map (·.1))[k]? := by rw [kill_fst]
  simp only [List.getElem?_map, List.getElem?_eq_getElem hk, List.getElem?_eq_getElem hk2, Option.map_some, Option.some.injEq] at e
  rw [e]
  exact h k hk2
/-- what a step makes of a mail -/
noncomputable def stpD (d : DS) (k n m : Int) (s : ByteArray) : DS := if k = 1 then sndD d n m s else if k = 2 then dlvD d n else if k = 3 then drpD d n else if k = 4 then cpyD d n else if k = 5 then cutD d n m true else if k = 6 then cutD d n m false else d
theorem stp_ids {d : DS} (h : IdsOk d.A) (k n m : Int) (s : ByteArray) : IdsOk (stpD d k n m s).A := by
  unfold stpD
  split
  · unfold sndD; split
    · exact ids_snoc h _ _ _
    · exact h
  split
  · unfold dlvD; split
    · exact ids_kill h _
    · exact h
  split
  · unfold drpD; split
    · exact ids_kill h _
    · exact h
  split
  · unfold cpyD; split
    · exact ids_snoc h _ _ _
    · exact h
  split
  · exact h
  split
  · exact h
  · exact h
theorem stp_good {d : DS} (g : DGood d) (k n m : Int) (s : ByteArray) : DGood (stpD d k n m s) := by
  unfold stpD
  split
  · exact g.snd _ _ _
  split
  · exact g.dlv _
  split
  · exact g.drp _
  split
  · exact g.cpy _
  split
  · exact g.turn _ _ _
  split
  · exact g.turn _ _ _
  · exact g
theorem stp_len (d : DS) (k n m : Int) (s : ByteArray) : (stpD d k n m s).A.length ≤ d.A.length + 1 ∧ (stpD d k n m s).T.length ≤ d.T.length + 1 := by
  unfold stpD
  split
  · exact ⟨sndD_A _ _ _ _, by rw [sndD_T]; omega⟩
  split
  · exact ⟨dlvD_A _ _, by rw [dlvD_T]; omega⟩
  split
  · exact ⟨drpD_A _ _, by rw [drpD_T]; omega⟩
  split
  · exact ⟨cpyD_A _ _, by rw [cpyD_T]; omega⟩
  split
  · exact ⟨by show d.A.length ≤ _; omega, (cutD_T _ _ _ _).1⟩
  split
  · exact ⟨by show d.A.length ≤ _; omega, (cutD_T _ _ _ _).1⟩
  · omega
/-- what one step leaves -/
def StB (w : World) (S : Nat → Prop) (R Q : Nat) (d' : DS) (e : Ending) (w' : World) : Prop := e = .returned (.bool true) ∧ ∃ S', Tb w' S' R Q d' d'.A ∧ Kp w w' S ∧ Nr w S S'
theorem left_all {w : World} {S : Nat → Prop} {R Q : Nat} {d : DS} {A : AB} (h : Tb w S R Q d A) (hA : A.length ≤ 3298534883328) : Calls Try.prog 21 #[.pointer (some ⟨Q, 0, none⟩)] w fun e w' => ∃ v, e = .returned v ∧ w'.ownsRow w.heap.size 33 4 v (live A).length (ltc (live A)) ∧ Below w.heap.size w w' := by
  obtain ⟨S1, S2, n, _, _, ⟨vA, vG, hr⟩, _⟩ := h
  exact left_any hr hA
theorem note_all {w : World} {S : Nat → Prop} {R Q : Nat} {d : DS} {A : AB} (h : Tb w S R Q d A) (x : Lt) (hx : x.id = (A.length : Int) + 1) (hA : A.length ≤ 3298534883328) : Calls Try.prog 38 #[.pointer (some ⟨Q, 0, none⟩), x.v] w fun e w' => e = .returned (.bool true) ∧ ∃ S', Tb w' S' R Q d (A ++ [(x, false)]) ∧ Kp w w' S ∧ Nr w S S' :=
  h.book fun _ hm => note_any hm x hx hA
theorem out_all {w : World} {S : Nat → Prop} {R Q : Nat} {d : DS} {A : AB} (h : Tb w S R Q d A) (x : Lt) (k : Nat) (hk : k < A.length) (hx : A[k] = (x, false)) (hid : x.id = (k : Int) + 1) (hA : A.length ≤ 3298534883328) : Calls Try.prog 39 #[.pointer (some ⟨Q, 0, none⟩), x.v] w fun e w' => e = .returned (.bool true) ∧ ∃ S', Tb w' S' R Q d (A.set k (x, true)) ∧ Kp w w' S ∧ Nr w S S' :=
  h.book fun S2 hm => (out_any hm x k hk hx hid hA).mono (by
    rintro e w' ⟨rfl, m', k'⟩
    exact ⟨rfl, S2, m', k', Nr.refl _ _⟩)
end Go.Proofs.Ytnphdbmacccblaa
