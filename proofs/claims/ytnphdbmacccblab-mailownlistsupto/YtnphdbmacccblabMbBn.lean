import Derived.Test.YtnphdbmacccblabMbTwo
namespace Go.Proofs.Ytnphdbmacccblab
open Go.RowKit
/-- of the blocks b0 none is changed -/
structure Fr (b0 : Nat → Prop) (w w' : World) : Prop where
  os : w'.os = w.os
  tape : w'.tape = w.tape
  output : w'.output = w.output
  size : w.heap.size ≤ w'.heap.size
  block : ∀ k, k < w.heap.size → b0 k → w'.heap[k]? = w.heap[k]?
theorem Fr.refl (b0 : Nat → Prop) (w : World) : Fr b0 w w := ⟨rfl, rfl, rfl, Nat.le_refl _, fun _ _ _ => rfl⟩
theorem Fr.trans {b0 : Nat → Prop} {w w1 w2 : World} (h : Fr b0 w w1) (h' : Fr b0 w1 w2) : Fr b0 w w2 := ⟨h'.os.trans h.os, h'.tape.trans h.tape, h'.output.trans h.output, Nat.le_trans h.size h'.size, fun k hk hb => (h'.block k (Nat.lt_of_lt_of_le hk h.size) hb).trans (h.block k hk hb)⟩
theorem Fr.mono {b0 b1 : Nat → Prop} {w w' : World} (h : Fr b0 w w') (hb : ∀ k, b1 k → b0 k) : Fr b1 w w' := ⟨h.os, h.tape, h.output, h.size, fun k hk e => h.block k hk (hb k e)⟩
theorem Fr.of_below {w w' : World} (b0 : Nat → Prop) (h : Below w.heap.size w w') : Fr b0 w w' := ⟨h.os, h.tape, h.output, h.size, fun k hk _ => h.block k hk⟩
theorem Fr.of_kp {b0 S : Nat → Prop} {w w' : World} (h : Kp w w' S) (hd : ∀ k, b0 k → ¬ S k) : Fr b0 w w' := ⟨h.os, h.tape, h.output, h.size, fun k hk e => h.block k hk (hd k e)⟩
theorem Fr.kp {b0 : Nat → Prop} {w w' : World} (h : Fr b0 w w') : Kp w w' (fun k => ¬ b0 k) := ⟨h.os, h.tape, h.output, h.size, fun k hk e => h.block k hk (Classical.not_not.1 e)⟩
/-- a place of the bench: nothing, or two mails that hold the same -/
def Pl (w : World) (S : Nat → Prop) (p q : Value) (m : Nat) : Prop := (p = .pointer none ∧ q = .pointer none) ∨ ∃ R Q d, p = .pointer (some ⟨R, 0, none⟩) ∧ q = .pointer (some ⟨Q, 0, none⟩) ∧ Two w S R Q d d ∧ DGood d ∧ d.A.length ≤ m ∧ d.T.length ≤ m
theorem Pl.kp {w w' : World} {S U : Nat → Prop} {p q : Value} {m : Nat} (h : Pl w S p q m) (hk : Kp w w' U) (hd : ∀ k, S k → ¬ U k) : Pl w' S p q m := by
  rcases h with h | ⟨R, Q, d, h1, h2, h3, h4⟩
  · exact Or.inl h
  · exact Or.inr ⟨R, Q, d, h1, h2, h3.kp hk hd, h4⟩
theorem Pl.mono {w : World} {S : Nat → Prop} {p q : Value} {m m' : Nat} (h : Pl w S p q m) (hm : m ≤ m') : Pl w S p q m' := by
  rcases h with h | ⟨R, Q, d, h1, h2, h3, h4, h5, h6⟩
  · exact Or.inl h
  · exact Or.inr ⟨R, Q, d, h1, h2, h3, h4, by omega, by omega⟩
theorem Pl.ptr {w : World} {S : Nat → Prop} {p q : Value} {m : Nat} (h : Pl w S p q m) : (∃ a, p = .pointer a) ∧ ∃ a, q = .pointer a := by
  rcases h with h | ⟨R, Q, d, h1, h2, h3, h4, h5, h6⟩
  · exact ⟨⟨_, h.1⟩, ⟨_, h.2⟩⟩
  · exact ⟨⟨_, h1⟩, ⟨_, h2⟩⟩
def BnB (w : World) (B : Nat) (p0 p1 q0 q1 : Value) : Prop := w.heap[B]? = some (.cells #[p0, p1, q0, q1] 29)
/-- the bench -/
def Bn (w : World) (b0 : Nat → Prop) (B m : Nat) : Prop := ∃ p0 p1 q0 q1 S0 S1, BnB w B p0 p1 q0 q1 ∧ Pl w S0 p0 q0 m ∧ Pl w S1 p1 q1 m ∧ (∀ k, S0 k → ¬ S1 k) ∧ (∀ k, S0 k ∨ S1 k → k ≠ B ∧ ¬ b0 k ∧ k < w.heap.size) ∧ ¬ b0 B ∧ ∀ k, b0 k → k < w.heap.size
theorem Bn.below {w w' : World} {b0 : Nat → Prop} {B m : Nat} (h : Bn w b0 B m) (hb : Below w.heap.size w w') : Bn w' b0 B m := by
  obtain ⟨p0, p1, q0, q1, S0, S1, h1, h2, h3, h4, h5, h6, h7⟩ := h
  exact ⟨p0, p1, q0, q1, S0, S1, (hb.block _ (blk_lt h1)).trans h1, h2.kp (Kp.of_below hb non) (fun _ _ f => f), h3.kp (Kp.of_below hb non) (fun _ _ f => f), h4, fun k e => ⟨(h5 k e).1, (h5 k e).2.1, Nat.lt_of_lt_of_le (h5 k e).2.2 hb.size⟩, h6, fun k e => Nat.lt_of_lt_of_le (h7 k e) hb.size⟩
theorem Bn.mono {w : World} {b0 : Nat → Prop} {B m m' : Nat} (h : Bn w b0 B m) (hm : m ≤ m') : Bn w b0 B m' := by
  obtain ⟨p0, p1, q0, q1, S0, S1, h1, h2, h3, h4⟩ := h
  exact ⟨p0, p1, q0, q1, S0, S1, h1, h2.mono hm, h3.mono hm, h4⟩
theorem Bn.lt {w : World} {b0 : Nat → Prop} {B m : Nat} (h : Bn w b0 B m) : ¬ b0 B ∧ B < w.heap.size := by
  obtain ⟨p0, p1, q0, q1, S0, S1, h1, h2, h3, h4, h5, h6, h7⟩ := h
  exact ⟨h6, blk_lt h1⟩
/-- what a step at one place may do -/
def Back (w : World) (b0 : Nat → Prop) (B m : Nat) (S : Nat → Prop) (p q : Value) : Prop := ∀ w' S' m', m ≤ m' → Pl w' S' p q m' → Kp w w' S → Nr w S S' → (∀ k, S' k → k < w'.heap.size) → Bn w' b0 B m' ∧ Fr b0 w w'
theorem Bn.open {w : World} {b0 : Nat → Prop} {B m : Nat} (h : Bn w b0 B m) (j : Nat) (hj : j < 2) : ∃ p q S, w.cell? ⟨B, j, none⟩ = some p ∧ w.cell? ⟨B, 2 + j, none⟩ = some q ∧ Pl w S p q m ∧ Back w b0 B m S p q ∧ (∀ k, S k → k < w.heap.size) := by
  have hlt := h.lt
  obtain ⟨p0, p1, q0, q1, S0, S1, h1, h2, h3, h4, h5, h6, h7⟩ := h
  have dis : ∀ {S T : Nat → Prop} {w' : World} {S' : Nat → Prop}, Kp w w' S → Nr w S S' → (∀ k, T k → ¬ S k ∧ k < w.heap.size) → ∀ k, T k → ¬ S' k := fun kp nr hT k hk e => by
    rcases nr k e with a | a
    · exact (hT k hk).1 a
    · have := (hT k hk).2
      omega
  match j, hj with
  | 0, _ =>
    refine ⟨p0, q0, S0, by unfold World.cell?; rw [h1]; rfl, by unfold World.cell?; rw [h1]; rfl, h2, fun w' S' m' hm hp hk hn hs => ⟨?_, ?_⟩, fun k e => (h5 k (Or.inl e)).2.2⟩
    · refine ⟨p0, p1, q0, q1, S', S1, (hk.block _ (blk_lt h1) (fun e => (h5 _ (Or.inl e)).1 rfl)).trans h1, hp, (h3.kp hk (fun k e1 e2 => h4 k e2 e1)).mono hm, fun k e1 e2 => dis hk hn (fun k e => ⟨fun e0 => h4 k e0 e, (h5 k (Or.inr e)).2.2⟩) k e2 e1, fun k e => ?_, h6, fun k e => Nat.lt_of_lt_of_le (h7 k e) hk.size⟩
      rcases e with e | e
      · rcases hn k e with a | a
        · exact ⟨(h5 k (Or.inl a)).1, (h5 k (Or.inl a)).2.1, hs k e⟩
        · exact ⟨by omega, fun f => by have := h7 k f; omega, hs k e⟩
      · exact ⟨(h5 k (Or.inr e)).1, (h5 k (Or.inr e)).2.1, Nat.lt_of_lt_of_le (h5 k (Or.inr e)).2.2 hk.size⟩
    · exact ⟨hk.os, hk.tape, hk.output, hk.size, fun k hk0 hb => hk.block k hk0 (fun e => (h5 k (Or.inl e)).2.1 hb)⟩
  | 1, _ =>
    refine ⟨p1, q1, S1, by unfold World.cell?; rw [h1]; rfl, by unfold World.cell?; rw [h1]; rfl, h3, fun w' S' m' hm hp hk hn hs => ⟨?_, ?_⟩, fun k e => (h5 k (Or.inr e)).2.2⟩
    · refine ⟨p0, p1, q0, q1, S0, S', (hk.block _ (blk_lt h1) (fun e => (h5 _ (Or.inr e)).1 rfl)).trans h1, (h2.kp hk (fun k e1 e2 => h4 k e1 e2)).mono hm, hp, fun k e1 e2 => dis hk hn (fun k e => ⟨fun e0 => h4 k e e0, (h5 k (Or.inl e)).2.2⟩) k e1 e2, fun k e => ?_, h6, fun k e => Nat.lt_of_lt_of_le (h7 k e) hk.size⟩
      rcases e with e | e
      · exact ⟨(h5 k (Or.inl e)).1, (h5 k (Or.inl e)).2.1, Nat.lt_of_lt_of_le (h5 k (Or.inl e)).2.2 hk.size⟩
      · rcases hn k e with a | a
        · exact ⟨(h5 k (Or.inr a)).1, (h5 k (Or.inr a)).2.1, hs k e⟩
        · exact ⟨by omega, fun f => by have := h7 k f; omega, hs k e⟩
    · exact ⟨hk.os, hk.tape, hk.output, hk.size, fun k hk0 hb => hk.block k hk0 (fun e => (h5 k (Or.inr e)).2.1 hb)⟩
/-- which place a number means -/
def plN (n : Int) : Nat := (n % 2).toNat
theorem plN_lt (n : Int) : plN n < 2 := by unfold plN; omega
set_option maxHeartbeats 4000000 in
set_option maxRecDepth 100000 in
set_option linter.unusedSimpArgs false in
set_option linter.unusedVariables false in
theorem place_any (n : Int) (w : World) (h1 : -9223372036854775808 ≤ n) (h2 : n < 9223372036854775808) : Calls Try.prog 6 #[.int .i64 n] w fun e w' => e = .returned (.int .i64 (plN n : Int)) ∧ w = w' := by
  have hr2 : Int.tmod n 2 = 0 ∧ n % 2 = 0 ∨ Int.tmod n 2 = 1 ∧ n % 2 = 1 ∨ Int.tmod n 2 = -1 ∧ n % 2 = 1 := by
    by_cases h : 0 ≤ n
    · rw [Int.tmod_eq_emod_of_nonneg h]; omega
    · have e : Int.tmod n 2 = -((-n) % 2) := by
        have e1 := Int.neg_tmod (a := -n) (b := 2)
        rw [Int.neg_neg] at e1
        rw [e1, Int.tmod_eq_emod_of_nonneg (by omega)]
      rw [e]; omega
  have hp : Hid ((Int.tmod n 2 + 2) % 2 = (plN n : Int)) := by
    have : (Int.tmod n 2 + 2) % 2 = (plN n : Int) := by unfold plN; omega
    exact this
  have hb : -1 ≤ Int.tmod n 2 ∧ Int.tmod n 2 ≤ 1 := by omega
  clear hr2
  go_enter Try.func6, Try.ntmps6
  go_wp2_with fail
  go_ret
  exact ⟨congrArg (fun z => Ending.returned (.int .i64 z)) hp.out, rfl⟩
set_option maxHeartbeats 4000000 in
set_option maxRecDepth 100000 in
theorem num_any (n : Int) (w : World) : Calls Try.prog 19 #[.int .i64 n] w fun e w' => e = .returned (.int .i64 n) ∧ w = w' := by
  go_enter Try.func19, Try.ntmps19
  go_wp2_with fail
  go_ret
  exact ⟨rfl, rfl⟩
end Go.Proofs.Ytnphdbmacccblab
