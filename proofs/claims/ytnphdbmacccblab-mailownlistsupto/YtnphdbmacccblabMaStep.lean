import Derived.Test.YtnphdbmacccblabMaDrop
namespace Go.Proofs.Ytnphdbmacccblab
open Go.RowKit
/-- what a mail holds -/
structure St where
  lim : Int
  s : Nat
  L : List Lt
  n : Nat
  C : Int → Int → Bool
def Ml (w : World) (S : Nat → Prop) (R : Nat) (st : St) : Prop := ∃ M v, MlX w S R M v st.lim st.s st.L st.n st.C
def Nr (w : World) (S S' : Nat → Prop) : Prop := ∀ k, S' k → S k ∨ w.heap.size ≤ k
theorem Nr.refl (w : World) (S : Nat → Prop) : Nr w S S := fun _ h => Or.inl h
theorem Ml.kp {w w' : World} {S T : Nat → Prop} {R : Nat} {st : St} (h : Ml w S R st) (k : Kp w w' T) (hd : ∀ k, S k → ¬ T k) : Ml w' S R st := by
  obtain ⟨M, v, h⟩ := h
  exact ⟨M, v, h.kp k hd⟩
theorem Ml.below {w w' : World} {S : Nat → Prop} {R : Nat} {st : St} (h : Ml w S R st) (k : Below w.heap.size w w') : Ml w' S R st := by
  obtain ⟨M, v, h⟩ := h
  exact ⟨M, v, h.below k⟩
theorem Ml.sb {w : World} {S : Nat → Prop} {R : Nat} {st : St} (h : Ml w S R st) : ∀ k, S k → k < w.heap.size := by
  obtain ⟨M, v, h⟩ := h
  exact h.sb
structure Good (st : St) : Prop where
  l1 : 1 ≤ st.lim
  l2 : st.lim ≤ 1024
  le : (st.L.length : Int) ≤ st.lim
  ad : ∀ x ∈ st.L, adr x.fr = true ∧ adr x.td = true
theorem Good.len {st : St} (h : Good st) : st.L.length ≤ 1048576 := by
  have := h.l2
  have := h.le
  omega
def sndE (st : St) (a b : Int) : Int := if adr a = true ∧ adr b = true then (if st.C (min a b) (max a b) = true then 132 else if st.lim ≤ (st.L.length : Int) then 130 else 0) else 1
def sndN (st : St) (a b : Int) : Int := if sndE st a b = 0 then (st.s : Int) + 1 else 0
def sndS (st : St) (a b : Int) (t : ByteArray) : St := if sndE st a b = 0 then { st with s := st.s + 1, L := st.L ++ [⟨(st.s : Int) + 1, a, b, t⟩] } else st
theorem send_all {w : World} {S : Nat → Prop} {R : Nat} {st : St} (h : Ml w S R st) (g : Good st) (a b : Int) (t : ByteArray) (hs : st.s ≤ 1125899906842624) (ht : t.size ≤ 281474976710656) :
    Calls Try.prog 17 #[.pointer (some ⟨R, 0, none⟩), .int .i64 a, .int .i64 b, .string t] w fun e w' => e = .returned (.tuple #[.int .i64 (sndN st a b), .int .i64 (sndE st a b)]) ∧ ∃ S', Ml w' S' R (sndS st a b t) ∧ Kp w w' S ∧ Nr w S S' := by
  obtain ⟨M, v, h⟩ := h
  by_cases hab : adr a = true ∧ adr b = true
  case neg =>
    have e1 : sndE st a b = 1 := by unfold sndE; rw [if_neg hab]
    unfold sndN sndS
    rw [e1]
    refine (send_adr h g.l1 a b t hab).mono ?_
    rintro e w' ⟨rfl, rfl⟩
    exact ⟨rfl, S, ⟨M, v, h⟩, Kp.refl _ _, Nr.refl _ _⟩
  cases hc : st.C (min a b) (max a b)
  case true =>
    have e1 : sndE st a b = 132 := by unfold sndE; rw [if_pos hab, if_pos hc]
    unfold sndN sndS
    rw [e1]
    refine (send_cut h g.l1 a b t hab.1 hab.2 hc).mono ?_
    rintro e w' ⟨rfl, hb⟩
    exact ⟨rfl, S, ⟨M, v, h.below hb⟩, Kp.of_below hb _, Nr.refl _ _⟩
  by_cases hf : st.lim ≤ (st.L.length : Int)
  case pos =>
    have e1 : sndE st a b = 130 := by unfold sndE; rw [if_pos hab, hc, if_neg (by simp), if_pos hf]
    unfold sndN sndS
    rw [e1]
    refine (send_full h g.l1 a b t hab.1 hab.2 hc hf).mono ?_
    rintro e w' ⟨rfl, hb⟩
    exact ⟨rfl, S, ⟨M, v, h.below hb⟩, Kp.of_below hb _, Nr.refl _ _⟩
  have e1 : sndE st a b = 0 := by unfold sndE; rw [if_pos hab, hc, if_neg (by simp), if_neg hf]
  unfold sndN sndS
  rw [e1]
  refine (send_ok h g.l1 a b t hab.1 hab.2 hc hf g.l2 hs ht).mono ?_
  rintro e w' ⟨rfl, v', S', h', k', n'⟩
  exact ⟨rfl, S', ⟨M, v', h'⟩, k', n'⟩
theorem Good.snd {st : St} (g : Good st) (a b : Int) (t : ByteArray) : Good (sndS st a b t) := by
  unfold sndS
  split
  · rename_i h
    unfold sndE at h
    split at h
    · rename_i hab
      split at h
      · simp at h
      · split at h
        · simp at h
        · rename_i hf
          refine ⟨g.l1, g.l2, by simp only [List.length_append, List.length_cons, List.length_nil]; omega, fun x hx => ?_⟩
          simp only [List.mem_append, List.mem_singleton] at hx
          rcases hx with hx | rfl
          · exact g.ad x hx
          · exact hab
    · simp at h
  · exact g
open Classical in
noncomputable def dlvE (st : St) (i : Int) : Int := if okI st.L i then (if st.C (min (ltI st.L i).fr (ltI st.L i).td) (max (ltI st.L i).fr (ltI st.L i).td) = true then 132 else 0) else 131
open Classical in
noncomputable def dlvV (st : St) (i : Int) : Lt := if dlvE st i = 0 then ltI st.L i else noL
open Classical in
noncomputable def dlvS (st : St) (i : Int) : St := if dlvE st i = 0 then { st with L := st.L.eraseIdx i.toNat } else st
theorem deliver_all {w : World} {S : Nat → Prop} {R : Nat} {st : St} (h : Ml w S R st) (g : Good st) (i : Int) :
    Calls Try.prog 20 #[.pointer (some ⟨R, 0, none⟩), .int .i64 i] w fun e w' => e = .returned (.tuple #[(dlvV st i).v, .int .i64 (dlvE st i)]) ∧ Ml w' S R (dlvS st i) ∧ Kp w w' S := by
  obtain ⟨M, v, h⟩ := h
  by_cases hi : okI st.L i
  case neg =>
    have e1 : dlvE st i = 131 := by unfold dlvE; rw [if_neg hi]
    unfold dlvV dlvS
    rw [e1]
    refine (deliver_no h g.l1 i hi).mono ?_
    rintro e w' ⟨rfl, hb⟩
    exact ⟨rfl, ⟨M, v, h.below hb⟩, Kp.of_below hb _⟩
  cases hc : st.C (min (ltI st.L i).fr (ltI st.L i).td) (max (ltI st.L i).fr (ltI st.L i).td)
  case true =>
    have e1 : dlvE st i = 132 := by unfold dlvE; rw [if_pos hi, if_pos hc]
    unfold dlvV dlvS
    rw [e1]
    refine (deliver_cut h g.l1 i hi g.ad hc).mono ?_
    rintro e w' ⟨rfl, hb⟩
    exact ⟨rfl, ⟨M, v, h.below hb⟩, Kp.of_below hb _⟩
  have e1 : dlvE st i = 0 := by unfold dlvE; rw [if_pos hi, hc, if_neg (by simp)]
  unfold dlvV dlvS
  rw [e1]
  refine (deliver_ok h g.l1 g.len i hi g.ad hc).mono ?_
  rintro e w' ⟨rfl, v', h', k'⟩
  exact ⟨rfl, ⟨M, v', h'⟩, k'⟩
theorem Good.less {st : St} (g : Good st) (j : Nat) : Good { st with L := st.L.eraseIdx j } :=
  ⟨g.l1, g.l2, by have := g.le; have := List.length_eraseIdx_le st.L j; simp only []; omega, fun x hx => g.ad x (List.mem_of_mem_eraseIdx hx)⟩
theorem Good.dlv {st : St} (g : Good st) (i : Int) : Good (dlvS st i) := by
  unfold dlvS
  split
  · exact g.less _
  · exact g
open Classical in
noncomputable def drpE (st : St) (i : Int) : Int := if okI st.L i then 0 else 131
open Classical in
noncomputable def drpS (st : St) (i : Int) : St := if okI st.L i then { st with L := st.L.eraseIdx i.toNat } else st
theorem drop_all {w : World} {S : Nat → Prop} {R : Nat} {st : St} (h : Ml w S R st) (g : Good st) (i : Int) :
    Calls Try.prog 22 #[.pointer (some ⟨R, 0, none⟩), .int .i64 i] w fun e w' => e = .returned (.int .i64 (drpE st i)) ∧ Ml w' S R (drpS st i) ∧ Kp w w' S := by
  obtain ⟨M, v, h⟩ := h
  unfold drpE drpS
  by_cases hi : okI st.L i
  case neg =>
    rw [if_neg hi, if_neg hi]
    refine (drop_no h g.l1 i hi).mono ?_
    rintro e w' ⟨rfl, hb⟩
    exact ⟨rfl, ⟨M, v, h.below hb⟩, Kp.of_below hb _⟩
  rw [if_pos hi, if_pos hi]
  refine (drop_ok h g.l1 g.len i hi).mono ?_
  rintro e w' ⟨rfl, v', h', k'⟩
  exact ⟨rfl, ⟨M, v', h'⟩, k'⟩
theorem Good.drp {st : St} (g : Good st) (i : Int) : Good (drpS st i) := by
  unfold drpS
  split
  · exact g.less _
  · exact g
open Classical in
noncomputable def cpyE (st : St) (i : Int) : Int := if okI st.L i then (if st.lim ≤ (st.L.length : Int) then 130 else 0) else 131
open Classical in
noncomputable def cpyS (st : St) (i : Int) : St := if cpyE st i = 0 then { st with s := st.s + 1, L := st.L ++ [⟨(st.s : Int) + 1, (ltI st.L i).fr, (ltI st.L i).td, (ltI st.L i).tx⟩] } else st
theorem copy_all {w : World} {S : Nat → Prop} {R : Nat} {st : St} (h : Ml w S R st) (g : Good st) (i : Int) (hs : st.s ≤ 1125899906842624) :
    Calls Try.prog 24 #[.pointer (some ⟨R, 0, none⟩), .int .i64 i] w fun e w' => e = .returned (.int .i64 (cpyE st i)) ∧ ∃ S', Ml w' S' R (cpyS st i) ∧ Kp w w' S ∧ Nr w S S' := by
  obtain ⟨M, v, h⟩ := h
  by_cases hi : okI st.L i
  case neg =>
    have e1 : cpyE st i = 131 := by unfold cpyE; rw [if_neg hi]
    unfold cpyS
    rw [e1]
    refine (copy_no h g.l1 i hi).mono ?_
    rintro e w' ⟨rfl, hb⟩
    exact ⟨rfl, S, ⟨M, v, h.below hb⟩, Kp.of_below hb _, Nr.refl _ _⟩
  by_cases hf : st.lim ≤ (st.L.length : Int)
  case pos =>
    have e1 : cpyE st i = 130 := by unfold cpyE; rw [if_pos hi, if_pos hf]
    unfold cpyS
    rw [e1]
    refine (copy_full h g.l1 i hi hf).mono ?_
    rintro e w' ⟨rfl, hb⟩
    exact ⟨rfl, S, ⟨M, v, h.below hb⟩, Kp.of_below hb _, Nr.refl _ _⟩
  have e1 : cpyE st i = 0 := by unfold cpyE; rw [if_pos hi, if_neg hf]
  unfold cpyS
  rw [e1]
  refine (copy_ok h g.l1 g.l2 hs i hi hf).mono ?_
  rintro e w' ⟨rfl, v', S', h', k', n'⟩
  exact ⟨rfl, S', ⟨M, v', h'⟩, k', n'⟩
theorem Good.cpy {st : St} (g : Good st) (i : Int) : Good (cpyS st i) := by
  unfold cpyS
  split
  · rename_i h
    unfold cpyE at h
    split at h
    · rename_i hi
      split at h
      · simp at h
      · rename_i hf
        refine ⟨g.l1, g.l2, by simp only [List.length_append, List.length_cons, List.length_nil]; omega, fun x hx => ?_⟩
        simp only [List.mem_append, List.mem_singleton] at hx
        rcases hx with hx | rfl
        · exact g.ad x hx
        · have z := g.ad _ (ltI_in hi)
          exact z
    · simp at h
  · exact g
def cutS (st : St) (a b : Int) : St := if ckE a b = 0 then { st with n := st.n + 1, C := cutUp st.C (min a b) (max a b) true } else st
def healS (st : St) (a b : Int) : St := if ckE a b = 0 then { st with C := cutUp st.C (min a b) (max a b) false } else st
theorem ckE_or (a b : Int) : ckE a b = 0 ∨ ckE a b = 1 := by
  unfold ckE
  split <;> simp
theorem cut_all {w : World} {S : Nat → Prop} {R : Nat} {st : St} (h : Ml w S R st) (g : Good st) (a b : Int) (hn : st.n < maxLen) :
    Calls Try.prog 26 #[.pointer (some ⟨R, 0, none⟩), .int .i64 a, .int .i64 b] w fun e w' => e = .returned (.int .i64 (ckE a b)) ∧ Ml w' S R (cutS st a b) ∧ Kp w w' S := by
  obtain ⟨M, v, h⟩ := h
  unfold cutS
  rcases ckE_or a b with e1 | e1
  · rw [e1]
    refine (cut_ok h g.l1 a b e1 hn).mono ?_
    rintro e w' ⟨rfl, h', k'⟩
    exact ⟨rfl, ⟨M, v, h'⟩, k'⟩
  · rw [e1]
    refine (cut_bad h g.l1 a b e1).mono ?_
    rintro e w' ⟨rfl, rfl⟩
    exact ⟨rfl, ⟨M, v, h⟩, Kp.refl _ _⟩
theorem heal_all {w : World} {S : Nat → Prop} {R : Nat} {st : St} (h : Ml w S R st) (g : Good st) (a b : Int) :
    Calls Try.prog 28 #[.pointer (some ⟨R, 0, none⟩), .int .i64 a, .int .i64 b] w fun e w' => e = .returned (.int .i64 (ckE a b)) ∧ Ml w' S R (healS st a b) ∧ Kp w w' S := by
  obtain ⟨M, v, h⟩ := h
  unfold healS
  rcases ckE_or a b with e1 | e1
  · rw [e1]
    refine (heal_ok h g.l1 a b e1).mono ?_
    rintro e w' ⟨rfl, h', k'⟩
    exact ⟨rfl, ⟨M, v, h'⟩, k'⟩
  · rw [e1]
    refine (heal_bad h g.l1 a b e1).mono ?_
    rintro e w' ⟨rfl, rfl⟩
    exact ⟨rfl, ⟨M, v, h⟩, Kp.refl _ _⟩
theorem Good.cut {st : St} (g : Good st) (a b : Int) : Good (cutS st a b) := by
  unfold cutS
  split
  · exact ⟨g.l1, g.l2, g.le, g.ad⟩
  · exact g
theorem Good.heal {st : St} (g : Good st) (a b : Int) : Good (healS st a b) := by
  unfold healS
  split
  · exact ⟨g.l1, g.l2, g.le, g.ad⟩
  · exact g
end Go.Proofs.Ytnphdbmacccblab
