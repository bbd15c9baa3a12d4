import Derived.Test.YtnphdbmacccblabMbSame
namespace Go.Proofs.Ytnphdbmacccblab
open Go.RowKit
/-- what a mail of the document holds -/
structure DS where
  lim : Int
  A : AB
  T : TN
def cutC (T : TN) (lo hi : Int) : Bool := decide (lo < hi) && cutF T lo hi
def DS.st (d : DS) (n : Nat) : St := ⟨d.lim, d.A.length, live d.A, n, cutC d.T⟩
structure DGood (d : DS) : Prop where
  l1 : 1 ≤ d.lim
  l2 : d.lim ≤ 1024
  le : ((live d.A).length : Int) ≤ d.lim
  ad : ∀ y ∈ d.A, adr y.1.fr = true ∧ adr y.1.td = true
  tn : ∀ t ∈ d.T, t.1 ≠ t.2.1
theorem DGood.good {d : DS} (g : DGood d) (n : Nat) : Good (d.st n) := ⟨g.l1, g.l2, g.le, fun x hx => by
  obtain ⟨b, hb⟩ := live_mem hx
  exact g.ad _ hb⟩
theorem onLk_comm (t : Int × Int × Bool) (a b : Int) : onLk t a b = onLk t b a := by
  unfold onLk
  rw [Bool.or_comm]
theorem cutF_comm (T : TN) (a b : Int) : cutF T a b = cutF T b a := by
  unfold cutF
  simp only [onLk_comm _ a b]
theorem cutF_self {T : TN} (h : ∀ t ∈ T, t.1 ≠ t.2.1) (a : Int) : cutF T a a = false := by
  have : ∀ (is : Bool), is = false → T.foldl (fun is t => if onLk t a a = true then t.2.2 else is) is = false := by
    induction T with
    | nil => intro is e; exact e
    | cons t r ih =>
      intro is e
      simp only [List.foldl_cons]
      refine ih (fun u hu => h u (List.mem_cons_of_mem _ hu)) _ ?_
      have hne := h t List.mem_cons_self
      have : onLk t a a = false := by
        unfold onLk
        by_cases h1 : t.1 = a
        · have h2 : ¬ t.2.1 = a := fun e2 => hne (h1.trans e2.symm)
          simp [h2]
        · simp [h1]
      rw [this]
      exact e
  exact this false rfl
theorem cut_eq {T : TN} (h : ∀ t ∈ T, t.1 ≠ t.2.1) (a b : Int) : cutC T (min a b) (max a b) = cutF T a b := by
  unfold cutC
  rcases Int.lt_trichotomy a b with h1 | h1 | h1
  · rw [show min a b = a by omega, show max a b = b by omega]
    simp [h1]
  · subst h1
    rw [cutF_self h a]
    simp
  · rw [show min a b = b by omega, show max a b = a by omega, cutF_comm]
    simp [h1]
theorem cutUp_eq {T : TN} {a b : Int} (h : a ≠ b) (v : Bool) : cutUp (cutC T) (min a b) (max a b) v = cutC (T ++ [(a, b, v)]) := by
  funext x y
  unfold cutUp cutC
  rw [cutF_snoc]
  by_cases h1 : x = min a b ∧ y = max a b
  · rw [if_pos h1]
    obtain ⟨rfl, rfl⟩ := h1
    have h2 : min a b < max a b := by omega
    have h3 : onLk (a, b, v) (min a b) (max a b) = true := by
      unfold onLk
      rcases Int.lt_or_lt_of_ne h with h4 | h4
      · rw [show min a b = a by omega, show max a b = b by omega]; simp
      · rw [show min a b = b by omega, show max a b = a by omega]; simp
    simp [h2, h3]
  · rw [if_neg h1]
    by_cases h2 : x < y
    · have h3 : onLk (a, b, v) x y = false := by
        unfold onLk
        rw [Bool.eq_false_iff]
        intro e
        simp only [Bool.or_eq_true, Bool.and_eq_true, decide_eq_true_eq] at e
        apply h1
        omega
      simp [h3]
    · simp [h2]
def sndD (d : DS) (a b : Int) (t : ByteArray) : DS := if sndE (d.st 0) a b = 0 then { d with A := d.A ++ [(⟨(d.A.length : Int) + 1, a, b, t⟩, false)] } else d
theorem sndE_st (d : DS) (n : Nat) (a b : Int) : sndE (d.st n) a b = sndE (d.st 0) a b := rfl
theorem live_snoc (A : AB) (x : Lt) : live (A ++ [(x, false)]) = live A ++ [x] := by rw [live_append]; rfl
theorem sndS_st (d : DS) (n : Nat) (a b : Int) (t : ByteArray) : sndS (d.st n) a b t = (sndD d a b t).st n := by
  unfold sndS sndD
  rw [sndE_st]
  split
  · simp only [DS.st, live_snoc, List.length_append, List.length_cons, List.length_nil]
  · rfl
open Classical in
noncomputable def dlvD (d : DS) (i : Int) : DS := if dlvE (d.st 0) i = 0 then { d with A := killI d.A i } else d
theorem dlvE_st (d : DS) (n : Nat) (i : Int) : dlvE (d.st n) i = dlvE (d.st 0) i := rfl
theorem dlvE_ok {st : St} {i : Int} (h : dlvE st i = 0) : okI st.L i := by
  unfold dlvE at h
  split at h
  · assumption
  · simp at h
theorem kill_st {d : DS} {i : Int} (h : okI (live d.A) i) (n : Nat) : ({ d with A := killI d.A i } : DS).st n = { d.st n with L := (live d.A).eraseIdx i.toNat } := by
  obtain ⟨k, hk, _, _, _, e4⟩ := at_ok h
  simp only [DS.st, e4, kill_len]
theorem dlvS_st (d : DS) (n : Nat) (i : Int) : dlvS (d.st n) i = (dlvD d i).st n := by
  unfold dlvS dlvD
  rw [dlvE_st]
  split
  · rename_i h
    exact (kill_st (dlvE_ok h) n).symm
  · rfl
open Classical in
noncomputable def drpD (d : DS) (i : Int) : DS := if okI (live d.A) i then { d with A := killI d.A i } else d
theorem drpS_st (d : DS) (n : Nat) (i : Int) : drpS (d.st n) i = (drpD d i).st n := by
  unfold drpS drpD
  by_cases h : okI (live d.A) i
  · rw [if_pos (show okI (d.st n).L i from h), if_pos h]
    exact (kill_st h n).symm
  · rw [if_neg (show ¬ okI (d.st n).L i from h), if_neg h]
open Classical in
noncomputable def cpyD (d : DS) (i : Int) : DS := if cpyE (d.st 0) i = 0 then { d with A := d.A ++ [(⟨(d.A.length : Int) + 1, (ltI (live d.A) i).fr, (ltI (live d.A) i).td, (ltI (live d.A) i).tx⟩, false)] } else d
theorem cpyE_st (d : DS) (n : Nat) (i : Int) : cpyE (d.st n) i = cpyE (d.st 0) i := rfl
theorem cpyS_st (d : DS) (n : Nat) (i : Int) : cpyS (d.st n) i = (cpyD d i).st n := by
  unfold cpyS cpyD
  rw [cpyE_st]
  split
  · simp only [DS.st, live_snoc, List.length_append, List.length_cons, List.length_nil]
  · rfl
def cutD (d : DS) (a b : Int) (c : Bool) : DS := { d with T := turnT d.T a b c }
theorem ck_ne {a b : Int} (h : ckE a b = 0) : a ≠ b := by
  unfold ckE at h
  split at h
  · rename_i hh
    exact hh.2.2
  · simp at h
theorem cutS_st (d : DS) (n : Nat) (a b : Int) : ∃ n', n' ≤ n + 1 ∧ (ckE a b ≠ 0 → n' = n) ∧ cutS (d.st n) a b = (cutD d a b true).st n' := by
  unfold cutS cutD turnT
  split
  · rename_i h
    refine ⟨n + 1, Nat.le_refl _, fun h' => absurd h h', ?_⟩
    simp only [DS.st, cutUp_eq (ck_ne h)]
  · exact ⟨n, by omega, fun _ => rfl, rfl⟩
theorem healS_st (d : DS) (n : Nat) (a b : Int) : healS (d.st n) a b = (cutD d a b false).st n := by
  unfold healS cutD turnT
  split
  · rename_i h
    simp only [DS.st, cutUp_eq (ck_ne h)]
  · rfl
theorem snd_adr {st : St} {a b : Int} (h : sndE st a b = 0) : adr a = true ∧ adr b = true := by
  unfold sndE at h
  split at h
  · assumption
  · simp at h
theorem DGood.snd {d : DS} (g : DGood d) (a b : Int) (t : ByteArray) : DGood (sndD d a b t) := by
  have h := (g.good 0).snd a b t
  rw [sndS_st] at h
  refine ⟨h.l1, h.l2, h.le, ?_, ?_⟩
  · unfold sndD
    split
    · rename_i he
      intro y hy
      simp only [List.mem_append, List.mem_singleton] at hy
      rcases hy with hy | rfl
      · exact g.ad y hy
      · exact snd_adr he
    · exact g.ad
  · unfold sndD
    split <;> exact g.tn
theorem kill_ad {A : AB} (h : ∀ y ∈ A, adr y.1.fr = true ∧ adr y.1.td = true) (i : Int) : ∀ y ∈ killI A i, adr y.1.fr = true ∧ adr y.1.td = true := by
  intro y hy
  have h1 : y.1 ∈ (killI A i).map (·.1) := List.mem_map_of_mem hy
  rw [kill_fst] at h1
  obtain ⟨z, hz, e⟩ := List.mem_map.1 h1
  rw [← e]
  exact h z hz
theorem DGood.dlv {d : DS} (g : DGood d) (i : Int) : DGood (dlvD d i) := by
  have h := (g.good 0).dlv i
  rw [dlvS_st] at h
  refine ⟨h.l1, h.l2, h.le, ?_, ?_⟩
  · unfold dlvD
    split
    · exact kill_ad g.ad i
    · exact g.ad
  · unfold dlvD
    split <;> exact g.tn
theorem DGood.drp {d : DS} (g : DGood d) (i : Int) : DGood (drpD d i) := by
  have h := (g.good 0).drp i
  rw [drpS_st] at h
  refine ⟨h.l1, h.l2, h.le, ?_, ?_⟩
  · unfold drpD
    split
    · exact kill_ad g.ad i
    · exact g.ad
  · unfold drpD
    split <;> exact g.tn
theorem DGood.cpy {d : DS} (g : DGood d) (i : Int) : DGood (cpyD d i) := by
  have h := (g.good 0).cpy i
  rw [cpyS_st] at h
  refine ⟨h.l1, h.l2, h.le, ?_, ?_⟩
  · unfold cpyD
    split
    · rename_i he
      have hi : okI (live d.A) i := by
        unfold cpyE at he
        split at he
        · assumption
        · simp at he
      intro y hy
      simp only [List.mem_append, List.mem_singleton] at hy
      rcases hy with hy | rfl
      · exact g.ad y hy
      · obtain ⟨b, hb⟩ := live_mem (ltI_in hi)
        have z := g.ad _ hb
        exact z
    · exact g.ad
  · unfold cpyD
    split <;> exact g.tn
theorem DGood.turn {d : DS} (g : DGood d) (a b : Int) (c : Bool) : DGood (cutD d a b c) := by
  refine ⟨g.l1, g.l2, g.le, g.ad, ?_⟩
  unfold cutD turnT
  split
  · rename_i h
    intro t ht
    simp only [List.mem_append, List.mem_singleton] at ht
    rcases ht with ht | rfl
    · exact g.tn t ht
    · exact ck_ne h
  · exact g.tn
/-- the document's mail holds d -/
def Rf (w : World) (S : Nat → Prop) (Q : Nat) (d : DS) : Prop := ∃ vA vG vT, RfX w S Q vA vG vT d.lim d.A d.T
theorem Rf.kp {w w' : World} {S T : Nat → Prop} {Q : Nat} {d : DS} (h : Rf w S Q d) (k : Kp w w' T) (hd : ∀ k, S k → ¬ T k) : Rf w' S Q d := by
  obtain ⟨vA, vG, vT, h⟩ := h
  exact ⟨vA, vG, vT, h.kp k hd⟩
theorem Rf.below {w w' : World} {S : Nat → Prop} {Q : Nat} {d : DS} (h : Rf w S Q d) (k : Below w.heap.size w w') : Rf w' S Q d := by
  obtain ⟨vA, vG, vT, h⟩ := h
  exact ⟨vA, vG, vT, h.below k⟩
theorem Rf.sb {w : World} {S : Nat → Prop} {Q : Nat} {d : DS} (h : Rf w S Q d) : ∀ k, S k → k < w.heap.size := by
  obtain ⟨vA, vG, vT, h⟩ := h
  exact h.sb
structure DFit (d : DS) : Prop where
  a : d.A.length ≤ 3298534883328
  t : d.T.length ≤ 3298534883328
theorem rsend_all {w : World} {S : Nat → Prop} {Q : Nat} {d : DS} (h : Rf w S Q d) (g : DGood d) (f : DFit d) (a b : Int) (t : ByteArray) :
    Calls Try.prog 18 #[.pointer (some ⟨Q, 0, none⟩), .int .i64 a, .int .i64 b, .string t] w fun e w' => e = .returned (.tuple #[.int .i64 (sndN (d.st 0) a b), .int .i64 (sndE (d.st 0) a b)]) ∧ ∃ S', Rf w' S' Q (sndD d a b t) ∧ Kp w w' S ∧ Nr w S S' := by
  obtain ⟨vA, vG, vT, h⟩ := h
  by_cases hab : adr a = true ∧ adr b = true
  case neg =>
    have e1 : sndE (d.st 0) a b = 1 := by unfold sndE; rw [if_neg hab]
    unfold sndN sndD
    rw [e1]
    refine (rsend_adr Q a b t w hab).mono ?_
    rintro e w' ⟨rfl, rfl⟩
    exact ⟨rfl, S, ⟨vA, vG, vT, h⟩, Kp.refl _ _, Nr.refl _ _⟩
  have ce : (d.st 0).C (min a b) (max a b) = cutF d.T a b := cut_eq g.tn a b
  cases hc : cutF d.T a b
  case true =>
    have e1 : sndE (d.st 0) a b = 132 := by unfold sndE; rw [if_pos hab, ce, if_pos hc]
    unfold sndN sndD
    rw [e1]
    refine (rsend_cut h f.t a b t hab.1 hab.2 hc).mono ?_
    rintro e w' ⟨rfl, hb⟩
    exact ⟨rfl, S, ⟨vA, vG, vT, h.below hb⟩, Kp.of_below hb _, Nr.refl _ _⟩
  by_cases hf : d.lim ≤ ((live d.A).length : Int)
  case pos =>
    have e1 : sndE (d.st 0) a b = 130 := by unfold sndE; rw [if_pos hab, ce, hc, if_neg (by simp), if_pos (show (d.st 0).lim ≤ ((d.st 0).L.length : Int) from hf)]
    unfold sndN sndD
    rw [e1]
    refine (rsend_full h f.a f.t a b t hab.1 hab.2 hc hf).mono ?_
    rintro e w' ⟨rfl, hb⟩
    exact ⟨rfl, S, ⟨vA, vG, vT, h.below hb⟩, Kp.of_below hb _, Nr.refl _ _⟩
  have e1 : sndE (d.st 0) a b = 0 := by unfold sndE; rw [if_pos hab, ce, hc, if_neg (by simp), if_neg (show ¬ (d.st 0).lim ≤ ((d.st 0).L.length : Int) from hf)]
  unfold sndN sndD
  rw [e1]
  refine (rsend_ok h f.a f.t a b t hab.1 hab.2 hc hf).mono ?_
  rintro e w' ⟨rfl, vA', vG', S', h', k', n'⟩
  exact ⟨rfl, S', ⟨vA', vG', vT, h'⟩, k', n'⟩
theorem rdeliver_all {w : World} {S : Nat → Prop} {Q : Nat} {d : DS} (h : Rf w S Q d) (g : DGood d) (f : DFit d) (i : Int) (hi : i < 9223372036854775808) :
    Calls Try.prog 21 #[.pointer (some ⟨Q, 0, none⟩), .int .i64 i] w fun e w' => e = .returned (.tuple #[(dlvV (d.st 0) i).v, .int .i64 (dlvE (d.st 0) i)]) ∧ Rf w' S Q (dlvD d i) ∧ Kp w w' S := by
  obtain ⟨vA, vG, vT, h⟩ := h
  by_cases hn : okI (live d.A) i
  case neg =>
    have e1 : dlvE (d.st 0) i = 131 := by unfold dlvE; rw [if_neg (show ¬ okI (d.st 0).L i from hn)]
    unfold dlvV dlvD
    rw [e1]
    refine (rdeliver_no h f.a i hi hn).mono ?_
    rintro e w' ⟨rfl, hb⟩
    exact ⟨rfl, ⟨vA, vG, vT, h.below hb⟩, Kp.of_below hb _⟩
  have ce : (d.st 0).C (min (ltI (d.st 0).L i).fr (ltI (d.st 0).L i).td) (max (ltI (d.st 0).L i).fr (ltI (d.st 0).L i).td) = cutF d.T (ltI (live d.A) i).fr (ltI (live d.A) i).td := cut_eq g.tn _ _
  cases hc : cutF d.T (ltI (live d.A) i).fr (ltI (live d.A) i).td
  case true =>
    have e1 : dlvE (d.st 0) i = 132 := by unfold dlvE; rw [if_pos (show okI (d.st 0).L i from hn), ce, if_pos hc]
    unfold dlvV dlvD
    rw [e1]
    refine (rdeliver_cut h f.a f.t i hi hn hc).mono ?_
    rintro e w' ⟨rfl, hb⟩
    exact ⟨rfl, ⟨vA, vG, vT, h.below hb⟩, Kp.of_below hb _⟩
  have e1 : dlvE (d.st 0) i = 0 := by unfold dlvE; rw [if_pos (show okI (d.st 0).L i from hn), ce, hc, if_neg (by simp)]
  unfold dlvV dlvD
  rw [e1]
  refine (rdeliver_ok h f.a f.t i hi hn hc).mono ?_
  rintro e w' ⟨rfl, h', k'⟩
  exact ⟨rfl, ⟨vA, vG, vT, h'⟩, k'⟩
theorem rdrop_all {w : World} {S : Nat → Prop} {Q : Nat} {d : DS} (h : Rf w S Q d) (f : DFit d) (i : Int) (hi : i < 9223372036854775808) :
    Calls Try.prog 23 #[.pointer (some ⟨Q, 0, none⟩), .int .i64 i] w fun e w' => e = .returned (.int .i64 (drpE (d.st 0) i)) ∧ Rf w' S Q (drpD d i) ∧ Kp w w' S := by
  obtain ⟨vA, vG, vT, h⟩ := h
  unfold drpE drpD
  by_cases hn : okI (live d.A) i
  case neg =>
    rw [if_neg (show ¬ okI (d.st 0).L i from hn), if_neg hn]
    refine (rdrop_no h f.a i hi hn).mono ?_
    rintro e w' ⟨rfl, rfl⟩
    exact ⟨rfl, ⟨vA, vG, vT, h⟩, Kp.refl _ _⟩
  rw [if_pos (show okI (d.st 0).L i from hn), if_pos hn]
  refine (rdrop_ok h f.a i hi hn).mono ?_
  rintro e w' ⟨rfl, h', k'⟩
  exact ⟨rfl, ⟨vA, vG, vT, h'⟩, k'⟩
theorem rcopy_all {w : World} {S : Nat → Prop} {Q : Nat} {d : DS} (h : Rf w S Q d) (f : DFit d) (i : Int) (hi : i < 9223372036854775808) :
    Calls Try.prog 25 #[.pointer (some ⟨Q, 0, none⟩), .int .i64 i] w fun e w' => e = .returned (.int .i64 (cpyE (d.st 0) i)) ∧ ∃ S', Rf w' S' Q (cpyD d i) ∧ Kp w w' S ∧ Nr w S S' := by
  obtain ⟨vA, vG, vT, h⟩ := h
  by_cases hn : okI (live d.A) i
  case neg =>
    have e1 : cpyE (d.st 0) i = 131 := by unfold cpyE; rw [if_neg (show ¬ okI (d.st 0).L i from hn)]
    unfold cpyD
    rw [e1]
    refine (rcopy_no h f.a i hi hn).mono ?_
    rintro e w' ⟨rfl, rfl⟩
    exact ⟨rfl, S, ⟨vA, vG, vT, h⟩, Kp.refl _ _, Nr.refl _ _⟩
  by_cases hf : d.lim ≤ ((live d.A).length : Int)
  case pos =>
    have e1 : cpyE (d.st 0) i = 130 := by unfold cpyE; rw [if_pos (show okI (d.st 0).L i from hn), if_pos (show (d.st 0).lim ≤ ((d.st 0).L.length : Int) from hf)]
    unfold cpyD
    rw [e1]
    refine (rcopy_full h f.a i hi hn hf).mono ?_
    rintro e w' ⟨rfl, hb⟩
    exact ⟨rfl, S, ⟨vA, vG, vT, h.below hb⟩, Kp.of_below hb _, Nr.refl _ _⟩
  have e1 : cpyE (d.st 0) i = 0 := by unfold cpyE; rw [if_pos (show okI (d.st 0).L i from hn), if_neg (show ¬ (d.st 0).lim ≤ ((d.st 0).L.length : Int) from hf)]
  unfold cpyD
  rw [e1]
  refine (rcopy_ok h f.a i hi hn hf).mono ?_
  rintro e w' ⟨rfl, vA', vG', S', h', k', n'⟩
  exact ⟨rfl, S', ⟨vA', vG', vT, h'⟩, k', n'⟩
theorem rcutc_all {w : World} {S : Nat → Prop} {Q : Nat} {d : DS} (h : Rf w S Q d) (f : DFit d) (a b : Int) :
    Calls Try.prog 27 #[.pointer (some ⟨Q, 0, none⟩), .int .i64 a, .int .i64 b] w fun e w' => e = .returned (.int .i64 (ckE a b)) ∧ ∃ S', Rf w' S' Q (cutD d a b true) ∧ Kp w w' S ∧ Nr w S S' := by
  obtain ⟨vA, vG, vT, h⟩ := h
  unfold cutD turnT
  rcases ckE_or a b with e1 | e1
  · rw [e1]
    refine (rcutc_ok h f.t a b e1).mono ?_
    rintro e w' ⟨rfl, vT', S', h', k', n'⟩
    exact ⟨rfl, S', ⟨vA, vG, vT', h'⟩, k', n'⟩
  · rw [e1]
    refine (rcutc_bad Q a b w e1).mono ?_
    rintro e w' ⟨rfl, rfl⟩
    exact ⟨rfl, S, ⟨vA, vG, vT, h⟩, Kp.refl _ _, Nr.refl _ _⟩
theorem rheal_all {w : World} {S : Nat → Prop} {Q : Nat} {d : DS} (h : Rf w S Q d) (f : DFit d) (a b : Int) :
    Calls Try.prog 29 #[.pointer (some ⟨Q, 0, none⟩), .int .i64 a, .int .i64 b] w fun e w' => e = .returned (.int .i64 (ckE a b)) ∧ ∃ S', Rf w' S' Q (cutD d a b false) ∧ Kp w w' S ∧ Nr w S S' := by
  obtain ⟨vA, vG, vT, h⟩ := h
  unfold cutD turnT
  rcases ckE_or a b with e1 | e1
  · rw [e1]
    refine (rheal_ok h f.t a b e1).mono ?_
    rintro e w' ⟨rfl, vT', S', h', k', n'⟩
    exact ⟨rfl, S', ⟨vA, vG, vT', h'⟩, k', n'⟩
  · rw [e1]
    refine (rheal_bad Q a b w e1).mono ?_
    rintro e w' ⟨rfl, rfl⟩
    exact ⟨rfl, S, ⟨vA, vG, vT, h⟩, Kp.refl _ _, Nr.refl _ _⟩
theorem rflying_all {w : World} {S : Nat → Prop} {Q : Nat} {d : DS} (h : Rf w S Q d) (f : DFit d) :
    Calls Try.prog 9 #[.pointer (some ⟨Q, 0, none⟩)] w fun e w' => ∃ v, e = .returned v ∧ w'.ownsRow w.heap.size 53 4 v (live d.A).length (ltc (live d.A)) ∧ Below w.heap.size w w' := by
  obtain ⟨vA, vG, vT, h⟩ := h
  exact rflying_any h f.a
theorem rcount_all {w : World} {S : Nat → Prop} {Q : Nat} {d : DS} (h : Rf w S Q d) (f : DFit d) :
    Calls Try.prog 31 #[.pointer (some ⟨Q, 0, none⟩)] w fun e w' => e = .returned (.int .i64 ((live d.A).length : Int)) ∧ Below w.heap.size w w' := by
  obtain ⟨vA, vG, vT, h⟩ := h
  exact rcount_any h f.a
theorem rsent_all {w : World} {S : Nat → Prop} {Q : Nat} {d : DS} (h : Rf w S Q d) :
    Calls Try.prog 33 #[.pointer (some ⟨Q, 0, none⟩)] w fun e w' => e = .returned (.int .i64 (d.A.length : Int)) ∧ w = w' := by
  obtain ⟨vA, vG, vT, h⟩ := h
  exact rsent_any h
end Go.Proofs.Ytnphdbmacccblab
