import Derived.Test.YtpleakkhbfhdkaaGCcTick
import Derived.Test.YtpleakkhbfhdkaaGCcRing
import Derived.Test.YtpleakkhbfhdkaaGCgTaken
namespace Go.Proofs.Ytpleakkhbfhdkaa.Cn
theorem PhI.same {p : Ph} {r : Rd} {n : Nat} {j kd V : Int} {bk : Bool} {fe ba fe' ba' : Nat → Bool} {nd : Nat → Nd} (h : PhI p r n j kd V bk fe ba nd) (h1 : ∀ i, i < n → fe i = true → fe' i = true) (h2 : p = .fetch → ∀ i, i < n → fe' i = fe i) (h3 : p = .back → ∀ i, i < n → ba' i = ba i) : PhI p r n j kd V bk fe' ba' nd := by
  cases p
  · exact ⟨h.1, h.2.1, fun i hi => by rw [h2 rfl i hi]; exact h.2.2 i hi⟩
  · exact ⟨h.1, h.2.1.imp id (fun q i hi => h1 i hi (q i hi)), h.2.2⟩
  · exact ⟨h.1, fun i hi => by rw [h3 rfl i hi]; exact h.2.1 i hi, h.2.2⟩
  · exact h.elim
theorem stay_step {c : Ct} {n : Nat} {j kd V : Int} {bk : Bool} {fe ba : Nat → Bool} {nd : Nat → Nd} (h : CI c n j kd V bk fe ba nd) (hp : c.ph ≠ none) : StepI c [] n j kd V bk fe ba nd :=
  ⟨bk, ⟨fun f => Or.inl f, fun f => f.elim id (fun ⟨m, q, _⟩ => absurd q (by simp))⟩, h, fun m q => absurd q (by simp), fun f => absurd f hp⟩
def feT (fe : Nat → Bool) (k : Nat) (j : Int) (m : Mg) : Nat → Bool := if m.code = 0 ∧ m.ep = j ∧ m.kind = 4 then upf fe k true else fe
def baT (ba : Nat → Bool) (bk : Bool) (k : Nat) (j : Int) (m : Mg) : Nat → Bool := if m.code = 0 ∧ m.ep = j ∧ m.kind = 8 ∧ bk = true then upf ba k true else ba
/-- an answer is taken -/
theorem take_step {c : Ct} {n : Nat} {j kd V : Int} {bk : Bool} {fe ba : Nat → Bool} {nd : Nat → Nd} (h : CI c n j kd V bk fe ba nd) {p : Ph} {r : Rd} (hp : c.ph = some (p, r)) {m : Mg} {k : Nat} (hk : k < n) (hm : m.fr = (k : Int)) (ha : AnI j V bk (nd k) m) :
    StepI (takeC c m) (takeL c m) n j kd V bk (feT fe k j m) (baT ba bk k j m) nd := by
  obtain ⟨hr, hP, hne⟩ := h.ph p r hp
  have nb : bk = false → ∀ i, i < n → baT ba bk k j m i = false := fun f i hi => by
    unfold baT
    rw [if_neg (fun q => by rw [f] at q; simp at q)]
    exact h.nb f i hi
  have mono : ∀ i, i < n → fe i = true → feT fe k j m i = true := fun i _ q => by
    unfold feT
    split
    · unfold upf; split
      · rfl
      · exact q
    · exact q
  have tf := takeC_fine h.fine m
  have e1 : takeC c m = takC c p r m := by simp only [takeC, hp]
  have e2 : takeL c m = takL c p r m := by simp only [takeL, hp]
  rw [e1] at tf
  rw [e1, e2]
  unfold takC at tf ⊢
  unfold takL
  have et : m.fr.toNat = k := by omega
  by_cases hc : cntP p c.ru r m = true
  · rw [if_pos hc] at tf ⊢
    rw [if_pos hc]
    have mj : m.ep = j := by
      rw [← hr.num]
      cases p
      · simp [cntP] at hc; exact hc.2.1
      · simp [cntP] at hc; exact hc.2.1
      · simp [cntP] at hc; exact hc.2.1
      · exact hP.elim
    by_cases h0 : m.code = 0
    · rw [if_pos h0] at tf ⊢
      rw [if_pos h0]
      obtain ⟨nP, nR⟩ := note_inv hP hr hk hm ha h0 c.ru hc
      have ef : (if m.kind = 4 then upf fe k true else fe) = feT fe k j m := by
        unfold feT
        by_cases q : m.kind = 4
        · rw [if_pos q, if_pos ⟨h0, mj, q⟩]
        · rw [if_neg q, if_neg (fun z => q z.2.2)]
      have eb : (if m.kind = 8 then upf ba k true else ba) = baT ba bk k j m := by
        unfold baT
        by_cases q : m.kind = 8
        · rw [if_pos q, if_pos ⟨h0, mj, q, (ha.ba mj q).2.1⟩]
        · rw [if_neg q, if_neg (fun z => q z.2.2.1)]
      rw [ef, eb] at nP
      by_cases hl : (miss (ntR r m).al).length = 0
      · rw [if_pos hl, if_pos hl]
        refine fol_step h.fine h.nn h.num nb h.nds nR nP (some (p, ntR r m)) (comV p) ?_
        cases p
        · exact Or.inl ⟨rfl, rfl, hl⟩
        · exact Or.inr (Or.inr (Or.inl ⟨rfl, rfl, hl⟩))
        · exact Or.inr (Or.inr (Or.inr (Or.inl ⟨rfl, rfl, hl⟩)))
        · exact hP.elim
      · rw [if_neg hl] at tf ⊢
        rw [if_neg hl]
        refine stay_step ⟨tf, h.num, h.nn, nb, h.nds, fun p' r' e => ?_⟩ (by simp)
        simp only [Option.some.injEq, Prod.mk.injEq] at e
        obtain ⟨rfl, rfl⟩ := e
        exact ⟨nR, nP, hl⟩
    · rw [if_neg h0] at tf ⊢
      rw [if_neg h0]
      have ef : feT fe k j m = fe := by unfold feT; rw [if_neg (fun z => h0 z.1)]
      have eb : baT ba bk k j m = ba := by unfold baT; rw [if_neg (fun z => h0 z.1)]
      rw [ef, eb]
      cases p
      · exact fol_step h.fine h.nn h.num h.nb h.nds hr hP c.ph 3 (Or.inr (Or.inl ⟨rfl, Or.inl rfl⟩))
      · exact fol_step h.fine h.nn h.num h.nb h.nds hr hP c.ph 3 (Or.inr (Or.inl ⟨rfl, Or.inr rfl⟩))
      · have q := stay_step h (by rw [hp]; simp); exact q
      · exact hP.elim
  · rw [if_neg hc, if_neg hc]
    have cm : p ≠ .look → (m.ep = j → m.kind = 4 → p = .fetch → (r.al.getD k al0).1 = true) ∧ (m.code = 0 → m.ep = j → m.kind = 8 → p = .back → (r.al.getD k al0).1 = true) := fun _ => by
      have b1 : (0 : Int) ≤ m.fr := by omega
      have b2 : m.fr < (c.ru.n : Int) := by rw [h.nn]; omega
      have b3 : m.id = m.ep := ha.id
      refine ⟨fun mj k4 pf => ?_, fun _ mj k8 pb => ?_⟩
      · subst pf
        have v := (ha.fe mj k4).2
        cases q : (r.al.getD k al0).1 with
        | true => rfl
        | false =>
          exfalso
          apply hc
          have cq : came r m.fr = false := by unfold came; rw [et]; exact q
          simp [cntP, dueP, k4, b1, b2, cq, b3, mj, hr.num, v, hr.ver]
      · subst pb
        have v := (ha.ba mj k8).1
        cases q : (r.al.getD k al0).1 with
        | true => rfl
        | false =>
          exfalso
          apply hc
          have cq : came r m.fr = false := by unfold came; rw [et]; exact q
          simp [cntP, dueP, k8, b1, b2, cq, b3, mj, hr.num, v]
    have pl : p ≠ .look := fun e => by subst e; exact hP.elim
    obtain ⟨c1, c2⟩ := cm pl
    refine stay_step ⟨h.fine, h.num, h.nn, nb, h.nds, fun p' r' e => ?_⟩ (by rw [hp]; simp)
    rw [hp] at e
    simp only [Option.some.injEq, Prod.mk.injEq] at e
    obtain ⟨rfl, rfl⟩ := e
    refine ⟨hr, hP.same mono (fun pf i hi => ?_) (fun pb i hi => ?_), hne⟩
    · unfold feT
      split
      · rename_i z
        unfold upf
        split
        · rename_i ik
          subst ik
          subst pf
          rw [← hP.2.2 i hi]
          exact (c1 z.2.1 z.2.2 rfl).symm
        · rfl
      · rfl
    · unfold baT
      split
      · rename_i z
        unfold upf
        split
        · rename_i ik
          subst ik
          subst pb
          rw [← hP.2.1 i hi]
          exact (c2 z.1 z.2.1 z.2.2.1 rfl).symm
        · rfl
      · rfl
/-- a tick -/
theorem tick_step {c : Ct} {n : Nat} {j kd V : Int} {bk : Bool} {fe ba : Nat → Bool} {nd : Nat → Nd} (h : CI c n j kd V bk fe ba nd) {p : Ph} {r : Rd} (hp : c.ph = some (p, r)) : StepI (tickC c) (tickL c) n j kd V bk fe ba nd := by
  obtain ⟨hr, hP, hne⟩ := h.ph p r hp
  have tf := (tickC_all h.fine).1
  have hr' : RdI (tkR r) n j kd V := ⟨hr.num, hr.kind, hr.ver, hr.len, hr.non⟩
  have hP' : PhI p (tkR r) n j kd V bk fe ba nd := by cases p <;> exact hP
  rcases tick_says h.fine hp with ⟨e, _⟩ | ⟨e, _⟩ | ⟨e, a⟩ | ⟨e, a⟩
  · have ec : tickC c = { c with ph := some (p, tkR r) } := by simp only [tickC, hp, e]; rfl
    have el : tickL c = [] := by simp only [tickL, hp, e]; rfl
    rw [ec] at tf
    rw [ec, el]
    refine stay_step ⟨tf, h.num, h.nn, h.nb, h.nds, fun p' r' e => ?_⟩ (by simp)
    simp only [Option.some.injEq, Prod.mk.injEq] at e
    obtain ⟨rfl, rfl⟩ := e
    exact ⟨hr', hP', hne⟩
  · have ec : tickC c = entP { c with ph := some (p, tkR r) } p (tkR r) := by simp only [tickC, hp, e]; rfl
    have el : tickL c = entL p (tkR r) := by simp only [tickL, hp, e]; rfl
    rw [ec] at tf
    rw [ec, el]
    obtain ⟨o1, o2⟩ := ent_out hr' hP'
    refine ⟨bk, ⟨fun f => Or.inl f, fun f => ?_⟩, ⟨tf, h.num, h.nn, h.nb, h.nds, fun p' r' e => ?_⟩, o1, fun f => by simp [entP] at f⟩
    · rcases f with f | ⟨m, hm, hk⟩
      · exact f
      · cases p
        · exact absurd hk (o2 (by simp) m hm)
        · exact absurd hk (o2 (by simp) m hm)
        · exact hP.1
        · exact hP.elim
    · simp only [entP, Option.some.injEq, Prod.mk.injEq] at e
      obtain ⟨rfl, rfl⟩ := e
      refine ⟨⟨hr.num, hr.kind, hr.ver, hr.len, hr.non⟩, ?_, hne⟩
      cases p <;> exact hP
  · have ec : tickC c = folC { c with ph := some (p, tkR r) } p (tkR r) 3 := by simp only [tickC, hp, e]
    have el : tickL c = folL { c with ph := some (p, tkR r) } p (tkR r) 3 := by simp only [tickL, hp, e]
    rw [ec, el]
    exact fol_step h.fine h.nn h.num h.nb h.nds hr' hP' _ 3 (Or.inr (Or.inl ⟨rfl, a⟩))
  · have ec : tickC c = folC { c with ph := some (p, tkR r) } p (tkR r) 6 := by simp only [tickC, hp, e]
    have el : tickL c = folL { c with ph := some (p, tkR r) } p (tkR r) 6 := by simp only [tickL, hp, e]
    rw [ec, el]
    have pb : p = .back := by rcases a with q | q; exact q; subst q; exact hP.elim
    exact fol_step h.fine h.nn h.num h.nb h.nds hr' hP' _ 6 (Or.inr (Or.inr (Or.inr (Or.inr ⟨rfl, pb, hne⟩))))
/-- Stop -/
theorem stop_step {c : Ct} {n : Nat} {j kd V : Int} {bk : Bool} {fe ba : Nat → Bool} {nd : Nat → Nd} (h : CI c n j kd V bk fe ba nd) {p : Ph} {r : Rd} (hp : c.ph = some (p, r)) : StepI (stopC c) (stopL c) n j kd V bk fe ba nd := by
  obtain ⟨hr, hP, hne⟩ := h.ph p r hp
  have ec : stopC c = folC c p r (stpV p) := by simp only [stopC, hp]
  have el : stopL c = folL c p r (stpV p) := by simp only [stopL, hp]
  rw [ec, el]
  cases p
  · exact fol_step h.fine h.nn h.num h.nb h.nds hr hP c.ph 3 (Or.inr (Or.inl ⟨rfl, Or.inl rfl⟩))
  · exact fol_step h.fine h.nn h.num h.nb h.nds hr hP c.ph 3 (Or.inr (Or.inl ⟨rfl, Or.inr rfl⟩))
  · have q := stay_step h (by rw [hp]; simp); exact q
  · exact hP.elim
/-- Revive: nobody is back -/
theorem rev_step {c : Ct} {n : Nat} {j kd V : Int} {bk : Bool} {fe ba : Nat → Bool} {nd : Nat → Nd} (h : CI c n j kd V bk fe ba nd) {p : Ph} {r : Rd} (hp : c.ph = some (p, r)) : StepI (revC c) (revL c) n j kd V bk fe (fun _ => false) nd := by
  obtain ⟨hr, hP, hne⟩ := h.ph p r hp
  have rf := (revC_all h.fine).1
  have ec : revC c = entP c .back (rd0 c.ru j kd V) := by
    simp only [revC, hp, rvC]
    rw [← hr.num, ← hr.kind, ← hr.ver]
    cases p
    · rfl
    · rfl
    · rfl
    · exact hP.elim
  have el : revL c = entL .back (rd0 c.ru j kd V) := by
    simp only [revL, hp, rvL]
    rw [← hr.num, ← hr.kind, ← hr.ver]
    cases p
    · rfl
    · rfl
    · rfl
    · exact hP.elim
  rw [ec] at rf
  rw [ec, el]
  have h0 : CI { c with ph := none } n j kd V bk fe (fun _ => false) nd := ⟨fine_none h.fine, h.num, h.nn, fun _ _ _ => rfl, h.nds, fun p r e => by simp at e⟩
  have hc : CI (entP c .back (rd0 c.ru j kd V)) n j kd V true fe (fun _ => false) nd := CI.back h0 (fun _ _ => rfl) c.ph rf
  have n1 := h.fine.n1
  have hn := h.nn
  subst hn
  obtain ⟨o1, _⟩ := ent_out (rd0_inv c.ru j kd V) (back_begins c.ru j kd V fe (fun _ => false) nd (fun _ _ => rfl))
  refine ⟨true, ⟨fun _ => Or.inr ?_, fun _ => rfl⟩, hc, o1, fun f => by simp [entP] at f⟩
  obtain ⟨m, hm⟩ := entL0_ne .back c.ru j kd V n1
  obtain ⟨_, _, _, _, _, _, g⟩ := ent_rq (bk := true) (rd0_inv c.ru j kd V) (by simp) (fun _ => rfl) m hm
  exact ⟨m, hm, by rw [g]; rfl⟩
/-- the next job begins -/
theorem begin_step {c : Ct} {n : Nat} {j kd V : Int} {bk : Bool} {fe ba : Nat → Bool} {nd : Nat → Nd} (h : CI c n j kd V bk fe ba nd) (hp : c.ph = none) (hm : c.num + 1 ≤ 9007199254740992) (k v : Int) (hk : k = 1 ∨ k = 2) : StepI (begC c k v) (begL c k v) n (j + 1) k v false (fun _ => false) (fun _ => false) nd := by
  have bf := fine_beg h.fine hp hm k v
  have hn := h.nn
  have hj := h.num
  have nds : ∀ i, i < n → NdI (j + 1) v false (nd i) := fun i hi => (h.nds i hi).next
  subst hn
  subst hj
  rcases hk with rfl | rfl
  · have ec : begC c 1 v = entP { c with num := c.num + 1 } .fetch (rd0 c.ru (c.num + 1) 1 v) := rfl
    have el : begL c 1 v = entL .fetch (rd0 c.ru (c.num + 1) 1 v) := rfl
    rw [ec] at bf
    rw [ec, el]
    have a := rd0_inv c.ru (c.num + 1) 1 v
    have b := fetch_begins c.ru (c.num + 1) v (fun _ => false) nd
    obtain ⟨o1, o2⟩ := ent_out a b
    refine ⟨false, ⟨fun f => by simp at f, fun f => ?_⟩, ⟨bf, rfl, rfl, fun _ _ _ => rfl, nds, fun p r e => ?_⟩, o1, fun f => by simp [entP] at f⟩
    · rcases f with f | ⟨m, hm, hk⟩
      · simp at f
      · exact absurd hk (o2 (by simp) m hm)
    · simp only [entP, Option.some.injEq, Prod.mk.injEq] at e
      obtain ⟨rfl, rfl⟩ := e
      exact ⟨⟨a.num, a.kind, a.ver, a.len, a.non⟩, b, miss0_ne c.ru (c.num + 1) 1 v h.fine.n1⟩
  · have ec : begC c 2 v = entP { c with num := c.num + 1 } .swap (rd0 c.ru (c.num + 1) 2 v) := rfl
    have el : begL c 2 v = entL .swap (rd0 c.ru (c.num + 1) 2 v) := rfl
    rw [ec] at bf
    rw [ec, el]
    have a := rd0_inv c.ru (c.num + 1) 2 v
    have b := swap_begins c.ru (c.num + 1) 2 v (fun _ => false) (fun _ => false) nd (Or.inl rfl)
    obtain ⟨o1, o2⟩ := ent_out a b
    refine ⟨false, ⟨fun f => by simp at f, fun f => ?_⟩, ⟨bf, rfl, rfl, fun _ _ _ => rfl, nds, fun p r e => ?_⟩, o1, fun f => by simp [entP] at f⟩
    · rcases f with f | ⟨m, hm, hk⟩
      · simp at f
      · exact absurd hk (o2 (by simp) m hm)
    · simp only [entP, Option.some.injEq, Prod.mk.injEq] at e
      obtain ⟨rfl, rfl⟩ := e
      exact ⟨⟨a.num, a.kind, a.ver, a.len, a.non⟩, b, miss0_ne c.ru (c.num + 1) 2 v h.fine.n1⟩
end Go.Proofs.Ytpleakkhbfhdkaa.Cn
namespace Go.Proofs.Ytpleakkhbfhdkaa.Cn
/-- a letter that lies there -/
def LetI (n : Nat) (j V : Int) (bk : Bool) (nd : Nat → Nd) (m : Mg) : Prop :=
  (m.td ≠ 64 ∧ 0 ≤ m.td ∧ m.td < (n : Int) ∧ RqI j V bk m) ∨ (m.td = 64 ∧ 0 ≤ m.fr ∧ m.fr < (n : Int) ∧ AnI j V bk (nd m.fr.toNat) m)
theorem LetI.mono {n : Nat} {j V : Int} {bk bk' : Bool} {nd : Nat → Nd} {m : Mg} (h : LetI n j V bk nd m) (hb : bk = true → bk' = true) : LetI n j V bk' nd m := by
  have e : bk' = bk ∨ bk' = true := by cases bk <;> cases bk' <;> simp_all
  rcases e with e | e
  · rw [e]; exact h
  · rw [e]
    rcases h with ⟨a, b, c, d⟩ | ⟨a, b, c, d⟩
    · exact Or.inl ⟨a, b, c, d.mono⟩
    · exact Or.inr ⟨a, b, c, d.mono⟩
theorem LetI.next {n : Nat} {j V V' : Int} {bk : Bool} {nd : Nat → Nd} {m : Mg} (h : LetI n j V bk nd m) : LetI n (j + 1) V' false nd m := by
  rcases h with ⟨a, b, c, d⟩ | ⟨a, b, c, d⟩
  · exact Or.inl ⟨a, b, c, d.next⟩
  · exact Or.inr ⟨a, b, c, d.next⟩
/-- the letters, while a node is told something -/
theorem LetI.node {n : Nat} {j V : Int} {bk : Bool} {nd : Nat → Nd} {x m : Mg} {k : Nat} (h : LetI n j V bk nd x) (hn : NdI j V bk (nd k)) (hr : RqI j V bk m) : LetI n j V bk (upf nd k (doesN (nd k) m)) x := by
  rcases h with ⟨a, b, c, d⟩ | ⟨a, b, c, d⟩
  · exact Or.inl ⟨a, b, c, d⟩
  · refine Or.inr ⟨a, b, c, ?_⟩
    unfold upf
    by_cases e : x.fr.toNat = k
    · rw [if_pos e]
      rw [e] at d
      exact ans_stays hn hr d
    · rw [if_neg e]
      exact d
/-- what a node answers -/
theorem LetI.answer {n : Nat} {j V : Int} {bk : Bool} {nd : Nat → Nd} {m : Mg} {k : Nat} (hk : k < n) (hn : NdI j V bk (nd k)) (hr : RqI j V bk m) (ht : m.td = (k : Int)) : LetI n j V bk (upf nd k (doesN (nd k) m)) (doesA (nd k) m) := by
  have ha := (does_inv hn hr).2.1
  have ef : (doesA (nd k) m).fr = m.td := by
    unfold doesA
    repeat' split
    all_goals rfl
  refine Or.inr ⟨ha.td, by rw [ef]; omega, by rw [ef]; omega, ?_⟩
  have e : (doesA (nd k) m).fr.toNat = k := by rw [ef]; omega
  rw [e]
  unfold upf
  rw [if_pos rfl]
  exact ha
theorem out_let {n : Nat} {j kd V : Int} {bk : Bool} {fe : Nat → Bool} {nd : Nat → Nd} {m : Mg} (hn : n ≤ 16) (h : OutI n j kd V bk fe m) : LetI n j V bk nd m :=
  Or.inl ⟨by have := h.td1; omega, h.td0, h.td1, h.rq⟩
/-- what an ended job bound the nodes to keep -/
def AtI (n : Nat) (j : Int) (bk : Bool) (nd : Nat → Nd) (at' : Nat → Int) : Prop := ∀ i, i < n → 0 ≤ at' i → (nd i).cur = at' i ∧ (nd i).ep = j ∧ ((nd i).sq = 1 ∧ bk = false ∨ (nd i).sq = 2)
theorem AtI.node {n : Nat} {j V : Int} {bk : Bool} {nd : Nat → Nd} {at' : Nat → Int} (h : AtI n j bk nd at') {m : Mg} {k : Nat} (hn : NdI j V bk (nd k)) (hr : RqI j V bk m) : AtI n j bk (upf nd k (doesN (nd k) m)) at' := by
  intro i hi ha
  obtain ⟨q1, q2, q3⟩ := h i hi ha
  unfold upf
  by_cases e : i = k
  · rw [if_pos e]
    subst e
    obtain ⟨d0, _, d2, d1⟩ := does_inv hn hr
    rcases q3 with ⟨s1, b⟩ | s2
    · obtain ⟨g1, g2⟩ := d1 b q2 s1
      refine ⟨?_, g1, Or.inl ⟨g2, b⟩⟩
      rw [(d0.one g1 g2).2.1, ← (hn.one q2 s1).2.1]
      exact q1
    · rw [d2 q2 s2]
      exact ⟨q1, q2, Or.inr s2⟩
  · rw [if_neg e]
    exact ⟨q1, q2, q3⟩
end Go.Proofs.Ytpleakkhbfhdkaa.Cn
namespace Go.Proofs.Ytpleakkhbfhdkaa.Cn
open Go.RowKit
theorem PlX.setAtN {N : Nat} {w : World} {B C : Nat} {S : Nat → Prop} {nv lv fv bv : Value} {p : Pl} {g c n : Nat} (h : PlX N w B C S nv lv fv bv (.slice (some ⟨g, 0, none⟩) n c) p) (hn : p.at'.length = n) (i : Nat) (x : Int) : PlX N (w.setCell ⟨g, i, none⟩ (.int .i64 x)) B C S nv lv fv bv (.slice (some ⟨g, 0, none⟩) n c) { p with at' := p.at'.set i x } ∧ Kp w (w.setCell ⟨g, i, none⟩ (.int .i64 x)) (fun k => k = g) := by
  subst hn
  exact h.setAt i x
theorem getD_setI {L : List Int} {k i : Nat} {x d : Int} (hk : k < L.length) : (L.set k x).getD i d = if i = k then x else L.getD i d := by
  by_cases e : i = k
  · subst e
    rw [if_pos rfl]
    simp [List.getD_eq_getElem?_getD, hk]
  · rw [if_neg e]
    simp [List.getD_eq_getElem?_getD, Ne.symm e]
theorem getD_at {α : Type} {L : List α} {i : Nat} {d : α} (hi : i < L.length) : L.getD i d = L[i] := by simp [List.getD_eq_getElem?_getD, hi]
theorem PlX.atRow {N : Nat} {w : World} {B C : Nat} {S : Nat → Prop} {nv lv fv bv av : Value} {p : Pl} (h : PlX N w B C S nv lv fv bv av p) {n : Nat} (hn : p.at'.length = n) (h0 : 0 < n) : ∃ g c, av = .slice (some ⟨g, 0, none⟩) n c := by
  have a := h.at'
  rw [hn] at a
  exact own_g a h0
/-- at[i] can be read and written -/
theorem PlX.atCell {N : Nat} {w : World} {B C : Nat} {S : Nat → Prop} {nv lv fv bv : Value} {p : Pl} {g c n : Nat} (h : PlX N w B C S nv lv fv bv (.slice (some ⟨g, 0, none⟩) n c) p) (hn : p.at'.length = n) (i : Nat) (hi : i < n) : w.cell? ⟨g, i, none⟩ = some (.int .i64 (p.at'.getD i (-1))) ∧ w.frozen? ⟨g, i, none⟩ = false ∧ g ≠ B ∧ g < w.heap.size := by
  subst hn
  obtain ⟨g', c', e', _, lt', y⟩ := own_read h.at' rfl i hi
  simp only [Value.slice.injEq, Option.some.injEq, Addr.mk.injEq] at e'
  obtain ⟨⟨rfl, _⟩, _⟩ := e'
  rw [getD_at hi]
  exact ⟨y, own_fz h.at' i, fun e => h.ne.2.2.2.2 _ rfl e, lt'⟩
theorem missL_pre (al : List (Bool × Int)) (i k : Nat) : ∃ r, missL al (i + k) = missL al i ++ r := by
  induction k with
  | zero => exact ⟨[], by simp⟩
  | succ k ih =>
    obtain ⟨r, hr⟩ := ih
    rw [← Nat.add_assoc, missL_succ]
    split
    · exact ⟨r, hr⟩
    · exact ⟨r ++ [((i + k : Nat) : Int)], by rw [hr, List.append_assoc]⟩
theorem miss_at (al : List (Bool × Int)) (i : Nat) (hi : i < al.length) (h : (al.getD i al0).1 = false) : (missL al i).length < (miss al).length ∧ (miss al).getD (missL al i).length 0 = (i : Int) := by
  obtain ⟨r, hr⟩ := missL_pre al (i + 1) (al.length - (i + 1))
  have e : i + 1 + (al.length - (i + 1)) = al.length := by omega
  rw [e] at hr
  have e2 : missL al (i + 1) = missL al i ++ [(i : Int)] := by
    rw [missL_succ, if_neg (by rw [show ((true, 0) : Bool × Int) = al0 from rfl, h]; simp)]
  unfold miss
  rw [hr, e2]
  refine ⟨by simp, ?_⟩
  simp [List.getD_eq_getElem?_getD]
end Go.Proofs.Ytpleakkhbfhdkaa.Cn
namespace Go.Proofs.Ytpleakkhbfhdkaa.Cn
open Go.RowKit
set_option maxHeartbeats 8000000 in
set_option maxRecDepth 100000 in
set_option linter.unusedSimpArgs false in
set_option linter.unusedVariables false in
theorem ended_1 {N : Nat} {w : World} {B C : Nat} {S : Nat → Prop} {nv lv fv bv av : Value} {p : Pl} (h : PlX N w B C S nv lv fv bv av p) {n : Nat} (hf : p.c.fine) (hj0 : p.job ≠ 0) (hnn : p.nd.length = n) (hna : p.at'.length = n) (hnb : p.ba.length = n) (n1 : 1 ≤ n) (n16 : n ≤ 16) (e1 : p.c.last.job = p.job) (e2 : p.c.last.kind = p.kind) (e3 : p.c.last.ver = p.ver) (e4 : p.c.last.hs.length = n) (ho : p.c.last.out = 1) (hbk : p.bk = false) (hms : p.c.last.ms = []) (hall : ∀ i, i < n → p.c.last.hs.getD i 0 = p.ver ∧ (p.nd.getD i nd0).cur = p.ver) :
    Calls Try.prog 55 #[.pointer (some ⟨B, 0, none⟩)] w fun e w' => e = .returned (.bool true) ∧ ∃ at2, at2.length = n ∧ PlX N w' B C S nv lv fv bv av { p with at' := at2 } ∧ Below N w w' ∧ ∀ i, i < n → at2.getD i (-1) = p.ver := by
  have RP := hide (Report_yes h.ct hf.n1 (by rw [e1]; exact hj0) (by have := hf.la; omega) (by have := hf.la; omega))
  obtain ⟨ga, ac, rfl⟩ := h.atRow hna n1
  have H := hide h
  obtain ⟨na, nc, hnv⟩ := own_sl h.nd
  have x0 := h.cells.1
  have HNV : Hid (nv = .slice na n nc) := by rw [hnv, hnn]; exact rfl
  obtain ⟨NU0, NU⟩ : ∃ q : True, Hid (∀ w : World, Calls Try.prog 11 #[.int .i64 0] w fun x w' => x = .returned (.int .i64 0) ∧ w' = w) := ⟨trivial, fun w => (num_any 0 w).mono fun _ _ ⟨a, b⟩ => ⟨a, b.symm⟩⟩
  have LA := hide hf.la
  have E1 := hide e1
  have E2 := hide e2
  have E3 := hide e3
  have E4 := hide e4
  have HNN := hide hnn
  have HNA := hide hna
  have HNB := hide hnb
  have HO := hide ho
  have HBK := hide hbk
  have HMS := hide hms
  have HALL := hide hall
  have ga0 : Hid (ga < w.heap.size ∧ ga ≠ B) := by obtain ⟨_, _, a, b⟩ := h.atCell hna 0 (by omega); exact ⟨b, a⟩
  clear h hf hj0 hnn hna hnb e1 e2 e3 e4 ho hbk hms hall hnv NU0
  go_enter Try.func55, Try.ntmps55
  go_wp2_with fail
  refine Calls.mono RP.out ?_
  rintro e Wr ⟨nh, nm, rfl, oh, om, bb⟩
  clear RP x0
  obtain ⟨hva, hvc, hvh⟩ := own_sl oh
  obtain ⟨mva, mvc, hvm⟩ := own_sl om
  obtain ⟨R, hR⟩ : ∃ R, R = Wr.heap.size := ⟨_, rfl⟩
  obtain ⟨la, hla⟩ : ∃ la, la = p.c.last := ⟨_, rfl⟩
  rw [← hla] at oh om hvh hvm E1 E2 E3 E4 HO HMS HALL LA ⊢
  obtain ⟨W1, hW1⟩ : ∃ W1, W1 = (Wr.alloc (.cells #[.int .i64 0, .int .i64 0, .int .i64 0, .int .i64 0, .slice none 0 0, .slice none 0 0] 39)).setRow Wr.heap.size (rpA la nh nm) := ⟨_, rfl⟩
  have b1 : Below Wr.heap.size Wr W1 := by rw [hW1]; exact (((Kp.refl Wr non).alloc _).row (Or.inr (Nat.le_refl _)) _).below
  have R1 : Hid (W1.heap[R]? = some (.cells (rpA la nh nm) 39)) := by rw [hW1, hR]; exact setRow_heap _ _ _ _ _ _ (heap_last Wr _)
  have P1 : Hid (PlX N W1 B C S nv lv fv bv (.slice (some ⟨ga, 0, none⟩) n ac) p) := (H.out.below bb).below b1
  have OH : Hid (W1.ownsRow w.heap.size 3 1 nh la.hs.length (ints la.hs)) := own_below oh b1
  have OM : Hid (W1.ownsRow w.heap.size 3 1 nm la.ms.length (ints la.ms)) := own_below om b1
  have BW : Hid (Below w.heap.size w W1) := bb.trans (b1.mono bb.size)
  have gR : Hid (w.heap.size ≤ R) := by rw [hR]; exact bb.size
  have VH : Hid (nh = .slice hva n hvc) := by rw [hvh, E4.out]; exact rfl
  have ONE := hide (rp_one la ⟨_, _, _, hvh⟩ ⟨_, _, _, hvm⟩)
  have VM := hide hvm
  have hW1' := hide hW1
  have HR := hide hR
  clear oh om bb b1 hW1 hvh hvm hla
  go_upto_region 2 with (refine wpList_stR rfl 39 (.tmp 3) (.tmp 13) rfl Wr.heap.size rfl (rpA la nh nm) #[.int .i64 0, .int .i64 0, .int .i64 0, .int .i64 0, .slice none 0 0, .slice none 0 0] rfl _ (heap_last Wr _) rp_info rfl ONE.out ?_)
  rw [← hW1'.out, ← HR.out]
  clear hW1' hR
  have y0 : W1.cell? ⟨R, 0, none⟩ = some (.int .i64 p.job) := by rw [cell_row R1.out, ← E1.out]; rfl
  have y1 : W1.cell? ⟨R, 1, none⟩ = some (.int .i64 p.kind) := by rw [cell_row R1.out, ← E2.out]; rfl
  have y2 : W1.cell? ⟨R, 2, none⟩ = some (.int .i64 p.ver) := by rw [cell_row R1.out, ← E3.out]; rfl
  have y4 : W1.cell? ⟨R, 4, none⟩ = some (.slice hva n hvc) := by rw [cell_row R1.out, ← VH.out]; rfl
  obtain ⟨_, x1, _, x3, x4, x5, _⟩ := P1.out.cells
  rw [HNV.out] at x1
  go_quiet ((go_at_call 11; exact Calls.quiet_of_same (NU.out _)))
  obtain ⟨W2, hW2⟩ : ∃ X, X = W1.drewN nq := ⟨_, rfl⟩
  have KK : Kp W1 W2 non := by rw [hW2]; exact (Kp.refl _ non).drewN _
  have P2 := hide (P1.out.kp KK (fun _ f => f.elim))
  have R2 : Hid (W2.heap[R]? = some (.cells (rpA la nh nm) 39)) := getL KK R1.out (fun f => f)
  have OH2 := hide (own_kp OH.out KK (fun _ _ f => f))
  have OM2 := hide (own_kp OM.out KK (fun _ _ f => f))
  have BW2 : Hid (Below w.heap.size w W2) := ((Kp.of_below BW.out non).trans KK (fun _ f => f.elim)).below
  rw [← hW2]
  clear hW2 KK y0 y1 y2 y4 x1 x3 x4 x5 P1 R1 OH OM BW
  go_wp2_with fail
  go_loopw [5, 6] (fun vm vi wr => ∃ (i : Nat) (ati : List Int), i ≤ n ∧ vi = .int .i64 (i : Int) ∧ vm = .int .i64 0 ∧ Hid (ati.length = n) ∧ Hid (PlX N wr B C S nv lv fv bv (.slice (some ⟨ga, 0, none⟩) n ac) { p with at' := ati }) ∧ Hid (Kp W2 wr (fun k => k = ga)) ∧ Hid (∀ j, j < i → ati.getD j (-1) = p.ver)) (fun _ vi _ => n - (intOf vi).toNat)
  case atStart => exact ⟨0, p.at', Nat.zero_le _, rfl, rfl, HNA.out, P2.out, Kp.refl _ _, fun j f => by omega⟩
  case round =>
    obtain ⟨i, ati, hi, rfl, rfl, HL, HP, HK, HJ⟩ := hrel
    have Rr : Hid (wr.heap[R]? = some (.cells (rpA la nh nm) 39)) := getL HK.out R2.out (by have := gR.out; have := ga0.out; omega)
    have OHr : Hid (wr.ownsRow w.heap.size 3 1 nh la.hs.length (ints la.hs)) := own_kp OH2.out HK.out (fun q e f => by have := own_ge OH2.out e; have := ga0.out; omega)
    have OMr : Hid (wr.ownsRow w.heap.size 3 1 nm la.ms.length (ints la.ms)) := own_kp OM2.out HK.out (fun q e f => by have := own_ge OM2.out e; have := ga0.out; omega)
    have BWr : Hid (Below N w wr) := ((Kp.of_below BW2.out (fun q => q = ga)).trans HK.out (fun q e => Or.inl e)).toN H.out.gN (fun q e => by have := own_ge H.out.at' (show Value.ownBlock _ = some ga from rfl); omega)
    obtain ⟨_, x1, _, x3, x4, x5, _, x7, x8, x9⟩ := HP.out.cells
    rw [HNV.out] at x1
    rw [HBK.out] at x8
    by_cases hin : i < n
    case neg =>
      obtain rfl : i = n := by omega
      have y3 : wr.cell? ⟨R, 3, none⟩ = some (.int .i64 1) := by rw [cell_row Rr.out, ← HO.out]; rfl
      have y5 : wr.cell? ⟨R, 5, none⟩ = some (.slice mva 0 mvc) := by rw [cell_row Rr.out, show (rpA la nh nm)[5]? = some nm from rfl, VM.out, HMS.out]; rfl
      clear x3 x4 x5 x7 x9
      go_wp2_with fail
      go_ret
      exact ⟨rfl, ati, HL.out, HP.out, BWr.out, HJ.out⟩
    case pos =>
      have hii : (i : Int) < (n : Int) := by omega
      have hin' := hide hin
      obtain ⟨AC, AF, _, _⟩ := HP.out.atCell HL.out i hin
      obtain ⟨hall1, HA1⟩ : ∃ q : True, Hid (la.hs.getD i 0 = p.ver ∧ (p.nd.getD i nd0).cur = p.ver) := ⟨trivial, HALL.out i hin⟩
      obtain ⟨gh, hc9, hv9, _, _, cg⟩ := own_read OHr.out rfl i (by rw [E4.out]; exact hin)
      have e8 : hva = some ⟨gh, 0, none⟩ := by have q := hv9.symm.trans VH.out; simp only [Value.slice.injEq] at q; exact q.1.symm
      subst e8
      obtain ⟨hd, hhd⟩ : ∃ hd, hd = la.hs.getD i 0 := ⟨_, rfl⟩
      have cg' : wr.cell? ⟨gh, i, none⟩ = some (.int .i64 hd) := by rw [hhd, getD_at (by rw [E4.out]; exact hin)]; exact cg
      have gne : Hid (gh ≠ ga ∧ R ≠ ga) := ⟨by have := own_ge OHr.out (show nh.ownBlock = some gh by rw [hv9]; rfl); have := ga0.out; omega, by have := gR.out; have := ga0.out; omega⟩
      rw [← hhd] at HA1
      obtain ⟨nd, hnd⟩ : ∃ nd, nd = p.nd.getD i nd0 := ⟨_, rfl⟩
      rw [← hnd] at HA1
      have hndL : Hid (nd = p.nd[i]'(by rw [HNN.out]; exact hin)) := by rw [hnd]; exact getD_at (by rw [HNN.out]; exact hin)
      obtain ⟨gn, nc9, hv8, gnlt, _, cn, _⟩ := own_nd HP.out.nd i (by show i < p.nd.length; rw [HNN.out]; exact hin)
      have e7 : na = some ⟨gn, 0, none⟩ := by have q := hv8.symm.trans HNV.out; simp only [Value.slice.injEq] at q; exact q.1.symm
      subst e7
      have cn' : wr.cell? ⟨gn, i * 8, none⟩ = some (.int .i64 nd.cur) := by rw [hndL.out]; exact cn
      have gnne : Hid (gn ≠ ga) := fun e => own_apart HP.out.nd HP.out.at' (by decide) gn (by rw [hv8]; rfl) (by rw [e]; rfl)
      have HND := hide hnd
      clear cg cn hv8 hv9 hhd hnd hall1
      obtain ⟨W3, hW3⟩ : ∃ X, X = wr.setCell ⟨ga, i, none⟩ (.int .i64 (-1)) := ⟨_, rfl⟩
      obtain ⟨pp3, kk3⟩ := HP.out.setAtN HL.out i (-1)
      rw [← hW3] at pp3 kk3
      have P3 := hide pp3
      have K3 : Hid (Kp W2 W3 (fun k => k = ga)) := HK.out.trans kk3 (fun _ e => Or.inl e)
      have R3 : Hid (W3.heap[R]? = some (.cells (rpA la nh nm) 39)) := getL kk3 Rr.out gne.out.2
      have cg3 : W3.cell? ⟨gh, i, none⟩ = some (.int .i64 hd) := by rw [hW3]; unfold World.cell?; rw [Below.heap_setCell _ _ _ gh gne.out.1]; exact cg'
      have cn3 : W3.cell? ⟨gn, i * 8, none⟩ = some (.int .i64 nd.cur) := by rw [hW3]; unfold World.cell?; rw [Below.heap_setCell _ _ _ gn gnne.out]; exact cn'
      have L3 : Hid ((ati.set i (-1)).length = n) := by rw [List.length_set]; exact HL.out
      replace hW3 := hide hW3
      clear pp3 kk3 cg' cn' x3 x4 x5 x7 x8
      go_upto_region 9 with fail
      rw [← hW3.out]
      clear hW3 x1 x9 AC AF
      have y3 : W3.cell? ⟨R, 3, none⟩ = some (.int .i64 1) := by rw [cell_row R3.out, ← HO.out]; rfl
      go_upto_region 12 with fail
      clear y3
      have FF : Hid (∀ X : World, X.heap[B]? = W3.heap[B]? → X.cell? ⟨B, 9, none⟩ = some (.slice (some ⟨ga, 0, none⟩) n ac) ∧ X.cell? ⟨B, 5, none⟩ = some (.int .i64 p.ver)) := fun X hX => by
        unfold World.cell?
        rw [hX, P3.out.ob]
        exact ⟨rfl, rfl⟩
      obtain ⟨AC, AF, _, _⟩ := P3.out.atCell L3.out i hin
      obtain ⟨W4, hW4⟩ : ∃ X, X = (W3.setCell ⟨ga, i, none⟩ (.int .i64 p.ver)).drew := ⟨_, rfl⟩
      obtain ⟨pp4, kk4⟩ := P3.out.setAtN L3.out i p.ver
      have P4 : Hid (PlX N W4 B C S nv lv fv bv (.slice (some ⟨ga, 0, none⟩) n ac) { p with at' := (ati.set i (-1)).set i p.ver }) := by rw [hW4]; exact pp4.kp ((Kp.refl _ non).drew) (fun _ f => f.elim)
      have kk5 : Kp W3 W4 (fun k => k = ga) := by rw [hW4]; exact kk4.drew
      have K4 : Hid (Kp W2 W4 (fun k => k = ga)) := K3.out.trans kk5 (fun _ e => Or.inl e)
      have R4 : Hid (W4.heap[R]? = some (.cells (rpA la nh nm) 39)) := getL kk5 R3.out gne.out.2
      have cg4 : W4.cell? ⟨gh, i, none⟩ = some (.int .i64 hd) := by rw [hW4]; show (W3.setCell _ _).cell? _ = _; unfold World.cell?; rw [Below.heap_setCell _ _ _ gh gne.out.1]; exact cg3
      have cn4 : W4.cell? ⟨gn, i * 8, none⟩ = some (.int .i64 nd.cur) := by rw [hW4]; show (W3.setCell _ _).cell? _ = _; unfold World.cell?; rw [Below.heap_setCell _ _ _ gn gnne.out]; exact cn3
      replace hW4 := hide hW4
      clear pp4 kk4 kk5 cg3 cn3
      refine wp_region_held_drew (S := fun X => X.heap[B]? = W3.heap[B]?) (by kernel_rfl) rfl (fun hHeld => ?_)
      refine wpAnyH_take (i := 0) (v := (.pointer (some ⟨B, 0, none⟩))) rfl (by kernel_rfl) (by kernel_rfl) (by kernel_rfl) (fun _ _ _ h => h) (Or.inl ⟨by kernel_rfl, ?_⟩) (by assumption) ?_
      · intro w' hSw
        (try dsimp only at hSw)
        go_simp
      (try simp only [Act.put, List.getElem_toArray, List.getElem_cons_zero, List.getElem_cons_succ, List.setIfInBounds_toArray, List.set_cons_zero, List.set_cons_succ])
      refine wpAnyH_take (i := 1) (v := (.pointer (some ⟨B, 0, none⟩))) rfl (by kernel_rfl) (by kernel_rfl) (by kernel_rfl) (fun _ _ _ h => h) (Or.inl ⟨by kernel_rfl, ?_⟩) (by assumption) ?_
      · intro w' hSw
        (try dsimp only at hSw)
        go_simp
      (try simp only [Act.put, List.getElem_toArray, List.getElem_cons_zero, List.getElem_cons_succ, List.setIfInBounds_toArray, List.set_cons_zero, List.set_cons_succ])
      refine wpAnyH_take (i := 2) (v := (.pointer (some ⟨B, 9, none⟩))) rfl (by kernel_rfl) (by kernel_rfl) (by kernel_rfl) (fun _ _ _ h => h) (Or.inl ⟨by kernel_rfl, ?_⟩) (by assumption) ?_
      · intro w' hSw
        (try dsimp only at hSw)
        go_simp
      (try simp only [Act.put, List.getElem_toArray, List.getElem_cons_zero, List.getElem_cons_succ, List.setIfInBounds_toArray, List.set_cons_zero, List.set_cons_succ])
      refine wpAnyH_take (i := 3) (v := (.slice (some ⟨ga, 0, none⟩) n ac)) rfl (by kernel_rfl) (by kernel_rfl) (by kernel_rfl) (fun _ _ _ h => h) (Or.inl ⟨by kernel_rfl, ?_⟩) (by assumption) ?_
      · intro w' hSw
        (try dsimp only at hSw)
        (have z := (FF.out _ hSw).1; go_simp)
      (try simp only [Act.put, List.getElem_toArray, List.getElem_cons_zero, List.getElem_cons_succ, List.setIfInBounds_toArray, List.set_cons_zero, List.set_cons_succ])
      refine wpAnyH_take (i := 4) (v := (.int .i64 (i : Int))) rfl (by kernel_rfl) (by kernel_rfl) (by kernel_rfl) (fun _ _ _ h => h) (Or.inl ⟨by kernel_rfl, ?_⟩) (by assumption) ?_
      · intro w' hSw
        (try dsimp only at hSw)
        go_simp
      (try simp only [Act.put, List.getElem_toArray, List.getElem_cons_zero, List.getElem_cons_succ, List.setIfInBounds_toArray, List.set_cons_zero, List.set_cons_succ])
      refine wpAnyH_take (i := 5) (v := (.pointer (some ⟨B, 0, none⟩))) rfl (by kernel_rfl) (by kernel_rfl) (by kernel_rfl) (fun _ _ _ h => h) (Or.inl ⟨by kernel_rfl, ?_⟩) (by assumption) ?_
      · intro w' hSw
        (try dsimp only at hSw)
        go_simp
      (try simp only [Act.put, List.getElem_toArray, List.getElem_cons_zero, List.getElem_cons_succ, List.setIfInBounds_toArray, List.set_cons_zero, List.set_cons_succ])
      refine wpAnyH_take (i := 6) (v := (.pointer (some ⟨B, 0, none⟩))) rfl (by kernel_rfl) (by kernel_rfl) (by kernel_rfl) (fun _ _ _ h => h) (Or.inl ⟨by kernel_rfl, ?_⟩) (by assumption) ?_
      · intro w' hSw
        (try dsimp only at hSw)
        go_simp
      (try simp only [Act.put, List.getElem_toArray, List.getElem_cons_zero, List.getElem_cons_succ, List.setIfInBounds_toArray, List.set_cons_zero, List.set_cons_succ])
      refine wpAnyH_take (i := 7) (v := (.pointer (some ⟨B, 5, none⟩))) rfl (by kernel_rfl) (by kernel_rfl) (by kernel_rfl) (fun _ _ _ h => h) (Or.inl ⟨by kernel_rfl, ?_⟩) (by assumption) ?_
      · intro w' hSw
        (try dsimp only at hSw)
        go_simp
      (try simp only [Act.put, List.getElem_toArray, List.getElem_cons_zero, List.getElem_cons_succ, List.setIfInBounds_toArray, List.set_cons_zero, List.set_cons_succ])
      refine wpAnyH_take (i := 8) (v := (.int .i64 p.ver)) rfl (by kernel_rfl) (by kernel_rfl) (by kernel_rfl) (fun _ _ _ h => h) (Or.inl ⟨by kernel_rfl, ?_⟩) (by assumption) ?_
      · intro w' hSw
        (try dsimp only at hSw)
        (have z := (FF.out _ hSw).2; go_simp)
      (try simp only [Act.put, List.getElem_toArray, List.getElem_cons_zero, List.getElem_cons_succ, List.setIfInBounds_toArray, List.set_cons_zero, List.set_cons_succ])
      refine wpAnyH_take (i := 9) (v := (.pointer (some ⟨ga, i, none⟩))) rfl (by kernel_rfl) (by kernel_rfl) (by kernel_rfl) (fun _ _ _ h => h) (Or.inl ⟨by kernel_rfl, ?_⟩) (by assumption) ?_
      · intro w' hSw
        (try dsimp only at hSw)
        go_simp
      (try simp only [Act.put, List.getElem_toArray, List.getElem_cons_zero, List.getElem_cons_succ, List.setIfInBounds_toArray, List.set_cons_zero, List.set_cons_succ])
      refine wpAnyH_ready (rs := [10]) (by kernel_rfl) (by simp) ?_
      refine AllReadyH.cons rfl (fun K hK => ?_) AllReadyH.nil
      go_simp
      rw [← hW4.out]
      clear hW4 AC AF
      refine hK.out _ _ ((by rw [P4.out.ob, P3.out.ob]; rfl)) (fun hHeld => ?_)
      clear hK
      (try simp only [Act.put, List.setIfInBounds_toArray, List.set_cons_zero, List.set_cons_succ])
      refine wpAnyH_done (by kernel_rfl) ?_ _
      clear hHeld FF
      obtain ⟨_, x1, _, _, _, x5, _, _, x8, _⟩ := P4.out.cells
      rw [HNV.out] at x1
      rw [HBK.out] at x8
      have y4 : W4.cell? ⟨R, 4, none⟩ = some (.slice (some ⟨gh, 0, none⟩) n hvc) := by rw [cell_row R4.out, ← VH.out]; rfl
      have q1 : hd = p.ver := HA1.out.1
      have q2 : nd.cur = p.ver := HA1.out.2
      rw [q1] at cg4
      rw [q2] at cn4
      clear q1 q2
      go_upto_region 13 with fail
      go_quiet (fail)
      go_wp2_with fail
      have LL : ((ati.set i (-1)).set i p.ver).length = n := by rw [List.length_set]; exact L3.out
      refine ⟨⟨i + 1, (ati.set i (-1)).set i p.ver, by omega, rfl, rfl, LL, P4.out.kp ((Kp.refl _ non).drewN _) (fun _ f => f.elim), K4.out.drewN _, fun j hj => ?_⟩, by simp [intOf]; omega⟩
      rw [getD_setI (by rw [L3.out]; exact hin), getD_setI (by rw [HL.out]; exact hin)]
      by_cases e : j = i
      · rw [if_pos e]
      · rw [if_neg e, if_neg e]
        exact HJ.out j (by omega)
end Go.Proofs.Ytpleakkhbfhdkaa.Cn
