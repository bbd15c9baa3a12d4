import Derived.Test.YtpleakkhbfhdkaaGCgTaken
import Derived.Test.YtpleakkhbfhdkaaGCaBase
namespace Go.Proofs.Ytpleakkhbfhdkaa.Cn
open Go.RowKit
theorem fine_none {c : Ct} (h : c.fine) : ({ c with ph := none } : Ct).fine :=
  ⟨h.n1, h.n16, h.rs1, h.rs2, h.lm1, h.lm2, h.pt1, h.pt2, h.nu0, h.nu1, fun p r e => by simp at e, h.la⟩
/-- whatever the round's ticks: what begins or ends behind it may be -/
theorem fol_fine {c : Ct} (h : c.fine) (p : Ph) (r : Rd) (x : Option (Ph × Rd)) (hl : r.al.length = c.ru.n) (hn : r.num = c.num) {v : Int} (hv : v = 2 ∨ v = 3 ∨ v = 4 ∨ v = 5 ∨ v = 6) : (folC { c with ph := x } p r v).fine := by
  have h0 := fine_none h
  rcases hv with rfl | rfl | rfl | rfl | rfl <;> simp only [folC] <;> simp
  · rw [hn]; exact fine_ent h0 _ _ _
  · rw [hn]; exact fine_ent h0 _ _ _
  · exact fine_end (c := { c with ph := none }) h0 hl _
  · exact fine_end (c := { c with ph := none }) h0 hl _
  · exact fine_end (c := { c with ph := none }) h0 hl _
/-- what a tick says -/
theorem tick_says {c : Ct} (h : c.fine) {p : Ph} {r : Rd} (hp : c.ph = some (p, r)) :
    (tickV p c.ru r = 0 ∧ (r.tk + 1) % c.ru.rs ≠ 0 ∧ (p = .fetch → r.tk + 1 < c.ru.pt) ∧ (p ≠ .fetch → r.tk + 1 < c.ru.rs * c.ru.lm)) ∨
    (tickV p c.ru r = 1 ∧ (r.tk + 1) % c.ru.rs = 0 ∧ (p = .fetch → r.tk + 1 < c.ru.pt) ∧ (p ≠ .fetch → r.tk + 1 < c.ru.rs * c.ru.lm)) ∨
    (tickV p c.ru r = 3 ∧ (p = .fetch ∨ p = .swap)) ∨ (tickV p c.ru r = 6 ∧ (p = .back ∨ p = .look)) := by
  obtain ⟨_, t0, hs, _, hf, hg⟩ := h.rd p r hp
  have rs := h.rs1
  have key : ∀ g : Int, p ≠ .fetch → (paceV c.ru r g = 0 ∧ (r.tk + 1) % c.ru.rs ≠ 0 ∧ r.tk + 1 < c.ru.rs * c.ru.lm) ∨ (paceV c.ru r g = 1 ∧ (r.tk + 1) % c.ru.rs = 0 ∧ r.tk + 1 < c.ru.rs * c.ru.lm) ∨ paceV c.ru r g = g := by
    intro g hp
    have lt := hg hp
    unfold paceV
    by_cases e : (r.tk + 1) % c.ru.rs = 0
    · rw [if_pos e]
      by_cases l : r.sd < c.ru.lm
      · rw [if_pos l]
        refine Or.inr (Or.inl ⟨rfl, e, ?_⟩)
        have d := (div_step (t := r.tk) rs).1 e
        have m := Int.mul_ediv_add_emod (r.tk + 1) c.ru.rs
        rw [e, d] at m
        have : c.ru.rs * (r.tk / c.ru.rs + 1) < c.ru.rs * c.ru.lm := Int.mul_lt_mul_of_pos_left (by omega) (by omega)
        omega
      · rw [if_neg l]
        exact Or.inr (Or.inr rfl)
    · rw [if_neg e]
      refine Or.inl ⟨rfl, e, ?_⟩
      rcases Int.lt_or_le (r.tk + 1) (c.ru.rs * c.ru.lm) with q | q
      · exact q
      · exfalso
        have eq : r.tk + 1 = c.ru.rs * c.ru.lm := by omega
        rw [eq] at e
        exact e (Int.mul_emod_right _ _)
  cases p with
  | fetch =>
    simp only [tickV, ftkV]
    by_cases a : c.ru.pt ≤ r.tk + 1
    · rw [if_pos a]; exact Or.inr (Or.inr (Or.inl ⟨rfl, Or.inl trivial⟩))
    · rw [if_neg a]
      by_cases e : (r.tk + 1) % c.ru.rs = 0
      · rw [if_pos e]; exact Or.inr (Or.inl ⟨rfl, e, fun _ => by omega, fun q => absurd rfl q⟩)
      · rw [if_neg e]; exact Or.inl ⟨rfl, e, fun _ => by omega, fun q => absurd rfl q⟩
  | swap =>
    rcases key 3 (by simp) with q | q | q
    · exact Or.inl ⟨q.1, q.2.1, fun e => (by cases e), fun _ => q.2.2⟩
    · exact Or.inr (Or.inl ⟨q.1, q.2.1, fun e => (by cases e), fun _ => q.2.2⟩)
    · exact Or.inr (Or.inr (Or.inl ⟨q, Or.inr rfl⟩))
  | back =>
    rcases key 6 (by simp) with q | q | q
    · exact Or.inl ⟨q.1, q.2.1, fun e => (by cases e), fun _ => q.2.2⟩
    · exact Or.inr (Or.inl ⟨q.1, q.2.1, fun e => (by cases e), fun _ => q.2.2⟩)
    · exact Or.inr (Or.inr (Or.inr ⟨q, Or.inl rfl⟩))
  | look =>
    rcases key 6 (by simp) with q | q | q
    · exact Or.inl ⟨q.1, q.2.1, fun e => (by cases e), fun _ => q.2.2⟩
    · exact Or.inr (Or.inl ⟨q.1, q.2.1, fun e => (by cases e), fun _ => q.2.2⟩)
    · exact Or.inr (Or.inr (Or.inr ⟨q, Or.inr rfl⟩))
/-- how many ticks are left at most -/
def left (c : Ct) : Nat :=
  match c.ph with
  | none => 0
  | some (.fetch, r) => (c.ru.pt - r.tk + 2 * (c.ru.rs * c.ru.lm)).toNat
  | some (.swap, r) => (c.ru.rs * c.ru.lm - r.tk + c.ru.rs * c.ru.lm).toNat
  | some (.back, r) => (c.ru.rs * c.ru.lm - r.tk).toNat
  | some (.look, r) => (c.ru.rs * c.ru.lm - r.tk).toNat
theorem tickC_all {c : Ct} (h : c.fine) : (tickC c).fine ∧ (tickC c).num = c.num ∧ (tickC c).ru = c.ru ∧ (c.ph ≠ none → left (tickC c) < left c) := by
  cases hp : c.ph with
  | none => simp only [tickC, hp]; exact ⟨h, trivial, trivial, fun e => absurd rfl e⟩
  | some x =>
    obtain ⟨p, r⟩ := x
    obtain ⟨hl, t0, hs, hn, hf, hg⟩ := h.rd p r hp
    have t1 := h.tk hp
    have pos : 0 < c.ru.rs * c.ru.lm := Int.mul_pos (by have := h.rs1; omega) (by have := h.lm1; omega)
    have pt := h.pt1
    rcases tick_says h hp with ⟨e, m, a, b⟩ | ⟨e, m, a, b⟩ | ⟨e, a⟩ | ⟨e, a⟩
    · have ec : tickC c = { c with ph := some (p, tkR r) } := by simp only [tickC, hp, e]; rfl
      rw [ec]
      refine ⟨fine_rd h ⟨hl, by show 0 ≤ r.tk + 1; omega, ?_, hn, a, b⟩, rfl, rfl, fun _ => ?_⟩
      · show r.sd = 1 + (r.tk + 1) / c.ru.rs
        rw [(div_step (t := r.tk) h.rs1).2 m]
        exact hs
      · cases p <;> simp only [left, hp, tkR] <;> (first | (have a1 := a rfl; omega) | (have b1 := b (by simp); omega))
    · have ec : tickC c = entP { c with ph := some (p, tkR r) } p (tkR r) := by simp only [tickC, hp, e]; rfl
      rw [ec]
      refine ⟨fine_rd (p := p) (r' := { tkR r with sd := (tkR r).sd + 1 }) h ⟨hl, by show 0 ≤ r.tk + 1; omega, ?_, hn, a, b⟩, rfl, rfl, fun _ => ?_⟩
      · show r.sd + 1 = 1 + (r.tk + 1) / c.ru.rs
        rw [(div_step (t := r.tk) h.rs1).1 m]
        omega
      · cases p <;> simp only [left, hp, tkR, entP] <;> (first | (have a1 := a rfl; omega) | (have b1 := b (by simp); omega))
    · have ec : tickC c = folC { c with ph := some (p, tkR r) } p (tkR r) 3 := by simp only [tickC, hp, e]
      rw [ec]
      refine ⟨fol_fine h p (tkR r) _ hl hn (by omega), rfl, rfl, fun _ => ?_⟩
      rcases a with rfl | rfl
      · have := hf rfl
        simp only [left, hp, folC, entP, rd0]
        simp
        omega
      · have := hg (by simp)
        simp only [left, hp, folC, entP, rd0]
        simp
        omega
    · have ec : tickC c = folC { c with ph := some (p, tkR r) } p (tkR r) 6 := by simp only [tickC, hp, e]
      rw [ec]
      refine ⟨fol_fine h p (tkR r) _ hl hn (by omega), rfl, rfl, fun _ => ?_⟩
      rcases a with rfl | rfl
      · have := hg (by simp)
        simp only [left, hp, folC, endC]
        simp
        omega
      · have := hg (by simp)
        simp only [left, hp, folC, endC]
        simp
        omega
theorem left_most {c : Ct} (h : c.fine) : (left c : Int) ≤ c.ru.pt + 2 * (c.ru.rs * c.ru.lm) := by
  have pos : 0 < c.ru.rs * c.ru.lm := Int.mul_pos (by have := h.rs1; omega) (by have := h.lm1; omega)
  have pt := h.pt1
  cases hp : c.ph with
  | none => simp only [left, hp]; omega
  | some x =>
    obtain ⟨p, r⟩ := x
    have := h.tk hp
    cases p <;> simp only [left, hp] <;> omega
theorem left_none {c : Ct} (h : c.fine) (h0 : left c = 0) : c.ph = none := by
  cases hp : c.ph with
  | none => rfl
  | some x =>
    exfalso
    obtain ⟨p, r⟩ := x
    obtain ⟨_, _, _, _, hf, hg⟩ := h.rd p r hp
    have pos : 0 < c.ru.rs * c.ru.lm := Int.mul_pos (by have := h.rs1; omega) (by have := h.lm1; omega)
    cases p
    · have := hf rfl; simp only [left, hp] at h0; omega
    · have := hg (by simp); simp only [left, hp] at h0; omega
    · have := hg (by simp); simp only [left, hp] at h0; omega
    · have := hg (by simp); simp only [left, hp] at h0; omega
/-- Stop, Revive, Begin, of any controller -/
def stopC (c : Ct) : Ct := match c.ph with | none => c | some x => folC c x.1 x.2 (stpV x.1)
def stopL (c : Ct) : List Mg := match c.ph with | none => [] | some x => folL c x.1 x.2 (stpV x.1)
def revC (c : Ct) : Ct := match c.ph with | none => c | some x => rvC c x.1 x.2
def revL (c : Ct) : List Mg := match c.ph with | none => [] | some x => rvL c x.1 x.2
noncomputable def beginC (c : Ct) (k v : Int) : Ct := if mayB c k v = 0 then begC c k v else c
noncomputable def beginL (c : Ct) (k v : Int) : List Mg := if mayB c k v = 0 then begL c k v else []
theorem stopC_all {c : Ct} (h : c.fine) : (stopC c).fine ∧ (stopC c).num = c.num ∧ (stopC c).ru = c.ru := by
  unfold stopC
  cases hp : c.ph with
  | none => exact ⟨h, rfl, rfl⟩
  | some x =>
    obtain ⟨p, r⟩ := x
    refine ⟨fine_fol h hp (by cases p <;> simp [stpV]), ?_, ?_⟩
    · cases p <;> rfl
    · cases p <;> rfl
theorem revC_all {c : Ct} (h : c.fine) : (revC c).fine ∧ (revC c).num = c.num ∧ (revC c).ru = c.ru := by
  unfold revC
  cases hp : c.ph with
  | none => exact ⟨h, rfl, rfl⟩
  | some x =>
    obtain ⟨p, r⟩ := x
    have hn := (h.rd p r hp).2.2.2.1
    cases p
    · exact ⟨by show (entP c .back _).fine; rw [hn]; exact fine_ent h _ _ _, rfl, rfl⟩
    · exact ⟨by show (entP c .back _).fine; rw [hn]; exact fine_ent h _ _ _, rfl, rfl⟩
    · exact ⟨by show (entP c .back _).fine; rw [hn]; exact fine_ent h _ _ _, rfl, rfl⟩
    · exact ⟨fine_end h (by simp [rd0]) _, rfl, rfl⟩
theorem takeC_all (c : Ct) (m : Mg) : (takeC c m).num = c.num ∧ (takeC c m).ru = c.ru := by
  unfold takeC
  cases hp : c.ph with
  | none => exact ⟨rfl, rfl⟩
  | some x =>
    obtain ⟨p, r⟩ := x
    simp only [takC]
    split
    · split
      · split
        · cases p <;> exact ⟨rfl, rfl⟩
        · exact ⟨rfl, rfl⟩
      · cases p <;> exact ⟨rfl, rfl⟩
    · exact ⟨rfl, rfl⟩
theorem mayB_idle {c : Ct} {k v : Int} (h : mayB c k v = 0) : c.ph = none ∧ c.num ≠ 9007199254740992 := by
  unfold mayB at h
  split at h
  · omega
  · rename_i hs
    split at h
    · split at h
      · split at h
        · omega
        · rename_i q
          exact ⟨by simpa using hs, q⟩
      · omega
    · omega
end Go.Proofs.Ytpleakkhbfhdkaa.Cn
namespace Go.Proofs.Ytpleakkhbfhdkaa.Cn
def upf {α : Type} (f : Nat → α) (k : Nat) (x : α) : Nat → α := fun i => if i = k then x else f i
def al0 : Bool × Int := (true, 0)
/-- the phase, held against the nodes -/
def PhI (p : Ph) (r : Rd) (n : Nat) (j kd V : Int) (bk : Bool) (fe ba : Nat → Bool) (nd : Nat → Nd) : Prop :=
  match p with
  | .fetch => kd = 1 ∧ bk = false ∧ ∀ i, i < n → (r.al.getD i al0).1 = fe i
  | .swap => bk = false ∧ (kd = 2 ∨ ∀ i, i < n → fe i = true) ∧ ∀ i, i < n → (r.al.getD i al0).1 = true → (r.al.getD i al0).2 = V ∧ (nd i).ep = j ∧ (nd i).sq = 1
  | .back => bk = true ∧ (∀ i, i < n → (r.al.getD i al0).1 = ba i) ∧ ∀ i, i < n → (r.al.getD i al0).1 = true → (r.al.getD i al0).2 = (nd i).cur ∧ (nd i).ep = j ∧ (nd i).sq = 2
  | .look => False
/-- a round of the job -/
structure RdI (r : Rd) (n : Nat) (j kd V : Int) : Prop where
  num : r.num = j
  kind : r.kind = kd
  ver : r.ver = V
  len : r.al.length = n
  non : ∀ i, i < n → (r.al.getD i al0).1 = false → (r.al.getD i al0).2 = -1
theorem PhI.node {p : Ph} {r : Rd} {n : Nat} {j kd V : Int} {bk : Bool} {fe ba : Nat → Bool} {nd : Nat → Nd} (h : PhI p r n j kd V bk fe ba nd) {k : Nat} {m : Mg} (hn : NdI j V bk (nd k)) (hr : RqI j V bk m) : PhI p r n j kd V bk fe ba (upf nd k (doesN (nd k) m)) := by
  obtain ⟨_, _, d2, d1⟩ := does_inv hn hr
  cases p
  · exact h
  · obtain ⟨h1, h2, h3⟩ := h
    refine ⟨h1, h2, fun i hi a => ?_⟩
    obtain ⟨q1, q2, q3⟩ := h3 i hi a
    unfold upf
    by_cases e : i = k
    · rw [if_pos e]
      subst e
      exact ⟨q1, d1 h1 q2 q3⟩
    · rw [if_neg e]
      exact ⟨q1, q2, q3⟩
  · obtain ⟨h1, h2, h3⟩ := h
    refine ⟨h1, h2, fun i hi a => ?_⟩
    obtain ⟨q1, q2, q3⟩ := h3 i hi a
    unfold upf
    by_cases e : i = k
    · rw [if_pos e]
      subst e
      rw [d2 q2 q3]
      exact ⟨q1, q2, q3⟩
    · rw [if_neg e]
      exact ⟨q1, q2, q3⟩
  · exact h
theorem getD_set {L : List (Bool × Int)} {k i : Nat} {x d : Bool × Int} (hk : k < L.length) : (L.set k x).getD i d = if i = k then x else L.getD i d := by
  by_cases e : i = k
  · subst e
    rw [if_pos rfl]
    simp [List.getD_eq_getElem?_getD, hk]
  · rw [if_neg e]
    simp [List.getD_eq_getElem?_getD, Ne.symm e]
/-- an answer that counts, noted -/
theorem note_inv {p : Ph} {r : Rd} {n : Nat} {j kd V : Int} {bk : Bool} {fe ba : Nat → Bool} {nd : Nat → Nd} (h : PhI p r n j kd V bk fe ba nd) (hr : RdI r n j kd V) {m : Mg} {k : Nat} (hk : k < n) (hm : m.fr = (k : Int)) (ha : AnI j V bk (nd k) m) (hc : m.code = 0) (u : Ru) (hcnt : cntP p u r m = true) :
    PhI p (ntR r m) n j kd V bk (if m.kind = 4 then upf fe k true else fe) (if m.kind = 8 then upf ba k true else ba) nd ∧ RdI (ntR r m) n j kd V := by
  have hlen : k < r.al.length := by rw [hr.len]; exact hk
  have et : m.fr.toNat = k := by omega
  have al : ∀ i, (ntR r m).al.getD i al0 = if i = k then (true, m.ver) else r.al.getD i al0 := fun i => by
    show (r.al.set m.fr.toNat (true, m.ver)).getD i al0 = _
    rw [et]
    exact getD_set hlen
  refine ⟨?_, ⟨hr.num, hr.kind, hr.ver, by show (r.al.set _ _).length = n; rw [List.length_set]; exact hr.len, fun i hi => ?_⟩⟩
  · cases p
    · have kk : m.kind = 4 := by simp [cntP, dueP] at hcnt; exact hcnt.1.1
      rw [if_pos kk, if_neg (by omega)]
      obtain ⟨h1, h2, h3⟩ := h
      refine ⟨h1, h2, fun i hi => ?_⟩
      rw [al i]
      unfold upf
      by_cases e : i = k
      · rw [if_pos e, if_pos e]
      · rw [if_neg e, if_neg e]; exact h3 i hi
    · have kk : m.kind = 6 ∧ m.ep = r.num := by simp [cntP, dueP] at hcnt; exact ⟨hcnt.1.1, hcnt.2.1⟩
      rw [if_neg (by omega), if_neg (by omega)]
      obtain ⟨h1, h2, h3⟩ := h
      refine ⟨h1, h2, fun i hi => ?_⟩
      rw [al i]
      by_cases e : i = k
      · rw [if_pos e]
        intro _
        obtain ⟨_, q⟩ := ha.sw (by rw [kk.2]; exact hr.num) kk.1
        obtain ⟨q1, q2⟩ := q hc
        rw [e]
        exact ⟨q1, q2 h1⟩
      · rw [if_neg e]; exact h3 i hi
    · have kk : m.kind = 8 ∧ m.ep = r.num := by simp [cntP, dueP] at hcnt; exact ⟨hcnt.1.1, hcnt.2.1⟩
      rw [if_neg (by omega), if_pos kk.1]
      obtain ⟨h1, h2, h3⟩ := h
      refine ⟨h1, fun i hi => ?_, fun i hi => ?_⟩
      · rw [al i]
        unfold upf
        by_cases e : i = k
        · rw [if_pos e, if_pos e]
        · rw [if_neg e, if_neg e]; exact h2 i hi
      · rw [al i]
        by_cases e : i = k
        · rw [if_pos e]
          intro _
          obtain ⟨_, _, q⟩ := ha.ba (by rw [kk.2]; exact hr.num) kk.1
          obtain ⟨q1, q2, q3⟩ := q hc
          rw [e]
          exact ⟨q3, q1, q2⟩
        · rw [if_neg e]; exact h3 i hi
    · exact h.elim
  · rw [al i]
    by_cases e : i = k
    · rw [if_pos e]; intro f; simp at f
    · rw [if_neg e]; exact hr.non i hi
/-- a phase that begins -/
theorem rd0_inv (u : Ru) (j kd V : Int) : RdI (rd0 u j kd V) u.n j kd V := by
  refine ⟨rfl, rfl, rfl, by simp [rd0], fun i hi _ => ?_⟩
  show ((List.replicate u.n (false, (-1 : Int))).getD i al0).2 = -1
  simp [List.getD_eq_getElem?_getD, hi]
theorem rd0_none (u : Ru) (j kd V : Int) (i : Nat) (hi : i < u.n) : ((rd0 u j kd V).al.getD i al0).1 = false := by
  show ((List.replicate u.n (false, (-1 : Int))).getD i al0).1 = false
  simp [List.getD_eq_getElem?_getD, hi]
theorem swap_begins (u : Ru) (j kd V : Int) (fe ba : Nat → Bool) (nd : Nat → Nd) (h : kd = 2 ∨ ∀ i, i < u.n → fe i = true) : PhI .swap (rd0 u j kd V) u.n j kd V false fe ba nd :=
  ⟨rfl, h, fun i hi e => by rw [rd0_none u j kd V i hi] at e; simp at e⟩
theorem back_begins (u : Ru) (j kd V : Int) (fe ba : Nat → Bool) (nd : Nat → Nd) (h : ∀ i, i < u.n → ba i = false) : PhI .back (rd0 u j kd V) u.n j kd V true fe ba nd :=
  ⟨rfl, fun i hi => by rw [rd0_none u j kd V i hi, h i hi], fun i hi e => by rw [rd0_none u j kd V i hi] at e; simp at e⟩
theorem fetch_begins (u : Ru) (j V : Int) (ba : Nat → Bool) (nd : Nat → Nd) : PhI .fetch (rd0 u j 1 V) u.n j 1 V false (fun _ => false) ba nd :=
  ⟨rfl, rfl, fun i hi => rd0_none u j 1 V i hi⟩
/-- whose answer is missing -/
theorem mem_missL (al : List (Bool × Int)) (t : Nat) (i : Nat) : ((i : Int) ∈ missL al t) ↔ (i < t ∧ (al.getD i al0).1 = false) := by
  induction t with
  | zero => simp [missL]
  | succ t ih =>
    rw [missL_succ]
    by_cases e : (al.getD t (true, 0)).1 = true
    · rw [if_pos e, ih]
      constructor
      · rintro ⟨a, b⟩; exact ⟨by omega, b⟩
      · rintro ⟨a, b⟩
        refine ⟨?_, b⟩
        by_cases q : i = t
        · subst q
          unfold al0 at b
          rw [e] at b
          simp at b
        · omega
    · rw [if_neg e, List.mem_append, ih]
      constructor
      · rintro (⟨a, b⟩ | a)
        · exact ⟨by omega, b⟩
        · have : i = t := by simp at a; omega
          subst this
          refine ⟨by omega, ?_⟩
          unfold al0
          simpa using e
      · rintro ⟨a, b⟩
        by_cases q : i = t
        · exact Or.inr (by simp [q])
        · exact Or.inl ⟨by omega, b⟩
theorem miss_none {r : Rd} {n : Nat} (hl : r.al.length = n) (h : (miss r.al).length = 0) : ∀ i, i < n → (r.al.getD i al0).1 = true := fun i hi => by
  have e : miss r.al = [] := List.length_eq_zero_iff.1 h
  cases q : (r.al.getD i al0).1 with
  | true => rfl
  | false =>
    have := (mem_missL r.al r.al.length i).2 ⟨by omega, q⟩
    have e2 : missL r.al r.al.length = [] := e
    rw [e2] at this
    simp at this
/-- how a job ends: all have swapped; all are back; or those that are missing are named -/
theorem ends_well {r : Rd} {n : Nat} {j kd V : Int} {bk : Bool} {fe ba : Nat → Bool} {nd : Nat → Nd} (hr : RdI r n j kd V) (h : PhI .swap r n j kd V bk fe ba nd) (hN : ∀ i, i < n → NdI j V bk (nd i)) (hm : (miss r.al).length = 0) : ∀ i, i < n → (r.al.getD i al0).2 = V ∧ (nd i).cur = V := fun i hi => by
  obtain ⟨_, _, h3⟩ := h
  obtain ⟨q1, q2, q3⟩ := h3 i hi (miss_none hr.len hm i hi)
  exact ⟨q1, ((hN i hi).one q2 q3).2.1⟩
theorem ends_back {r : Rd} {n : Nat} {j kd V : Int} {bk : Bool} {fe ba : Nat → Bool} {nd : Nat → Nd} (hr : RdI r n j kd V) (h : PhI .back r n j kd V bk fe ba nd) (hN : ∀ i, i < n → NdI j V bk (nd i)) : ∀ i, i < n → (ba i = true → (r.al.getD i al0).2 = (nd i).cur ∧ ((nd i).sw ≠ j ∨ (nd i).cur = (nd i).was) ∧ (nd i).ep = j ∧ (nd i).sq = 2) ∧ (ba i = false → (r.al.getD i al0).2 = -1 ∧ (i : Int) ∈ miss r.al) := fun i hi => by
  obtain ⟨_, h2, h3⟩ := h
  refine ⟨fun b => ?_, fun b => ?_⟩
  · obtain ⟨q1, q2, q3⟩ := h3 i hi (by rw [h2 i hi]; exact b)
    refine ⟨q1, ?_, q2, q3⟩
    by_cases s : (nd i).sw = j
    · exact Or.inr ((hN i hi).two q2 q3 s)
    · exact Or.inl s
  · have e : (r.al.getD i al0).1 = false := by rw [h2 i hi]; exact b
    exact ⟨hr.non i hi e, (mem_missL r.al r.al.length i).2 ⟨by rw [hr.len]; exact hi, e⟩⟩
end Go.Proofs.Ytpleakkhbfhdkaa.Cn
namespace Go.Proofs.Ytpleakkhbfhdkaa.Cn
/-- a Back goes out -/
theorem NdI.mono {j V : Int} {n : Nd} {bk : Bool} (h : NdI j V bk n) : NdI j V true n :=
  ⟨h.ep, h.sw, fun a => (h.at1 a).imp id (fun q => q.imp (fun z => ⟨z.1, rfl⟩) id), h.one, h.two⟩
theorem RqI.mono {j V : Int} {m : Mg} {bk : Bool} (h : RqI j V bk m) : RqI j V true m :=
  ⟨h.kd, h.id, h.ep, h.fr, h.sw, h.fe, fun a b => ⟨(h.ba a b).1, rfl⟩⟩
theorem AnI.mono {j V : Int} {n : Nd} {m : Mg} {bk : Bool} (h : AnI j V bk n m) : AnI j V true n m :=
  ⟨h.kd, h.id, h.ep, h.td, h.fe, fun a b => ⟨(h.sw a b).1, fun z => ⟨((h.sw a b).2 z).1, fun f => by simp at f⟩⟩, fun a b => ⟨(h.ba a b).1, rfl, (h.ba a b).2.2⟩⟩
/-- the next job begins -/
theorem NdI.next {j V V' : Int} {n : Nd} {bk : Bool} (h : NdI j V bk n) : NdI (j + 1) V' false n := by
  have := h.ep
  exact ⟨by omega, h.sw, fun a => by omega, fun a => by omega, fun a => by omega⟩
theorem RqI.next {j V V' : Int} {m : Mg} {bk : Bool} (h : RqI j V bk m) : RqI (j + 1) V' false m := by
  have := h.ep
  exact ⟨h.kd, h.id, by omega, h.fr, fun a => by omega, fun a => by omega, fun a => by omega⟩
theorem AnI.next {j V V' : Int} {n : Nd} {m : Mg} {bk : Bool} (h : AnI j V bk n m) : AnI (j + 1) V' false n m := by
  have := h.ep
  exact ⟨h.kd, h.id, by omega, h.td, fun a => by omega, fun a => by omega, fun a => by omega⟩
/-- what a phase sends -/
theorem ent_rq {p : Ph} {r : Rd} {n : Nat} {j kd V : Int} {bk : Bool} (hr : RdI r n j kd V) (hp : p ≠ .look) (hb : p = .back → bk = true) : ∀ m ∈ entL p r, RqI j V bk m ∧ 0 ≤ m.td ∧ m.td < (n : Int) ∧ m.code = 0 ∧ m.ep = j ∧ m.prev = 0 ∧ m.kind = (mesP p r).kind := by
  intro m hm
  unfold entL toAll at hm
  obtain ⟨i, hi, rfl⟩ := List.mem_map.1 hm
  have ps : 0 ≤ i ∧ i < (r.al.length : Int) := by
    have key : ∀ t, ∀ x ∈ missL r.al t, 0 ≤ x ∧ x < (t : Int) := fun t => by
      induction t with
      | zero => intro x h; simp [missL] at h
      | succ t ih =>
        intro x h
        rw [missL_succ] at h
        split at h
        · have := ih x h; omega
        · rcases List.mem_append.1 h with g | g
          · have := ih x g; omega
          · simp at g; omega
    exact key _ i hi
  rw [hr.len] at ps
  have e1 := hr.num
  have e2 := hr.ver
  cases p
  · refine ⟨⟨by simp [mesP], e1.trans e1.symm, by show r.num ≤ j; omega, rfl, fun _ f => by simp [mesP] at f, fun _ _ => ⟨rfl, e2⟩, fun _ f => by simp [mesP] at f⟩, ps.1, ps.2, rfl, e1, rfl, rfl⟩
  · refine ⟨⟨by simp [mesP], e1.trans e1.symm, by show r.num ≤ j; omega, rfl, fun _ _ => ⟨rfl, e2⟩, fun _ f => by simp [mesP] at f, fun _ f => by simp [mesP] at f⟩, ps.1, ps.2, rfl, e1, rfl, rfl⟩
  · refine ⟨⟨by simp [mesP], e1.trans e1.symm, by show r.num ≤ j; omega, rfl, fun _ f => by simp [mesP] at f, fun _ f => by simp [mesP] at f, fun _ _ => ⟨rfl, hb rfl⟩⟩, ps.1, ps.2, rfl, e1, rfl, rfl⟩
  · exact absurd rfl hp
/-- the controller, held against nodes and what the law keeps -/
structure CI (c : Ct) (n : Nat) (j kd V : Int) (bk : Bool) (fe ba : Nat → Bool) (nd : Nat → Nd) : Prop where
  fine : c.fine
  num : c.num = j
  nn : c.ru.n = n
  nb : bk = false → ∀ i, i < n → ba i = false
  nds : ∀ i, i < n → NdI j V bk (nd i)
  ph : ∀ p r, c.ph = some (p, r) → RdI r n j kd V ∧ PhI p r n j kd V bk fe ba nd ∧ (miss r.al).length ≠ 0
/-- a node is told something -/
theorem CI.node {c : Ct} {n : Nat} {j kd V : Int} {bk : Bool} {fe ba : Nat → Bool} {nd : Nat → Nd} (h : CI c n j kd V bk fe ba nd) {k : Nat} (hk : k < n) {m : Mg} (hr : RqI j V bk m) : CI c n j kd V bk fe ba (upf nd k (doesN (nd k) m)) := by
  refine ⟨h.fine, h.num, h.nn, h.nb, fun i hi => ?_, fun p r e => ⟨(h.ph p r e).1, (h.ph p r e).2.1.node (h.nds k hk) hr, (h.ph p r e).2.2⟩⟩
  unfold upf
  by_cases q : i = k
  · rw [if_pos q]; exact (does_inv (h.nds k hk) hr).1
  · rw [if_neg q]; exact h.nds i hi
theorem miss0_ne (u : Ru) (j kd V : Int) (h : 1 ≤ u.n) : (miss (rd0 u j kd V).al).length ≠ 0 := by
  have e : (miss (rd0 u j kd V).al).length = u.n := by
    show (miss (List.replicate u.n (false, -1))).length = u.n
    rw [miss0]
    simp
  omega
/-- the back phase begins, out of any other (or anew, with nobody back) -/
theorem CI.back {c : Ct} {n : Nat} {j kd V : Int} {bk : Bool} {fe ba : Nat → Bool} {nd : Nat → Nd} (h : CI c n j kd V bk fe ba nd) (hb : ∀ i, i < n → ba i = false) (x : Option (Ph × Rd)) (hf : (entP { c with ph := x } .back (rd0 c.ru j kd V)).fine) : CI (entP { c with ph := x } .back (rd0 c.ru j kd V)) n j kd V true fe ba nd := by
  have hn := h.nn
  refine ⟨hf, h.num, h.nn, fun f => by simp at f, fun i hi => (h.nds i hi).mono, fun p r e => ?_⟩
  simp only [entP, Option.some.injEq, Prod.mk.injEq] at e
  obtain ⟨rfl, rfl⟩ := e
  subst hn
  have a := rd0_inv c.ru j kd V
  have b := back_begins c.ru j kd V fe ba nd hb
  exact ⟨⟨a.num, a.kind, a.ver, a.len, a.non⟩, b, miss0_ne c.ru j kd V h.fine.n1⟩
/-- the swap phase begins behind all Fetched -/
theorem CI.swap {c : Ct} {n : Nat} {j kd V : Int} {fe ba : Nat → Bool} {nd : Nat → Nd} (h : CI c n j kd V false fe ba nd) (hb : kd = 2 ∨ ∀ i, i < n → fe i = true) (x : Option (Ph × Rd)) (hf : (entP { c with ph := x } .swap (rd0 c.ru j kd V)).fine) : CI (entP { c with ph := x } .swap (rd0 c.ru j kd V)) n j kd V false fe ba nd := by
  have hn := h.nn
  refine ⟨hf, h.num, h.nn, h.nb, h.nds, fun p r e => ?_⟩
  simp only [entP, Option.some.injEq, Prod.mk.injEq] at e
  obtain ⟨rfl, rfl⟩ := e
  subst hn
  have a := rd0_inv c.ru j kd V
  have b := swap_begins c.ru j kd V fe ba nd hb
  exact ⟨⟨a.num, a.kind, a.ver, a.len, a.non⟩, b, miss0_ne c.ru j kd V h.fine.n1⟩
end Go.Proofs.Ytpleakkhbfhdkaa.Cn
namespace Go.Proofs.Ytpleakkhbfhdkaa.Cn
/-- what goes out -/
structure OutI (n : Nat) (j kd V : Int) (bk : Bool) (fe : Nat → Bool) (m : Mg) : Prop where
  rq : RqI j V bk m
  td0 : 0 ≤ m.td
  td1 : m.td < (n : Int)
  code : m.code = 0
  ep : m.ep = j
  prev : m.prev = 0
  fet : m.kind = 3 → kd = 1 ∧ bk = false
  swp : m.kind = 5 → bk = false ∧ (kd = 2 ∨ ∀ i, i < n → fe i = true)
  bck : m.kind = 7 → m.ver = 0
  emp : m.key = ⟨#[]⟩ ∧ m.val = ⟨#[]⟩
/-- how a report stands to the nodes -/
structure EndI (n : Nat) (j kd V : Int) (bk : Bool) (ba : Nat → Bool) (nd : Nat → Nd) (lp : Rp) : Prop where
  job : lp.job = j
  kind : lp.kind = kd
  ver : lp.ver = V
  len : lp.hs.length = n
  out : (lp.out = 1 ∧ bk = false ∧ lp.ms = [] ∧ ∀ i, i < n → lp.hs.getD i 0 = V ∧ (nd i).ep = j ∧ (nd i).sq = 1 ∧ (nd i).cur = V) ∨
    (bk = true ∧ (lp.out = 2 ∧ lp.ms = [] ∨ lp.out = 3 ∧ lp.ms ≠ []) ∧ (∀ i, i < n → (ba i = true → lp.hs.getD i 0 = (nd i).cur ∧ ((nd i).sw ≠ j ∨ (nd i).cur = (nd i).was) ∧ (nd i).ep = j ∧ (nd i).sq = 2) ∧ (ba i = false → lp.hs.getD i 0 = -1)) ∧ ∃ al : List (Bool × Int), al.length = n ∧ lp.ms = miss al ∧ ∀ i, i < n → (al.getD i al0).1 = ba i)
def StepI (c : Ct) (L : List Mg) (n : Nat) (j kd V : Int) (bk : Bool) (fe ba : Nat → Bool) (nd : Nat → Nd) : Prop :=
  ∃ bk', (bk' = true ↔ bk = true ∨ ∃ m ∈ L, m.kind = 7) ∧ CI c n j kd V bk' fe ba nd ∧ (∀ m ∈ L, OutI n j kd V bk' fe m) ∧ (c.ph = none → L = [] ∧ EndI n j kd V bk' ba nd c.last)
theorem hs_at {r : Rd} {n : Nat} (hl : r.al.length = n) (i : Nat) (hi : i < n) : (r.al.map (·.2)).getD i 0 = (r.al.getD i al0).2 := by
  have h : i < r.al.length := by omega
  simp [List.getD_eq_getElem?_getD, h]
theorem ent_out {p : Ph} {r : Rd} {n : Nat} {j kd V : Int} {bk : Bool} {fe ba : Nat → Bool} {nd : Nat → Nd} (hr : RdI r n j kd V) (hP : PhI p r n j kd V bk fe ba nd) : (∀ m ∈ entL p r, OutI n j kd V bk fe m) ∧ (p ≠ .back → ∀ m ∈ entL p r, m.kind ≠ 7) := by
  have hp : p ≠ .look := fun e => by subst e; exact hP.elim
  have hb : p = .back → bk = true := fun e => by subst e; exact hP.1
  refine ⟨fun m hm => ?_, fun q m hm => ?_⟩
  · obtain ⟨a, b, c, d, e, f, g⟩ := ent_rq (bk := bk) hr hp hb m hm
    refine ⟨a, b, c, d, e, f, fun k => ?_, fun k => ?_, fun k => ?_, ?_⟩
    · cases p
      · exact ⟨hP.1, hP.2.1⟩
      · rw [g] at k; simp [mesP] at k
      · rw [g] at k; simp [mesP] at k
      · exact hP.elim
    · cases p
      · rw [g] at k; simp [mesP] at k
      · exact ⟨hP.1, hP.2.1⟩
      · rw [g] at k; simp [mesP] at k
      · exact hP.elim
    · unfold entL toAll at hm
      obtain ⟨i, _, rfl⟩ := List.mem_map.1 hm
      cases p
      · simp [mesP] at k
      · simp [mesP] at k
      · rfl
      · exact hP.elim
    · unfold entL toAll at hm
      obtain ⟨i, _, rfl⟩ := List.mem_map.1 hm
      cases p
      · exact ⟨rfl, rfl⟩
      · exact ⟨rfl, rfl⟩
      · exact ⟨rfl, rfl⟩
      · exact hP.elim
  · obtain ⟨_, _, _, _, _, _, g⟩ := ent_rq (bk := bk) hr hp hb m hm
    rw [g]
    cases p <;> simp [mesP] <;> exact absurd rfl q
theorem entL0_ne (p : Ph) (u : Ru) (j kd V : Int) (h : 1 ≤ u.n) : ∃ m, m ∈ entL p (rd0 u j kd V) := by
  have e := entL0_len p u j kd V
  cases q : entL p (rd0 u j kd V) with
  | nil => rw [q] at e; simp at e; omega
  | cons a b => exact ⟨a, by simp⟩
theorem fol_step {c : Ct} {n : Nat} {j kd V : Int} {bk : Bool} {fe ba : Nat → Bool} {nd : Nat → Nd} (hf : c.fine) (hn : c.ru.n = n) (hj : c.num = j) (nb : bk = false → ∀ i, i < n → ba i = false) (nds : ∀ i, i < n → NdI j V bk (nd i)) {p : Ph} {r : Rd} (hr : RdI r n j kd V) (hP : PhI p r n j kd V bk fe ba nd) (x : Option (Ph × Rd)) (v : Int)
    (hv : (v = 2 ∧ p = .fetch ∧ (miss r.al).length = 0) ∨ (v = 3 ∧ (p = .fetch ∨ p = .swap)) ∨ (v = 4 ∧ p = .swap ∧ (miss r.al).length = 0) ∨ (v = 5 ∧ p = .back ∧ (miss r.al).length = 0) ∨ (v = 6 ∧ p = .back ∧ (miss r.al).length ≠ 0)) :
    StepI (folC { c with ph := x } p r v) (folL { c with ph := x } p r v) n j kd V bk fe ba nd := by
  have h0 : CI { c with ph := none } n j kd V bk fe ba nd := ⟨fine_none hf, hj, hn, nb, nds, fun p r e => by simp at e⟩
  have ff : (folC { c with ph := x } p r v).fine := fol_fine hf p r x (hr.len.trans hn.symm) (hr.num.trans hj.symm) (by omega)
  have n1 := hf.n1
  rcases hv with ⟨rfl, rfl, hm⟩ | ⟨rfl, hp⟩ | ⟨rfl, rfl, hm⟩ | ⟨rfl, rfl, hm⟩ | ⟨rfl, rfl, hm⟩
  · obtain ⟨k1, rfl, k3⟩ := hP
    have ev : ∀ i, i < n → fe i = true := fun i hi => by rw [← k3 i hi]; exact miss_none hr.len hm i hi
    have e1 : folC { c with ph := x } .fetch r 2 = entP { c with ph := x } .swap (rd0 c.ru j kd V) := by rw [← hr.num, ← hr.kind, ← hr.ver]; rfl
    have e2 : folL { c with ph := x } .fetch r 2 = entL .swap (rd0 c.ru j kd V) := by rw [← hr.num, ← hr.kind, ← hr.ver]; rfl
    rw [e1] at ff
    rw [e1, e2]
    have hc := CI.swap h0 (Or.inr ev) x ff
    subst hn
    obtain ⟨o1, o2⟩ := ent_out (rd0_inv c.ru j kd V) (swap_begins c.ru j kd V fe ba nd (Or.inr ev))
    refine ⟨false, ⟨fun f => by simp at f, fun f => ?_⟩, hc, o1, fun f => by simp [entP] at f⟩
    rcases f with f | ⟨m, hm, hk⟩
    · simp at f
    · exact absurd hk (o2 (by simp) m hm)
  · have hb : bk = false := by rcases hp with rfl | rfl; exact hP.2.1; exact hP.1
    have e1 : folC { c with ph := x } p r 3 = entP { c with ph := x } .back (rd0 c.ru j kd V) := by rw [← hr.num, ← hr.kind, ← hr.ver]; rfl
    have e2 : folL { c with ph := x } p r 3 = entL .back (rd0 c.ru j kd V) := by rw [← hr.num, ← hr.kind, ← hr.ver]; rfl
    rw [e1] at ff
    rw [e1, e2]
    have hc := CI.back h0 (nb hb) x ff
    subst hn
    have bb := back_begins c.ru j kd V fe ba nd (nb hb)
    obtain ⟨o1, _⟩ := ent_out (rd0_inv c.ru j kd V) bb
    refine ⟨true, ⟨fun _ => Or.inr ?_, fun _ => rfl⟩, hc, o1, fun f => by simp [entP] at f⟩
    obtain ⟨m, hm⟩ := entL0_ne .back c.ru j kd V n1
    obtain ⟨_, _, _, _, _, _, g⟩ := ent_rq (bk := true) (rd0_inv c.ru j kd V) (by simp) (fun _ => rfl) m hm
    exact ⟨m, hm, by rw [g]; rfl⟩
  · have hb := hP.1
    have em : miss r.al = [] := List.length_eq_zero_iff.1 hm
    refine ⟨bk, ⟨fun f => Or.inl f, fun f => f.elim id (fun ⟨m, q, _⟩ => absurd q (by simp [folL]))⟩, ⟨ff, hj, hn, nb, nds, fun p' r' e => by simp [folC, endC] at e⟩, fun m q => absurd q (by simp [folL]), fun _ => ⟨by simp [folL], ⟨hr.num, hr.kind, hr.ver, by show (r.al.map _).length = n; rw [List.length_map]; exact hr.len, Or.inl ⟨rfl, hb, em, fun i hi => ?_⟩⟩⟩⟩
    show (r.al.map (·.2)).getD i 0 = V ∧ _
    rw [hs_at hr.len i hi]
    obtain ⟨q1, q2, q3⟩ := hP.2.2 i hi (miss_none hr.len hm i hi)
    exact ⟨q1, q2, q3, ((nds i hi).one q2 q3).2.1⟩
  · have hb := hP.1
    have em : miss r.al = [] := List.length_eq_zero_iff.1 hm
    have eb := ends_back hr hP nds
    refine ⟨bk, ⟨fun f => Or.inl f, fun f => f.elim id (fun ⟨m, q, _⟩ => absurd q (by simp [folL]))⟩, ⟨ff, hj, hn, nb, nds, fun p' r' e => by simp [folC, endC] at e⟩, fun m q => absurd q (by simp [folL]), fun _ => ⟨by simp [folL], ⟨hr.num, hr.kind, hr.ver, by show (r.al.map _).length = n; rw [List.length_map]; exact hr.len, Or.inr ⟨hb, Or.inl ⟨rfl, em⟩, fun i hi => ?_, r.al, hr.len, rfl, hP.2.1⟩⟩⟩⟩
    show (_ → (r.al.map (·.2)).getD i 0 = _ ∧ _) ∧ (_ → (r.al.map (·.2)).getD i 0 = -1)
    rw [hs_at hr.len i hi]
    exact ⟨(eb i hi).1, fun b => ((eb i hi).2 b).1⟩
  · have hb := hP.1
    have eb := ends_back hr hP nds
    refine ⟨bk, ⟨fun f => Or.inl f, fun f => f.elim id (fun ⟨m, q, _⟩ => absurd q (by simp [folL]))⟩, ⟨ff, hj, hn, nb, nds, fun p' r' e => by simp [folC, endC] at e⟩, fun m q => absurd q (by simp [folL]), fun _ => ⟨by simp [folL], ⟨hr.num, hr.kind, hr.ver, by show (r.al.map _).length = n; rw [List.length_map]; exact hr.len, Or.inr ⟨hb, Or.inr ⟨rfl, fun q => hm (by show (miss r.al).length = 0; have : miss r.al = [] := q; rw [this]; rfl)⟩, fun i hi => ?_, r.al, hr.len, rfl, hP.2.1⟩⟩⟩⟩
    show (_ → (r.al.map (·.2)).getD i 0 = _ ∧ _) ∧ (_ → (r.al.map (·.2)).getD i 0 = -1)
    rw [hs_at hr.len i hi]
    exact ⟨(eb i hi).1, fun b => ((eb i hi).2 b).1⟩
end Go.Proofs.Ytpleakkhbfhdkaa.Cn
