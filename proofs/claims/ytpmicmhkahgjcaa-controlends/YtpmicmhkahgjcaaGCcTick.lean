import Derived.Test.YtpmicmhkahgjcaaGCcCalm
import Derived.Test.YtpmicmhkahgjcaaGCaBase
namespace Go.Proofs.Ytpmicmhkahgjcaa.Cn
open Go.RowKit
theorem fine_none {c : Ct} (h : c.fine) : ({ c with ph := none } : Ct).fine :=
  ⟨h.n1, h.n16, h.rs1, h.rs2, h.lm1, h.lm2, h.pt1, h.pt2, h.nu0, h.nu1, fun p r e => by simp at e, h.la⟩
/-- whatever the round's ticks: what begins or ends behind it may be -/
theorem fol_fine {c : Ct} (h : c.fine) (p : Ph) (r : Rd) (x : Option (Ph × Rd)) (hl : r.al.length = c.ru.n) (hn : r.num = c.num) {v : Int} (hv : v = 2 ∨ v = 3 ∨ v = 4 ∨ v = 5 ∨ v = 6) : (folC { c with ph := x } p r v).fine := by
  have h0 := fine_none h
  rcases hv with rfl | rfl | rfl | rfl | rfl <;> simp only [folC] <;> simp
  · rw [hn]; exact fine_ent h0 _ _ _
  · rw [hn]; exact fine_ent h0 _ _ _
  · exact fine_end (c := { c with ph := none }) h0 hl _
  · exact fine_end (c := { c with ph := none }) h0 hl _
  · exact fine_end (c := { c with ph := none }) h0 hl _
/-- what a tick says -/
theorem tick_says {c : Ct} (h : c.fine) {p : Ph} {r : Rd} (hp : c.ph = some (p, r)) :
    (tickV p c.ru r = 0 ∧ (r.tk + 1) % c.ru.rs ≠ 0 ∧ (p = .fetch → r.tk + 1 < c.ru.pt) ∧ (p ≠ .fetch → r.tk + 1 < c.ru.rs * c.ru.lm)) ∨
    (tickV p c.ru r = 1 ∧ (r.tk + 1) % c.ru.rs = 0 ∧ (p = .fetch → r.tk + 1 < c.ru.pt) ∧ (p ≠ .fetch → r.tk + 1 < c.ru.rs * c.ru.lm)) ∨
    (tickV p c.ru r = 3 ∧ (p = .fetch ∨ p = .swap)) ∨ (tickV p c.ru r = 6 ∧ (p = .back ∨ p = .look)) := by
  obtain ⟨_, t0, hs, _, hf, hg⟩ := h.rd p r hp
  have rs := h.rs1
  have key : ∀ g : Int, p ≠ .fetch → (paceV c.ru r g = 0 ∧ (r.tk + 1) % c.ru.rs ≠ 0 ∧ r.tk + 1 < c.ru.rs * c.ru.lm) ∨ (paceV c.ru r g = 1 ∧ (r.tk + 1) % c.ru.rs = 0 ∧ r.tk + 1 < c.ru.rs * c.ru.lm) ∨ paceV c.ru r g = g := by
    intro g hp
    have lt := hg hp
    unfold paceV
    by_cases e : (r.tk + 1) % c.ru.rs = 0
    · rw [if_pos e]
      by_cases l : r.sd < c.ru.lm
      · rw [if_pos l]
        refine Or.inr (Or.inl ⟨rfl, e, ?_⟩)
        have d := (div_step (t := r.tk) rs).1 e
        have m := Int.mul_ediv_add_emod (r.tk + 1) c.ru.rs
        rw [e, d] at m
        have : c.ru.rs * (r.tk / c.ru.rs + 1) < c.ru.rs * c.ru.lm := Int.mul_lt_mul_of_pos_left (by omega) (by omega)
        omega
      · rw [if_neg l]
        exact Or.inr (Or.inr rfl)
    · rw [if_neg e]
      refine Or.inl ⟨rfl, e, ?_⟩
      rcases Int.lt_or_le (r.tk + 1) (c.ru.rs * c.ru.lm) with q | q
      · exact q
      · exfalso
        have eq : r.tk + 1 = c.ru.rs * c.ru.lm := by omega
        rw [eq] at e
        exact e (Int.mul_emod_right _ _)
  cases p with
  | fetch =>
    simp only [tickV, ftkV]
    by_cases a : c.ru.pt ≤ r.tk + 1
    · rw [if_pos a]; exact Or.inr (Or.inr (Or.inl ⟨rfl, Or.inl trivial⟩))
    · rw [if_neg a]
      by_cases e : (r.tk + 1) % c.ru.rs = 0
      · rw [if_pos e]; exact Or.inr (Or.inl ⟨rfl, e, fun _ => by omega, fun q => absurd rfl q⟩)
      · rw [if_neg e]; exact Or.inl ⟨rfl, e, fun _ => by omega, fun q => absurd rfl q⟩
  | swap =>
    rcases key 3 (by simp) with q | q | q
    · exact Or.inl ⟨q.1, q.2.1, fun e => (by cases e), fun _ => q.2.2⟩
    · exact Or.inr (Or.inl ⟨q.1, q.2.1, fun e => (by cases e), fun _ => q.2.2⟩)
    · exact Or.inr (Or.inr (Or.inl ⟨q, Or.inr rfl⟩))
  | back =>
    rcases key 6 (by simp) with q | q | q
    · exact Or.inl ⟨q.1, q.2.1, fun e => (by cases e), fun _ => q.2.2⟩
    · exact Or.inr (Or.inl ⟨q.1, q.2.1, fun e => (by cases e), fun _ => q.2.2⟩)
    · exact Or.inr (Or.inr (Or.inr ⟨q, Or.inl rfl⟩))
  | look =>
    rcases key 6 (by simp) with q | q | q
    · exact Or.inl ⟨q.1, q.2.1, fun e => (by cases e), fun _ => q.2.2⟩
    · exact Or.inr (Or.inl ⟨q.1, q.2.1, fun e => (by cases e), fun _ => q.2.2⟩)
    · exact Or.inr (Or.inr (Or.inr ⟨q, Or.inr rfl⟩))
/-- how many ticks are left at most -/
def left (c : Ct) : Nat :=
  match c.ph with
  | none => 0
  | some (.fetch, r) => (c.ru.pt - r.tk + 2 * (c.ru.rs * c.ru.lm)).toNat
  | some (.swap, r) => (c.ru.rs * c.ru.lm - r.tk + c.ru.rs * c.ru.lm).toNat
  | some (.back, r) => (c.ru.rs * c.ru.lm - r.tk).toNat
  | some (.look, r) => (c.ru.rs * c.ru.lm - r.tk).toNat
theorem tickC_all {c : Ct} (h : c.fine) : (tickC c).fine ∧ (tickC c).num = c.num ∧ (tickC c).ru = c.ru ∧ (c.ph ≠ none → left (tickC c) < left c) := by
  cases hp : c.ph with
  | none => simp only [tickC, hp]; exact ⟨h, trivial, trivial, fun e => absurd rfl e⟩
  | some x =>
    obtain ⟨p, r⟩ := x
    obtain ⟨hl, t0, hs, hn, hf, hg⟩ := h.rd p r hp
    have t1 := h.tk hp
    have pos : 0 < c.ru.rs * c.ru.lm := Int.mul_pos (by have := h.rs1; omega) (by have := h.lm1; omega)
    have pt := h.pt1
    rcases tick_says h hp with ⟨e, m, a, b⟩ | ⟨e, m, a, b⟩ | ⟨e, a⟩ | ⟨e, a⟩
    · have ec : tickC c = { c with ph := some (p, tkR r) } := by simp only [tickC, hp, e]; rfl
      rw [ec]
      refine ⟨fine_rd h ⟨hl, by show 0 ≤ r.tk + 1; omega, ?_, hn, a, b⟩, rfl, rfl, fun _ => ?_⟩
      · show r.sd = 1 + (r.tk + 1) / c.ru.rs
        rw [(div_step (t := r.tk) h.rs1).2 m]
        exact hs
      · cases p <;> simp only [left, hp, tkR] <;> (first | (have a1 := a rfl; omega) | (have b1 := b (by simp); omega))
    · have ec : tickC c = entP { c with ph := some (p, tkR r) } p (tkR r) := by simp only [tickC, hp, e]; rfl
      rw [ec]
      refine ⟨fine_rd (p := p) (r' := { tkR r with sd := (tkR r).sd + 1 }) h ⟨hl, by show 0 ≤ r.tk + 1; omega, ?_, hn, a, b⟩, rfl, rfl, fun _ => ?_⟩
      · show r.sd + 1 = 1 + (r.tk + 1) / c.ru.rs
        rw [(div_step (t := r.tk) h.rs1).1 m]
        omega
      · cases p <;> simp only [left, hp, tkR, entP] <;> (first | (have a1 := a rfl; omega) | (have b1 := b (by simp); omega))
    · have ec : tickC c = folC { c with ph := some (p, tkR r) } p (tkR r) 3 := by simp only [tickC, hp, e]
      rw [ec]
      refine ⟨fol_fine h p (tkR r) _ hl hn (by omega), rfl, rfl, fun _ => ?_⟩
      rcases a with rfl | rfl
      · have := hf rfl
        simp only [left, hp, folC, entP, rd0]
        simp
        omega
      · have := hg (by simp)
        simp only [left, hp, folC, entP, rd0]
        simp
        omega
    · have ec : tickC c = folC { c with ph := some (p, tkR r) } p (tkR r) 6 := by simp only [tickC, hp, e]
      rw [ec]
      refine ⟨fol_fine h p (tkR r) _ hl hn (by omega), rfl, rfl, fun _ => ?_⟩
      rcases a with rfl | rfl
      · have := hg (by simp)
        simp only [left, hp, folC, endC]
        simp
        omega
      · have := hg (by simp)
        simp only [left, hp, folC, endC]
        simp
        omega
theorem left_most {c : Ct} (h : c.fine) : (left c : Int) ≤ c.ru.pt + 2 * (c.ru.rs * c.ru.lm) := by
  have pos : 0 < c.ru.rs * c.ru.lm := Int.mul_pos (by have := h.rs1; omega) (by have := h.lm1; omega)
  have pt := h.pt1
  cases hp : c.ph with
  | none => simp only [left, hp]; omega
  | some x =>
    obtain ⟨p, r⟩ := x
    have := h.tk hp
    cases p <;> simp only [left, hp] <;> omega
theorem left_none {c : Ct} (h : c.fine) (h0 : left c = 0) : c.ph = none := by
  cases hp : c.ph with
  | none => rfl
  | some x =>
    exfalso
    obtain ⟨p, r⟩ := x
    obtain ⟨_, _, _, _, hf, hg⟩ := h.rd p r hp
    have pos : 0 < c.ru.rs * c.ru.lm := Int.mul_pos (by have := h.rs1; omega) (by have := h.lm1; omega)
    cases p
    · have := hf rfl; simp only [left, hp] at h0; omega
    · have := hg (by simp); simp only [left, hp] at h0; omega
    · have := hg (by simp); simp only [left, hp] at h0; omega
    · have := hg (by simp); simp only [left, hp] at h0; omega
/-- Stop, Revive, Begin, of any controller -/
def stopC (c : Ct) : Ct := match c.ph with | none => c | some x => folC c x.1 x.2 (stpV x.1)
def stopL (c : Ct) : List Mg := match c.ph with | none => [] | some x => folL c x.1 x.2 (stpV x.1)
def revC (c : Ct) : Ct := match c.ph with | none => c | some x => rvC c x.1 x.2
def revL (c : Ct) : List Mg := match c.ph with | none => [] | some x => rvL c x.1 x.2
noncomputable def beginC (c : Ct) (k v : Int) : Ct := if mayB c k v = 0 then begC c k v else c
noncomputable def beginL (c : Ct) (k v : Int) : List Mg := if mayB c k v = 0 then begL c k v else []
theorem stopC_all {c : Ct} (h : c.fine) : (stopC c).fine ∧ (stopC c).num = c.num ∧ (stopC c).ru = c.ru := by
  unfold stopC
  cases hp : c.ph with
  | none => exact ⟨h, rfl, rfl⟩
  | some x =>
    obtain ⟨p, r⟩ := x
    refine ⟨fine_fol h hp (by cases p <;> simp [stpV]), ?_, ?_⟩
    · cases p <;> rfl
    · cases p <;> rfl
theorem revC_all {c : Ct} (h : c.fine) : (revC c).fine ∧ (revC c).num = c.num ∧ (revC c).ru = c.ru := by
  unfold revC
  cases hp : c.ph with
  | none => exact ⟨h, rfl, rfl⟩
  | some x =>
    obtain ⟨p, r⟩ := x
    have hn := (h.rd p r hp).2.2.2.1
    cases p
    · exact ⟨by show (entP c .back _).fine; rw [hn]; exact fine_ent h _ _ _, rfl, rfl⟩
    · exact ⟨by show (entP c .back _).fine; rw [hn]; exact fine_ent h _ _ _, rfl, rfl⟩
    · exact ⟨by show (entP c .back _).fine; rw [hn]; exact fine_ent h _ _ _, rfl, rfl⟩
    · exact ⟨fine_end h (by simp [rd0]) _, rfl, rfl⟩
theorem takeC_all (c : Ct) (m : Mg) : (takeC c m).num = c.num ∧ (takeC c m).ru = c.ru := by
  unfold takeC
  cases hp : c.ph with
  | none => exact ⟨rfl, rfl⟩
  | some x =>
    obtain ⟨p, r⟩ := x
    simp only [takC]
    split
    · split
      · split
        · cases p <;> exact ⟨rfl, rfl⟩
        · exact ⟨rfl, rfl⟩
      · cases p <;> exact ⟨rfl, rfl⟩
    · exact ⟨rfl, rfl⟩
theorem mayB_idle {c : Ct} {k v : Int} (h : mayB c k v = 0) : c.ph = none ∧ c.num ≠ 9007199254740992 := by
  unfold mayB at h
  split at h
  · omega
  · rename_i hs
    split at h
    · split at h
      · split at h
        · omega
        · rename_i q
          exact ⟨by simpa using hs, q⟩
      · omega
    · omega
end Go.Proofs.Ytpmicmhkahgjcaa.Cn
namespace Go.Proofs.Ytpmicmhkahgjcaa.Cn
open Go.RowKit
theorem Tick_any {w : World} {S : Nat → Prop} {C : Nat} {c : Ct} (h : CtAt w S C c) (hf : c.fine) :
    Calls Try.prog 19 #[.pointer (some ⟨C, 0, none⟩)] w fun e w' => ∃ lv, e = .returned (.tuple #[lv, .int .i64 0]) ∧ Did w w' S C (tickC c) lv (tickL c) := by
  unfold tickC tickL
  cases hp : c.ph with
  | none =>
    refine Calls.mono (Tick_idle h hf.n1 hp) ?_
    rintro e w' ⟨rfl, hb⟩
    exact ⟨_, rfl, Did.pre (Kp.of_below hb S) (Did.nil (h.below hb))⟩
  | some x => exact Tick_busy h hf.ok hp
theorem Stop_any {w : World} {S : Nat → Prop} {C : Nat} {c : Ct} (h : CtAt w S C c) (hf : c.fine) :
    Calls Try.prog 21 #[.pointer (some ⟨C, 0, none⟩)] w fun e w' => ∃ lv ee, e = .returned (.tuple #[lv, .int .i64 ee]) ∧ Did w w' S C (stopC c) lv (stopL c) := by
  unfold stopC stopL
  cases hp : c.ph with
  | none =>
    refine Calls.mono (Stop_idle h hf.n1 hp) ?_
    rintro e w' ⟨rfl, hb⟩
    exact ⟨_, _, rfl, Did.pre (Kp.of_below hb S) (Did.nil (h.below hb))⟩
  | some x =>
    refine Calls.mono (Stop_busy h hf.ok hp) ?_
    rintro e w' ⟨lv, rfl, di⟩
    exact ⟨lv, _, rfl, di⟩
theorem Revive_any {w : World} {S : Nat → Prop} {C : Nat} {c : Ct} (h : CtAt w S C c) (hf : c.fine) :
    Calls Try.prog 22 #[.pointer (some ⟨C, 0, none⟩)] w fun e w' => ∃ lv ee, e = .returned (.tuple #[lv, .int .i64 ee]) ∧ Did w w' S C (revC c) lv (revL c) := by
  unfold revC revL
  cases hp : c.ph with
  | none =>
    refine Calls.mono (Revive_idle h hf.n1 hp) ?_
    rintro e w' ⟨rfl, hb⟩
    exact ⟨_, _, rfl, Did.pre (Kp.of_below hb S) (Did.nil (h.below hb))⟩
  | some x =>
    refine Calls.mono (Revive_busy h hf.ok hp) ?_
    rintro e w' ⟨lv, rfl, di⟩
    exact ⟨lv, _, rfl, di⟩
theorem Begin_any {w : World} {S : Nat → Prop} {C : Nat} {c : Ct} (h : CtAt w S C c) (hf : c.fine) (k v : Int) :
    Calls Try.prog 17 #[.pointer (some ⟨C, 0, none⟩), .int .i64 k, .int .i64 v] w fun e w' => ∃ lv, e = .returned (.tuple #[lv, .int .i64 (mayB c k v)]) ∧ Did w w' S C (beginC c k v) lv (beginL c k v) := by
  unfold beginC beginL
  by_cases hm : mayB c k v = 0
  · rw [if_pos hm, if_pos hm]
    refine Calls.mono (Begin_yes h hf.n1 hf.n16 k v hm hf.nu0 hf.nu1) ?_
    rintro e w' ⟨lv, rfl, di⟩
    exact ⟨lv, by rw [hm], di⟩
  · rw [if_neg hm, if_neg hm]
    refine Calls.mono (Begin_no h hf.n1 k v hm) ?_
    rintro e w' ⟨rfl, rfl⟩
    exact ⟨_, rfl, Did.nil h⟩
theorem beginC_fine {c : Ct} (h : c.fine) (k v : Int) : (beginC c k v).fine ∧ (beginC c k v).ru = c.ru ∧ (beginC c k v).num = (if mayB c k v = 0 then c.num + 1 else c.num) := by
  unfold beginC
  by_cases hm : mayB c k v = 0
  · rw [if_pos hm, if_pos hm]
    obtain ⟨h1, h2⟩ := mayB_idle hm
    exact ⟨fine_beg h h1 (by have := h.nu1; omega) k v, rfl, rfl⟩
  · rw [if_neg hm, if_neg hm]
    exact ⟨h, rfl, rfl⟩
theorem wpList_adC {w : World} {ops : Array Oper} {rest : List Oper} {op : Oper} {a : Act} {Q : Exit → Act → World → Prop} (hgd : op.guard = none) {t2 : TypeId} (x y : Operand) (ho : op.op = .binOp .add 3 x y t2) (A B C : Int) (hx : a.eval x = .int .i64 A) (hy : a.eval y = .int .i64 B) (hC : A + B = C) (h0 : -9223372036854775808 ≤ C) (h1 : C < 9223372036854775808) (h : wpList Try.prog ops Q rest (a.put op.dst (.int .i64 C)) w) : wpList Try.prog ops Q (op :: rest) a w := by
  subst hC
  exact wpList_addii hgd x y ho A B hx hy h0 h1 h
set_option maxHeartbeats 8000000 in
set_option maxRecDepth 100000 in
set_option linter.unusedSimpArgs false in
set_option linter.unusedVariables false in
theorem idle_any {w : World} {S : Nat → Prop} {C : Nat} {c : Ct} (h : CtAt w S C c) (hf : c.fine) (st : ByteArray) (x : Nat → Int) (nv : Value) (x14 : x 14 = c.ru.rs) (x15 : x 15 = c.ru.lm) (x16 : x 16 = c.ru.pt) :
    Calls Try.prog 23 #[.pointer (some ⟨C, 0, none⟩), .agg (clA st x nv)] w fun e w' => e = .returned (.bool true) ∧ ∃ S' c', CtAt w' S' C c' ∧ c'.fine ∧ c'.ph = none ∧ c'.num = c.num ∧ c'.ru = c.ru ∧ (∀ k, S' k → S k ∨ w.heap.size ≤ k) ∧ Kp w w' S := by
  have LT := hide h.lt
  obtain ⟨B, hB⟩ : ∃ B, B = w.heap.size := ⟨_, rfl⟩
  obtain ⟨W0, hW0⟩ : ∃ W0, W0 = w.alloc (.cells (clA st x nv) 26) := ⟨_, rfl⟩
  have b0 : Hid (Below w.heap.size w W0) := by rw [hW0]; exact (Below.refl _ w).alloc (Nat.le_refl _) _
  have C0 : Hid (ClAt W0 B st x nv) := by rw [hW0, hB]; exact new_cl _ _ _ _
  have nB : Hid (¬ S B) := fun e => by have := LT.out B e; omega
  have HX := hide (h.below b0.out)
  have HF := hide hf
  have HB := hide hB
  obtain ⟨rs, hrs⟩ : ∃ rs, rs = c.ru.rs := ⟨_, rfl⟩
  obtain ⟨lm, hlm⟩ : ∃ lm, lm = c.ru.lm := ⟨_, rfl⟩
  obtain ⟨pt, hpt⟩ : ∃ pt, pt = c.ru.pt := ⟨_, rfl⟩
  have bd := left_most hf
  have ml := mul_le hf.rs2 (by have := hf.lm1; omega) hf.lm2
  have mp : 0 < c.ru.rs * c.ru.lm := Int.mul_pos (by have := hf.rs1; omega) (by have := hf.lm1; omega)
  have r1 := hf.rs1
  have r2 := hf.rs2
  have p1 := hf.pt1
  have p2 := hf.pt2
  rw [← hrs, ← hlm] at ml mp
  rw [← hrs, ← hlm, ← hpt] at bd
  rw [← hrs] at r1 r2 x14
  rw [← hlm] at x15
  rw [← hpt] at p1 p2 x16
  have e2 : 2 * rs * lm = 2 * (rs * lm) := Int.mul_assoc 2 rs lm
  obtain ⟨P, hP⟩ : ∃ P, P = 2 * rs * lm := ⟨_, rfl⟩
  have P0 : 0 < P ∧ P ≤ 2000000000000 := by omega
  obtain ⟨T, hT⟩ : ∃ T : Int, T = pt + P := ⟨_, rfl⟩
  have hL : (left c : Int) ≤ T := by omega
  have T1 : T ≤ 3000000000000 := by omega
  obtain ⟨q, hq⟩ : ∃ q, 2 * rs = q := ⟨_, rfl⟩
  have HQ : Hid (2 * rs = q ∧ q * lm = P) := ⟨hq, by rw [← hq]; exact hP.symm⟩
  have qb : 0 < q ∧ q ≤ 2000000 := by omega
  have HTe := hide hT
  have NU := hide (num_any 0)
  clear h hf hrs hlm hpt bd ml mp e2 hP hq hT
  go_enter Try.func23, Try.ntmps23
  go_upto_region 1 with fail
  rw [← hW0, ← HB.out]
  clear hW0 hB
  go_wp2_with fail
  go_loopw [5] (fun vi wr => ∃ (i : Nat) (ci : Ct) (S' : Nat → Prop), vi = .int .i64 (i : Int) ∧ Hid (CtAt wr S' C ci) ∧ Hid ci.fine ∧ Hid (ci.num = c.num ∧ ci.ru = c.ru) ∧ left ci + i ≤ left c ∧ Hid (∀ k, S' k → S k ∨ (w.heap.size ≤ k ∧ k ≠ B)) ∧ Hid (Kp w wr S) ∧ Hid (ClAt wr B st x nv)) (fun vi _ => left c - (intOf vi).toNat)
  case atStart => exact ⟨0, c, S, rfl, HX.out, HF.out, ⟨rfl, rfl⟩, by omega, fun k e => Or.inl e, Kp.of_below b0.out S, C0.out⟩
  case round =>
    obtain ⟨i, ci, S', rfl, HXi, HFi, HEi, hli, HSi, HKi, HCi⟩ := hrel
    have c17 : wr.cell? ⟨B, 17, none⟩ = some (.int .i64 pt) := by rw [← x16]; exact HCi.out.atI 16 (by omega)
    have c15 : wr.cell? ⟨B, 15, none⟩ = some (.int .i64 rs) := by rw [← x14]; exact HCi.out.atI 14 (by omega)
    have c16 : wr.cell? ⟨B, 16, none⟩ = some (.int .i64 lm) := by rw [← x15]; exact HCi.out.atI 15 (by omega)
    have q1 : decide ((i : Int) ≤ T) = true := decide_eq_true (by omega)
    have BU := busy_any HXi.out HFi.out.n1
    have HS2 : Hid (∀ k, S' k → S k ∨ w.heap.size ≤ k) := fun k e => (HSi.out k e).imp_right (fun q => q.1)
    cases hp : ci.ph with
    | none =>
      rw [hp] at BU
      replace BU := hide BU
      have FI : Hid (∃ S' c', CtAt wr S' C c' ∧ c'.fine ∧ c'.ph = none ∧ c'.num = c.num ∧ c'.ru = c.ru ∧ (∀ k, S' k → S k ∨ w.heap.size ≤ k) ∧ Kp w wr S) := ⟨S', ci, HXi.out, HFi.out, hp, HEi.out.1, HEi.out.2, HS2.out, HKi.out⟩
      clear hp
      go_wp2_with (first | refine wpList_muli rfl (.const (.int .i64 2)) (.tmp 12) rfl 2 rs q rfl rfl HQ.out.1 (by omega) (by omega) ?_ | refine wpList_muli rfl (.tmp 13) (.tmp 15) rfl q lm P rfl rfl HQ.out.2 (by omega) (by omega) ?_ | refine wpList_adC rfl (.tmp 10) (.tmp 16) rfl pt P T rfl rfl HTe.out.symm (by omega) (by omega) ?_)
      refine Calls.mono BU.out ?_
      rintro e w9 ⟨rfl, rfl⟩
      go_wp2_with fail
      refine Calls.mono BU.out ?_
      rintro e w9 ⟨rfl, rfl⟩
      go_wp2_with fail
      go_ret
      exact ⟨rfl, FI.out⟩
    | some y =>
      rw [hp] at BU
      replace BU := hide BU
      have TA := tickC_all HFi.out
      have lt := TA.2.2.2 (by rw [hp]; simp)
      have TA' := hide TA
      have TI := hide (Tick_any HXi.out HFi.out)
      clear hp TA
      go_wp2_with (first | refine wpList_muli rfl (.const (.int .i64 2)) (.tmp 12) rfl 2 rs q rfl rfl HQ.out.1 (by omega) (by omega) ?_ | refine wpList_muli rfl (.tmp 13) (.tmp 15) rfl q lm P rfl rfl HQ.out.2 (by omega) (by omega) ?_ | refine wpList_adC rfl (.tmp 10) (.tmp 16) rfl pt P T rfl rfl HTe.out.symm (by omega) (by omega) ?_)
      refine Calls.mono BU.out ?_
      rintro e w9 ⟨rfl, rfl⟩
      clear c15 c16 c17
      go_wp2_with fail
      refine Calls.mono TI.out ?_
      rintro e W2 ⟨lv, rfl, di⟩
      have nS : Hid (¬ S' B) := fun e => by
        rcases HSi.out B e with q | q
        · exact nB.out q
        · exact q.2 rfl
      have C2 : Hid (ClAt W2 B st x nv) := di.keep HCi.out nS.out
      obtain ⟨S2, x2, s2, k2, _, _⟩ := di
      have X2 := hide x2
      have SS2 : Hid (∀ k, S2 k → S k ∨ (w.heap.size ≤ k ∧ k ≠ B)) := fun k e => by
        rcases s2 k e with q | q
        · exact HSi.out k q
        · have a1 := HKi.out.size
          have a2 := blk_lt HCi.out
          exact Or.inr ⟨by omega, by omega⟩
      have K2 : Hid (Kp w W2 S) := HKi.out.trans k2 HS2.out
      clear x2 s2 k2 TI
      go_wp2_with fail
      refine Calls.mono (NU.out _) ?_
      rintro e w9 ⟨rfl, rfl⟩
      go_wp2_with fail
      refine ⟨⟨i + 1, tickC ci, S2, rfl, X2.out, TA'.out.1, ⟨TA'.out.2.1.trans HEi.out.1, TA'.out.2.2.1.trans HEi.out.2⟩, by omega, SS2.out, K2.out, C2.out⟩, by simp [intOf]; omega⟩
end Go.Proofs.Ytpmicmhkahgjcaa.Cn
namespace Go.Proofs.Ytpmicmhkahgjcaa.Cn
open Go.RowKit
/-- a job of which a node refused the Swap -/
def bakC (c : Ct) (v : Int) : Ct := entP { c with num := c.num + 1 } .back (rd0 c.ru (c.num + 1) 2 v)
def bakL (c : Ct) (v : Int) : List Mg := entL .back (rd0 c.ru (c.num + 1) 2 v)
def refM (bad job : Int) : Mg := { mg0 with kind := 6, fr := bad, td := 64, id := job, ep := job, sq := 1, code := 122 }
def finT (c : Ct) (v h : Int) : Ct := { c with num := c.num + 1, ph := none, last := ⟨c.num + 1, 2, v, 2, List.replicate c.ru.n h, []⟩ }
theorem ref_eq (c : Ct) (v bad : Int) (b0 : 0 ≤ bad) (b1 : bad < (c.ru.n : Int)) : takeC (begC c 2 v) (refM bad (c.num + 1)) = bakC c v ∧ takeL (begC c 2 v) (refM bad (c.num + 1)) = bakL c v := by
  have hc : came { rd0 c.ru (c.num + 1) 2 v with sd := (rd0 c.ru (c.num + 1) 2 v).sd + 1 } bad = false := by
    unfold came rd0
    rw [List.getD_eq_getElem?_getD, List.getElem?_replicate, if_pos (by omega)]
    rfl
  have cnt : cntP .swap c.ru { rd0 c.ru (c.num + 1) 2 v with sd := (rd0 c.ru (c.num + 1) 2 v).sd + 1 } (refM bad (c.num + 1)) = true := by
    simp only [cntP, dueP]
    simp [refM, rd0, b0, b1]
    exact hc
  have e1 : (begC c 2 v).ph = some (.swap, { rd0 c.ru (c.num + 1) 2 v with sd := (rd0 c.ru (c.num + 1) 2 v).sd + 1 }) := rfl
  have e2 : (begC c 2 v).ru = c.ru := rfl
  simp only [takeC, takeL, e1, takC, takL, e2, cnt]
  exact ⟨rfl, rfl⟩
theorem late_one (c : Ct) (v : Int) (m : Mg) (hk : m.kind ≠ 8) : takeC (bakC c v) m = bakC c v ∧ takeL (bakC c v) m = [] := by
  have e1 : (bakC c v).ph = some (.back, { rd0 c.ru (c.num + 1) 2 v with sd := (rd0 c.ru (c.num + 1) 2 v).sd + 1 }) := rfl
  have cnt : cntP .back (bakC c v).ru { rd0 c.ru (c.num + 1) 2 v with sd := (rd0 c.ru (c.num + 1) 2 v).sd + 1 } m = false := by
    simp [cntP, dueP, hk]
  simp only [takeC, takeL, e1, takC, takL, cnt]
  exact ⟨rfl, rfl⟩
theorem late_all (c : Ct) (v h : Int) (L : List Mg) (hk : ∀ m ∈ L, m.kind = 5) : ansC (bakC c v) h L = bakC c v ∧ ansL (bakC c v) h L = [] := by
  induction L with
  | nil => exact ⟨rfl, rfl⟩
  | cons m r ih =>
    have k := hk m (by simp)
    obtain ⟨a, b⟩ := late_one c v (ansM m h) (by show m.kind + 1 ≠ 8; omega)
    obtain ⟨i1, i2⟩ := ih (fun q hq => hk q (by simp [hq]))
    simp only [ansC, ansL, a, b, i1, i2]
    exact ⟨trivial, rfl⟩
theorem fin_bak (c : Ct) (v h : Int) (h1 : 1 ≤ c.ru.n) : ansC (bakC c v) h (bakL c v) = finT c v h ∧ ansL (bakC c v) h (bakL c v) = [] := by
  obtain ⟨a1, a2⟩ := ans_all (bakC c v) .back { rd0 c.ru (c.num + 1) 2 v with sd := 0 + 1 } c.ru.n h rfl h1 rfl rfl
  have e : entL .back { rd0 c.ru (c.num + 1) 2 v with sd := 0 + 1 } = bakL c v := rfl
  rw [e] at a1 a2
  rw [a1, a2]
  refine ⟨?_, rfl⟩
  simp only [comV, folC, endC, rep_all, finT, hxP]
  rfl
theorem finT_fine {c : Ct} (h : c.fine) (hm : c.num + 1 ≤ 9007199254740992) (v hd : Int) : (finT c v hd).fine := by
  refine ⟨h.n1, h.n16, h.rs1, h.rs2, h.lm1, h.lm2, h.pt1, h.pt2, by have := h.nu0; show 0 ≤ c.num + 1; omega, hm, fun p r e => by simp [finT] at e, ?_⟩
  have := h.n16
  simp [finT]
  omega
theorem beg_kind (c : Ct) (v : Int) : ∀ m ∈ begL c 2 v, m.kind = 5 := by
  intro m hm
  unfold begL entL toAll at hm
  obtain ⟨i, _, rfl⟩ := List.mem_map.1 hm
  rfl
theorem bakL_at (c : Ct) (v : Int) (i : Nat) (hi : i < (bakL c v).length) : (bakL c v)[i] = { mg0 with kind := 7, fr := 64, td := (i : Int), id := c.num + 1, ep := c.num + 1, sq := 2 } := by
  unfold bakL entL
  exact all0 _ _ _ _ _
theorem take_to {w : World} {S : Nat → Prop} {C : Nat} {c : Ct} (h : CtAt w S C c) (hf : c.fine) (m : Mg) (c' : Ct) (L' : List Mg) (n : Nat) (e1 : takeC c m = c') (e2 : takeL c m = L') (e3 : L'.length = n) :
    Calls Try.prog 20 #[.pointer (some ⟨C, 0, none⟩), .agg (mgV m)] w fun e w' => ∃ la lc, e = .returned (.tuple #[.slice la n lc, .int .i64 0]) ∧ Did w w' S C c' (.slice la n lc) L' := by
  refine Calls.mono (Take_any h hf m) ?_
  rintro e w' ⟨lv, rfl, di⟩
  rw [e1, e2] at di
  obtain ⟨la, lc, e⟩ : ∃ la lc, lv = .slice la n lc := by
    obtain ⟨_, _, _, _, o, _⟩ := di
    obtain ⟨la, lc, e⟩ := own_sl o
    exact ⟨la, lc, by rw [e, e3]⟩
  subst e
  exact ⟨la, lc, rfl, di⟩
set_option maxHeartbeats 8000000 in
set_option maxRecDepth 100000 in
set_option linter.unusedSimpArgs false in
set_option linter.unusedVariables false in
theorem takenBack_any {w : World} {S : Nat → Prop} {C : Nat} {c : Ct} (h : CtAt w S C c) (hf : c.fine) (hp : c.ph = none) (hm : c.num + 1 ≤ 9007199254740992) (st : ByteArray) (x : Nat → Int) (ao : Option Addr) (n cap : Nat) (hn : c.ru.n = n) (v hd bad job : Int) (hv : isV v = true) (hj : job = c.num + 1) (b0' : 0 ≤ bad) (b1' : bad < (n : Int)) :
    Calls Try.prog 24 #[.pointer (some ⟨C, 0, none⟩), .agg (clA st x (.slice ao n cap)), .int .i64 v, .int .i64 hd, .int .i64 bad, .int .i64 job] w fun e w' => e = .returned (.bool true) ∧ Kp w w' S := by
  have LT := hide h.lt
  obtain ⟨B, hB⟩ : ∃ B, B = w.heap.size := ⟨_, rfl⟩
  obtain ⟨W0, hW0⟩ : ∃ W0, W0 = w.alloc (.cells (clA st x (.slice ao n cap)) 26) := ⟨_, rfl⟩
  have b0 : Hid (Below w.heap.size w W0) := by rw [hW0]; exact (Below.refl _ w).alloc (Nat.le_refl _) _
  have C0 : Hid (W0.heap[B]? = some (.cells (clA st x (.slice ao n cap)) 26)) := by rw [hW0, hB]; exact heap_last _ _
  have s0 : Hid (W0.heap.size = B + 1) := by rw [hW0, hB]; exact World.size_alloc _ _
  have nB : Hid (¬ S B) := fun e => by have := LT.out B e; omega
  have h16 : n ≤ 16 := by rw [← hn]; exact hf.n16
  have h1n : 1 ≤ n := by rw [← hn]; exact hf.n1
  have may : mayB c 2 v = 0 := by
    unfold mayB
    rw [hp]
    simp only [Option.isSome_none, Bool.false_eq_true, if_false, fitV]
    have q : ¬ c.num = 9007199254740992 := by omega
    simp [hv, q]
  have BE := begin_to (h.below b0.out) hf.n1 hf.n16 2 v may hf.nu0 (by omega) n (by
    show (entL _ (rd0 c.ru (c.num + 1) 2 v)).length = n
    rw [entL0_len, hn])
  replace BE := hide BE
  have HB := hide hB
  have HF := hide (fine_beg hf hp hm 2 v)
  have HN := hide hn
  have HJ := hide hj
  have HF0 := hide hf
  have HM := hide hm
  have BS : Hid ((begC c 2 v).ph.isSome = true) := rfl
  have NU := hide (num_any 0)
  have RM := hide (ref_eq c v bad b0' (by rw [hn]; exact b1'))
  have N1 : Hid (1 ≤ c.ru.n) := hf.n1
  clear h hf hp hm hv may hj hn b0' b1'
  go_enter Try.func24, Try.ntmps24
  go_upto_region 1 with fail
  rw [← hW0, ← HB.out]
  clear hW0 hB
  go_wp2_with fail
  refine Calls.mono BE.out ?_
  rintro e W1 ⟨laa, lca, rfl, di⟩
  have SS0 : Hid (∀ k, S k → S k ∨ w.heap.size ≤ k) := fun k e => Or.inl e
  have KK0 : Hid (Kp w W0 S) := Kp.of_below b0.out S
  have nB0 := nB
  have C1 : Hid (W1.heap[B]? = some (.cells (clA st x (.slice ao n cap)) 26)) := di.keep C0.out nB0.out
  obtain ⟨S1, x1, s1, k1, o1, d1⟩ := di
  have nB1 : Hid (¬ S1 B) := fun e => by
    rcases s1 B e with q | q
    · exact nB0.out q
    · have := blk_lt C0.out; omega
  have X1 := hide x1
  have SS1 : Hid (∀ k, S1 k → S k ∨ w.heap.size ≤ k) := fun k e => by
    rcases s1 k e with q | q
    · exact SS0.out k q
    · exact Or.inr (Nat.le_trans KK0.out.size q)
  have KK1 : Hid (Kp w W1 S) := KK0.out.trans k1 SS0.out
  have Oa1 : Hid (W1.ownsRow 0 44 11 (.slice laa n lca) (begL c 2 v).length (mgs (begL c 2 v))) := own_mono o1 (Nat.zero_le _)
  have Da1 := hide d1
  clear x1 s1 k1 o1 d1
  have LNa : Hid ((begL c 2 v).length = n) := by
    show (entL _ (rd0 c.ru (c.num + 1) 2 v)).length = n
    rw [entL0_len, HN.out]
  have LNb : Hid ((bakL c v).length = n) := by
    show (entL _ (rd0 c.ru (c.num + 1) 2 v)).length = n
    rw [entL0_len, HN.out]
  have y22 : W1.cell? ⟨B, 22, none⟩ = some (.slice ao n cap) := by rw [cell_row C1.out]; rfl
  have TK := take_to X1.out HF.out (refM bad (c.num + 1)) (bakC c v) (bakL c v) n RM.out.1 RM.out.2 LNb.out
  rw [← HJ.out] at TK
  replace TK := hide TK
  obtain ⟨rm, hrm⟩ : ∃ rm, rm = refM bad job := ⟨_, rfl⟩
  rw [← hrm] at TK
  replace hrm := hide hrm
  clear BE
  go_wp2_with fail
  refine Calls.mono (NU.out _) ?_
  rintro e w9 ⟨rfl, rfl⟩
  go_wp2_with (refine wpList_blR rfl 44 #[(0, .const (.int .i64 6)), (1, .tmp 42), (2, .const (.int .i64 64)), (3, .tmp 43), (4, .tmp 44), (5, .const (.int .i64 1)), (8, .const (.int .i64 122))] rfl (mgV rm) (by rw [hrm.out]; kernel_rfl) ?_)
  refine Calls.mono TK.out ?_
  rintro e W2 ⟨lab, lcb, rfl, di⟩
  clear TK y22
  have C2 : Hid (W2.heap[B]? = some (.cells (clA st x (.slice ao n cap)) 26)) := di.keep C1.out nB1.out
  obtain ⟨S2, x2, s2, k2, o2, d2⟩ := di
  have nB2 : Hid (¬ S2 B) := fun e => by
    rcases s2 B e with q | q
    · exact nB1.out q
    · have := blk_lt C1.out; omega
  have X2 := hide x2
  have SS2 : Hid (∀ k, S2 k → S k ∨ w.heap.size ≤ k) := fun k e => by
    rcases s2 k e with q | q
    · exact SS1.out k q
    · exact Or.inr (Nat.le_trans KK1.out.size q)
  have KK2 : Hid (Kp w W2 S) := KK1.out.trans k2 SS1.out
  have Oa2 : Hid (W2.ownsRow 0 44 11 (.slice laa n lca) (begL c 2 v).length (mgs (begL c 2 v))) := own_kp Oa1.out k2 (fun k hk => Da1.out k hk)
  have Da2 : Hid (∀ k, (Value.slice laa n lca).ownBlock = some k → ¬ S2 k) := fun k hk e => by
    rcases s2 k e with q | q
    · exact Da1.out k hk q
    · have := own_lt2 Oa1.out hk; omega
  have Ob2 : Hid (W2.ownsRow 0 44 11 (.slice lab n lcb) (bakL c v).length (mgs (bakL c v))) := own_mono o2 (Nat.zero_le _)
  have Db2 := hide d2
  clear x2 s2 k2 o2 d2
  have FB : Hid (bakC c v).fine := by have := takeC_fine HF.out (refM bad (c.num + 1)); rwa [RM.out.1] at this
  have y22 : W2.cell? ⟨B, 22, none⟩ = some (.slice ao n cap) := by rw [cell_row C2.out]; rfl
  go_wp2_with fail
  refine Calls.mono (NU.out _) ?_
  rintro e w9 ⟨rfl, rfl⟩
  go_wp2_with fail
  clear y22
  go_loopw [17] (fun vi wr => ∃ (i : Nat), i ≤ n ∧ vi = .int .i64 (i : Int) ∧ W2 = wr) (fun vi _ => n - (intOf vi).toNat)
  case atStart => exact ⟨0, Nat.zero_le _, rfl, rfl⟩
  case round =>
    obtain ⟨i, hi, rfl, rfl⟩ := hrel
    by_cases hin : i < n
    case pos =>
      have hii : (i : Int) < (n : Int) := by omega
      have hil : i < (bakL c v).length := by rw [LNb.out]; exact hin
      obtain ⟨g, c9, hv9, hg, cl9, rg⟩ := own_mg Ob2.out i hil
      have e8 : lab = some ⟨g, 0, none⟩ := by simp only [Value.slice.injEq] at hv9; exact hv9.1
      rw [bakL_at c v i hil, ← HJ.out] at cl9
      obtain ⟨z0, z1, z2, z3, z4, z5, z6⟩ := cl9
      change W2.cell? ⟨g, i * 11, none⟩ = some (.int .i64 7) at z0
      change W2.cell? ⟨g, i * 11 + 2, none⟩ = some (.int .i64 (i : Int)) at z2
      change W2.cell? ⟨g, i * 11 + 4, none⟩ = some (.int .i64 job) at z4
      change W2.cell? ⟨g, i * 11 + 5, none⟩ = some (.int .i64 2) at z5
      clear rg hv9 hil z1 z3 z6
      subst e8
      go_wp2_with fail
      go_roundw
      case rel => exact ⟨i + 1, by omega, by go_num, trivial⟩
      case measure => simp [intOf]; omega
    case neg =>
      obtain rfl : i = n := by omega
      clear hin hi
      have AN := hide (answers_to X2.out FB.out (.slice laa i lca) (begL c 2 v) hd Oa2.out Da2.out (by rw [LNa.out]; omega) (entL_kind _ _) (bakC c v) [] 0 (late_all c v hd _ (beg_kind c v)).1 (late_all c v hd _ (beg_kind c v)).2 rfl)
      go_wp2_with fail
      refine Calls.mono AN.out ?_
      rintro e W3 ⟨lac, lcc, rfl, di⟩
      clear AN
      have C3 : Hid (W3.heap[B]? = some (.cells (clA st x (.slice ao i cap)) 26)) := di.keep C2.out nB2.out
      obtain ⟨S3, x3, s3, k3, o3, d3⟩ := di
      have nB3 : Hid (¬ S3 B) := fun e => by
        rcases s3 B e with q | q
        · exact nB2.out q
        · have := blk_lt C2.out; omega
      have X3 := hide x3
      have SS3 : Hid (∀ k, S3 k → S k ∨ w.heap.size ≤ k) := fun k e => by
        rcases s3 k e with q | q
        · exact SS2.out k q
        · exact Or.inr (Nat.le_trans KK2.out.size q)
      have KK3 : Hid (Kp w W3 S) := KK2.out.trans k3 SS2.out
      have Ob3 : Hid (W3.ownsRow 0 44 11 (.slice lab i lcb) (bakL c v).length (mgs (bakL c v))) := own_kp Ob2.out k3 (fun k hk => Db2.out k hk)
      have Db3 : Hid (∀ k, (Value.slice lab i lcb).ownBlock = some k → ¬ S3 k) := fun k hk e => by
        rcases s3 k e with q | q
        · exact Db2.out k hk q
        · have := own_lt2 Ob2.out hk; omega
      clear x3 s3 k3 o3 d3
      have BU := busy_any X3.out FB.out.n1
      rw [show (bakC c v).ph.isSome = true from rfl] at BU
      replace BU := hide BU
      have AN := hide (answers_to X3.out FB.out (.slice lab i lcb) (bakL c v) hd Ob3.out Db3.out (by rw [LNb.out]; omega) (entL_kind _ _) (finT c v hd) [] 0 (fin_bak c v hd N1.out).1 (fin_bak c v hd N1.out).2 rfl)
      go_wp2_with fail
      refine Calls.mono BU.out ?_
      rintro e w9 ⟨rfl, rfl⟩
      go_wp2_with fail
      refine Calls.mono AN.out ?_
      rintro e W4 ⟨lad, lcd, rfl, di⟩
      clear AN BU
      have C4 : Hid (W4.heap[B]? = some (.cells (clA st x (.slice ao i cap)) 26)) := di.keep C3.out nB3.out
      obtain ⟨S4, x4, s4, k4, o4, d4⟩ := di
      have nB4 : Hid (¬ S4 B) := fun e => by
        rcases s4 B e with q | q
        · exact nB3.out q
        · have := blk_lt C3.out; omega
      have X4 := hide x4
      have SS4 : Hid (∀ k, S4 k → S k ∨ w.heap.size ≤ k) := fun k e => by
        rcases s4 k e with q | q
        · exact SS3.out k q
        · exact Or.inr (Nat.le_trans KK3.out.size q)
      have KK4 : Hid (Kp w W4 S) := KK3.out.trans k4 SS3.out
      clear x4 s4 k4 o4 d4
      have FF : Hid (finT c v hd).fine := finT_fine HF0.out HM.out _ _
      have RE := report_to X4.out FF.out (by show c.num + 1 ≠ 0; have := HF0.out.nu0; omega) i 0 (by show (List.replicate c.ru.n hd).length = i; rw [List.length_replicate, HN.out]) rfl
      have el : (finT c v hd).last = ⟨job, 2, v, 2, List.replicate i hd, []⟩ := by
        show (⟨c.num + 1, 2, v, 2, List.replicate c.ru.n hd, []⟩ : Rp) = _
        rw [← HJ.out, HN.out]
      rw [el] at RE
      replace RE := hide RE
      have BU := busy_any X4.out FF.out.n1
      rw [show (finT c v hd).ph.isSome = false from rfl] at BU
      clear el
      go_wp2_with fail
      refine Calls.mono RE.out ?_
      rintro e W7 ⟨na, nc, ka, kc, rfl, oh, hb7⟩
      obtain ⟨R, hR⟩ : ∃ R, R = W7.heap.size := ⟨_, rfl⟩
      obtain ⟨la, hla⟩ : ∃ la : Rp, la = ⟨job, 2, v, 2, List.replicate i hd, []⟩ := ⟨_, rfl⟩
      rw [← hla]
      obtain ⟨W8, hW8⟩ : ∃ W8, W8 = (W7.alloc (.cells #[.int .i64 0, .int .i64 0, .int .i64 0, .int .i64 0, .slice none 0 0, .slice none 0 0] 39)).setRow W7.heap.size (rpA la (.slice na i nc) (.slice ka 0 kc)) := ⟨_, rfl⟩
      have b8 : Below W7.heap.size W7 W8 := by rw [hW8]; exact (((Kp.refl W7 non).alloc _).row (Or.inr (Nat.le_refl _)) _).below
      have m8 : W8.heap[R]? = some (.cells (rpA la (.slice na i nc) (.slice ka 0 kc)) 39) := by rw [hW8, hR]; exact setRow_heap _ _ _ _ _ _ (heap_last W7 _)
      have r0 : W8.cell? ⟨R, 0, none⟩ = some (.int .i64 job) := by rw [cell_row m8, hla]; rfl
      have r1 : W8.cell? ⟨R, 1, none⟩ = some (.int .i64 2) := by rw [cell_row m8, hla]; rfl
      have r2 : W8.cell? ⟨R, 2, none⟩ = some (.int .i64 v) := by rw [cell_row m8, hla]; rfl
      have r3 : W8.cell? ⟨R, 3, none⟩ = some (.int .i64 2) := by rw [cell_row m8, hla]; rfl
      have r4 : W8.cell? ⟨R, 4, none⟩ = some (.slice na i nc) := by rw [cell_row m8]; rfl
      have r5 : W8.cell? ⟨R, 5, none⟩ = some (.slice ka 0 kc) := by rw [cell_row m8]; rfl
      have X8 : CtAt W8 S4 C (finT c v hd) := (X4.out.below hb7).below b8
      have BU := busy_any X8 FF.out.n1
      rw [show (finT c v hd).ph.isSome = false from rfl] at BU
      replace BU := hide BU
      have FI : Hid (Kp w W8 S) := ((KK4.out.trans (Kp.of_below hb7 non) (fun _ f => f.elim)).trans (Kp.of_below b8 non) (fun _ f => f.elim))
      have y22 : W8.cell? ⟨B, 22, none⟩ = some (.slice ao i cap) := by
        have c8 : W8.heap[B]? = some (.cells (clA st x (.slice ao i cap)) 26) := getL (Kp.of_below b8 non) (getL (Kp.of_below hb7 non) C4.out (fun f => f)) (fun f => f)
        rw [cell_row c8]; rfl
      have OH : Hid (W8.ownsRow 0 3 1 (.slice na i nc) i (ints (List.replicate i hd))) := by
        have := own_mono (own_below oh b8) (Nat.zero_le W4.heap.size)
        exact this
      have on : (rpA la (.slice na i nc) (.slice ka 0 kc)).all (·.oneCell') = true := by simp [rpA, Value.oneCell']
      have ON := hide on
      clear on
      replace hW8 := hide hW8
      have HR := hide hR
      clear X8 b8 hb7 oh hla m8 hR
      go_upto_region 17 with (refine wpList_stR rfl 39 (.tmp 20) (.tmp 127) rfl W7.heap.size rfl (rpA la (.slice na i nc) (.slice ka 0 kc)) #[.int .i64 0, .int .i64 0, .int .i64 0, .int .i64 0, .slice none 0 0, .slice none 0 0] rfl _ (heap_last W7 _) rp_info rfl ON.out ?_)
      rw [← hW8.out, ← HR.out]
      clear hW8
      go_wp2_with fail
      refine Calls.mono BU.out ?_
      rintro e w9 ⟨rfl, rfl⟩
      go_wp2_with fail
      refine Calls.mono (NU.out _) ?_
      rintro e w9 ⟨rfl, rfl⟩
      go_wp2_with fail
      go_loopw [22] (fun vi wr => ∃ (q : Nat), q ≤ i ∧ vi = .int .i64 (q : Int) ∧ W8 = wr) (fun vi _ => i - (intOf vi).toNat)
      case atStart => exact ⟨0, Nat.zero_le _, rfl, rfl⟩
      case round =>
        obtain ⟨q, hi, rfl, rfl⟩ := hrel
        by_cases hin : q < i
        case neg =>
          obtain rfl : q = i := by omega
          go_wp2_with fail
          go_ret
          exact ⟨rfl, FI.out⟩
        case pos =>
          have hii : (q : Int) < (i : Int) := by omega
          have hil : q < (List.replicate i hd).length := by rw [List.length_replicate]; exact hin
          obtain ⟨g, cc, hvv, _, _, cg⟩ := own_read OH.out (List.length_replicate).symm q hil
          have e9 : (List.replicate i hd)[q] = hd := by simp
          rw [e9] at cg
          have e8 : na = some ⟨g, 0, none⟩ := by simp only [Value.slice.injEq] at hvv; exact hvv.1
          clear hvv e9 hil
          subst e8
          go_wp2_with fail
          go_roundw
          case rel => exact ⟨q + 1, by omega, by go_num, trivial⟩
          case measure => simp [intOf]; omega
end Go.Proofs.Ytpmicmhkahgjcaa.Cn
namespace Go.Proofs.Ytpmicmhkahgjcaa.Cn
open Go.RowKit
/-- a step of a script -/
structure Sp where
  k : Int
  n : Int
  v : Int
  m : Mg
def spV (s : Sp) : Array Value := #[.int .i64 s.k, .int .i64 s.n, .int .i64 s.v, .int .i64 s.m.kind, .int .i64 s.m.fr, .int .i64 s.m.td, .int .i64 s.m.id, .int .i64 s.m.ep, .int .i64 s.m.sq, .int .i64 s.m.ver, .int .i64 s.m.prev, .int .i64 s.m.code, .string s.m.key, .string s.m.val]
/-- rows of k cells that are handed in -/
structure RwAt {α : Type} (k : Nat) (V : α → Array Value) (N : Nat) (w : World) (ao : Option Addr) (b o : Nat) (L : List α) : Prop where
  at0 : 0 < L.length → ao = some ⟨b, o, none⟩
  lt : 0 < L.length → b < N
  c : ∀ (q : Nat) (h : q < L.length) (j : Nat) (u : Value), (V L[q])[j]? = some u → w.cell? ⟨b, o + q * k + j, none⟩ = some u
  len : L.length ≤ 9223372036854775807
theorem RwAt.below {α : Type} {k : Nat} {V : α → Array Value} {N : Nat} {w w' : World} {ao : Option Addr} {b o : Nat} {L : List α} (h : RwAt k V N w ao b o L) (hb : Below N w w') : RwAt k V N w' ao b o L :=
  ⟨h.at0, h.lt, fun q hq j u hj => (hb.cell (h.lt (by omega))).trans (h.c q hq j u hj), h.len⟩
theorem sp_info : (Try.prog.info? 59).map (·.size) = some 14 := by kernel_rfl
theorem sp_one (s : Sp) : (spV s).all (·.oneCell') = true := by simp [spV, Value.oneCell']
end Go.Proofs.Ytpmicmhkahgjcaa.Cn
