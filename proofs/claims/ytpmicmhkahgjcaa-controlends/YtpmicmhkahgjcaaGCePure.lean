import Derived.Test.YtpmicmhkahgjcaaGCcTick
import Derived.Test.YtpmicmhkahgjcaaGCcRing
import Derived.Test.YtpmicmhkahgjcaaCcAns
import Derived.Test.YtpmicmhkahgjcaaGCdRes
namespace Go.Proofs.Ytpmicmhkahgjcaa.Cn
/-- how many messages of each kind have gone to the node 0 -/
structure Q4 where
  a : Int
  b : Int
  c : Int
  d : Int
def bump (q : Q4) (k : Int) : Q4 := if k = 3 then { q with a := q.a + 1 } else if k = 5 then { q with b := q.b + 1 } else if k = 7 then { q with c := q.c + 1 } else { q with d := q.d + 1 }
def cntM (q : Q4) (m : Mg) : Q4 := if m.td = 0 then bump q m.kind else q
def cntL (q : Q4) (L : List Mg) : Q4 := L.foldl cntM q
def isK (k : Int) : Prop := k = 3 ∨ k = 5 ∨ k = 7 ∨ k = 9
theorem cntL_succ (q : Q4) (L : List Mg) (i : Nat) (h : i < L.length) : cntL q (L.take (i + 1)) = cntM (cntL q (L.take i)) L[i] := by
  unfold cntL
  rw [List.take_succ_eq_append_getElem h, List.foldl_append]
  rfl
theorem cntL_all (q : Q4) (L : List Mg) : cntL q (L.take L.length) = cntL q L := by rw [List.take_length]
theorem missL_pos (al : List (Bool × Int)) (i : Nat) : ∀ x ∈ missL al i, 0 ≤ x ∧ x < (i : Int) := by
  induction i with
  | zero => intro x h; simp [missL] at h
  | succ i ih =>
    intro x h
    rw [missL_succ] at h
    split at h
    · have := ih x h; omega
    · rcases List.mem_append.1 h with g | g
      · have := ih x g; omega
      · simp at g; omega
theorem cnt_none (m : Mg) (id : Int) (q : Q4) (L : List Int) (h : ∀ x ∈ L, x ≠ 0) : cntL q (toAll m id L) = q := by
  induction L generalizing q with
  | nil => rfl
  | cons x r ih =>
    have e : cntL q (toAll m id (x :: r)) = cntL (cntM q { m with fr := 64, td := x, id := id }) (toAll m id r) := rfl
    rw [e]
    have : cntM q { m with fr := 64, td := x, id := id } = q := by
      unfold cntM
      rw [if_neg]
      exact h x (by simp)
    rw [this]
    exact ih q (fun y hy => h y (by simp [hy]))
theorem cnt_app (q : Q4) (A B : List Mg) : cntL q (A ++ B) = cntL (cntL q A) B := List.foldl_append
theorem cnt_missL (m : Mg) (id : Int) (q : Q4) (al : List (Bool × Int)) (i : Nat) : cntL q (toAll m id (missL al i)) = q ∨ cntL q (toAll m id (missL al i)) = bump q m.kind := by
  induction i with
  | zero => exact Or.inl rfl
  | succ i ih =>
    rw [missL_succ]
    split
    · exact ih
    · have e : toAll m id (missL al i ++ [(i : Int)]) = toAll m id (missL al i) ++ [{ m with fr := 64, td := (i : Int), id := id }] := by simp [toAll]
      rw [e, cnt_app]
      cases i with
      | zero =>
        right
        simp [missL, toAll, cntL, cntM]
      | succ j =>
        have : ∀ q' : Q4, cntL q' [({ m with fr := 64, td := ((j + 1 : Nat) : Int), id := id } : Mg)] = q' := fun q' => by
          simp only [cntL, cntM, List.foldl_cons, List.foldl_nil]
          rw [if_neg (by omega)]
        rw [this]
        exact ih
theorem mes_kind (p : Ph) (r : Rd) : isK (mesP p r).kind := by cases p <;> simp [isK, mesP]
theorem ent_cnt (q : Q4) (p : Ph) (r : Rd) : cntL q (entL p r) = q ∨ cntL q (entL p r) = bump q (mesP p r).kind := cnt_missL _ _ _ _ _
theorem ent_isK (p : Ph) (r : Rd) : ∀ m ∈ entL p r, isK m.kind := by
  intro m hm
  unfold entL toAll at hm
  obtain ⟨i, _, rfl⟩ := List.mem_map.1 hm
  exact mes_kind p r
/-- what has been sent, by phases -/
def Cnt (c : Ct) (q : Q4) : Prop :=
  match c.ph with
  | none => q.a ≤ 1 + c.ru.pt / c.ru.rs ∧ q.b ≤ c.ru.lm ∧ q.c ≤ c.ru.lm ∧ q.d ≤ c.ru.lm
  | some (.fetch, r) => q.a ≤ r.sd ∧ q.b = 0 ∧ q.c = 0 ∧ q.d = 0
  | some (.swap, r) => q.a ≤ 1 + c.ru.pt / c.ru.rs ∧ q.b ≤ r.sd ∧ q.c = 0 ∧ q.d = 0
  | some (.back, r) => q.a ≤ 1 + c.ru.pt / c.ru.rs ∧ q.b ≤ c.ru.lm ∧ q.c ≤ r.sd ∧ q.d = 0
  | some (.look, r) => q.a = 0 ∧ q.b = 0 ∧ q.c = 0 ∧ q.d ≤ r.sd
def Bnd (c : Ct) (q : Q4) : Prop := q.a ≤ 1 + c.ru.pt / c.ru.rs ∧ q.b ≤ c.ru.lm ∧ q.c ≤ c.ru.lm ∧ q.d ≤ c.ru.lm
def Who (c : Ct) (j k v : Int) : Prop :=
  match c.ph with
  | none => c.last.job = j ∧ c.last.kind = k ∧ c.last.ver = v
  | some (_, r) => r.num = j ∧ r.kind = k ∧ r.ver = v
theorem cnt_bnd {c : Ct} (h : c.fine) {q : Q4} (hc : Cnt c q) : Bnd c q := by
  unfold Bnd
  have hq : 0 ≤ c.ru.pt / c.ru.rs := Int.ediv_nonneg (by have := h.pt1; omega) (by have := h.rs1; omega)
  have hl := h.lm1
  cases hp : c.ph with
  | none => unfold Cnt at hc; rw [hp] at hc; exact hc
  | some x =>
    obtain ⟨p, r⟩ := x
    obtain ⟨_, t0, hs, _, hf, hg⟩ := h.rd p r hp
    have rs := h.rs1
    have lt : p ≠ .fetch → r.sd ≤ c.ru.lm := fun e => by
      have : r.tk / c.ru.rs < c.ru.lm := Int.ediv_lt_of_lt_mul (by omega) (by have := hg e; rw [Int.mul_comm] at this; exact this)
      omega
    unfold Cnt at hc
    rw [hp] at hc
    cases p
    · have : r.tk / c.ru.rs ≤ c.ru.pt / c.ru.rs := Int.ediv_le_ediv (by omega) (by have := hf rfl; omega)
      simp only at hc
      omega
    · have := lt (by simp); simp only at hc; omega
    · have := lt (by simp); simp only at hc; omega
    · have := lt (by simp); simp only at hc; omega
/-- what follows a phase that may say v -/
theorem fol_cnt {c : Ct} (h : c.fine) {p : Ph} {r : Rd} (hp : c.ph = some (p, r)) {q : Q4} (hc : Cnt c q) (x : Option (Ph × Rd)) (r' : Rd) (e1 : r'.num = r.num ∧ r'.kind = r.kind ∧ r'.ver = r.ver) (v : Int) (hv : v = 2 ∧ p = .fetch ∨ v = 3 ∧ (p = .fetch ∨ p = .swap) ∨ v = 4 ∨ v = 5 ∨ v = 6) :
    Cnt (folC { c with ph := x } p r' v) (cntL q (folL { c with ph := x } p r' v)) ∧ (∀ j k w, Who c j k w → Who (folC { c with ph := x } p r' v) j k w) ∧ (∀ m ∈ folL { c with ph := x } p r' v, isK m.kind) ∧ (folL { c with ph := x } p r' v).length ≤ c.ru.n ∧ left (folC { c with ph := x } p r' v) ≤ left c := by
  have hb := cnt_bnd h hc
  unfold Bnd at hb
  obtain ⟨hl, t0, hs, _, hf, hg⟩ := h.rd p r hp
  have pos : 0 < c.ru.rs * c.ru.lm := Int.mul_pos (by have := h.rs1; omega) (by have := h.lm1; omega)
  have pt := h.pt1
  have endW : ∀ j k w, Who c j k w → r'.num = j ∧ r'.kind = k ∧ r'.ver = w := fun j k w hw => by
    unfold Who at hw
    rw [hp] at hw
    simp only at hw
    rw [e1.1, e1.2.1, e1.2.2]
    exact hw
  rcases hv with ⟨rfl, rfl⟩ | ⟨rfl, hq⟩ | rfl | rfl | rfl
  · have ec : folC { c with ph := x } .fetch r' 2 = entP { c with ph := x } .swap (rd0 c.ru r'.num r'.kind r'.ver) := rfl
    have el : folL { c with ph := x } .fetch r' 2 = entL .swap (rd0 c.ru r'.num r'.kind r'.ver) := rfl
    rw [ec, el]
    refine ⟨?_, fun j k w hw => endW j k w hw, ent_isK _ _, by rw [entL0_len]; exact Nat.le_refl _, ?_⟩
    · unfold Cnt at hc
      rw [hp] at hc
      simp only at hc
      show (cntL q _).a ≤ _ ∧ (cntL q _).b ≤ 0 + 1 ∧ (cntL q _).c = 0 ∧ (cntL q _).d = 0
      rcases ent_cnt q .swap (rd0 c.ru r'.num r'.kind r'.ver) with e | e
      · rw [e]; exact ⟨hb.1, by omega, hc.2.2.1, hc.2.2.2⟩
      · rw [e]; refine ⟨?_, ?_, ?_, ?_⟩ <;> simp [bump, mesP] <;> first | exact hb.1 | exact hb.2.1 | omega
    · have := hf rfl
      simp only [left, hp, entP, rd0]
      omega
  · have ec : folC { c with ph := x } p r' 3 = entP { c with ph := x } .back (rd0 c.ru r'.num r'.kind r'.ver) := rfl
    have el : folL { c with ph := x } p r' 3 = entL .back (rd0 c.ru r'.num r'.kind r'.ver) := rfl
    rw [ec, el]
    refine ⟨?_, fun j k w hw => endW j k w hw, ent_isK _ _, by rw [entL0_len]; exact Nat.le_refl _, ?_⟩
    · unfold Cnt at hc
      rw [hp] at hc
      have hc2 : q.c = 0 ∧ q.d = 0 := by rcases hq with rfl | rfl <;> simp only at hc <;> omega
      show (cntL q _).a ≤ _ ∧ (cntL q _).b ≤ _ ∧ (cntL q _).c ≤ 0 + 1 ∧ (cntL q _).d = 0
      rcases ent_cnt q .back (rd0 c.ru r'.num r'.kind r'.ver) with e | e
      · rw [e]; exact ⟨hb.1, hb.2.1, by omega, hc2.2⟩
      · rw [e]; refine ⟨?_, ?_, ?_, ?_⟩ <;> simp [bump, mesP] <;> first | exact hb.1 | exact hb.2.1 | omega
    · rcases hq with rfl | rfl
      · have := hf rfl
        simp only [left, hp, entP, rd0]
        omega
      · have := hg (by simp)
        simp only [left, hp, entP, rd0]
        omega
  · exact ⟨hb, fun j k w hw => endW j k w hw, fun m hm => absurd hm (by simp [folL]), by simp [folL], by simp [folC, endC, left]⟩
  · exact ⟨hb, fun j k w hw => endW j k w hw, fun m hm => absurd hm (by simp [folL]), by simp [folL], by simp [folC, endC, left]⟩
  · exact ⟨hb, fun j k w hw => endW j k w hw, fun m hm => absurd hm (by simp [folL]), by simp [folL], by simp [folC, endC, left]⟩
theorem take_cnt {c : Ct} (h : c.fine) {q : Q4} (hc : Cnt c q) (m : Mg) :
    Cnt (takeC c m) (cntL q (takeL c m)) ∧ (∀ j k w, Who c j k w → Who (takeC c m) j k w) ∧ (∀ x ∈ takeL c m, isK x.kind) ∧ (takeL c m).length ≤ c.ru.n ∧ left (takeC c m) ≤ left c := by
  cases hp : c.ph with
  | none =>
    have e1 : takeC c m = c := by simp only [takeC, hp]
    have e2 : takeL c m = [] := by simp only [takeL, hp]
    rw [e1, e2]
    exact ⟨hc, fun _ _ _ hw => hw, fun x hx => absurd hx (by simp), Nat.zero_le _, Nat.le_refl _⟩
  | some x =>
    obtain ⟨p, r⟩ := x
    have e1 : takeC c m = takC c p r m := by simp only [takeC, hp]
    have e2 : takeL c m = takL c p r m := by simp only [takeL, hp]
    rw [e1, e2]
    unfold takC takL
    have stay : ∀ r' : Rd, r'.num = r.num ∧ r'.kind = r.kind ∧ r'.ver = r.ver → r'.tk = r.tk ∧ r'.sd = r.sd → Cnt { c with ph := some (p, r') } (cntL q []) ∧ (∀ j k w, Who c j k w → Who { c with ph := some (p, r') } j k w) ∧ (∀ x ∈ ([] : List Mg), isK x.kind) ∧ ([] : List Mg).length ≤ c.ru.n ∧ left { c with ph := some (p, r') } ≤ left c := fun r' a b => by
      refine ⟨?_, fun j k w hw => ?_, fun x hx => absurd hx (by simp), Nat.zero_le _, ?_⟩
      · unfold Cnt at hc ⊢
        rw [hp] at hc
        cases p <;> simp only [b.2] <;> exact hc
      · unfold Who at hw ⊢
        rw [hp] at hw
        simp only [a.1, a.2.1, a.2.2]
        exact hw
      · cases p <;> simp only [left, hp, b.1] <;> exact Nat.le_refl _
    split
    · split
      · split
        · exact fol_cnt h hp hc (some (p, ntR r m)) (ntR r m) ⟨rfl, rfl, rfl⟩ (comV p) (by cases p <;> simp [comV])
        · exact stay (ntR r m) ⟨rfl, rfl, rfl⟩ ⟨rfl, rfl⟩
      · cases p
        · exact fol_cnt h hp hc c.ph r ⟨rfl, rfl, rfl⟩ 3 (by simp)
        · exact fol_cnt h hp hc c.ph r ⟨rfl, rfl, rfl⟩ 3 (by simp)
        · have := stay r ⟨rfl, rfl, rfl⟩ ⟨rfl, rfl⟩
          rw [← hp] at this
          exact this
        · have := stay r ⟨rfl, rfl, rfl⟩ ⟨rfl, rfl⟩
          rw [← hp] at this
          exact this
    · have := stay r ⟨rfl, rfl, rfl⟩ ⟨rfl, rfl⟩
      rw [← hp] at this
      exact this
theorem tick_cnt {c : Ct} (h : c.fine) {q : Q4} (hc : Cnt c q) :
    Cnt (tickC c) (cntL q (tickL c)) ∧ (∀ j k w, Who c j k w → Who (tickC c) j k w) ∧ (∀ x ∈ tickL c, isK x.kind) ∧ (tickL c).length ≤ c.ru.n := by
  cases hp : c.ph with
  | none =>
    have e1 : tickC c = c := by simp only [tickC, hp]
    have e2 : tickL c = [] := by simp only [tickL, hp]
    rw [e1, e2]
    exact ⟨hc, fun _ _ _ hw => hw, fun x hx => absurd hx (by simp), Nat.zero_le _⟩
  | some x =>
    obtain ⟨p, r⟩ := x
    obtain ⟨hl, t0, hs, hn, hf, hg⟩ := h.rd p r hp
    rcases tick_says h hp with ⟨e, m, a, b⟩ | ⟨e, m, a, b⟩ | ⟨e, a⟩ | ⟨e, a⟩
    · have ec : tickC c = { c with ph := some (p, tkR r) } := by simp only [tickC, hp, e]; rfl
      have el : tickL c = [] := by simp only [tickL, hp, e]; rfl
      rw [ec, el]
      refine ⟨?_, fun j k w hw => ?_, fun x hx => absurd hx (by simp), Nat.zero_le _⟩
      · unfold Cnt at hc ⊢
        rw [hp] at hc
        cases p <;> exact hc
      · unfold Who at hw ⊢
        rw [hp] at hw
        exact hw
    · have ec : tickC c = entP { c with ph := some (p, tkR r) } p (tkR r) := by simp only [tickC, hp, e]; rfl
      have el : tickL c = entL p (tkR r) := by simp only [tickL, hp, e]; rfl
      rw [ec, el]
      refine ⟨?_, fun j k w hw => ?_, ent_isK _ _, ?_⟩
      · unfold Cnt at hc
        rw [hp] at hc
        cases p
        · show (cntL q _).a ≤ r.sd + 1 ∧ (cntL q _).b = 0 ∧ (cntL q _).c = 0 ∧ (cntL q _).d = 0
          simp only at hc
          rcases ent_cnt q .fetch (tkR r) with e | e
          · rw [e]; omega
          · rw [e]; simp [bump, mesP]; omega
        · show (cntL q _).a ≤ _ ∧ (cntL q _).b ≤ r.sd + 1 ∧ (cntL q _).c = 0 ∧ (cntL q _).d = 0
          simp only at hc
          rcases ent_cnt q .swap (tkR r) with e | e
          · rw [e]; exact ⟨hc.1, by omega, by omega, by omega⟩
          · rw [e]; simp [bump, mesP]; exact ⟨hc.1, by omega, by omega, by omega⟩
        · show (cntL q _).a ≤ _ ∧ (cntL q _).b ≤ _ ∧ (cntL q _).c ≤ r.sd + 1 ∧ (cntL q _).d = 0
          simp only at hc
          rcases ent_cnt q .back (tkR r) with e | e
          · rw [e]; exact ⟨hc.1, hc.2.1, by omega, by omega⟩
          · rw [e]; simp [bump, mesP]; exact ⟨hc.1, hc.2.1, by omega, by omega⟩
        · show (cntL q _).a = 0 ∧ (cntL q _).b = 0 ∧ (cntL q _).c = 0 ∧ (cntL q _).d ≤ r.sd + 1
          simp only at hc
          rcases ent_cnt q .look (tkR r) with e | e
          · rw [e]; omega
          · rw [e]; simp [bump, mesP]; omega
      · unfold Who at hw ⊢
        rw [hp] at hw
        exact hw
      · have := toAll_miss (mesP p (tkR r)) (tkR r).num (tkR r).al
        unfold entL
        have e9 : (tkR r).al.length = c.ru.n := hl
        omega
    · have ec : tickC c = folC { c with ph := some (p, tkR r) } p (tkR r) 3 := by simp only [tickC, hp, e]
      have el : tickL c = folL { c with ph := some (p, tkR r) } p (tkR r) 3 := by simp only [tickL, hp, e]
      rw [ec, el]
      obtain ⟨x1, x2, x3, x4, _⟩ := fol_cnt h hp hc (some (p, tkR r)) (tkR r) ⟨rfl, rfl, rfl⟩ 3 (Or.inr (Or.inl ⟨rfl, a⟩))
      exact ⟨x1, x2, x3, x4⟩
    · have ec : tickC c = folC { c with ph := some (p, tkR r) } p (tkR r) 6 := by simp only [tickC, hp, e]
      have el : tickL c = folL { c with ph := some (p, tkR r) } p (tkR r) 6 := by simp only [tickL, hp, e]
      rw [ec, el]
      obtain ⟨x1, x2, x3, x4, _⟩ := fol_cnt h hp hc (some (p, tkR r)) (tkR r) ⟨rfl, rfl, rfl⟩ 6 (by omega)
      exact ⟨x1, x2, x3, x4⟩
end Go.Proofs.Ytpmicmhkahgjcaa.Cn
namespace Go.Proofs.Ytpmicmhkahgjcaa.Cn
open Go.RowKit
def q4A (q : Q4) : Array Value := #[.int .i64 q.a, .int .i64 q.b, .int .i64 q.c, .int .i64 q.d]
def qz : Q4 := ⟨0, 0, 0, 0⟩
theorem q_info : (Try.prog.info? 52).map (·.size) = some 4 := by kernel_rfl
theorem q_one (q : Q4) : (q4A q).all (·.oneCell') = true := by simp [q4A, Value.oneCell']
theorem run_ldQ {w : World} {b : Nat} {q : Q4} {t : TypeId} (hO : w.heap[b]? = some (.cells (q4A q) t)) : (loadVar 52 ⟨b, 0, none⟩).run Try.prog w = .ok (.agg (q4A q)) w :=
  run_loadVar_row _ _ t 52 (q4A q) (0, 0) _ hO Try.underlying52 rfl q_info
theorem wpList_ldQ {w : World} {ops : Array Oper} {rest : List Oper} {o : Oper} {a : Act} {Q : Exit → Act → World → Prop} (hgd : o.guard = none) (x : Operand) (ho : o.op = .load 52 x) (b : Nat) (hx : a.eval x = .pointer (some ⟨b, 0, none⟩)) (q : Q4) (t : TypeId) (hO : w.heap[b]? = some (.cells (q4A q) t))
    (h : wpList Try.prog ops Q rest (a.put o.dst (.agg (q4A q))) w) : wpList Try.prog ops Q (o :: rest) a w := by
  have hl : (Instr.loadAt 52 (.pointer (some ⟨b, 0, none⟩))).run Try.prog w = .ok (.agg (q4A q)) w := by
    simp only [Instr.loadAt, Instr.sureAddr, Sem.run_bind, Sem.run_pure, Result.andThen]
    exact run_ldQ hO
  refine wpList_plain hgd fun K hK => ?_
  unfold Oper.wp execOp
  simp only [ho, Sem.run_bind, Sem.run_pure, Result.andThen_ok, hx, hl]
  exact hK _ _ h
theorem res_rowQ {fn : Func} {p : Tmp} (h : fn.results = #[.cell p 52]) (tmps : Array Value) (q : Q4) (w : World) (b : Nat) (ht : tmps.getD p undef = .pointer (some ⟨b, 0, none⟩)) (t : TypeId) (hO : w.heap[b]? = some (.cells (q4A q) t)) : (results fn tmps).run Try.prog w = .ok (.agg (q4A q)) w := by
  have hl := run_ldQ hO
  have ht' : tmps[p]?.getD undef = .pointer (some ⟨b, 0, none⟩) := by simpa using ht
  unfold results
  rw [h]
  simp [ht', asAddr, hl]
/-- small counts -/
def Q4.le (q : Q4) (n : Int) : Prop := (0 ≤ q.a ∧ q.a ≤ n) ∧ (0 ≤ q.b ∧ q.b ≤ n) ∧ (0 ≤ q.c ∧ q.c ≤ n) ∧ (0 ≤ q.d ∧ q.d ≤ n)
theorem bump_le {q : Q4} {n : Int} (h : q.le n) (k : Int) : (bump q k).le (n + 1) := by
  unfold Q4.le at *
  unfold bump
  split
  · dsimp; omega
  · split
    · dsimp; omega
    · split
      · dsimp; omega
      · dsimp; omega
theorem cntM_le {q : Q4} {n : Int} (h : q.le n) (m : Mg) : (cntM q m).le (n + 1) := by
  unfold cntM
  split
  · exact bump_le h _
  · unfold Q4.le at *; omega
set_option maxHeartbeats 8000000 in
set_option maxRecDepth 100000 in
set_option linter.unusedSimpArgs false in
set_option linter.unusedVariables false in
theorem counted_any (w : World) (q : Q4) (L : List Mg) (la : Option Addr) (n lc : Nat) (hL : L.length = n) (hv : w.ownsRow 0 44 11 (.slice la n lc) L.length (mgs L)) (hk : ∀ m ∈ L, isK m.kind) (hn : n ≤ 16) (hq : q.le 1099511627776) :
    Calls Try.prog 18 #[.agg (q4A q), .slice la n lc] w fun e w' => e = .returned (.agg (q4A (cntL q L))) ∧ Below w.heap.size w w' := by
  obtain ⟨Q, hQ⟩ : ∃ Q, Q = w.heap.size := ⟨_, rfl⟩
  obtain ⟨W0, hW0⟩ : ∃ W0, W0 = (w.alloc (.cells (q4A q) 52)).alloc (.cells (q4A qz) 52) := ⟨_, rfl⟩
  have b0 : Hid (Below w.heap.size w W0) := by rw [hW0]; exact ((Below.refl _ w).alloc (Nat.le_refl _) _).alloc (by rw [World.size_alloc]; omega) _
  have s1 : (w.alloc (.cells (q4A q) 52)).heap.size = Q + 1 := by rw [hQ]; exact World.size_alloc _ _
  have m0 : Hid (W0.heap[Q]? = some (.cells (q4A q) 52)) := by
    have k := ((Below.refl _ (w.alloc (.cells (q4A q) 52))).alloc (Nat.le_refl _) (.cells (q4A qz) 52))
    rw [hW0]
    exact (k.block Q (by omega)).trans (by rw [hQ]; exact heap_last _ _)
  have m1 : Hid (W0.heap[Q + 1]? = some (.cells (q4A qz) 52)) := by rw [hW0, ← s1]; exact heap_last _ _
  have HV := hide hv
  have HK := hide hk
  have HLn := hide hL
  have HQ := hide hQ
  have HQL := hide hq
  clear hv hk s1 hL hq
  go_enter Try.func18, Try.ntmps18
  go_upto_region 1 with fail
  rw [show (#[.int .i64 0, .int .i64 0, .int .i64 0, .int .i64 0] : Array Value) = q4A qz from rfl, ← hW0, ← HQ.out]
  clear hW0 hQ
  go_wp2_with fail
  go_loopw [5] (fun vi wr => ∃ (i : Nat) (qi : Q4), i ≤ n ∧ vi = .int .i64 (i : Int) ∧ Hid (qi = cntL q (L.take i)) ∧ Hid (qi.le (1099511627776 + (i : Int))) ∧ Hid (wr.heap[Q]? = some (.cells (q4A qi) 52)) ∧ Hid (wr.heap[Q + 1]? = some (.cells (q4A qz) 52)) ∧ Hid (Below w.heap.size w wr)) (fun vi _ => n - (intOf vi).toNat)
  case atStart => exact ⟨0, q, Nat.zero_le _, rfl, rfl, hide (by have := HQL.out; unfold Q4.le at *; omega), m0.out, m1.out, b0.out⟩
  case round =>
    obtain ⟨i, qi, hi, rfl, HE, HLE, HQi, HRi, HBi⟩ := hrel
    by_cases hin : i < n
    case neg =>
      obtain rfl : i = n := by omega
      have e9 : qi = cntL q L := by rw [HE.out, ← HLn.out, cntL_all]
      have E9 := hide e9
      clear e9 hin hi
      go_wp2_with (first | refine wpList_ldQ rfl (.tmp 2) rfl Q rfl qi _ HQi.out ?_ | refine wpList_stR rfl 52 (.tmp 4) (.tmp 54) rfl (Q + 1) rfl (q4A qi) (q4A qz) rfl _ HRi.out q_info rfl (q_one _) ?_)
      refine bodyPost_ret (v := .agg (q4A qi)) (res_rowQ Try.results18 _ _ _ (Q + 1) rfl _ (setRow_heap _ _ _ _ _ _ HRi.out)) rfl ⟨by rw [E9.out], ?_⟩
      exact ((Kp.of_below HBi.out non).row (Or.inr (by rw [HQ.out]; omega)) _).below
    case pos =>
      have hii : (i : Int) < (n : Int) := by omega
      have hiL : i < L.length := by rw [HLn.out]; exact hin
      have HVr := own_below HV.out HBi.out
      obtain ⟨g, c9, hv9, hg, cl, rg⟩ := own_mg HVr i hiL
      clear rg HVr
      have e8 : la = some ⟨g, 0, none⟩ := by simp only [Value.slice.injEq] at hv9; exact hv9.1
      clear hv9
      subst e8
      have SU : Hid (cntM qi L[i] = cntL q (L.take (i + 1))) := by rw [HE.out]; exact (cntL_succ q L i hiL).symm
      have km := HK.out _ (List.getElem_mem hiL)
      obtain ⟨m, hm⟩ : ∃ m, m = L[i] := ⟨_, rfl⟩
      rw [← hm] at cl SU km
      obtain ⟨z0, _, z2, _⟩ := cl
      clear hm hiL
      obtain ⟨l1, l2, l3, l4⟩ := HLE.out
      have i16 : (i : Int) < 16 := by omega
      by_cases ht : m.td = 0
      case neg =>
        have p2 : (m.td == 0) = false := by simpa using ht
        have E1 : Hid (qi = cntL q (L.take (i + 1))) := hide (by rw [← SU.out]; unfold cntM; rw [if_neg ht])
        have LE1 : Hid (qi.le (1099511627776 + ((i + 1 : Nat) : Int))) := hide (by unfold Q4.le; omega)
        clear ht km z0 SU HE HLE l1 l2 l3 l4
        go_wp2_with fail
        go_roundw
        case rel => exact ⟨i + 1, qi, by omega, by go_num, E1.out, LE1.out, HQi.out, HRi.out, HBi.out⟩
        case measure => simp [intOf]; omega
      case pos =>
        have E1 : Hid (bump qi m.kind = cntL q (L.take (i + 1))) := hide (by rw [← SU.out]; unfold cntM; rw [if_pos ht])
        have LE1 : Hid ((bump qi m.kind).le (1099511627776 + ((i + 1 : Nat) : Int))) := by
          have := bump_le HLE.out m.kind
          rw [show (1099511627776 : Int) + (i : Int) + 1 = 1099511627776 + ((i + 1 : Nat) : Int) by omega] at this
          exact this
        rw [ht] at z2
        obtain ⟨kd, hkd⟩ : ∃ kd, kd = m.kind := ⟨_, rfl⟩
        rw [← hkd] at E1 LE1 km z0
        clear ht SU HE HLE hkd
        unfold isK at km
        rcases km with rfl | rfl | rfl | rfl
        · have y : wr.cell? ⟨Q, 0, none⟩ = some (.int .i64 qi.a) := by rw [cell_row HQi.out]; rfl
          have yf : wr.frozen? ⟨Q, 0, none⟩ = false := fz_row HQi.out 0
          go_wp2_with fail
          go_roundw
          case rel =>
            refine ⟨i + 1, bump qi 3, by omega, by go_num, E1.out, LE1.out, set_row HQi.out 0 _, ?_, ?_⟩
            · exact (Below.heap_setCell _ _ _ _ (by simp)).trans HRi.out
            · exact below_setC HBi.out (by rw [HQ.out]; exact Nat.le_refl _)
          case measure => simp [intOf]; omega
        · have y : wr.cell? ⟨Q, 1, none⟩ = some (.int .i64 qi.b) := by rw [cell_row HQi.out]; rfl
          have yf : wr.frozen? ⟨Q, 1, none⟩ = false := fz_row HQi.out 1
          go_wp2_with fail
          go_roundw
          case rel =>
            refine ⟨i + 1, bump qi 5, by omega, by go_num, E1.out, LE1.out, set_row HQi.out 1 _, ?_, ?_⟩
            · exact (Below.heap_setCell _ _ _ _ (by simp)).trans HRi.out
            · exact below_setC HBi.out (by rw [HQ.out]; exact Nat.le_refl _)
          case measure => simp [intOf]; omega
        · have y : wr.cell? ⟨Q, 2, none⟩ = some (.int .i64 qi.c) := by rw [cell_row HQi.out]; rfl
          have yf : wr.frozen? ⟨Q, 2, none⟩ = false := fz_row HQi.out 2
          go_wp2_with fail
          go_roundw
          case rel =>
            refine ⟨i + 1, bump qi 7, by omega, by go_num, E1.out, LE1.out, set_row HQi.out 2 _, ?_, ?_⟩
            · exact (Below.heap_setCell _ _ _ _ (by simp)).trans HRi.out
            · exact below_setC HBi.out (by rw [HQ.out]; exact Nat.le_refl _)
          case measure => simp [intOf]; omega
        · have y : wr.cell? ⟨Q, 3, none⟩ = some (.int .i64 qi.d) := by rw [cell_row HQi.out]; rfl
          have yf : wr.frozen? ⟨Q, 3, none⟩ = false := fz_row HQi.out 3
          go_wp2_with fail
          go_roundw
          case rel =>
            refine ⟨i + 1, bump qi 9, by omega, by go_num, E1.out, LE1.out, set_row HQi.out 3 _, ?_, ?_⟩
            · exact (Below.heap_setCell _ _ _ _ (by simp)).trans HRi.out
            · exact below_setC HBi.out (by rw [HQ.out]; exact Nat.le_refl _)
          case measure => simp [intOf]; omega
end Go.Proofs.Ytpmicmhkahgjcaa.Cn
namespace Go.Proofs.Ytpmicmhkahgjcaa.Cn
open Go.RowKit
theorem cntL_le {q : Q4} {n : Int} (h : q.le n) (L : List Mg) : (cntL q L).le (n + (L.length : Int)) := by
  induction L generalizing q n with
  | nil => simpa [cntL] using h
  | cons m r ih =>
    have := ih (cntM_le h m)
    have e : cntL q (m :: r) = cntL (cntM q m) r := rfl
    rw [e]
    have e2 : n + ((m :: r).length : Int) = n + 1 + (r.length : Int) := by simp; omega
    rw [e2]
    exact this
theorem qa_le (L : List Mg) (n : Nat) (h : L.length = n) (h16 : n ≤ 16) : (cntL qz L).le 16 := by
  have e := cntL_le (q := qz) (n := 0) (by simp [Q4.le, qz]) L
  rw [h] at e
  unfold Q4.le at *
  omega
/-- the law's own: the cluster at cB, what was sent at SB -/
structure St (w wr : World) (S : Nat → Prop) (C cB SB : Nat) (c : Ct) (q : Q4) (st : ByteArray) (X : Nat → Int) (nv : Value) : Prop where
  x : CtAt wr S C c
  g : ∀ k, S k → w.heap.size ≤ k ∧ k ≠ cB ∧ k ≠ SB
  b : Below w.heap.size w wr
  cl : ClAt wr cB st X nv
  sb : wr.heap[SB]? = some (.cells (q4A q) 52)
  ge : w.heap.size ≤ cB ∧ w.heap.size ≤ SB ∧ cB ≠ SB
theorem St.below {w wr W2 : World} {S : Nat → Prop} {C cB SB : Nat} {c : Ct} {q : Q4} {st : ByteArray} {X : Nat → Int} {nv : Value} (h : St w wr S C cB SB c q st X nv) (hb : Below wr.heap.size wr W2) : St w W2 S C cB SB c q st X nv :=
  ⟨h.x.below hb, h.g, h.b.trans (hb.mono h.b.size), h.cl.below hb, (hb.block _ (blk_lt h.sb)).trans h.sb, h.ge⟩
theorem St.did {w wr W2 : World} {S : Nat → Prop} {C cB SB : Nat} {c c2 : Ct} {q : Q4} {st : ByteArray} {X : Nat → Int} {nv v : Value} {L2 : List Mg} (h : St w wr S C cB SB c q st X nv) (di : Did wr W2 S C c2 v L2) :
    ∃ S2, St w W2 S2 C cB SB c2 q st X nv ∧ W2.ownsRow 0 44 11 v L2.length (mgs L2) := by
  have k1 : ClAt W2 cB st X nv := di.keep h.cl (fun e => (h.g _ e).2.1 rfl)
  have k2 : W2.heap[SB]? = some (.cells (q4A q) 52) := di.keep h.sb (fun e => (h.g _ e).2.2 rfl)
  obtain ⟨S2, x2, s2, kp, o2, d2⟩ := di
  refine ⟨S2, ⟨x2, fun k e => ?_, ((Kp.of_below h.b non).trans kp (fun k e => Or.inr (h.g k e).1)).below, k1, k2, h.ge⟩, own_mono o2 (Nat.zero_le _)⟩
  rcases s2 k e with z | z
  · exact h.g k z
  · have a1 := blk_lt h.cl
    have a2 := blk_lt h.sb
    have a3 := h.b.size
    omega
theorem St.row {w wr : World} {S : Nat → Prop} {C cB SB : Nat} {c : Ct} {q : Q4} {st : ByteArray} {X : Nat → Int} {nv : Value} (h : St w wr S C cB SB c q st X nv) (q2 : Q4) : St w (wr.setRow SB (q4A q2)) S C cB SB c q2 st X nv := by
  have kp : Kp wr (wr.setRow SB (q4A q2)) (fun k => k = SB) := (Kp.refl wr (fun k => k = SB)).row (Or.inl rfl) _
  refine ⟨h.x.kp kp (fun k e hs => (h.g k hs).2.2 e), h.g, ((Kp.of_below h.b non).trans kp (fun k e => Or.inr (by rw [e]; exact h.ge.2.1))).below, getL kp h.cl h.ge.2.2, setRow_heap _ _ _ _ _ _ h.sb, h.ge⟩
theorem beg_cnt (u : Ru) (v : Int) (h1 : 1 ≤ u.rs) (h2 : 0 ≤ u.pt) : Cnt (begC (ct0 u) 1 v) (cntL qz (begL (ct0 u) 1 v)) ∧ Cnt (begC (ct0 u) 2 v) (cntL qz (begL (ct0 u) 2 v)) ∧ Cnt (begC (ct0 u) 3 v) (cntL qz (begL (ct0 u) 3 v)) := by
  have hq : 0 ≤ u.pt / u.rs := Int.ediv_nonneg h2 (by omega)
  refine ⟨?_, ?_, ?_⟩
  · show (cntL qz (entL .fetch _)).a ≤ 0 + 1 ∧ (cntL qz (entL .fetch _)).b = 0 ∧ (cntL qz (entL .fetch _)).c = 0 ∧ (cntL qz (entL .fetch _)).d = 0
    rcases ent_cnt qz .fetch (rd0 (ct0 u).ru ((ct0 u).num + 1) 1 v) with e | e <;> rw [e] <;> simp [bump, mesP, qz]
  · show (cntL qz (entL .swap _)).a ≤ 1 + u.pt / u.rs ∧ (cntL qz (entL .swap _)).b ≤ 0 + 1 ∧ (cntL qz (entL .swap _)).c = 0 ∧ (cntL qz (entL .swap _)).d = 0
    rcases ent_cnt qz .swap (rd0 (ct0 u).ru ((ct0 u).num + 1) 2 v) with e | e <;> rw [e] <;> simp [bump, mesP, qz] <;> omega
  · show (cntL qz (entL .look _)).a = 0 ∧ (cntL qz (entL .look _)).b = 0 ∧ (cntL qz (entL .look _)).c = 0 ∧ (cntL qz (entL .look _)).d ≤ 0 + 1
    rcases ent_cnt qz .look (rd0 (ct0 u).ru ((ct0 u).num + 1) 3 v) with e | e <;> rw [e] <;> simp [bump, mesP, qz]
theorem beg_left (u : Ru) (v : Int) (h1 : 1 ≤ u.rs) (h3 : 1 ≤ u.lm) (h2 : 0 ≤ u.pt) : (left (begC (ct0 u) 1 v) : Int) = u.pt + 2 * (u.rs * u.lm) ∧ (left (begC (ct0 u) 2 v) : Int) = 2 * (u.rs * u.lm) ∧ (left (begC (ct0 u) 3 v) : Int) = u.rs * u.lm := by
  have pos : 0 < u.rs * u.lm := Int.mul_pos (by omega) (by omega)
  refine ⟨?_, ?_, ?_⟩
  · show ((u.pt - 0 + 2 * (u.rs * u.lm)).toNat : Int) = _
    omega
  · show ((u.rs * u.lm - 0 + u.rs * u.lm).toNat : Int) = _
    omega
  · show ((u.rs * u.lm - 0).toNat : Int) = _
    omega
theorem beg_who (u : Ru) (k v : Int) : Who (begC (ct0 u) k v) 1 k v := ⟨rfl, rfl, rfl⟩
end Go.Proofs.Ytpmicmhkahgjcaa.Cn
