import Derived.Test.YtpmicmhkahgjcaaCcAns
import Derived.Test.YtpmicmhkahgjcaaGCcRing
namespace Go.Proofs.Ytpmicmhkahgjcaa.Cn
open Go.RowKit
/-- the first k have answered -/
def alK (n k : Nat) (x : Int) : List (Bool × Int) := List.replicate k (true, x) ++ List.replicate (n - k) (false, -1)
theorem alK_len (n k : Nat) (x : Int) (h : k ≤ n) : (alK n k x).length = n := by simp [alK]; omega
theorem alK_lo (n k : Nat) (x : Int) (j : Nat) (h : j < k) : (alK n k x).getD j (true, 0) = (true, x) := by
  unfold alK
  rw [List.getD_eq_getElem?_getD, List.getElem?_append_left (by simpa using h), List.getElem?_replicate, if_pos h]
  rfl
theorem alK_hi (n k : Nat) (x : Int) (j : Nat) (h : k ≤ j) (hj : j < n) : (alK n k x).getD j (true, 0) = (false, -1) := by
  unfold alK
  rw [List.getD_eq_getElem?_getD, List.getElem?_append_right (by simpa using h), List.getElem?_replicate, if_pos (by simp; omega)]
  rfl
theorem alK_set (n k : Nat) (x : Int) (h : k < n) : (alK n k x).set k (true, x) = alK n (k + 1) x := by
  unfold alK
  rw [List.set_append_right _ _ (by simp), List.length_replicate, Nat.sub_self, show n - k = (n - (k + 1)) + 1 by omega, List.replicate_succ, List.set_cons_zero, List.replicate_succ' (n := k)]
  simp
theorem missK (n k : Nat) (x : Int) (j : Nat) (hj : j ≤ n) : (missL (alK n k x) j).length = j - k := by
  induction j with
  | zero => simp [missL]
  | succ j ih =>
    rw [missL_succ]
    have i := ih (by omega)
    by_cases h : j < k
    · rw [alK_lo n k x j h, if_pos rfl]
      omega
    · rw [alK_hi n k x j (by omega) (by omega), if_neg (by decide), List.length_append]
      simp
      omega
theorem miss_alK (n k : Nat) (x : Int) (hk : k ≤ n) : (miss (alK n k x)).length = n - k := by
  unfold miss
  rw [alK_len n k x hk]
  exact missK n k x n (Nat.le_refl _)
theorem miss0L (n : Nat) (x : Int) (j : Nat) (hj : j ≤ n) : missL (alK n 0 x) j = (List.range j).map fun i : Nat => (i : Int) := by
  induction j with
  | zero => rfl
  | succ j ih =>
    rw [missL_succ, alK_hi n 0 x j (Nat.zero_le _) (by omega), if_neg (by decide), ih (by omega), List.range_succ, List.map_append]
    rfl
theorem miss0 (n : Nat) : miss (List.replicate n (false, -1)) = (List.range n).map fun i : Nat => (i : Int) := by
  have e : List.replicate n ((false, -1) : Bool × Int) = alK n 0 0 := by simp [alK]
  rw [e]
  unfold miss
  rw [alK_len n 0 0 (Nat.zero_le _)]
  exact miss0L n 0 n (Nat.le_refl _)
theorem all0 (m : Mg) (id : Int) (n : Nat) (i : Nat) (h : i < (toAll m id (miss (List.replicate n (false, -1)))).length) : (toAll m id (miss (List.replicate n (false, -1))))[i] = { m with fr := 64, td := (i : Int), id := id } := by
  simp [toAll, miss0]
theorem all0_len (m : Mg) (id : Int) (n : Nat) : (toAll m id (miss (List.replicate n (false, -1)))).length = n := by simp [toAll, miss0]
/-- what a node holds by a good answer -/
def hxP (p : Ph) (r : Rd) (h : Int) : Int :=
  match p with
  | .fetch => r.ver
  | .swap => r.ver
  | _ => h
def rK (r : Rd) (n k : Nat) (x : Int) : Rd := { r with al := alK n k x }
theorem take_calm (c : Ct) (p : Ph) (r : Rd) (n : Nat) (h : Int) (i : Nat) (hn : c.ru.n = n) (hi : i < n) :
    takeC { c with ph := some (p, rK r n i (hxP p r h)) } (ansM { mesP p r with fr := 64, td := (i : Int), id := r.num } h) = (if i + 1 = n then folC { c with ph := some (p, rK r n n (hxP p r h)) } p (rK r n n (hxP p r h)) (comV p) else { c with ph := some (p, rK r n (i + 1) (hxP p r h)) }) ∧
    takeL { c with ph := some (p, rK r n i (hxP p r h)) } (ansM { mesP p r with fr := 64, td := (i : Int), id := r.num } h) = (if i + 1 = n then folL { c with ph := some (p, rK r n n (hxP p r h)) } p (rK r n n (hxP p r h)) (comV p) else []) := by
  obtain ⟨X, hX⟩ : ∃ X, X = hxP p r h := ⟨_, rfl⟩
  have hc : came (rK r n i X) (i : Int) = false := by
    unfold came rK
    rw [Int.toNat_natCast, alK_hi n i X i (Nat.le_refl _) hi]
  have hii : (i : Int) < (c.ru.n : Int) := by omega
  have cnt : cntP p c.ru (rK r n i X) (ansM { mesP p r with fr := 64, td := (i : Int), id := r.num } h) = true := by
    cases p <;> simp [cntP, dueP, ansM, mesP, mg0, hc, hii] <;> simp [rK]
  have nt : ntR (rK r n i X) (ansM { mesP p r with fr := 64, td := (i : Int), id := r.num } h) = rK r n (i + 1) X := by
    have e : (ansM { mesP p r with fr := 64, td := (i : Int), id := r.num } h).ver = X := by
      rw [hX]
      cases p <;> simp [ansM, mesP, mg0, hxP]
    unfold ntR
    rw [e]
    show ({ r with al := (alK n i X).set (Int.toNat (i : Int)) (true, X) } : Rd) = _
    rw [Int.toNat_natCast, alK_set n i X hi]
    rfl
  have code : (ansM { mesP p r with fr := 64, td := (i : Int), id := r.num } h).code = 0 := rfl
  have ml : (miss (rK r n (i + 1) X).al).length = n - (i + 1) := miss_alK n (i + 1) X (by omega)
  rw [← hX]
  simp only [takeC, takeL, takC, takL, cnt, code, nt, ml, if_true]
  by_cases e : i + 1 = n
  · rw [if_pos e, if_pos e, if_pos (by omega), if_pos (by omega), e]
    exact ⟨rfl, rfl⟩
  · rw [if_neg e, if_neg e, if_neg (by omega), if_neg (by omega)]
    exact ⟨rfl, rfl⟩
theorem ans_pre (c : Ct) (p : Ph) (r : Rd) (n : Nat) (h : Int) (hn : c.ru.n = n) (i : Nat) (hi : i < n) :
    ansC { c with ph := some (p, rK r n 0 (hxP p r h)) } h ((toAll (mesP p r) r.num (miss (List.replicate n (false, -1)))).take i) = { c with ph := some (p, rK r n i (hxP p r h)) } ∧ ansL { c with ph := some (p, rK r n 0 (hxP p r h)) } h ((toAll (mesP p r) r.num (miss (List.replicate n (false, -1)))).take i) = [] := by
  induction i with
  | zero => exact ⟨rfl, rfl⟩
  | succ i ih =>
    obtain ⟨e1, e2⟩ := ih (by omega)
    have hl : i < (toAll (mesP p r) r.num (miss (List.replicate n (false, -1)))).length := by rw [all0_len]; omega
    obtain ⟨s1, s2⟩ := ans_succ { c with ph := some (p, rK r n 0 (hxP p r h)) } h _ i hl
    rw [s1, s2, e1, e2, all0]
    obtain ⟨t1, t2⟩ := take_calm c p r n h i hn (by omega)
    rw [t1, t2, if_neg (by omega), if_neg (by omega)]
    exact ⟨rfl, rfl⟩
/-- all answer -/
theorem ans_all (c : Ct) (p : Ph) (r : Rd) (n : Nat) (h : Int) (hn : c.ru.n = n) (h1 : 1 ≤ n) (hr : r.al = List.replicate n (false, -1)) (hc : c.ph = some (p, r)) :
    ansC c h (entL p r) = folC { c with ph := some (p, rK r n n (hxP p r h)) } p (rK r n n (hxP p r h)) (comV p) ∧ ansL c h (entL p r) = folL { c with ph := some (p, rK r n n (hxP p r h)) } p (rK r n n (hxP p r h)) (comV p) := by
  have e0 : c = { c with ph := some (p, rK r n 0 (hxP p r h)) } := by
    have e : rK r n 0 (hxP p r h) = r := by
      unfold rK alK
      obtain ⟨a, b, d, al, t, s⟩ := r
      simp at hr
      simp [hr]
    rw [e, ← hc]
  obtain ⟨e1, e2⟩ := ans_pre c p r n h hn (n - 1) (by omega)
  have hl : n - 1 < (toAll (mesP p r) r.num (miss (List.replicate n (false, -1)))).length := by rw [all0_len]; omega
  obtain ⟨s1, s2⟩ := ans_succ { c with ph := some (p, rK r n 0 (hxP p r h)) } h _ (n - 1) hl
  have et : (toAll (mesP p r) r.num (miss (List.replicate n (false, -1)))).take (n - 1 + 1) = entL p r := by
    unfold entL
    rw [hr, List.take_of_length_le (by rw [all0_len]; omega)]
  rw [et, e1, all0] at s1
  rw [et, e1, e2, all0] at s2
  obtain ⟨t1, t2⟩ := take_calm c p r n h (n - 1) hn (by omega)
  rw [t1, if_pos (by omega)] at s1
  rw [t2, if_pos (by omega)] at s2
  rw [← e0] at s1 s2
  exact ⟨s1, s2⟩
theorem entL0_len (p : Ph) (u : Ru) (a b d : Int) : (entL p (rd0 u a b d)).length = u.n := by
  unfold entL
  exact all0_len _ _ _
theorem entL_kind (p : Ph) (r : Rd) : ∀ m ∈ entL p r, 0 ≤ m.kind ∧ m.kind ≤ 1000 := by
  intro m hm
  unfold entL toAll at hm
  obtain ⟨i, _, rfl⟩ := List.mem_map.1 hm
  cases p <;> simp [mesP]
theorem rep_all (r : Rd) (n : Nat) (x o : Int) : repO (rK r n n x) o = ⟨r.num, r.kind, r.ver, o, List.replicate n x, []⟩ := by
  have h1 : (alK n n x).map (·.2) = List.replicate n x := by simp [alK]
  have h2 : miss (alK n n x) = [] := List.length_eq_zero_iff.1 (by rw [miss_alK n n x (Nat.le_refl _)]; omega)
  unfold repO rK
  simp only [h1, h2]
/-- a job in calm -/
def finC (c : Ct) (k v h o : Int) : Ct := { c with num := c.num + 1, ph := none, last := ⟨c.num + 1, k, v, o, List.replicate c.ru.n (if k = 3 then h else v), []⟩ }
end Go.Proofs.Ytpmicmhkahgjcaa.Cn
namespace Go.Proofs.Ytpmicmhkahgjcaa.Cn
open Go.RowKit
theorem fine_beg {c : Ct} (h : c.fine) (hp : c.ph = none) (hm : c.num + 1 ≤ 9007199254740992) (k v : Int) : (begC c k v).fine := by
  have h' : ({ c with num := c.num + 1 } : Ct).fine := ⟨h.n1, h.n16, h.rs1, h.rs2, h.lm1, h.lm2, h.pt1, h.pt2, by have := h.nu0; show 0 ≤ c.num + 1; omega, hm, fun p r e => absurd ((show ({ c with num := c.num + 1 } : Ct).ph = none from hp).symm.trans e) (by simp), h.la⟩
  exact fine_ent h' _ _ _
theorem Did.keep {w w' : World} {S : Nat → Prop} {C : Nat} {c : Ct} {v : Value} {L : List Mg} (h : Did w w' S C c v L) {b : Nat} {o : Obj} (hb : w.heap[b]? = some o) (hs : ¬ S b) : w'.heap[b]? = some o := by
  obtain ⟨_, _, _, k, _, _⟩ := h
  exact getL k hb hs
theorem fin_eq (c : Ct) (k v h : Int) (hk : k = 2 ∨ k = 3) (h1 : 1 ≤ c.ru.n) : ansC (begC c k v) h (begL c k v) = finC c k v h 1 ∧ ansL (begC c k v) h (begL c k v) = [] := by
  obtain ⟨a1, a2⟩ := ans_all (begC c k v) (fstP k) { rd0 c.ru (c.num + 1) k v with sd := 0 + 1 } c.ru.n h rfl h1 rfl rfl
  have e : entL (fstP k) { rd0 c.ru (c.num + 1) k v with sd := 0 + 1 } = begL c k v := rfl
  rw [e] at a1 a2
  rw [a1, a2]
  rcases hk with rfl | rfl
  · refine ⟨?_, rfl⟩
    simp only [fstP, comV, folC, endC, rep_all, finC, hxP]
    rfl
  · refine ⟨?_, rfl⟩
    simp only [fstP, comV, folC, endC, rep_all, finC, hxP]
    rfl
/-- Begin, and the length of what it answers -/
theorem begin_to {w : World} {S : Nat → Prop} {C : Nat} {c : Ct} (h : CtAt w S C c) (h1 : 1 ≤ c.ru.n) (h16 : c.ru.n ≤ 16) (k v : Int) (hm : mayB c k v = 0) (n0 : 0 ≤ c.num) (n1 : c.num ≤ 9007199254740992) (n : Nat) (hl : (begL c k v).length = n) :
    Calls Try.prog 17 #[.pointer (some ⟨C, 0, none⟩), .int .i64 k, .int .i64 v] w fun e w' => ∃ la lc, e = .returned (.tuple #[.slice la n lc, .int .i64 0]) ∧ Did w w' S C (begC c k v) (.slice la n lc) (begL c k v) := by
  refine Calls.mono (Begin_yes h h1 h16 k v hm n0 n1) ?_
  rintro e w' ⟨lv, rfl, di⟩
  obtain ⟨la, lc, e⟩ : ∃ la lc, lv = .slice la n lc := by
    obtain ⟨_, _, _, _, o, _⟩ := di
    obtain ⟨la, lc, e⟩ := own_sl o
    exact ⟨la, lc, by rw [e, hl]⟩
  subst e
  exact ⟨la, lc, rfl, di⟩
/-- the phase swap of a job that fetched -/
def swpC (c : Ct) (v : Int) : Ct := entP { c with num := c.num + 1 } .swap (rd0 c.ru (c.num + 1) 1 v)
def swpL (c : Ct) (v : Int) : List Mg := entL .swap (rd0 c.ru (c.num + 1) 1 v)
theorem swp_eq (c : Ct) (v h : Int) (h1 : 1 ≤ c.ru.n) : ansC (begC c 1 v) h (begL c 1 v) = swpC c v ∧ ansL (begC c 1 v) h (begL c 1 v) = swpL c v := by
  obtain ⟨a1, a2⟩ := ans_all (begC c 1 v) (fstP 1) { rd0 c.ru (c.num + 1) 1 v with sd := 0 + 1 } c.ru.n h rfl h1 rfl rfl
  have e : entL (fstP 1) { rd0 c.ru (c.num + 1) 1 v with sd := 0 + 1 } = begL c 1 v := rfl
  rw [e] at a1 a2
  rw [a1, a2]
  exact ⟨rfl, rfl⟩
theorem fin_swp (c : Ct) (v h : Int) (h1 : 1 ≤ c.ru.n) : ansC (swpC c v) h (swpL c v) = finC c 1 v h 1 ∧ ansL (swpC c v) h (swpL c v) = [] := by
  obtain ⟨a1, a2⟩ := ans_all (swpC c v) .swap { rd0 c.ru (c.num + 1) 1 v with sd := 0 + 1 } c.ru.n h rfl h1 rfl rfl
  have e : entL .swap { rd0 c.ru (c.num + 1) 1 v with sd := 0 + 1 } = swpL c v := rfl
  rw [e] at a1 a2
  rw [a1, a2]
  refine ⟨?_, rfl⟩
  simp only [comV, folC, endC, rep_all, finC, hxP]
  rfl
theorem fin_fine {c : Ct} (h : c.fine) (hm : c.num + 1 ≤ 9007199254740992) (k v hd o : Int) : (finC c k v hd o).fine := by
  refine ⟨h.n1, h.n16, h.rs1, h.rs2, h.lm1, h.lm2, h.pt1, h.pt2, by have := h.nu0; show 0 ≤ c.num + 1; omega, hm, fun p r e => by simp [finC] at e, ?_⟩
  have := h.n16
  simp [finC]
  omega
theorem answers_to {w : World} {S : Nat → Prop} {C : Nat} {c : Ct} (h : CtAt w S C c) (hf : c.fine) (v : Value) (L : List Mg) (hd : Int) (hv : w.ownsRow 0 44 11 v L.length (mgs L)) (hs : ∀ k, v.ownBlock = some k → ¬ S k) (hl : L.length ≤ 1000) (hk : ∀ m ∈ L, 0 ≤ m.kind ∧ m.kind ≤ 1000) (c' : Ct) (L' : List Mg) (n : Nat) (e1 : ansC c hd L = c') (e2 : ansL c hd L = L') (e3 : L'.length = n) :
    Calls Try.prog 15 #[.pointer (some ⟨C, 0, none⟩), v, .int .i64 hd] w fun e w' => ∃ la lc, e = .returned (.tuple #[.slice la n lc, .bool true]) ∧ Did w w' S C c' (.slice la n lc) L' := by
  refine Calls.mono (answers_any h hf v L hd hv hs hl hk) ?_
  rintro e w' ⟨lv, rfl, di⟩
  rw [e1, e2] at di
  obtain ⟨la, lc, e⟩ : ∃ la lc, lv = .slice la n lc := by
    obtain ⟨_, _, _, _, o, _⟩ := di
    obtain ⟨la, lc, e⟩ := own_sl o
    exact ⟨la, lc, by rw [e, e3]⟩
  subst e
  exact ⟨la, lc, rfl, di⟩
theorem report_to {w : World} {S : Nat → Prop} {C : Nat} {c : Ct} (h : CtAt w S C c) (hf : c.fine) (hj : c.last.job ≠ 0) (a b : Nat) (ha : c.last.hs.length = a) (hb : c.last.ms.length = b) :
    Calls Try.prog 13 #[.pointer (some ⟨C, 0, none⟩)] w fun e w' => ∃ na nc ka kc, e = .returned (.tuple #[.agg (rpA c.last (.slice na a nc) (.slice ka b kc)), .int .i64 0]) ∧ w'.ownsRow w.heap.size 3 1 (.slice na a nc) a (ints c.last.hs) ∧ Below w.heap.size w w' := by
  refine Calls.mono (Report_yes h hf.n1 hj (by have := hf.la; omega) (by have := hf.la; omega)) ?_
  rintro e w' ⟨nh, nm, rfl, o1, o2, hbl⟩
  obtain ⟨na, nc, rfl⟩ := own_sl o1
  obtain ⟨ka, kc, rfl⟩ := own_sl o2
  rw [ha] at o1
  rw [ha, hb]
  exact ⟨na, nc, ka, kc, rfl, o1, hbl⟩
set_option maxHeartbeats 8000000 in
set_option maxRecDepth 100000 in
set_option linter.unusedSimpArgs false in
set_option linter.unusedVariables false in
theorem goes_2 {w : World} {S : Nat → Prop} {C : Nat} {c : Ct} (h : CtAt w S C c) (hf : c.fine) (hp : c.ph = none) (hm : c.num + 1 ≤ 9007199254740992) (st : ByteArray) (x : Nat → Int) (ao : Option Addr) (n cap : Nat) (hn : c.ru.n = n) (v hd job : Int) (hv : isV v = true) (hj : job = c.num + 1) :
    Calls Try.prog 14 #[.pointer (some ⟨C, 0, none⟩), .agg (clA st x (.slice ao n cap)), .int .i64 2, .int .i64 v, .int .i64 hd, .int .i64 job] w fun e w' => e = .returned (.bool true) ∧ ∃ S', CtAt w' S' C (finC c 2 v hd 1) ∧ (∀ k, S' k → S k ∨ w.heap.size ≤ k) ∧ Kp w w' S := by
  have LT := hide h.lt
  obtain ⟨B, hB⟩ : ∃ B, B = w.heap.size := ⟨_, rfl⟩
  obtain ⟨W0, hW0⟩ : ∃ W0, W0 = w.alloc (.cells (clA st x (.slice ao n cap)) 26) := ⟨_, rfl⟩
  have b0 : Hid (Below w.heap.size w W0) := by rw [hW0]; exact (Below.refl _ w).alloc (Nat.le_refl _) _
  have C0 : Hid (W0.heap[B]? = some (.cells (clA st x (.slice ao n cap)) 26)) := by rw [hW0, hB]; exact heap_last _ _
  have s0 : Hid (W0.heap.size = B + 1) := by rw [hW0, hB]; exact World.size_alloc _ _
  have nB : Hid (¬ S B) := fun e => by have := LT.out B e; omega
  have h16 : n ≤ 16 := by rw [← hn]; exact hf.n16
  have h1n : 1 ≤ n := by rw [← hn]; exact hf.n1
  have may : mayB c 2 v = 0 := by
    unfold mayB
    rw [hp]
    simp only [Option.isSome_none, Bool.false_eq_true, if_false, fitV]
    have q : ¬ c.num = 9007199254740992 := by omega
    simp [hv, q]
  have BE := begin_to (h.below b0.out) hf.n1 hf.n16 2 v may hf.nu0 (by omega) n (by
    show (entL _ (rd0 c.ru (c.num + 1) 2 v)).length = n
    rw [entL0_len, hn])
  replace BE := hide BE
  have HB := hide hB
  have HF := hide (fine_beg hf hp hm 2 v)
  have HN := hide hn
  have HJ := hide hj
  have HF0 := hide hf
  have HM := hide hm
  have BS : Hid ((begC c 2 v).ph.isSome = true) := rfl
  have NU := hide (num_any 0)
  clear h hf hp hm hv may hj hn
  go_enter Try.func14, Try.ntmps14
  go_upto_region 1 with fail
  rw [← hW0, ← HB.out]
  clear hW0 hB
  go_wp2_with fail
  refine Calls.mono BE.out ?_
  rintro e W1 ⟨la1, lc1, rfl, di⟩
  have D1 := hide di
  have C1 : Hid (W1.heap[B]? = some (.cells (clA st x (.slice ao n cap)) 26)) := di.keep C0.out nB.out
  obtain ⟨S1, x1, s1, k1, o1, d1⟩ := di
  have nB1 : Hid (¬ S1 B) := fun e => by
    rcases s1 B e with q | q
    · exact nB.out q
    · rw [s0.out] at q; omega
  have BU := busy_any x1 HF.out.n1
  rw [BS.out] at BU
  replace BU := hide BU
  have X1 := hide x1
  have S1' := hide s1
  have K1 := hide k1
  have O1 := hide o1
  have DD := hide d1
  have y22 : W1.cell? ⟨B, 22, none⟩ = some (.slice ao n cap) := by rw [cell_row C1.out]; rfl
  clear x1 s1 k1 o1 d1 BE
  go_wp2_with fail
  refine Calls.mono (NU.out _) ?_
  rintro e w9 ⟨rfl, rfl⟩
  go_wp2_with fail
  refine Calls.mono BU.out ?_
  rintro e w9 ⟨rfl, rfl⟩
  clear y22 BU
  have DD1 := DD
  have LN1 : Hid ((begL c 2 v).length = n) := by
    show (entL _ (rd0 c.ru (c.num + 1) 2 v)).length = n
    rw [entL0_len, HN.out]
  have SS1 : Hid (∀ k, S1 k → S k ∨ w.heap.size ≤ k) := fun k e => by
    rcases S1'.out k e with q | q
    · exact Or.inl q
    · exact Or.inr (Nat.le_trans b0.out.size q)
  have KK1 : Hid (Kp w W1 S) := (Kp.of_below b0.out S).trans K1.out (fun k e => Or.inl e)
  have N1 : Hid (1 ≤ c.ru.n) := HF0.out.n1
  clear S1' K1 D1 DD
  have AN := hide (answers_to X1.out HF.out (.slice la1 n lc1) (begL c 2 v) hd (own_mono (by have := O1.out; exact this) (Nat.zero_le _)) DD1.out (by rw [LN1.out]; omega) (entL_kind _ _) (finC c 2 v hd 1) [] 0 (fin_eq c 2 v hd (by omega) N1.out).1 (fin_eq c 2 v hd (by omega) N1.out).2 rfl)
  go_wp2_with fail
  refine Calls.mono AN.out ?_
  rintro e W2 ⟨la2, lc2, rfl, di⟩
  have C2 : Hid (W2.heap[B]? = some (.cells (clA st x (.slice ao n cap)) 26)) := di.keep C1.out nB1.out
  obtain ⟨S2, x2, s2, k2, o2, d2⟩ := di
  have nB2 : Hid (¬ S2 B) := fun e => by
    rcases s2 B e with q | q
    · exact nB1.out q
    · have := blk_lt C1.out; omega
  have X2 := hide x2
  have SS2 : Hid (∀ k, S2 k → S k ∨ w.heap.size ≤ k) := fun k e => by
    rcases s2 k e with q | q
    · exact SS1.out k q
    · exact Or.inr (Nat.le_trans KK1.out.size q)
  have KK2 : Hid (Kp w W2 S) := KK1.out.trans k2 SS1.out
  have O2 := hide o2
  have DD2 := hide d2
  clear x2 s2 k2 o2 d2 AN
  have FF : Hid (finC c 2 v hd 1).fine := fin_fine HF0.out HM.out _ _ _ _
  have RE := report_to X2.out FF.out (by show c.num + 1 ≠ 0; have := HF0.out.nu0; omega) n 0 (by show (List.replicate c.ru.n _).length = n; rw [List.length_replicate, HN.out]) rfl
  have el : (finC c 2 v hd 1).last = ⟨job, 2, v, 1, List.replicate n v, []⟩ := by
    show (⟨c.num + 1, 2, v, 1, List.replicate c.ru.n (if (2 : Int) = 3 then hd else v), []⟩ : Rp) = _
    rw [← HJ.out, HN.out]
    rfl
  rw [el] at RE
  replace RE := hide RE
  have BU := busy_any X2.out FF.out.n1
  rw [show (finC c 2 v hd 1).ph.isSome = false from rfl] at BU
  clear el
  go_wp2_with fail
  refine Calls.mono RE.out ?_
  rintro e W7 ⟨na, nc, ka, kc, rfl, oh, hb7⟩
  obtain ⟨R, hR⟩ : ∃ R, R = W7.heap.size := ⟨_, rfl⟩
  obtain ⟨la, hla⟩ : ∃ la : Rp, la = ⟨job, 2, v, 1, List.replicate n v, []⟩ := ⟨_, rfl⟩
  rw [← hla]
  obtain ⟨W8, hW8⟩ : ∃ W8, W8 = (W7.alloc (.cells #[.int .i64 0, .int .i64 0, .int .i64 0, .int .i64 0, .slice none 0 0, .slice none 0 0] 39)).setRow W7.heap.size (rpA la (.slice na n nc) (.slice ka 0 kc)) := ⟨_, rfl⟩
  have b8 : Below W7.heap.size W7 W8 := by rw [hW8]; exact (((Kp.refl W7 non).alloc _).row (Or.inr (Nat.le_refl _)) _).below
  have m8 : W8.heap[R]? = some (.cells (rpA la (.slice na n nc) (.slice ka 0 kc)) 39) := by rw [hW8, hR]; exact setRow_heap _ _ _ _ _ _ (heap_last W7 _)
  have r0 : W8.cell? ⟨R, 0, none⟩ = some (.int .i64 job) := by rw [cell_row m8, hla]; rfl
  have r1 : W8.cell? ⟨R, 1, none⟩ = some (.int .i64 2) := by rw [cell_row m8, hla]; rfl
  have r2 : W8.cell? ⟨R, 2, none⟩ = some (.int .i64 v) := by rw [cell_row m8, hla]; rfl
  have r3 : W8.cell? ⟨R, 3, none⟩ = some (.int .i64 1) := by rw [cell_row m8, hla]; rfl
  have r4 : W8.cell? ⟨R, 4, none⟩ = some (.slice na n nc) := by rw [cell_row m8]; rfl
  have r5 : W8.cell? ⟨R, 5, none⟩ = some (.slice ka 0 kc) := by rw [cell_row m8]; rfl
  have X8 : CtAt W8 S2 C (finC c 2 v hd 1) := (X2.out.below hb7).below b8
  have BU := busy_any X8 FF.out.n1
  rw [show (finC c 2 v hd 1).ph.isSome = false from rfl] at BU
  replace BU := hide BU
  have FI : Hid (∃ S', CtAt W8 S' C (finC c 2 v hd 1) ∧ (∀ k, S' k → S k ∨ w.heap.size ≤ k) ∧ Kp w W8 S) := ⟨S2, X8, SS2.out, (KK2.out.trans (Kp.of_below hb7 non) (fun _ f => f.elim)).trans (Kp.of_below b8 non) (fun _ f => f.elim)⟩
  have y22 : W8.cell? ⟨B, 22, none⟩ = some (.slice ao n cap) := by
    have c8 : W8.heap[B]? = some (.cells (clA st x (.slice ao n cap)) 26) := getL (Kp.of_below b8 non) (getL (Kp.of_below hb7 non) C2.out (fun f => f)) (fun f => f)
    rw [cell_row c8]; rfl
  have OH : Hid (W8.ownsRow 0 3 1 (.slice na n nc) n (ints (List.replicate n v))) := by
    have := own_mono (own_below oh b8) (Nat.zero_le W2.heap.size)
    exact this
  have on : (rpA la (.slice na n nc) (.slice ka 0 kc)).all (·.oneCell') = true := by simp [rpA, Value.oneCell']
  have ON := hide on
  clear on
  replace hW8 := hide hW8
  have HR := hide hR
  clear X8 b8 hb7 oh hla m8 hR
  go_upto_region 13 with (refine wpList_stR rfl 39 (.tmp 16) (.tmp 78) rfl W7.heap.size rfl (rpA la (.slice na n nc) (.slice ka 0 kc)) #[.int .i64 0, .int .i64 0, .int .i64 0, .int .i64 0, .slice none 0 0, .slice none 0 0] rfl _ (heap_last W7 _) rp_info rfl ON.out ?_)
  rw [← hW8.out, ← HR.out]
  clear hW8
  go_wp2_with fail
  refine Calls.mono BU.out ?_
  rintro e w9 ⟨rfl, rfl⟩
  go_wp2_with fail
  refine Calls.mono (NU.out _) ?_
  rintro e w9 ⟨rfl, rfl⟩
  go_wp2_with fail
  go_loopw [18] (fun vi wr => ∃ (i : Nat), i ≤ n ∧ vi = .int .i64 (i : Int) ∧ W8 = wr) (fun vi _ => n - (intOf vi).toNat)
  case atStart => exact ⟨0, Nat.zero_le _, rfl, rfl⟩
  case round =>
    obtain ⟨i, hi, rfl, rfl⟩ := hrel
    by_cases hin : i < n
    case neg =>
      obtain rfl : i = n := by omega
      go_wp2_with fail
      go_ret
      exact ⟨rfl, FI.out⟩
    case pos =>
      have hii : (i : Int) < (n : Int) := by omega
      have hil : i < (List.replicate n v).length := by rw [List.length_replicate]; exact hin
      obtain ⟨g, cc, hvv, _, _, cg⟩ := own_read OH.out (List.length_replicate).symm i hil
      have e9 : (List.replicate n v)[i] = v := by simp
      rw [e9] at cg
      have e8 : na = some ⟨g, 0, none⟩ := by simp only [Value.slice.injEq] at hvv; exact hvv.1
      clear hvv e9 hil
      subst e8
      go_wp2_with fail
      go_roundw
      case rel => exact ⟨i + 1, by omega, by go_num, trivial⟩
      case measure => simp [intOf]; omega
set_option maxHeartbeats 8000000 in
set_option maxRecDepth 100000 in
set_option linter.unusedSimpArgs false in
set_option linter.unusedVariables false in
theorem goes_3 {w : World} {S : Nat → Prop} {C : Nat} {c : Ct} (h : CtAt w S C c) (hf : c.fine) (hp : c.ph = none) (hm : c.num + 1 ≤ 9007199254740992) (st : ByteArray) (x : Nat → Int) (ao : Option Addr) (n cap : Nat) (hn : c.ru.n = n) (v hd job : Int) (hv : isV v = true) (hj : job = c.num + 1) :
    Calls Try.prog 14 #[.pointer (some ⟨C, 0, none⟩), .agg (clA st x (.slice ao n cap)), .int .i64 3, .int .i64 v, .int .i64 hd, .int .i64 job] w fun e w' => e = .returned (.bool true) ∧ ∃ S', CtAt w' S' C (finC c 3 0 hd 1) ∧ (∀ k, S' k → S k ∨ w.heap.size ≤ k) ∧ Kp w w' S := by
  have LT := hide h.lt
  obtain ⟨B, hB⟩ : ∃ B, B = w.heap.size := ⟨_, rfl⟩
  obtain ⟨W0, hW0⟩ : ∃ W0, W0 = w.alloc (.cells (clA st x (.slice ao n cap)) 26) := ⟨_, rfl⟩
  have b0 : Hid (Below w.heap.size w W0) := by rw [hW0]; exact (Below.refl _ w).alloc (Nat.le_refl _) _
  have C0 : Hid (W0.heap[B]? = some (.cells (clA st x (.slice ao n cap)) 26)) := by rw [hW0, hB]; exact heap_last _ _
  have s0 : Hid (W0.heap.size = B + 1) := by rw [hW0, hB]; exact World.size_alloc _ _
  have nB : Hid (¬ S B) := fun e => by have := LT.out B e; omega
  have h16 : n ≤ 16 := by rw [← hn]; exact hf.n16
  have h1n : 1 ≤ n := by rw [← hn]; exact hf.n1
  have may : mayB c 3 0 = 0 := by
    unfold mayB
    rw [hp]
    simp only [Option.isSome_none, Bool.false_eq_true, if_false, fitV]
    have q : ¬ c.num = 9007199254740992 := by omega
    simp [q]
  have BE := begin_to (h.below b0.out) hf.n1 hf.n16 3 0 may hf.nu0 (by omega) n (by
    show (entL _ (rd0 c.ru (c.num + 1) 3 0)).length = n
    rw [entL0_len, hn])
  replace BE := hide BE
  have HB := hide hB
  have HF := hide (fine_beg hf hp hm 3 0)
  have HN := hide hn
  have HJ := hide hj
  have HF0 := hide hf
  have HM := hide hm
  have BS : Hid ((begC c 3 0).ph.isSome = true) := rfl
  have NU := hide (num_any 0)
  clear h hf hp hm hv may hj hn
  go_enter Try.func14, Try.ntmps14
  go_upto_region 1 with fail
  rw [← hW0, ← HB.out]
  clear hW0 hB
  go_wp2_with fail
  refine Calls.mono BE.out ?_
  rintro e W1 ⟨la1, lc1, rfl, di⟩
  have D1 := hide di
  have C1 : Hid (W1.heap[B]? = some (.cells (clA st x (.slice ao n cap)) 26)) := di.keep C0.out nB.out
  obtain ⟨S1, x1, s1, k1, o1, d1⟩ := di
  have nB1 : Hid (¬ S1 B) := fun e => by
    rcases s1 B e with q | q
    · exact nB.out q
    · rw [s0.out] at q; omega
  have BU := busy_any x1 HF.out.n1
  rw [BS.out] at BU
  replace BU := hide BU
  have X1 := hide x1
  have S1' := hide s1
  have K1 := hide k1
  have O1 := hide o1
  have DD := hide d1
  have y22 : W1.cell? ⟨B, 22, none⟩ = some (.slice ao n cap) := by rw [cell_row C1.out]; rfl
  clear x1 s1 k1 o1 d1 BE
  go_wp2_with fail
  refine Calls.mono (NU.out _) ?_
  rintro e w9 ⟨rfl, rfl⟩
  go_wp2_with fail
  refine Calls.mono BU.out ?_
  rintro e w9 ⟨rfl, rfl⟩
  clear y22 BU
  have DD1 := DD
  have LN1 : Hid ((begL c 3 0).length = n) := by
    show (entL _ (rd0 c.ru (c.num + 1) 3 0)).length = n
    rw [entL0_len, HN.out]
  have SS1 : Hid (∀ k, S1 k → S k ∨ w.heap.size ≤ k) := fun k e => by
    rcases S1'.out k e with q | q
    · exact Or.inl q
    · exact Or.inr (Nat.le_trans b0.out.size q)
  have KK1 : Hid (Kp w W1 S) := (Kp.of_below b0.out S).trans K1.out (fun k e => Or.inl e)
  have N1 : Hid (1 ≤ c.ru.n) := HF0.out.n1
  clear S1' K1 D1 DD
  have AN := hide (answers_to X1.out HF.out (.slice la1 n lc1) (begL c 3 0) hd (own_mono (by have := O1.out; exact this) (Nat.zero_le _)) DD1.out (by rw [LN1.out]; omega) (entL_kind _ _) (finC c 3 0 hd 1) [] 0 (fin_eq c 3 0 hd (by omega) N1.out).1 (fin_eq c 3 0 hd (by omega) N1.out).2 rfl)
  go_wp2_with fail
  refine Calls.mono AN.out ?_
  rintro e W2 ⟨la2, lc2, rfl, di⟩
  have C2 : Hid (W2.heap[B]? = some (.cells (clA st x (.slice ao n cap)) 26)) := di.keep C1.out nB1.out
  obtain ⟨S2, x2, s2, k2, o2, d2⟩ := di
  have nB2 : Hid (¬ S2 B) := fun e => by
    rcases s2 B e with q | q
    · exact nB1.out q
    · have := blk_lt C1.out; omega
  have X2 := hide x2
  have SS2 : Hid (∀ k, S2 k → S k ∨ w.heap.size ≤ k) := fun k e => by
    rcases s2 k e with q | q
    · exact SS1.out k q
    · exact Or.inr (Nat.le_trans KK1.out.size q)
  have KK2 : Hid (Kp w W2 S) := KK1.out.trans k2 SS1.out
  have O2 := hide o2
  have DD2 := hide d2
  clear x2 s2 k2 o2 d2 AN
  have FF : Hid (finC c 3 0 hd 1).fine := fin_fine HF0.out HM.out _ _ _ _
  have RE := report_to X2.out FF.out (by show c.num + 1 ≠ 0; have := HF0.out.nu0; omega) n 0 (by show (List.replicate c.ru.n _).length = n; rw [List.length_replicate, HN.out]) rfl
  have el : (finC c 3 0 hd 1).last = ⟨job, 3, 0, 1, List.replicate n hd, []⟩ := by
    show (⟨c.num + 1, 3, 0, 1, List.replicate c.ru.n (if (3 : Int) = 3 then hd else 0), []⟩ : Rp) = _
    rw [← HJ.out, HN.out]
    rfl
  rw [el] at RE
  replace RE := hide RE
  have BU := busy_any X2.out FF.out.n1
  rw [show (finC c 3 0 hd 1).ph.isSome = false from rfl] at BU
  clear el
  go_wp2_with fail
  refine Calls.mono RE.out ?_
  rintro e W7 ⟨na, nc, ka, kc, rfl, oh, hb7⟩
  obtain ⟨R, hR⟩ : ∃ R, R = W7.heap.size := ⟨_, rfl⟩
  obtain ⟨la, hla⟩ : ∃ la : Rp, la = ⟨job, 3, 0, 1, List.replicate n hd, []⟩ := ⟨_, rfl⟩
  rw [← hla]
  obtain ⟨W8, hW8⟩ : ∃ W8, W8 = (W7.alloc (.cells #[.int .i64 0, .int .i64 0, .int .i64 0, .int .i64 0, .slice none 0 0, .slice none 0 0] 39)).setRow W7.heap.size (rpA la (.slice na n nc) (.slice ka 0 kc)) := ⟨_, rfl⟩
  have b8 : Below W7.heap.size W7 W8 := by rw [hW8]; exact (((Kp.refl W7 non).alloc _).row (Or.inr (Nat.le_refl _)) _).below
  have m8 : W8.heap[R]? = some (.cells (rpA la (.slice na n nc) (.slice ka 0 kc)) 39) := by rw [hW8, hR]; exact setRow_heap _ _ _ _ _ _ (heap_last W7 _)
  have r0 : W8.cell? ⟨R, 0, none⟩ = some (.int .i64 job) := by rw [cell_row m8, hla]; rfl
  have r1 : W8.cell? ⟨R, 1, none⟩ = some (.int .i64 3) := by rw [cell_row m8, hla]; rfl
  have r2 : W8.cell? ⟨R, 2, none⟩ = some (.int .i64 0) := by rw [cell_row m8, hla]; rfl
  have r3 : W8.cell? ⟨R, 3, none⟩ = some (.int .i64 1) := by rw [cell_row m8, hla]; rfl
  have r4 : W8.cell? ⟨R, 4, none⟩ = some (.slice na n nc) := by rw [cell_row m8]; rfl
  have r5 : W8.cell? ⟨R, 5, none⟩ = some (.slice ka 0 kc) := by rw [cell_row m8]; rfl
  have X8 : CtAt W8 S2 C (finC c 3 0 hd 1) := (X2.out.below hb7).below b8
  have BU := busy_any X8 FF.out.n1
  rw [show (finC c 3 0 hd 1).ph.isSome = false from rfl] at BU
  replace BU := hide BU
  have FI : Hid (∃ S', CtAt W8 S' C (finC c 3 0 hd 1) ∧ (∀ k, S' k → S k ∨ w.heap.size ≤ k) ∧ Kp w W8 S) := ⟨S2, X8, SS2.out, (KK2.out.trans (Kp.of_below hb7 non) (fun _ f => f.elim)).trans (Kp.of_below b8 non) (fun _ f => f.elim)⟩
  have y22 : W8.cell? ⟨B, 22, none⟩ = some (.slice ao n cap) := by
    have c8 : W8.heap[B]? = some (.cells (clA st x (.slice ao n cap)) 26) := getL (Kp.of_below b8 non) (getL (Kp.of_below hb7 non) C2.out (fun f => f)) (fun f => f)
    rw [cell_row c8]; rfl
  have OH : Hid (W8.ownsRow 0 3 1 (.slice na n nc) n (ints (List.replicate n hd))) := by
    have := own_mono (own_below oh b8) (Nat.zero_le W2.heap.size)
    exact this
  have on : (rpA la (.slice na n nc) (.slice ka 0 kc)).all (·.oneCell') = true := by simp [rpA, Value.oneCell']
  have ON := hide on
  clear on
  replace hW8 := hide hW8
  have HR := hide hR
  clear X8 b8 hb7 oh hla m8 hR
  go_upto_region 13 with (refine wpList_stR rfl 39 (.tmp 16) (.tmp 78) rfl W7.heap.size rfl (rpA la (.slice na n nc) (.slice ka 0 kc)) #[.int .i64 0, .int .i64 0, .int .i64 0, .int .i64 0, .slice none 0 0, .slice none 0 0] rfl _ (heap_last W7 _) rp_info rfl ON.out ?_)
  rw [← hW8.out, ← HR.out]
  clear hW8
  go_wp2_with fail
  refine Calls.mono BU.out ?_
  rintro e w9 ⟨rfl, rfl⟩
  go_wp2_with fail
  refine Calls.mono (NU.out _) ?_
  rintro e w9 ⟨rfl, rfl⟩
  go_wp2_with fail
  go_loopw [18] (fun vi wr => ∃ (i : Nat), i ≤ n ∧ vi = .int .i64 (i : Int) ∧ W8 = wr) (fun vi _ => n - (intOf vi).toNat)
  case atStart => exact ⟨0, Nat.zero_le _, rfl, rfl⟩
  case round =>
    obtain ⟨i, hi, rfl, rfl⟩ := hrel
    by_cases hin : i < n
    case neg =>
      obtain rfl : i = n := by omega
      go_wp2_with fail
      go_ret
      exact ⟨rfl, FI.out⟩
    case pos =>
      have hii : (i : Int) < (n : Int) := by omega
      have hil : i < (List.replicate n hd).length := by rw [List.length_replicate]; exact hin
      obtain ⟨g, cc, hvv, _, _, cg⟩ := own_read OH.out (List.length_replicate).symm i hil
      have e9 : (List.replicate n hd)[i] = hd := by simp
      rw [e9] at cg
      have e8 : na = some ⟨g, 0, none⟩ := by simp only [Value.slice.injEq] at hvv; exact hvv.1
      clear hvv e9 hil
      subst e8
      go_wp2_with fail
      go_roundw
      case rel => exact ⟨i + 1, by omega, by go_num, trivial⟩
      case measure => simp [intOf]; omega
set_option maxHeartbeats 8000000 in
set_option maxRecDepth 100000 in
set_option linter.unusedSimpArgs false in
set_option linter.unusedVariables false in
theorem goes_1 {w : World} {S : Nat → Prop} {C : Nat} {c : Ct} (h : CtAt w S C c) (hf : c.fine) (hp : c.ph = none) (hm : c.num + 1 ≤ 9007199254740992) (st : ByteArray) (x : Nat → Int) (ao : Option Addr) (n cap : Nat) (hn : c.ru.n = n) (v hd job : Int) (hv : isV v = true) (hj : job = c.num + 1) :
    Calls Try.prog 14 #[.pointer (some ⟨C, 0, none⟩), .agg (clA st x (.slice ao n cap)), .int .i64 1, .int .i64 v, .int .i64 hd, .int .i64 job] w fun e w' => e = .returned (.bool true) ∧ ∃ S', CtAt w' S' C (finC c 1 v hd 1) ∧ (∀ k, S' k → S k ∨ w.heap.size ≤ k) ∧ Kp w w' S := by
  have LT := hide h.lt
  obtain ⟨B, hB⟩ : ∃ B, B = w.heap.size := ⟨_, rfl⟩
  obtain ⟨W0, hW0⟩ : ∃ W0, W0 = w.alloc (.cells (clA st x (.slice ao n cap)) 26) := ⟨_, rfl⟩
  have b0 : Hid (Below w.heap.size w W0) := by rw [hW0]; exact (Below.refl _ w).alloc (Nat.le_refl _) _
  have C0 : Hid (W0.heap[B]? = some (.cells (clA st x (.slice ao n cap)) 26)) := by rw [hW0, hB]; exact heap_last _ _
  have s0 : Hid (W0.heap.size = B + 1) := by rw [hW0, hB]; exact World.size_alloc _ _
  have nB : Hid (¬ S B) := fun e => by have := LT.out B e; omega
  have h16 : n ≤ 16 := by rw [← hn]; exact hf.n16
  have h1n : 1 ≤ n := by rw [← hn]; exact hf.n1
  have may : mayB c 1 v = 0 := by
    unfold mayB
    rw [hp]
    simp only [Option.isSome_none, Bool.false_eq_true, if_false, fitV]
    have q : ¬ c.num = 9007199254740992 := by omega
    simp [hv, q]
  have BE := begin_to (h.below b0.out) hf.n1 hf.n16 1 v may hf.nu0 (by omega) n (by
    show (entL _ (rd0 c.ru (c.num + 1) 1 v)).length = n
    rw [entL0_len, hn])
  replace BE := hide BE
  have HB := hide hB
  have HF := hide (fine_beg hf hp hm 1 v)
  have HN := hide hn
  have HJ := hide hj
  have HF0 := hide hf
  have HM := hide hm
  have BS : Hid ((begC c 1 v).ph.isSome = true) := rfl
  have NU := hide (num_any 0)
  clear h hf hp hm hv may hj hn
  go_enter Try.func14, Try.ntmps14
  go_upto_region 1 with fail
  rw [← hW0, ← HB.out]
  clear hW0 hB
  go_wp2_with fail
  refine Calls.mono BE.out ?_
  rintro e W1 ⟨la1, lc1, rfl, di⟩
  have D1 := hide di
  have C1 : Hid (W1.heap[B]? = some (.cells (clA st x (.slice ao n cap)) 26)) := di.keep C0.out nB.out
  obtain ⟨S1, x1, s1, k1, o1, d1⟩ := di
  have nB1 : Hid (¬ S1 B) := fun e => by
    rcases s1 B e with q | q
    · exact nB.out q
    · rw [s0.out] at q; omega
  have BU := busy_any x1 HF.out.n1
  rw [BS.out] at BU
  replace BU := hide BU
  have X1 := hide x1
  have S1' := hide s1
  have K1 := hide k1
  have O1 := hide o1
  have DD := hide d1
  have y22 : W1.cell? ⟨B, 22, none⟩ = some (.slice ao n cap) := by rw [cell_row C1.out]; rfl
  clear x1 s1 k1 o1 d1 BE
  go_wp2_with fail
  refine Calls.mono (NU.out _) ?_
  rintro e w9 ⟨rfl, rfl⟩
  go_wp2_with fail
  refine Calls.mono BU.out ?_
  rintro e w9 ⟨rfl, rfl⟩
  clear y22 BU
  have DD1 := DD
  have LN1 : Hid ((begL c 1 v).length = n) := by
    show (entL _ (rd0 c.ru (c.num + 1) 1 v)).length = n
    rw [entL0_len, HN.out]
  have SS1 : Hid (∀ k, S1 k → S k ∨ w.heap.size ≤ k) := fun k e => by
    rcases S1'.out k e with q | q
    · exact Or.inl q
    · exact Or.inr (Nat.le_trans b0.out.size q)
  have KK1 : Hid (Kp w W1 S) := (Kp.of_below b0.out S).trans K1.out (fun k e => Or.inl e)
  have N1 : Hid (1 ≤ c.ru.n) := HF0.out.n1
  clear S1' K1 D1 DD
  have AN := hide (answers_to X1.out HF.out (.slice la1 n lc1) (begL c 1 v) hd (own_mono (by have := O1.out; exact this) (Nat.zero_le _)) DD1.out (by rw [LN1.out]; omega) (entL_kind _ _) (swpC c v) (swpL c v) n (swp_eq c v hd N1.out).1 (swp_eq c v hd N1.out).2 (by show (entL _ (rd0 c.ru (c.num + 1) 1 v)).length = n; rw [entL0_len, HN.out]))
  go_wp2_with fail
  refine Calls.mono AN.out ?_
  rintro e W2 ⟨la2, lc2, rfl, di⟩
  have C2 : Hid (W2.heap[B]? = some (.cells (clA st x (.slice ao n cap)) 26)) := di.keep C1.out nB1.out
  obtain ⟨S2, x2, s2, k2, o2, d2⟩ := di
  have nB2 : Hid (¬ S2 B) := fun e => by
    rcases s2 B e with q | q
    · exact nB1.out q
    · have := blk_lt C1.out; omega
  have X2 := hide x2
  have SS2 : Hid (∀ k, S2 k → S k ∨ w.heap.size ≤ k) := fun k e => by
    rcases s2 k e with q | q
    · exact SS1.out k q
    · exact Or.inr (Nat.le_trans KK1.out.size q)
  have KK2 : Hid (Kp w W2 S) := KK1.out.trans k2 SS1.out
  have O2 := hide o2
  have DD2 := hide d2
  clear x2 s2 k2 o2 d2 AN
  have FS : Hid (swpC c v).fine := by have := ansC_fine HF.out hd (begL c 1 v); rwa [(swp_eq c v hd N1.out).1] at this
  have BU := busy_any X2.out FS.out.n1
  rw [show (swpC c v).ph.isSome = true from rfl] at BU
  replace BU := hide BU
  have y22 : W2.cell? ⟨B, 22, none⟩ = some (.slice ao n cap) := by rw [cell_row C2.out]; rfl
  have LN2 : Hid ((swpL c v).length = n) := by show (entL _ (rd0 c.ru (c.num + 1) 1 v)).length = n; rw [entL0_len, HN.out]
  go_wp2_with fail
  refine Calls.mono BU.out ?_
  rintro e w9 ⟨rfl, rfl⟩
  clear y22 BU
  have AN := hide (answers_to X2.out FS.out (.slice la2 n lc2) (swpL c v) hd (own_mono (by have := O2.out; exact this) (Nat.zero_le _)) DD2.out (by rw [LN2.out]; omega) (entL_kind _ _) (finC c 1 v hd 1) [] 0 (fin_swp c v hd N1.out).1 (fin_swp c v hd N1.out).2 rfl)
  go_wp2_with fail
  refine Calls.mono AN.out ?_
  rintro e W3 ⟨la3, lc3, rfl, di⟩
  have C3 : Hid (W3.heap[B]? = some (.cells (clA st x (.slice ao n cap)) 26)) := di.keep C2.out nB2.out
  obtain ⟨S3, x3, s3, k3, o3, d3⟩ := di
  have nB3 : Hid (¬ S3 B) := fun e => by
    rcases s3 B e with q | q
    · exact nB2.out q
    · have := blk_lt C2.out; omega
  have X3 := hide x3
  have SS3 : Hid (∀ k, S3 k → S k ∨ w.heap.size ≤ k) := fun k e => by
    rcases s3 k e with q | q
    · exact SS2.out k q
    · exact Or.inr (Nat.le_trans KK2.out.size q)
  have KK3 : Hid (Kp w W3 S) := KK2.out.trans k3 SS2.out
  have O3 := hide o3
  have DD3 := hide d3
  clear x3 s3 k3 o3 d3 AN
  have FF : Hid (finC c 1 v hd 1).fine := fin_fine HF0.out HM.out _ _ _ _
  have RE := report_to X3.out FF.out (by show c.num + 1 ≠ 0; have := HF0.out.nu0; omega) n 0 (by show (List.replicate c.ru.n _).length = n; rw [List.length_replicate, HN.out]) rfl
  have el : (finC c 1 v hd 1).last = ⟨job, 1, v, 1, List.replicate n v, []⟩ := by
    show (⟨c.num + 1, 1, v, 1, List.replicate c.ru.n (if (1 : Int) = 3 then hd else v), []⟩ : Rp) = _
    rw [← HJ.out, HN.out]
    rfl
  rw [el] at RE
  replace RE := hide RE
  have BU := busy_any X3.out FF.out.n1
  rw [show (finC c 1 v hd 1).ph.isSome = false from rfl] at BU
  clear el
  go_wp2_with fail
  refine Calls.mono RE.out ?_
  rintro e W7 ⟨na, nc, ka, kc, rfl, oh, hb7⟩
  obtain ⟨R, hR⟩ : ∃ R, R = W7.heap.size := ⟨_, rfl⟩
  obtain ⟨la, hla⟩ : ∃ la : Rp, la = ⟨job, 1, v, 1, List.replicate n v, []⟩ := ⟨_, rfl⟩
  rw [← hla]
  obtain ⟨W8, hW8⟩ : ∃ W8, W8 = (W7.alloc (.cells #[.int .i64 0, .int .i64 0, .int .i64 0, .int .i64 0, .slice none 0 0, .slice none 0 0] 39)).setRow W7.heap.size (rpA la (.slice na n nc) (.slice ka 0 kc)) := ⟨_, rfl⟩
  have b8 : Below W7.heap.size W7 W8 := by rw [hW8]; exact (((Kp.refl W7 non).alloc _).row (Or.inr (Nat.le_refl _)) _).below
  have m8 : W8.heap[R]? = some (.cells (rpA la (.slice na n nc) (.slice ka 0 kc)) 39) := by rw [hW8, hR]; exact setRow_heap _ _ _ _ _ _ (heap_last W7 _)
  have r0 : W8.cell? ⟨R, 0, none⟩ = some (.int .i64 job) := by rw [cell_row m8, hla]; rfl
  have r1 : W8.cell? ⟨R, 1, none⟩ = some (.int .i64 1) := by rw [cell_row m8, hla]; rfl
  have r2 : W8.cell? ⟨R, 2, none⟩ = some (.int .i64 v) := by rw [cell_row m8, hla]; rfl
  have r3 : W8.cell? ⟨R, 3, none⟩ = some (.int .i64 1) := by rw [cell_row m8, hla]; rfl
  have r4 : W8.cell? ⟨R, 4, none⟩ = some (.slice na n nc) := by rw [cell_row m8]; rfl
  have r5 : W8.cell? ⟨R, 5, none⟩ = some (.slice ka 0 kc) := by rw [cell_row m8]; rfl
  have X8 : CtAt W8 S3 C (finC c 1 v hd 1) := (X3.out.below hb7).below b8
  have BU := busy_any X8 FF.out.n1
  rw [show (finC c 1 v hd 1).ph.isSome = false from rfl] at BU
  replace BU := hide BU
  have FI : Hid (∃ S', CtAt W8 S' C (finC c 1 v hd 1) ∧ (∀ k, S' k → S k ∨ w.heap.size ≤ k) ∧ Kp w W8 S) := ⟨S3, X8, SS3.out, (KK3.out.trans (Kp.of_below hb7 non) (fun _ f => f.elim)).trans (Kp.of_below b8 non) (fun _ f => f.elim)⟩
  have y22 : W8.cell? ⟨B, 22, none⟩ = some (.slice ao n cap) := by
    have c8 : W8.heap[B]? = some (.cells (clA st x (.slice ao n cap)) 26) := getL (Kp.of_below b8 non) (getL (Kp.of_below hb7 non) C3.out (fun f => f)) (fun f => f)
    rw [cell_row c8]; rfl
  have OH : Hid (W8.ownsRow 0 3 1 (.slice na n nc) n (ints (List.replicate n v))) := by
    have := own_mono (own_below oh b8) (Nat.zero_le W3.heap.size)
    exact this
  have on : (rpA la (.slice na n nc) (.slice ka 0 kc)).all (·.oneCell') = true := by simp [rpA, Value.oneCell']
  have ON := hide on
  clear on
  replace hW8 := hide hW8
  have HR := hide hR
  clear X8 b8 hb7 oh hla m8 hR
  go_upto_region 13 with (refine wpList_stR rfl 39 (.tmp 16) (.tmp 78) rfl W7.heap.size rfl (rpA la (.slice na n nc) (.slice ka 0 kc)) #[.int .i64 0, .int .i64 0, .int .i64 0, .int .i64 0, .slice none 0 0, .slice none 0 0] rfl _ (heap_last W7 _) rp_info rfl ON.out ?_)
  rw [← hW8.out, ← HR.out]
  clear hW8
  go_wp2_with fail
  refine Calls.mono BU.out ?_
  rintro e w9 ⟨rfl, rfl⟩
  go_wp2_with fail
  refine Calls.mono (NU.out _) ?_
  rintro e w9 ⟨rfl, rfl⟩
  go_wp2_with fail
  go_loopw [18] (fun vi wr => ∃ (i : Nat), i ≤ n ∧ vi = .int .i64 (i : Int) ∧ W8 = wr) (fun vi _ => n - (intOf vi).toNat)
  case atStart => exact ⟨0, Nat.zero_le _, rfl, rfl⟩
  case round =>
    obtain ⟨i, hi, rfl, rfl⟩ := hrel
    by_cases hin : i < n
    case neg =>
      obtain rfl : i = n := by omega
      go_wp2_with fail
      go_ret
      exact ⟨rfl, FI.out⟩
    case pos =>
      have hii : (i : Int) < (n : Int) := by omega
      have hil : i < (List.replicate n v).length := by rw [List.length_replicate]; exact hin
      obtain ⟨g, cc, hvv, _, _, cg⟩ := own_read OH.out (List.length_replicate).symm i hil
      have e9 : (List.replicate n v)[i] = v := by simp
      rw [e9] at cg
      have e8 : na = some ⟨g, 0, none⟩ := by simp only [Value.slice.injEq] at hvv; exact hvv.1
      clear hvv e9 hil
      subst e8
      go_wp2_with fail
      go_roundw
      case rel => exact ⟨i + 1, by omega, by go_num, trivial⟩
      case measure => simp [intOf]; omega
end Go.Proofs.Ytpmicmhkahgjcaa.Cn
