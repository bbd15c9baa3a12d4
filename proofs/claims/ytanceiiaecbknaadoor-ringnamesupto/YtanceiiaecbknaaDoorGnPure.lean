import Derived.Lib.AtoiAll
import Derived.Lib.ItoaNum
import Derived.Lib.IndexMore
namespace Go.Proofs.YtanceiiaecbknaaDoor
/-- a file: partition, replica, chunk, is it the data -/
abbrev FV := Nat × Nat × Nat × Bool
def dataW : List UInt8 := [100, 97, 116, 97]
def indexW : List UInt8 := [105, 110, 100, 101, 120]
def endW (d : Bool) : List UInt8 := if d then dataW else indexW
def dd (n : Nat) : List UInt8 := Lib.decDigits n
def dd2 (n : Nat) : List UInt8 := if n < 10 then [UInt8.ofNat (48 + n)] else [UInt8.ofNat (48 + n / 10), UInt8.ofNat (48 + n % 10)]
theorem dd_two {n : Nat} (h : n < 100) : dd n = dd2 n := by
  unfold dd dd2
  rw [Lib.decDigits]
  by_cases h1 : n < 10
  · rw [dif_pos h1, if_pos h1]
  · rw [dif_neg h1, if_neg h1, Lib.decDigits, dif_pos (by omega)]
    rfl
def fnL (f : FV) : List UInt8 := dd f.1 ++ 95 :: (dd f.2.1 ++ 95 :: (dd f.2.2.1 ++ 46 :: endW f.2.2.2))
def Val (f : FV) : Prop := f.1 < 64 ∧ f.2.1 < 16 ∧ f.2.2.1 < 16
/-- what Atoi answers -/
def av (l : List UInt8) : Int := match Lib.atoiAll l with
  | .ok v => v
  | .syntax => 0
  | .range => Lib.atoiSat l
/-- what the document's number answers -/
def digB (b : UInt8) : Bool := decide (48 ≤ b.toNat) && decide (b.toNat ≤ 57)
def numF (l : List UInt8) : Nat := l.foldl (fun n b => n * 10 + (b.toNat - 48)) 0
def numV (l : List UInt8) : Int := if l = [] ∨ 10 < l.length ∨ (l.head? = some 48 ∧ l ≠ [48]) then -1 else if l.all digB then (numF l : Int) else -1
theorem dd_facts : ∀ n : Fin 64, av (dd2 n.1) = (n.1 : Int) ∧ numV (dd2 n.1) = (n.1 : Int) ∧ (95 : UInt8) ∉ dd2 n.1 ∧ (46 : UInt8) ∉ dd2 n.1 ∧ (dd2 n.1).length ≤ 2 ∧ dd2 n.1 ≠ [] := by decide +kernel
theorem av_dd {n : Nat} (h : n < 64) : av (dd n) = (n : Int) := by rw [dd_two (by omega)]; exact (dd_facts ⟨n, h⟩).1
theorem numV_dd {n : Nat} (h : n < 64) : numV (dd n) = (n : Int) := by rw [dd_two (by omega)]; exact (dd_facts ⟨n, h⟩).2.1
theorem dd_no95 {n : Nat} (h : n < 64) : (95 : UInt8) ∉ dd n := by rw [dd_two (by omega)]; exact (dd_facts ⟨n, h⟩).2.2.1
theorem dd_no46 {n : Nat} (h : n < 64) : (46 : UInt8) ∉ dd n := by rw [dd_two (by omega)]; exact (dd_facts ⟨n, h⟩).2.2.2.1
theorem dd_len {n : Nat} (h : n < 64) : (dd n).length ≤ 2 := by rw [dd_two (by omega)]; exact (dd_facts ⟨n, h⟩).2.2.2.2.1
theorem dd_ne {n : Nat} (h : n < 64) : dd n ≠ [] := by rw [dd_two (by omega)]; exact (dd_facts ⟨n, h⟩).2.2.2.2.2
theorem dd_len16 {n : Nat} (h : n < 16) : (dd n).length ≤ 2 := dd_len (by omega)
theorem endW_ne (d : Bool) : endW d ≠ [] := by cases d <;> decide
theorem endW_data (d : Bool) : decide (endW d = dataW) = d := by cases d <;> decide
theorem endW_no46 (d : Bool) : (46 : UInt8) ∉ endW d := by cases d <;> decide
theorem endW_no95 (d : Bool) : (95 : UInt8) ∉ endW d := by cases d <;> decide
theorem endW_len (d : Bool) : (endW d).length ≤ 5 := by cases d <;> decide
theorem fnL_len {f : FV} (h : Val f) : (fnL f).length ≤ 14 := by
  have h1 := dd_len h.1
  have h2 := dd_len16 h.2.1
  have h3 := dd_len16 h.2.2
  have h4 := endW_len f.2.2.2
  unfold fnL
  simp only [List.length_append, List.length_cons]
  omega
theorem fnL_ne (f : FV) : fnL f ≠ [] := by unfold fnL; simp
theorem index_one (c : UInt8) : ∀ (a r : List UInt8), c ∉ a → Lib.index (a ++ c :: r) [c] = (a.length : Int) := by
  intro a
  induction a with
  | nil => intro r _; simp [Lib.index]
  | cons b l ih =>
    intro r h
    have hb : ¬ c = b := fun e => h (by simp [e])
    have hl : c ∉ l := fun e => h (by simp [e])
    have := ih r hl
    rw [List.cons_append, Lib.index, this]
    have hne : ([c].isPrefixOf (b :: (l ++ c :: r))) = false := by simp [List.isPrefixOf, hb]
    rw [hne]
    simp only [Bool.false_eq_true, if_false, beq_iff_eq]
    rw [if_neg (by omega)]
    simp
theorem cut_at (c : UInt8) (a r : List UInt8) (h : c ∉ a) : Lib.cut (a ++ c :: r) [c] = (a, r, true) := by
  unfold Lib.cut
  rw [index_one c a r h, if_pos (by omega)]
  simp
theorem first_of (c : UInt8) (s : List UInt8) (hc : c ∈ s) : ∃ a r, s = a ++ c :: r ∧ c ∉ a := by
  induction s with
  | nil => cases hc
  | cons b l ih =>
    by_cases hb : b = c
    · exact ⟨[], l, by simp [hb], by simp⟩
    · have hl : c ∈ l := by
        rcases List.mem_cons.1 hc with h | h
        · exact absurd h.symm hb
        · exact h
      obtain ⟨a, r, e, hn⟩ := ih hl
      refine ⟨b :: a, r, by simp [e], fun h => ?_⟩
      rcases List.mem_cons.1 h with h | h
      · exact hb h.symm
      · exact hn h
theorem cut_way (c : UInt8) (s : List UInt8) : Lib.cut s [c] = (s, [], false) ∨ ∃ a r, s = a ++ c :: r ∧ Lib.cut s [c] = (a, r, true) := by
  by_cases hc : c ∈ s
  · right
    obtain ⟨a, r, e, hn⟩ := first_of c s hc
    exact ⟨a, r, e, by rw [e]; exact cut_at c a r hn⟩
  · left
    unfold Lib.cut
    have : Lib.index s [c] = -1 := by
      induction s with
      | nil => simp [Lib.index]
      | cons b l ih =>
        have hb : ¬ c = b := fun e => hc (by simp [e])
        have hl : c ∉ l := fun e => hc (by simp [e])
        rw [Lib.index, ih hl]
        have hne : ([c].isPrefixOf (b :: l)) = false := by simp [List.isPrefixOf, hb]
        rw [hne]
        simp
    rw [this]
    simp
/-- the words of a name -/
def wds (s : List UInt8) : List UInt8 × List UInt8 × List UInt8 × List UInt8 :=
  ((Lib.cut s [95]).1, (Lib.cut (Lib.cut s [95]).2.1 [95]).1, (Lib.cut (Lib.cut (Lib.cut s [95]).2.1 [95]).2.1 [46]).1, (Lib.cut (Lib.cut (Lib.cut s [95]).2.1 [95]).2.1 [46]).2.1)
def isVal (p r c : Int) : Bool := decide (0 ≤ p ∧ p < 64 ∧ 0 ≤ r ∧ r < 16 ∧ 0 ≤ c ∧ c < 16)
/-- what the program's ReadName reads -/
def readP (s : List UInt8) : Option FV :=
  if isVal (av (wds s).1) (av (wds s).2.1) (av (wds s).2.2.1) = true ∧ dd (av (wds s).1).toNat = (wds s).1 ∧ dd (av (wds s).2.1).toNat = (wds s).2.1 ∧ dd (av (wds s).2.2.1).toNat = (wds s).2.2.1 ∧ endW (decide ((wds s).2.2.2 = dataW)) = (wds s).2.2.2
  then some ((av (wds s).1).toNat, (av (wds s).2.1).toNat, (av (wds s).2.2.1).toNat, decide ((wds s).2.2.2 = dataW)) else none
theorem wds_fnL {f : FV} (h : Val f) : wds (fnL f) = (dd f.1, dd f.2.1, dd f.2.2.1, endW f.2.2.2) := by
  obtain ⟨h1, h2, h3⟩ := h
  have e1 : Lib.cut (fnL f) [95] = (dd f.1, dd f.2.1 ++ 95 :: (dd f.2.2.1 ++ 46 :: endW f.2.2.2), true) := cut_at _ _ _ (dd_no95 h1)
  unfold wds
  rw [e1]
  simp only
  rw [cut_at _ _ _ (dd_no95 (by omega))]
  simp only
  rw [cut_at _ _ _ (dd_no46 (by omega))]
theorem wds_back (s : List UInt8) (h2 : (wds s).2.1 ≠ []) (h3 : (wds s).2.2.1 ≠ []) (h4 : (wds s).2.2.2 ≠ []) : s = (wds s).1 ++ 95 :: ((wds s).2.1 ++ 95 :: ((wds s).2.2.1 ++ 46 :: (wds s).2.2.2)) := by
  unfold wds at *
  rcases cut_way 95 s with e | ⟨a, r, e, e'⟩
  · rw [e] at h2; exact absurd (by simp [Lib.cut, Lib.index]) h2
  rw [e'] at h2 h3 h4 ⊢
  simp only at h2 h3 h4 ⊢
  rcases cut_way 95 r with g | ⟨a2, r2, g, g'⟩
  · rw [g] at h3; exact absurd (by simp [Lib.cut, Lib.index]) h3
  rw [g'] at h2 h3 h4 ⊢
  simp only at h2 h3 h4 ⊢
  rcases cut_way 46 r2 with k | ⟨a3, r3, k, k'⟩
  · rw [k] at h4; exact absurd rfl h4
  rw [k']
  simp only
  rw [e, g, k]
theorem readP_spec (s : List UInt8) (f : FV) : readP s = some f ↔ Val f ∧ fnL f = s := by
  constructor
  · intro h
    unfold readP at h
    split at h
    · rename_i hc
      obtain ⟨h1, h2, h3, h4, h5⟩ := hc
      unfold isVal at h1
      have h1 := of_decide_eq_true h1
      obtain rfl := Option.some.inj h
      refine ⟨⟨by simp only; omega, by simp only; omega, by simp only; omega⟩, ?_⟩
      unfold fnL
      simp only
      rw [h2, h3, h4, h5]
      exact (wds_back s (by rw [← h3]; exact dd_ne (by omega)) (by rw [← h4]; exact dd_ne (by omega)) (by rw [← h5]; exact endW_ne _)).symm
    · cases h
  · rintro ⟨hv, rfl⟩
    have hw := wds_fnL hv
    obtain ⟨h1, h2, h3⟩ := hv
    unfold readP
    rw [hw]
    simp only
    rw [av_dd h1, av_dd (by omega : f.2.1 < 64), av_dd (by omega : f.2.2.1 < 64), endW_data]
    rw [if_pos]
    · simp
    · refine ⟨by unfold isVal; exact decide_eq_true (by omega), by simp, by simp, by simp, rfl⟩
/-- the document's split -/
def splitL (c : UInt8) : List UInt8 → List UInt8 → List (List UInt8)
  | cur, [] => [cur]
  | cur, b :: l => if b = c then cur :: splitL c [] l else splitL c (cur ++ [b]) l
theorem splitL_at (c : UInt8) : ∀ (a r cur : List UInt8), c ∉ a → splitL c cur (a ++ c :: r) = (cur ++ a) :: splitL c [] r := by
  intro a
  induction a with
  | nil => intro r cur _; simp [splitL]
  | cons b l ih =>
    intro r cur h
    have hb : ¬ b = c := fun e => h (by simp [e])
    have hl : c ∉ l := fun e => h (by simp [e])
    rw [List.cons_append, splitL, if_neg hb, ih r (cur ++ [b]) hl]
    simp
theorem splitL_none (c : UInt8) : ∀ (a cur : List UInt8), c ∉ a → splitL c cur a = [cur ++ a] := by
  intro a
  induction a with
  | nil => intro cur _; simp [splitL]
  | cons b l ih =>
    intro cur h
    have hb : ¬ b = c := fun e => h (by simp [e])
    have hl : c ∉ l := fun e => h (by simp [e])
    rw [splitL, if_neg hb, ih (cur ++ [b]) hl]
    simp
theorem splitL_pos (c : UInt8) : ∀ (a cur : List UInt8), 0 < (splitL c cur a).length := by
  intro a
  induction a with
  | nil => intro cur; simp [splitL]
  | cons b l ih =>
    intro cur
    rw [splitL]
    split
    · simp
    · exact ih _
/-- what the document's ReadName reads -/
def sW (s : List UInt8) : List (List UInt8) := splitL 46 [] s
def sN (s : List UInt8) : List (List UInt8) := splitL 95 [] ((sW s).getD 0 [])
def readD (s : List UInt8) : Option FV :=
  if s.length ≤ 14 ∧ (sW s).length = 2 ∧ (sN s).length = 3 ∧ isVal (numV ((sN s).getD 0 [])) (numV ((sN s).getD 1 [])) (numV ((sN s).getD 2 [])) = true ∧ fnL ((numV ((sN s).getD 0 [])).toNat, (numV ((sN s).getD 1 [])).toNat, (numV ((sN s).getD 2 [])).toNat, decide ((sW s).getD 1 [] = dataW)) = s
  then some ((numV ((sN s).getD 0 [])).toNat, (numV ((sN s).getD 1 [])).toNat, (numV ((sN s).getD 2 [])).toNat, decide ((sW s).getD 1 [] = dataW)) else none
theorem sW_fnL {f : FV} (h : Val f) : sW (fnL f) = [dd f.1 ++ 95 :: (dd f.2.1 ++ 95 :: dd f.2.2.1), endW f.2.2.2] := by
  obtain ⟨h1, h2, h3⟩ := h
  unfold sW fnL
  have e : dd f.1 ++ 95 :: (dd f.2.1 ++ 95 :: (dd f.2.2.1 ++ 46 :: endW f.2.2.2)) = (dd f.1 ++ 95 :: (dd f.2.1 ++ 95 :: dd f.2.2.1)) ++ 46 :: endW f.2.2.2 := by simp
  rw [e, splitL_at, splitL_none 46 _ _ (endW_no46 _)]
  · simp
  · simp only [List.mem_append, List.mem_cons, not_or]
    exact ⟨dd_no46 h1, by decide, dd_no46 (by omega), by decide, dd_no46 (by omega)⟩
theorem sN_fnL {f : FV} (h : Val f) : sN (fnL f) = [dd f.1, dd f.2.1, dd f.2.2.1] := by
  unfold sN
  rw [sW_fnL h]
  obtain ⟨h1, h2, h3⟩ := h
  simp only [List.getD_cons_zero]
  rw [splitL_at _ _ _ _ (dd_no95 h1), splitL_at _ _ _ _ (dd_no95 (by omega)), splitL_none _ _ _ (dd_no95 (by omega))]
  simp
theorem readD_spec (s : List UInt8) (f : FV) : readD s = some f ↔ Val f ∧ fnL f = s := by
  constructor
  · intro h
    unfold readD at h
    split at h
    · rename_i hc
      obtain ⟨h1, h2, h3, h4, h5⟩ := hc
      unfold isVal at h4
      have h4 := of_decide_eq_true h4
      obtain rfl := Option.some.inj h
      exact ⟨⟨by simp only; omega, by simp only; omega, by simp only; omega⟩, h5⟩
    · cases h
  · rintro ⟨hv, rfl⟩
    have hw := sW_fnL hv
    have hn := sN_fnL hv
    have hl := fnL_len hv
    obtain ⟨h1, h2, h3⟩ := hv
    unfold readD
    rw [hw, hn]
    have g0 : numV ([dd f.1, dd f.2.1, dd f.2.2.1].getD 0 []) = (f.1 : Int) := numV_dd h1
    have g1 : numV ([dd f.1, dd f.2.1, dd f.2.2.1].getD 1 []) = (f.2.1 : Int) := numV_dd (by omega)
    have g2 : numV ([dd f.1, dd f.2.1, dd f.2.2.1].getD 2 []) = (f.2.2.1 : Int) := numV_dd (by omega)
    have g3 : decide ([dd f.1 ++ 95 :: (dd f.2.1 ++ 95 :: dd f.2.2.1), endW f.2.2.2].getD 1 [] = dataW) = f.2.2.2 := endW_data _
    rw [g0, g1, g2, g3, Int.toNat_natCast, Int.toNat_natCast, Int.toNat_natCast]
    refine if_pos ?_
    exact ⟨hl, rfl, rfl, by unfold isVal; exact decide_eq_true (by omega), rfl⟩
theorem readP_D (s : List UInt8) : readP s = readD s := Option.ext fun f => by rw [readP_spec, readD_spec]
end Go.Proofs.YtanceiiaecbknaaDoor
