import Derived.Lib.AtoiAll
import Derived.Lib.ItoaNum
import Derived.Lib.IndexMore
import Derived.WalkKit
import Derived.Lib.SplitLaws
namespace Go.Proofs.YtanlnelfbfjelaaDoor
/-- a file: partition, replica, chunk, is it the data -/
abbrev FV := Nat × Nat × Nat × Bool
def dataW : List UInt8 := [100, 97, 116, 97]
def indexW : List UInt8 := [105, 110, 100, 101, 120]
def endW (d : Bool) : List UInt8 := if d then dataW else indexW
def dd (n : Nat) : List UInt8 := Lib.decDigits n
def dd2 (n : Nat) : List UInt8 := if n < 10 then [UInt8.ofNat (48 + n)] else [UInt8.ofNat (48 + n / 10), UInt8.ofNat (48 + n % 10)]
theorem dd_two {n : Nat} (h : n < 100) : dd n = dd2 n := by
  unfold dd dd2
  rw [Lib.decDigits]
  by_cases h1 : n < 10
  · rw [dif_pos h1, if_pos h1]
  · rw [dif_neg h1, if_neg h1, Lib.decDigits, dif_pos (by omega)]
    rfl
def fnL (f : FV) : List UInt8 := dd f.1 ++ 95 :: (dd f.2.1 ++ 95 :: (dd f.2.2.1 ++ 46 :: endW f.2.2.2))
def Val (f : FV) : Prop := f.1 < 64 ∧ f.2.1 < 16 ∧ f.2.2.1 < 16
/-- what Atoi answers -/
def av (l : List UInt8) : Int := match Lib.atoiAll l with
  | .ok v => v
  | .syntax => 0
  | .range => Lib.atoiSat l
/-- what the document's number answers -/
def digB (b : UInt8) : Bool := decide (48 ≤ b.toNat) && decide (b.toNat ≤ 57)
def numF (l : List UInt8) : Nat := l.foldl (fun n b => n * 10 + (b.toNat - 48)) 0
def numV (l : List UInt8) : Int := if l = [] ∨ 10 < l.length ∨ (l.head? = some 48 ∧ l ≠ [48]) then -1 else if l.all digB then (numF l : Int) else -1
theorem dd_facts : ∀ n : Fin 64, av (dd2 n.1) = (n.1 : Int) ∧ numV (dd2 n.1) = (n.1 : Int) ∧ (95 : UInt8) ∉ dd2 n.1 ∧ (46 : UInt8) ∉ dd2 n.1 ∧ (dd2 n.1).length ≤ 2 ∧ dd2 n.1 ≠ [] := by decide +kernel
theorem av_dd {n : Nat} (h : n < 64) : av (dd n) = (n : Int) := by rw [dd_two (by omega)]; exact (dd_facts ⟨n, h⟩).1
theorem numV_dd {n : Nat} (h : n < 64) : numV (dd n) = (n : Int) := by rw [dd_two (by omega)]; exact (dd_facts ⟨n, h⟩).2.1
theorem dd_no95 {n : Nat} (h : n < 64) : (95 : UInt8) ∉ dd n := by rw [dd_two (by omega)]; exact (dd_facts ⟨n, h⟩).2.2.1
theorem dd_no46 {n : Nat} (h : n < 64) : (46 : UInt8) ∉ dd n := by rw [dd_two (by omega)]; exact (dd_facts ⟨n, h⟩).2.2.2.1
theorem dd_len {n : Nat} (h : n < 64) : (dd n).length ≤ 2 := by rw [dd_two (by omega)]; exact (dd_facts ⟨n, h⟩).2.2.2.2.1
theorem dd_ne {n : Nat} (h : n < 64) : dd n ≠ [] := by rw [dd_two (by omega)]; exact (dd_facts ⟨n, h⟩).2.2.2.2.2
theorem dd_len16 {n : Nat} (h : n < 16) : (dd n).length ≤ 2 := dd_len (by omega)
theorem endW_ne (d : Bool) : endW d ≠ [] := by cases d <;> decide
theorem endW_data (d : Bool) : decide (endW d = dataW) = d := by cases d <;> decide
theorem endW_no46 (d : Bool) : (46 : UInt8) ∉ endW d := by cases d <;> decide
theorem endW_no95 (d : Bool) : (95 : UInt8) ∉ endW d := by cases d <;> decide
theorem endW_len (d : Bool) : (endW d).length ≤ 5 := by cases d <;> decide
theorem fnL_len {f : FV} (h : Val f) : (fnL f).length ≤ 14 := by
  have h1 := dd_len h.1
  have h2 := dd_len16 h.2.1
  have h3 := dd_len16 h.2.2
  have h4 := endW_len f.2.2.2
  unfold fnL
  simp only [List.length_append, List.length_cons]
  omega
theorem fnL_ne (f : FV) : fnL f ≠ [] := by unfold fnL; simp
theorem index_one (c : UInt8) : ∀ (a r : List UInt8), c ∉ a → Lib.index (a ++ c :: r) [c] = (a.length : Int) := by
  intro a
  induction a with
  | nil => intro r _; simp [Lib.index]
  | cons b l ih =>
    intro r h
    have hb : ¬ c = b := fun e => h (by simp [e])
    have hl : c ∉ l := fun e => h (by simp [e])
    have := ih r hl
    rw [List.cons_append, Lib.index, this]
    have hne : ([c].isPrefixOf (b :: (l ++ c :: r))) = false := by simp [List.isPrefixOf, hb]
    rw [hne]
    simp only [Bool.false_eq_true, if_false, beq_iff_eq]
    rw [if_neg (by omega)]
    simp
theorem cut_at (c : UInt8) (a r : List UInt8) (h : c ∉ a) : Lib.cut (a ++ c :: r) [c] = (a, r, true) := by
  unfold Lib.cut
  rw [index_one c a r h, if_pos (by omega)]
  simp
theorem first_of (c : UInt8) (s : List UInt8) (hc : c ∈ s) : ∃ a r, s = a ++ c :: r ∧ c ∉ a := by
  induction s with
  | nil => cases hc
  | cons b l ih =>
    by_cases hb : b = c
    · exact ⟨[], l, by simp [hb], by simp⟩
    · have hl : c ∈ l := by
        rcases List.mem_cons.1 hc with h | h
        · exact absurd h.symm hb
        · exact h
      obtain ⟨a, r, e, hn⟩ := ih hl
      refine ⟨b :: a, r, by simp [e], fun h => ?_⟩
      rcases List.mem_cons.1 h with h | h
      · exact hb h.symm
      · exact hn h
theorem cut_way (c : UInt8) (s : List UInt8) : Lib.cut s [c] = (s, [], false) ∨ ∃ a r, s = a ++ c :: r ∧ Lib.cut s [c] = (a, r, true) := by
  by_cases hc : c ∈ s
  · right
    obtain ⟨a, r, e, hn⟩ := first_of c s hc
    exact ⟨a, r, e, by rw [e]; exact cut_at c a r hn⟩
  · left
    unfold Lib.cut
    have : Lib.index s [c] = -1 := by
      induction s with
      | nil => simp [Lib.index]
      | cons b l ih =>
        have hb : ¬ c = b := fun e => hc (by simp [e])
        have hl : c ∉ l := fun e => hc (by simp [e])
        rw [Lib.index, ih hl]
        have hne : ([c].isPrefixOf (b :: l)) = false := by simp [List.isPrefixOf, hb]
        rw [hne]
        simp
    rw [this]
    simp
/-- the words of a name -/
def wds (s : List UInt8) : List UInt8 × List UInt8 × List UInt8 × List UInt8 :=
  ((Lib.cut s [95]).1, (Lib.cut (Lib.cut s [95]).2.1 [95]).1, (Lib.cut (Lib.cut (Lib.cut s [95]).2.1 [95]).2.1 [46]).1, (Lib.cut (Lib.cut (Lib.cut s [95]).2.1 [95]).2.1 [46]).2.1)
def isVal (p r c : Int) : Bool := decide (0 ≤ p ∧ p < 64 ∧ 0 ≤ r ∧ r < 16 ∧ 0 ≤ c ∧ c < 16)
/-- what the program's ReadName reads -/
def readP (s : List UInt8) : Option FV :=
  if isVal (av (wds s).1) (av (wds s).2.1) (av (wds s).2.2.1) = true ∧ dd (av (wds s).1).toNat = (wds s).1 ∧ dd (av (wds s).2.1).toNat = (wds s).2.1 ∧ dd (av (wds s).2.2.1).toNat = (wds s).2.2.1 ∧ endW (decide ((wds s).2.2.2 = dataW)) = (wds s).2.2.2
  then some ((av (wds s).1).toNat, (av (wds s).2.1).toNat, (av (wds s).2.2.1).toNat, decide ((wds s).2.2.2 = dataW)) else none
theorem wds_fnL {f : FV} (h : Val f) : wds (fnL f) = (dd f.1, dd f.2.1, dd f.2.2.1, endW f.2.2.2) := by
  obtain ⟨h1, h2, h3⟩ := h
  have e1 : Lib.cut (fnL f) [95] = (dd f.1, dd f.2.1 ++ 95 :: (dd f.2.2.1 ++ 46 :: endW f.2.2.2), true) := cut_at _ _ _ (dd_no95 h1)
  unfold wds
  rw [e1]
  simp only
  rw [cut_at _ _ _ (dd_no95 (by omega))]
  simp only
  rw [cut_at _ _ _ (dd_no46 (by omega))]
theorem wds_back (s : List UInt8) (h2 : (wds s).2.1 ≠ []) (h3 : (wds s).2.2.1 ≠ []) (h4 : (wds s).2.2.2 ≠ []) : s = (wds s).1 ++ 95 :: ((wds s).2.1 ++ 95 :: ((wds s).2.2.1 ++ 46 :: (wds s).2.2.2)) := by
  unfold wds at *
  rcases cut_way 95 s with e | ⟨a, r, e, e'⟩
  · rw [e] at h2; exact absurd (by simp [Lib.cut, Lib.index]) h2
  rw [e'] at h2 h3 h4 ⊢
  simp only at h2 h3 h4 ⊢
  rcases cut_way 95 r with g | ⟨a2, r2, g, g'⟩
  · rw [g] at h3; exact absurd (by simp [Lib.cut, Lib.index]) h3
  rw [g'] at h2 h3 h4 ⊢
  simp only at h2 h3 h4 ⊢
  rcases cut_way 46 r2 with k | ⟨a3, r3, k, k'⟩
  · rw [k] at h4; exact absurd rfl h4
  rw [k']
  simp only
  rw [e, g, k]
theorem readP_spec (s : List UInt8) (f : FV) : readP s = some f ↔ Val f ∧ fnL f = s := by
  constructor
  · intro h
    unfold readP at h
    split at h
    · rename_i hc
      obtain ⟨h1, h2, h3, h4, h5⟩ := hc
      unfold isVal at h1
      have h1 := of_decide_eq_true h1
      obtain rfl := Option.some.inj h
      refine ⟨⟨by simp only; omega, by simp only; omega, by simp only; omega⟩, ?_⟩
      unfold fnL
      simp only
      rw [h2, h3, h4, h5]
      exact (wds_back s (by rw [← h3]; exact dd_ne (by omega)) (by rw [← h4]; exact dd_ne (by omega)) (by rw [← h5]; exact endW_ne _)).symm
    · cases h
  · rintro ⟨hv, rfl⟩
    have hw := wds_fnL hv
    obtain ⟨h1, h2, h3⟩ := hv
    unfold readP
    rw [hw]
    simp only
    rw [av_dd h1, av_dd (by omega : f.2.1 < 64), av_dd (by omega : f.2.2.1 < 64), endW_data]
    rw [if_pos]
    · simp
    · refine ⟨by unfold isVal; exact decide_eq_true (by omega), by simp, by simp, by simp, rfl⟩
/-- the document's split -/
def splitL (c : UInt8) : List UInt8 → List UInt8 → List (List UInt8)
  | cur, [] => [cur]
  | cur, b :: l => if b = c then cur :: splitL c [] l else splitL c (cur ++ [b]) l
theorem splitL_at (c : UInt8) : ∀ (a r cur : List UInt8), c ∉ a → splitL c cur (a ++ c :: r) = (cur ++ a) :: splitL c [] r := by
  intro a
  induction a with
  | nil => intro r cur _; simp [splitL]
  | cons b l ih =>
    intro r cur h
    have hb : ¬ b = c := fun e => h (by simp [e])
    have hl : c ∉ l := fun e => h (by simp [e])
    rw [List.cons_append, splitL, if_neg hb, ih r (cur ++ [b]) hl]
    simp
theorem splitL_none (c : UInt8) : ∀ (a cur : List UInt8), c ∉ a → splitL c cur a = [cur ++ a] := by
  intro a
  induction a with
  | nil => intro cur _; simp [splitL]
  | cons b l ih =>
    intro cur h
    have hb : ¬ b = c := fun e => h (by simp [e])
    have hl : c ∉ l := fun e => h (by simp [e])
    rw [splitL, if_neg hb, ih (cur ++ [b]) hl]
    simp
theorem splitL_pos (c : UInt8) : ∀ (a cur : List UInt8), 0 < (splitL c cur a).length := by
  intro a
  induction a with
  | nil => intro cur; simp [splitL]
  | cons b l ih =>
    intro cur
    rw [splitL]
    split
    · simp
    · exact ih _
/-- what the document's ReadName reads -/
def sW (s : List UInt8) : List (List UInt8) := splitL 46 [] s
def sN (s : List UInt8) : List (List UInt8) := splitL 95 [] ((sW s).getD 0 [])
def readD (s : List UInt8) : Option FV :=
  if s.length ≤ 14 ∧ (sW s).length = 2 ∧ (sN s).length = 3 ∧ isVal (numV ((sN s).getD 0 [])) (numV ((sN s).getD 1 [])) (numV ((sN s).getD 2 [])) = true ∧ fnL ((numV ((sN s).getD 0 [])).toNat, (numV ((sN s).getD 1 [])).toNat, (numV ((sN s).getD 2 [])).toNat, decide ((sW s).getD 1 [] = dataW)) = s
  then some ((numV ((sN s).getD 0 [])).toNat, (numV ((sN s).getD 1 [])).toNat, (numV ((sN s).getD 2 [])).toNat, decide ((sW s).getD 1 [] = dataW)) else none
theorem sW_fnL {f : FV} (h : Val f) : sW (fnL f) = [dd f.1 ++ 95 :: (dd f.2.1 ++ 95 :: dd f.2.2.1), endW f.2.2.2] := by
  obtain ⟨h1, h2, h3⟩ := h
  unfold sW fnL
  have e : dd f.1 ++ 95 :: (dd f.2.1 ++ 95 :: (dd f.2.2.1 ++ 46 :: endW f.2.2.2)) = (dd f.1 ++ 95 :: (dd f.2.1 ++ 95 :: dd f.2.2.1)) ++ 46 :: endW f.2.2.2 := by simp
  rw [e, splitL_at, splitL_none 46 _ _ (endW_no46 _)]
  · simp
  · simp only [List.mem_append, List.mem_cons, not_or]
    exact ⟨dd_no46 h1, by decide, dd_no46 (by omega), by decide, dd_no46 (by omega)⟩
theorem sN_fnL {f : FV} (h : Val f) : sN (fnL f) = [dd f.1, dd f.2.1, dd f.2.2.1] := by
  unfold sN
  rw [sW_fnL h]
  obtain ⟨h1, h2, h3⟩ := h
  simp only [List.getD_cons_zero]
  rw [splitL_at _ _ _ _ (dd_no95 h1), splitL_at _ _ _ _ (dd_no95 (by omega)), splitL_none _ _ _ (dd_no95 (by omega))]
  simp
theorem readD_spec (s : List UInt8) (f : FV) : readD s = some f ↔ Val f ∧ fnL f = s := by
  constructor
  · intro h
    unfold readD at h
    split at h
    · rename_i hc
      obtain ⟨h1, h2, h3, h4, h5⟩ := hc
      unfold isVal at h4
      have h4 := of_decide_eq_true h4
      obtain rfl := Option.some.inj h
      exact ⟨⟨by simp only; omega, by simp only; omega, by simp only; omega⟩, h5⟩
    · cases h
  · rintro ⟨hv, rfl⟩
    have hw := sW_fnL hv
    have hn := sN_fnL hv
    have hl := fnL_len hv
    obtain ⟨h1, h2, h3⟩ := hv
    unfold readD
    rw [hw, hn]
    have g0 : numV ([dd f.1, dd f.2.1, dd f.2.2.1].getD 0 []) = (f.1 : Int) := numV_dd h1
    have g1 : numV ([dd f.1, dd f.2.1, dd f.2.2.1].getD 1 []) = (f.2.1 : Int) := numV_dd (by omega)
    have g2 : numV ([dd f.1, dd f.2.1, dd f.2.2.1].getD 2 []) = (f.2.2.1 : Int) := numV_dd (by omega)
    have g3 : decide ([dd f.1 ++ 95 :: (dd f.2.1 ++ 95 :: dd f.2.2.1), endW f.2.2.2].getD 1 [] = dataW) = f.2.2.2 := endW_data _
    rw [g0, g1, g2, g3, Int.toNat_natCast, Int.toNat_natCast, Int.toNat_natCast]
    refine if_pos ?_
    exact ⟨hl, rfl, rfl, by unfold isVal; exact decide_eq_true (by omega), rfl⟩
theorem readP_D (s : List UInt8) : readP s = readD s := Option.ext fun f => by rw [readP_spec, readD_spec]
end Go.Proofs.YtanlnelfbfjelaaDoor
namespace Go.Proofs.YtanlnelfbfjelaaDoor
/-- the words of a definition: the settings', in their order -/
def swA : List (List UInt8) := [[114, 101, 112, 108, 105, 99, 97, 115], [119, 105, 100, 116, 104], [99, 104, 117, 110, 107, 115], [114, 101, 116, 97, 105, 110], [98, 108, 111, 99, 107], [114, 97, 116, 101], [112, 101, 114], [98, 117, 114, 115, 116], [116, 114, 105, 101, 115], [98, 97, 115, 101], [109, 111, 115, 116], [113, 117, 111, 116, 97], [114, 111, 111, 109], [100, 101, 112, 111, 116], [114, 101, 115, 101, 110, 100], [108, 105, 109, 105, 116], [112, 97, 116, 105, 101, 110, 99, 101], [103, 101, 116, 119, 97, 105, 116], [115, 116, 114, 105, 107, 101, 115], [98, 97, 110], [104, 111, 109, 101]]
def swd (i : Nat) : List UInt8 := swA[i]?.getD []
def storeW : List UInt8 := [115, 116, 111, 114, 101]
def nodeW : List UInt8 := [110, 111, 100, 101]
def zoneW : List UInt8 := [122, 111, 110, 101]
def partsW : List UInt8 := [112, 97, 114, 116, 115]
end Go.Proofs.YtanlnelfbfjelaaDoor
namespace Go.Proofs.YtanlnelfbfjelaaDoor
/-- a node: its zone, its partitions -/
structure ND where
  z : Int
  ps : List Int
instance : Inhabited ND := ⟨⟨0, []⟩⟩
def flat (ns : List ND) : List Int := ns.flatMap fun n => n.ps
theorem flat_append (a b : List ND) : flat (a ++ b) = flat a ++ flat b := List.flatMap_append
theorem flat_one (n : ND) : flat [n] = n.ps := by simp [flat]
def cntI (k : Int) : List Int → Nat
  | [] => 0
  | x :: r => (if x = k then 1 else 0) + cntI k r
theorem cntI_append (k : Int) (a b : List Int) : cntI k (a ++ b) = cntI k a + cntI k b := by
  induction a with
  | nil => simp [cntI]
  | cons x r ih => simp only [List.cons_append, cntI, ih]; omega
theorem cntI_mem {k : Int} {l : List Int} : 0 < cntI k l ↔ k ∈ l := by
  induction l with
  | nil => simp [cntI]
  | cons x r ih =>
    simp only [cntI, List.mem_cons]
    by_cases e : x = k
    · rw [if_pos e]
      constructor
      · intro _
        exact Or.inl e.symm
      · intro _
        omega
    · rw [if_neg e, Nat.zero_add, ih]
      constructor
      · exact Or.inr
      · rintro (h | h)
        · exact absurd h.symm e
        · exact h
theorem cntI_zero {k : Int} {l : List Int} : cntI k l = 0 ↔ k ∉ l := by
  rw [← cntI_mem]
  omega
theorem cntI_perm {k : Int} {a b : List Int} (h : a.Perm b) : cntI k a = cntI k b := by
  induction h with
  | nil => rfl
  | cons x _ ih => simp only [cntI, ih]
  | swap x y l => simp only [cntI]; omega
  | trans _ _ i j => exact i.trans j
/-- all of 0 to p - 1 stand in a list of p: then it has nothing else, and nothing twice -/
theorem all_once : ∀ (p : Nat) (l : List Int), l.length = p → (∀ i : Nat, i < p → (i : Int) ∈ l) → (∀ x ∈ l, 0 ≤ x ∧ x < (p : Int)) ∧ ∀ k, cntI k l ≤ 1 := by
  intro p
  induction p with
  | zero =>
    intro l hl _
    obtain rfl := List.length_eq_zero_iff.1 hl
    exact ⟨fun x hx => by simp at hx, fun k => by simp [cntI]⟩
  | succ p ih =>
    intro l hl hm
    have hp : (p : Int) ∈ l := hm p (by omega)
    have pe := List.perm_cons_erase hp
    have le : (l.erase (p : Int)).length = p := by
      have := pe.length_eq
      simp at this
      omega
    have hm' : ∀ i : Nat, i < p → (i : Int) ∈ l.erase (p : Int) := fun i hi => by
      have := pe.mem_iff.1 (hm i (by omega))
      rcases List.mem_cons.1 this with h | h
      · omega
      · exact h
    obtain ⟨r1, r2⟩ := ih _ le hm'
    refine ⟨fun x hx => ?_, fun k => ?_⟩
    · rcases List.mem_cons.1 (pe.mem_iff.1 hx) with h | h
      · omega
      · have := r1 x h
        omega
    · rw [cntI_perm pe]
      simp only [cntI]
      by_cases e : (p : Int) = k
      · rw [if_pos e, cntI_zero.2 (fun h => by have := r1 k h; omega)]
        omega
      · rw [if_neg e]
        have := r2 k
        omega
theorem few_in : ∀ (p : Nat) (l : List Int), (∀ x ∈ l, 0 ≤ x ∧ x < (p : Int)) → (∀ k, cntI k l ≤ 1) → l.length ≤ p := by
  intro p
  induction p with
  | zero =>
    intro l h _
    cases l with
    | nil => exact Nat.le_refl _
    | cons x r => have := h x (by simp); omega
  | succ p ih =>
    intro l h1 h2
    by_cases hp : (p : Int) ∈ l
    · have pe := List.perm_cons_erase hp
      have le : l.length = (l.erase (p : Int)).length + 1 := by
        have := pe.length_eq
        simpa using this
      have k2 : ∀ k, cntI k (l.erase (p : Int)) ≤ 1 := fun k => by
        have := h2 k
        rw [cntI_perm pe] at this
        simp only [cntI] at this
        omega
      have np : (p : Int) ∉ l.erase (p : Int) := by
        have := h2 (p : Int)
        rw [cntI_perm pe] at this
        simp only [cntI, if_true] at this
        exact cntI_zero.1 (by omega)
      have k1 : ∀ x ∈ l.erase (p : Int), 0 ≤ x ∧ x < (p : Int) := fun x hx => by
        have := h1 x (List.mem_of_mem_erase hx)
        have ne : x ≠ (p : Int) := fun e => np (e ▸ hx)
        omega
      have := ih _ k1 k2
      omega
    · have := ih l (fun x hx => by
        have := h1 x hx
        have ne : x ≠ (p : Int) := fun e => hp (e ▸ hx)
        omega) h2
      omega
theorem once_all : ∀ (p : Nat) (l : List Int), l.length = p → (∀ x ∈ l, 0 ≤ x ∧ x < (p : Int)) → (∀ k, cntI k l ≤ 1) → ∀ i : Nat, i < p → cntI (i : Int) l = 1 := by
  intro p l hl h1 h2 i hi
  have : 0 < cntI (i : Int) l := by
    apply Classical.byContradiction
    intro hn
    have hz : cntI (i : Int) l = 0 := by omega
    -- i :: l has p + 1 of p
    have := few_in p ((i : Int) :: l) (fun x hx => by
      rcases List.mem_cons.1 hx with e | e
      · omega
      · exact h1 x e) (fun k => by
      simp only [cntI]
      by_cases e : (i : Int) = k
      · subst e
        rw [if_pos rfl, hz]
        omega
      · rw [if_neg e]
        have := h2 k
        omega)
    simp at this
    omega
  have := h2 (i : Int)
  omega
def Rising (l : List Int) : Prop := ∀ j (h : j + 1 < l.length), l[j] < l[j + 1]
/-- the document's dealt -/
structure Dealt (ns : List ND) : Prop where
  p1 : 1 ≤ (flat ns).length
  p2 : (flat ns).length ≤ 64
  once : ∀ i : Nat, i < (flat ns).length → cntI (i : Int) (flat ns) = 1
  rise : ∀ n ∈ ns, Rising n.ps
/-- the node that has a partition in its list; -1: none has -/
def ownF (k : Int) : Nat → List ND → Int
  | _, [] => -1
  | i, n :: r => if k ∈ n.ps then (i : Int) else ownF k (i + 1) r
theorem ownF_in {k : Int} {i : Nat} {n : ND} {r : List ND} (h : k ∈ n.ps) : ownF k i (n :: r) = (i : Int) := by simp [ownF, h]
theorem ownF_out {k : Int} {i : Nat} {n : ND} {r : List ND} (h : k ∉ n.ps) : ownF k i (n :: r) = ownF k (i + 1) r := by simp [ownF, h]
theorem flat_cons (n : ND) (r : List ND) : flat (n :: r) = n.ps ++ flat r := by simp [flat]
theorem ownF_none {k : Int} {i : Nat} {ns : List ND} : ownF k i ns = -1 ↔ k ∉ flat ns := by
  induction ns generalizing i with
  | nil => simp [ownF, flat]
  | cons n r ih =>
    rw [flat_cons, List.mem_append]
    by_cases e : k ∈ n.ps
    · rw [ownF_in e]
      constructor
      · intro h
        omega
      · intro h
        exact absurd (Or.inl e) h
    · rw [ownF_out e, ih]
      constructor
      · rintro h (h' | h')
        · exact e h'
        · exact h h'
      · intro h h'
        exact h (Or.inr h')
theorem ownF_append (k : Int) (i : Nat) (ns : List ND) (n : ND) : ownF k i (ns ++ [n]) = if ownF k i ns = -1 then (if k ∈ n.ps then ((i + ns.length : Nat) : Int) else -1) else ownF k i ns := by
  induction ns generalizing i with
  | nil => simp [ownF]
  | cons m r ih =>
    rw [List.cons_append]
    by_cases e : k ∈ m.ps
    · rw [ownF_in e, ownF_in e, if_neg (by omega)]
    · rw [ownF_out e, ownF_out e, ih, show i + 1 + r.length = i + (m :: r).length by simp; omega]
theorem ownF_range (k : Int) (i : Nat) (ns : List ND) : ownF k i ns = -1 ∨ ((i : Int) ≤ ownF k i ns ∧ ownF k i ns < ((i + ns.length : Nat) : Int)) := by
  induction ns generalizing i with
  | nil => exact Or.inl rfl
  | cons n r ih =>
    by_cases e : k ∈ n.ps
    · rw [ownF_in e]
      exact Or.inr ⟨Int.le_refl _, by simp; omega⟩
    · rw [ownF_out e]
      rcases ih (i + 1) with h | h
      · exact Or.inl h
      · refine Or.inr ⟨by omega, ?_⟩
        have := h.2
        simp at this ⊢
        omega
/-- nodes up to i, and j partitions of the node i -/
def preN (ns : List ND) (i j : Nat) : List ND := ns.take i ++ [⟨0, (ns[i]?.getD default).ps.take j⟩]
/-- so far all is well -/
structure Fine (ns : List ND) (i j : Nat) : Prop where
  rng : ∀ x ∈ flat (preN ns i j), 0 ≤ x ∧ x < ((flat ns).length : Int)
  one : ∀ k, cntI k (flat (preN ns i j)) ≤ 1
  ris : ∀ q (h : q < ns.length), q < i → Rising ns[q].ps
  now : Rising ((ns[i]?.getD default).ps.take j)
def lastP (ns : List ND) (i j : Nat) : Int := if j = 0 then -1 else (ns[i]?.getD default).ps[j - 1]?.getD 0
theorem Fine.start (ns : List ND) : Fine ns 0 0 := by
  refine ⟨fun x hx => ?_, fun k => ?_, fun q _ h => by omega, fun j h => ?_⟩
  · simp [preN, flat] at hx
  · simp [preN, flat, cntI]
  · simp at h
theorem preN_next {ns : List ND} {i : Nat} (hi : i < ns.length) : flat (preN ns i ns[i].ps.length) = flat (preN ns (i + 1) 0) := by
  unfold preN
  rw [List.getElem?_eq_getElem hi, Option.getD_some, List.take_length, flat_append, flat_append, flat_one, flat_one, List.take_succ_eq_append_getElem hi, flat_append, flat_one]
  simp
theorem Fine.next {ns : List ND} {i : Nat} (hi : i < ns.length) (h : Fine ns i ns[i].ps.length) : Fine ns (i + 1) 0 := by
  have e := preN_next hi
  refine ⟨fun x hx => h.rng x (by rw [e]; exact hx), fun k => by rw [← e]; exact h.one k, fun q hq hqi => ?_, fun j hj => ?_⟩
  · by_cases hq' : q < i
    · exact h.ris q hq hq'
    · obtain rfl : q = i := by omega
      have := h.now
      rw [List.getElem?_eq_getElem hi, Option.getD_some, List.take_length] at this
      exact this
  · simp at hj
theorem preN_step {ns : List ND} {i j : Nat} (hi : i < ns.length) (hj : j < ns[i].ps.length) : flat (preN ns i (j + 1)) = flat (preN ns i j) ++ [ns[i].ps[j]] := by
  unfold preN
  rw [List.getElem?_eq_getElem hi, Option.getD_some, flat_append, flat_append, flat_one, flat_one, List.take_succ_eq_append_getElem hj, List.append_assoc]
theorem Fine.step {ns : List ND} {i j : Nat} (h : Fine ns i j) (hi : i < ns.length) (hj : j < ns[i].ps.length) (h1 : lastP ns i j < ns[i].ps[j]) (h2 : ns[i].ps[j] < ((flat ns).length : Int)) (h3 : ownF ns[i].ps[j] 0 (preN ns i j) = -1) : Fine ns i (j + 1) := by
  have hge : 0 ≤ ns[i].ps[j] := by
    unfold lastP at h1
    by_cases j0 : j = 0
    · rw [if_pos j0] at h1
      omega
    · rw [if_neg j0, List.getElem?_eq_getElem hi, Option.getD_some, List.getElem?_eq_getElem (by omega), Option.getD_some] at h1
      have hm : ns[i].ps[j - 1] ∈ flat (preN ns i j) := by
        unfold preN
        rw [List.getElem?_eq_getElem hi, Option.getD_some, flat_append, flat_one]
        refine List.mem_append_right _ ?_
        rw [List.mem_take_iff_getElem]
        exact ⟨j - 1, by omega, rfl⟩
      have := (h.rng _ hm).1
      omega
  have e := preN_step hi hj
  refine ⟨fun x hx => ?_, fun k => ?_, h.ris, ?_⟩
  · rw [e] at hx
    rcases List.mem_append.1 hx with hx | hx
    · exact h.rng x hx
    · simp at hx
      subst hx
      exact ⟨hge, h2⟩
  · rw [e, cntI_append]
    have k1 := h.one k
    simp only [cntI]
    by_cases ek : ns[i].ps[j] = k
    · rw [if_pos ek, ← ek, cntI_zero.2 (ownF_none.1 h3)]
      omega
    · rw [if_neg ek]
      omega
  · have hnow := h.now
    rw [List.getElem?_eq_getElem hi, Option.getD_some] at hnow ⊢
    intro q hq
    have hl : (ns[i].ps.take (j + 1)).length = j + 1 := by rw [List.length_take]; omega
    rw [hl] at hq
    rw [List.getElem_take, List.getElem_take]
    by_cases hqj : q + 1 < j
    · have := hnow q (by rw [List.length_take]; omega)
      rw [List.getElem_take, List.getElem_take] at this
      exact this
    · have hq1 : q + 1 = j := by omega
      subst hq1
      unfold lastP at h1
      rw [if_neg (by omega), List.getElem?_eq_getElem hi, Option.getD_some, Nat.add_sub_cancel, List.getElem?_eq_getElem (by omega), Option.getD_some] at h1
      exact h1
theorem flat_pre_all (ns : List ND) : flat (preN ns ns.length 0) = flat ns := by
  unfold preN
  rw [flat_append, flat_one, List.take_length]
  simp
/-- all went well: then each is dealt once -/
theorem Fine.dealt {ns : List ND} (h : Fine ns ns.length 0) (p1 : 1 ≤ (flat ns).length) (p2 : (flat ns).length ≤ 64) : Dealt ns := by
  refine ⟨p1, p2, ?_, fun n hn => ?_⟩
  · exact once_all _ _ rfl (fun x hx => h.rng x (by rw [flat_pre_all]; exact hx)) (fun k => by have := h.one k; rw [flat_pre_all] at this; exact this)
  · obtain ⟨q, hq, rfl⟩ := List.getElem_of_mem hn
    exact h.ris q hq hq
theorem Dealt.all {ns : List ND} (h : Dealt ns) : (∀ x ∈ flat ns, 0 ≤ x ∧ x < ((flat ns).length : Int)) ∧ ∀ k, cntI k (flat ns) ≤ 1 :=
  all_once _ _ rfl (fun i hi => cntI_mem.1 (by rw [h.once i hi]; omega))
theorem mem_flat {ns : List ND} {i j : Nat} (hi : i < ns.length) (hj : j < ns[i].ps.length) : ns[i].ps[j] ∈ flat ns := by
  unfold flat
  exact List.mem_flatMap.2 ⟨ns[i], List.getElem_mem hi, List.getElem_mem hj⟩
theorem flat_split {ns : List ND} {i : Nat} (hi : i < ns.length) (j : Nat) : ∃ r, flat ns = flat (preN ns i j) ++ (ns[i].ps.drop j ++ r) := by
  refine ⟨flat (ns.drop (i + 1)), ?_⟩
  unfold preN
  rw [List.getElem?_eq_getElem hi, Option.getD_some, flat_append, flat_one, List.append_assoc, ← List.append_assoc (ns[i].ps.take j), List.take_append_drop]
  have : ns = ns.take i ++ ([ns[i]] ++ ns.drop (i + 1)) := by
    rw [← List.append_assoc, ← List.take_succ_eq_append_getElem hi, List.take_append_drop]
  conv => lhs; rw [this, flat_append, flat_append, flat_one]
/-- one went ill: then they are not dealt -/
theorem not_dealt {ns : List ND} {i j : Nat} (hi : i < ns.length) (hj : j < ns[i].ps.length) (hb : ns[i].ps[j] ≤ lastP ns i j ∨ ((flat ns).length : Int) ≤ ns[i].ps[j] ∨ ownF ns[i].ps[j] 0 (preN ns i j) ≠ -1) : ¬ Dealt ns := by
  intro h
  obtain ⟨a1, a2⟩ := h.all
  have hm := a1 _ (mem_flat hi hj)
  rcases hb with hb | hb | hb
  · unfold lastP at hb
    by_cases j0 : j = 0
    · rw [if_pos j0] at hb
      omega
    · rw [if_neg j0, List.getElem?_eq_getElem hi, Option.getD_some, List.getElem?_eq_getElem (by omega), Option.getD_some] at hb
      have := h.rise ns[i] (List.getElem_mem hi) (j - 1) (by omega)
      have e : j - 1 + 1 = j := by omega
      simp only [e] at this
      omega
  · omega
  · have hin : ns[i].ps[j] ∈ flat (preN ns i j) := by
      apply Classical.byContradiction
      intro hn
      exact hb (ownF_none.2 hn)
    obtain ⟨r, hr⟩ := flat_split hi j
    have c := a2 ns[i].ps[j]
    rw [hr, cntI_append, cntI_append] at c
    have c1 := cntI_mem.2 hin
    have c2 : 0 < cntI ns[i].ps[j] (ns[i].ps.drop j) := cntI_mem.2 (by
      rw [List.mem_drop_iff_getElem]
      exact ⟨0, by omega, by simp⟩)
    omega
end Go.Proofs.YtanlnelfbfjelaaDoor
namespace Go.Proofs.YtanlnelfbfjelaaDoor
/-- the number of the setting of that word; 21: there is none -/
def wdI (l : List UInt8) : Nat := swA.idxOf l
theorem wdI_le (l : List UInt8) : wdI l ≤ 21 := List.idxOf_le_length
theorem wdI_self : ∀ i : Fin 21, wdI (swd i.1) = i.1 := by decide +kernel
theorem wdI_hit {l : List UInt8} {i : Nat} (h : i < 21) (e : swd i = l) : wdI l = i := by rw [← e]; exact wdI_self ⟨i, h⟩
theorem swd_wdI {l : List UInt8} (h : wdI l < 21) : swd (wdI l) = l := by
  have h' : swA.idxOf l < swA.length := h
  unfold swd wdI
  rw [List.getElem?_eq_getElem h']
  exact List.getElem_idxOf h'
theorem wdI_miss {l : List UInt8} (h : ∀ j, j < 21 → swd j ≠ l) : wdI l = 21 := by
  have := wdI_le l
  by_cases e : wdI l < 21
  · exact absurd (swd_wdI e) (h _ e)
  · omega
theorem swd_inj {i j : Nat} (hi : i < 21) (hj : j < 21) (e : swd i = swd j) : i = j := by
  rw [← wdI_hit hi rfl, e, wdI_hit hj rfl]
theorem wdI_store : wdI storeW = 21 := by decide +kernel
theorem wdI_node : wdI nodeW = 21 := by decide +kernel
def wAt (ws : List (List UInt8)) (i : Nat) : List UInt8 := ws[i]?.getD []
/-- what a line says -/
inductive Sd where
  | no
  | non
  | store (l : List UInt8)
  | one (i : Nat) (v : Int)
  | node (d : ND)
/-- what lines have said -/
structure PS where
  st : List UInt8
  x : Nat → Int
  ns : List ND
def okN (l : List UInt8) : Bool := decide (0 ≤ numV l)
def ndOk (ws : List (List UInt8)) (k : Nat) : Bool := decide (5 ≤ ws.length) && decide (wAt ws 2 = zoneW) && decide (wAt ws 4 = partsW) && decide (numV (wAt ws 1) = (k : Int)) && okN (wAt ws 3) && (ws.drop 5).all okN
def ndV (ws : List (List UInt8)) : ND := ⟨numV (wAt ws 3), (ws.drop 5).map numV⟩
def rdW (ws : List (List UInt8)) (k : Nat) : Sd :=
  if wAt ws 0 = nodeW then (if ndOk ws k = true then .node (ndV ws) else .no)
  else if ws.length ≠ 2 then .no
  else if wAt ws 0 = storeW then (if wAt ws 1 = [] then .no else .store (wAt ws 1))
  else if wdI (wAt ws 0) < 21 ∧ 0 ≤ numV (wAt ws 1) then .one (wdI (wAt ws 0)) (numV (wAt ws 1)) else .no
def rdL (l : List UInt8) (k : Nat) : Sd := if l = [] ∨ l.head? = some 35 then .non else rdW (splitL 32 [] l) k
def put1 (x : Nat → Int) (i : Nat) (y : Int) : Nat → Int := fun j => if j = i then y else x j
def stE (s : PS) : Sd → Int
  | .no => 60
  | .non => 0
  | .store _ => if s.st = [] then 0 else 61
  | .one i _ => if 0 ≤ s.x i then 61 else 0
  | .node _ => 0
def stN (s : PS) : Sd → PS
  | .no => s
  | .non => s
  | .store l => { s with st := l }
  | .one i v => { s with x := put1 s.x i v }
  | .node d => { s with ns := s.ns ++ [d] }
/-- a line's error, and what is said behind it -/
def lnE (s : PS) (l : List UInt8) : Int := stE s (rdL l s.ns.length)
def lnN (s : PS) (l : List UInt8) : PS := stN s (rdL l s.ns.length)
def ps0 : PS := ⟨[], fun _ => -1, []⟩
/-- behind the first q lines -/
def runS (L : List (List UInt8)) (q : Nat) : PS := (L.take q).foldl lnN ps0
theorem runS_zero (L : List (List UInt8)) : runS L 0 = ps0 := rfl
theorem runS_succ {L : List (List UInt8)} {q : Nat} (h : q < L.length) : runS L (q + 1) = lnN (runS L q) L[q] := by
  unfold runS
  rw [List.take_succ_eq_append_getElem h, List.foldl_append]
  rfl
/-- none of the first q lines is wrong -/
def FineL (L : List (List UInt8)) (q : Nat) : Prop := ∀ (j : Nat) (h : j < L.length), j < q → lnE (runS L j) L[j] = 0
theorem fine_zero (L : List (List UInt8)) : FineL L 0 := fun _ _ h => absurd h (Nat.not_lt_zero _)
theorem fine_succ {L : List (List UInt8)} {q : Nat} (hF : FineL L q) (h : q < L.length) (he : lnE (runS L q) L[q] = 0) : FineL L (q + 1) := fun j hj hq => by
  by_cases e : j = q
  · subst e; exact he
  · exact hF j hj (by omega)
/-- the first line that is wrong, if there is one (else how many there are) -/
def firstBad (L : List (List UInt8)) : Nat → Nat → Nat
  | 0, q => q
  | n + 1, q => match L[q]? with
    | none => q
    | some l => if lnE (runS L q) l = 0 then firstBad L n (q + 1) else q
def badAt (L : List (List UInt8)) : Nat := firstBad L L.length 0
theorem firstBad_is (L : List (List UInt8)) : ∀ (n q : Nat) (p : Nat), q ≤ p → p ≤ q + n → (∀ (j : Nat) (h : j < L.length), q ≤ j → j < p → lnE (runS L j) L[j] = 0) → (p = L.length ∨ ∃ h : p < L.length, lnE (runS L p) L[p] ≠ 0) → p ≤ L.length → firstBad L n q = p
  | 0, q, p, h1, h2, _, _, _ => by unfold firstBad; omega
  | n + 1, q, p, h1, h2, hF, hE, hp => by
    unfold firstBad
    by_cases e : q = p
    · subst e
      rcases hE with hE | ⟨hl, hE⟩
      · rw [List.getElem?_eq_none (by omega)]
      · rw [List.getElem?_eq_getElem hl]
        simp only
        rw [if_neg hE]
    · have hq : q < L.length := by omega
      rw [List.getElem?_eq_getElem hq]
      simp only
      rw [if_pos (hF q hq (Nat.le_refl _) (by omega))]
      exact firstBad_is L n (q + 1) p (by omega) (by omega) (fun j hj h1 h2 => hF j hj (by omega) h2) hE hp
theorem badAt_end {L : List (List UInt8)} (hF : FineL L L.length) : badAt L = L.length :=
  firstBad_is L L.length 0 L.length (Nat.zero_le _) (by omega) (fun j hj _ _ => hF j hj hj) (.inl rfl) (Nat.le_refl _)
theorem badAt_at {L : List (List UInt8)} {q : Nat} (h : q < L.length) (hF : FineL L q) (he : lnE (runS L q) L[q] ≠ 0) : badAt L = q :=
  firstBad_is L L.length 0 q (Nat.zero_le _) (by omega) (fun j hj _ hq => hF j hj hq) (.inr ⟨h, he⟩) (by omega)
/-- the error of the lines: 0: there is none -/
def lnsE (L : List (List UInt8)) : Int := match L[badAt L]? with
  | none => 0
  | some l => lnE (runS L (badAt L)) l
theorem lnsE_end {L : List (List UInt8)} (hF : FineL L L.length) : lnsE L = 0 := by
  unfold lnsE
  rw [badAt_end hF, List.getElem?_eq_none (Nat.le_refl _)]
theorem lnsE_at {L : List (List UInt8)} {q : Nat} (h : q < L.length) (hF : FineL L q) (he : lnE (runS L q) L[q] ≠ 0) : lnsE L = lnE (runS L q) L[q] := by
  unfold lnsE
  rw [badAt_at h hF he, List.getElem?_eq_getElem h]
def lackP (s : PS) : Bool := s.st.isEmpty || !(List.range 21).all fun i => decide (0 ≤ s.x i)
theorem index_no (c : UInt8) (s : List UInt8) (hc : c ∉ s) : Lib.index s [c] = -1 := by
  induction s with
  | nil => simp [Lib.index]
  | cons b l ih =>
    have hb : ¬ c = b := fun e => hc (by simp [e])
    have hl : c ∉ l := fun e => hc (by simp [e])
    rw [Lib.index, ih hl]
    have hne : ([c].isPrefixOf (b :: l)) = false := by simp [List.isPrefixOf, hb]
    rw [hne]
    simp
/-- one byte's strings.Split -/
theorem splitK_L (c : UInt8) : ∀ (k : Nat) (s : List UInt8), Lib.count s [c] ≤ k → Lib.splitK [c] 0 k s = splitL c [] s := by
  intro k
  induction k with
  | zero =>
    intro s h
    have hn : c ∉ s := by
      rw [Lib.count_one] at h
      exact List.count_eq_zero.1 (by omega)
    rw [splitL_none c s [] hn]
    rfl
  | succ k ih =>
    intro s h
    unfold Lib.splitK
    by_cases hc : c ∈ s
    · obtain ⟨a, r, rfl, ha⟩ := first_of c s hc
      rw [index_one c a r ha, if_neg (by simp), splitL_at c a r [] ha]
      have e1 : (a ++ c :: r).take ((a.length : Int).toNat + 0) = a := by simp
      have e2 : (a ++ c :: r).drop ((a.length : Int).toNat + [c].length) = r := by simp
      rw [e1, e2, ih r (by
        rw [Lib.count_one] at h ⊢
        have : a.count c = 0 := List.count_eq_zero.2 ha
        simp [List.count_append, this] at h
        omega)]
      rfl
    · have e : Lib.index s [c] = -1 := index_no c s hc
      rw [e, if_pos (by rfl), splitL_none c s [] hc]
      rfl
end Go.Proofs.YtanlnelfbfjelaaDoor
