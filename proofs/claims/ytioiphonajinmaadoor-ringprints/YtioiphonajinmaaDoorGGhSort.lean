import Derived.WalkKit
import Derived.Lib.AtoiAll
import Derived.Lib.ItoaNum
import Derived.Lib.IndexMore
import Derived.Test.YtioiphonajinmaaDoorGGmMod
import Derived.Shelf.Slices.Turned
import Derived.Shelf.Sort.Plain
import Derived.Shelf.Slices.In.SortNone
import Derived.Test.YtioiphonajinmaaDoorProg
import Derived.Test.YtioiphonajinmaaDoorGGmMade
namespace Go.Proofs.YtioiphonajinmaaDoor
/-- a name in its place -/
def insN (a : List UInt8) : List (List UInt8) → List (List UInt8)
  | [] => [a]
  | b :: l => if a < b then a :: b :: l else b :: insN a l
theorem insN_perm (a : List UInt8) : ∀ l, (insN a l).Perm (a :: l)
  | [] => List.Perm.refl _
  | b :: l => by
    unfold insN
    split
    · exact List.Perm.refl _
    · exact ((insN_perm a l).cons b).trans (List.Perm.swap a b l)
theorem insN_sorted (a : List UInt8) : ∀ l : List (List UInt8), l.Pairwise (· ≤ ·) → (insN a l).Pairwise (· ≤ ·)
  | [], _ => by simp [insN]
  | b :: l, h => by
    unfold insN
    obtain ⟨h1, h2⟩ := List.pairwise_cons.1 h
    split
    · rename_i hab
      refine List.pairwise_cons.2 ⟨fun c hc => ?_, h⟩
      have hb : a ≤ b := List.le_of_lt hab
      rcases List.mem_cons.1 hc with rfl | hc
      · exact hb
      · exact List.le_trans hb (h1 c hc)
    · rename_i hab
      refine List.pairwise_cons.2 ⟨fun c hc => ?_, insN_sorted a l h2⟩
      rcases List.mem_cons.1 ((insN_perm a l).mem_iff.1 hc) with rfl | hc
      · exact List.not_lt.1 hab
      · exact h1 c hc
/-- all names, each put in its place -/
def insA (l : List (List UInt8)) : List (List UInt8) := l.foldl (fun m a => insN a m) []
theorem insA_append (l : List (List UInt8)) (a : List UInt8) : insA (l ++ [a]) = insN a (insA l) := by simp [insA]
theorem fold_perm (l : List (List UInt8)) : ∀ m, (l.foldl (fun m a => insN a m) m).Perm (l ++ m) := by
  induction l with
  | nil => intro m; exact List.Perm.refl _
  | cons a l ih =>
    intro m
    rw [List.foldl_cons]
    refine (ih _).trans ?_
    refine ((insN_perm a m).append_left l).trans ?_
    exact List.perm_middle
theorem fold_sorted (l : List (List UInt8)) : ∀ m : List (List UInt8), m.Pairwise (· ≤ ·) → (l.foldl (fun m a => insN a m) m).Pairwise (· ≤ ·) := by
  induction l with
  | nil => intro m h; exact h
  | cons a l ih =>
    intro m h
    exact ih _ (insN_sorted a m h)
theorem eq_sorted : ∀ (a b : List (List UInt8)), a.Perm b → a.Pairwise (· ≤ ·) → b.Pairwise (· ≤ ·) → a = b
  | [], b, h, _, _ => (List.nil_perm.1 h).symm
  | x :: a, [], h, _, _ => absurd h.length_eq (by simp)
  | x :: a, y :: b, h, ha, hb => by
    obtain ⟨a1, a2⟩ := List.pairwise_cons.1 ha
    obtain ⟨b1, b2⟩ := List.pairwise_cons.1 hb
    have hx : x ≤ y := by
      rcases List.mem_cons.1 (h.mem_iff.2 (List.mem_cons_self ..)) with e | e
      · rw [e]; exact List.le_refl _
      · exact a1 y e
    have hy : y ≤ x := by
      rcases List.mem_cons.1 (h.mem_iff.1 (List.mem_cons_self ..)) with e | e
      · rw [e]; exact List.le_refl _
      · exact b1 x e
    obtain rfl := List.le_antisymm hx hy
    rw [eq_sorted a b h.cons_inv a2 b2]
theorem insA_sort (l : List (List UInt8)) : insA l = l.mergeSort fun x y => decide (x ≤ y) := by
  refine eq_sorted _ _ ?_ (fold_sorted l [] List.Pairwise.nil) ?_
  · refine (fold_perm l []).trans ?_
    rw [List.append_nil]
    exact (List.mergeSort_perm l _).symm
  · have := List.pairwise_mergeSort (le := fun x y : List UInt8 => decide (x ≤ y)) (fun a b c h1 h2 => decide_eq_true (List.le_trans (of_decide_eq_true h1) (of_decide_eq_true h2))) (fun a b => by
      rcases List.le_total a b with h | h
      · simp [h]
      · simp [h]) l
    exact this.imp fun h => of_decide_eq_true h
end Go.Proofs.YtioiphonajinmaaDoor
namespace Go.Proofs.YtioiphonajinmaaDoor
/-- a file: partition, replica, chunk, is it the data -/
abbrev FV := Nat × Nat × Nat × Bool
def dataW : List UInt8 := [100, 97, 116, 97]
def indexW : List UInt8 := [105, 110, 100, 101, 120]
def endW (d : Bool) : List UInt8 := if d then dataW else indexW
def dd (n : Nat) : List UInt8 := Lib.decDigits n
def dd2 (n : Nat) : List UInt8 := if n < 10 then [UInt8.ofNat (48 + n)] else [UInt8.ofNat (48 + n / 10), UInt8.ofNat (48 + n % 10)]
theorem dd_two {n : Nat} (h : n < 100) : dd n = dd2 n := by
  unfold dd dd2
  rw [Lib.decDigits]
  by_cases h1 : n < 10
  · rw [dif_pos h1, if_pos h1]
  · rw [dif_neg h1, if_neg h1, Lib.decDigits, dif_pos (by omega)]
    rfl
def fnL (f : FV) : List UInt8 := dd f.1 ++ 95 :: (dd f.2.1 ++ 95 :: (dd f.2.2.1 ++ 46 :: endW f.2.2.2))
def Val (f : FV) : Prop := f.1 < 64 ∧ f.2.1 < 16 ∧ f.2.2.1 < 16
/-- what Atoi answers -/
def av (l : List UInt8) : Int := match Lib.atoiAll l with
  | .ok v => v
  | .syntax => 0
  | .range => Lib.atoiSat l
/-- what the document's number answers -/
def digB (b : UInt8) : Bool := decide (48 ≤ b.toNat) && decide (b.toNat ≤ 57)
def numF (l : List UInt8) : Nat := l.foldl (fun n b => n * 10 + (b.toNat - 48)) 0
def numV (l : List UInt8) : Int := if l = [] ∨ 10 < l.length ∨ (l.head? = some 48 ∧ l ≠ [48]) then -1 else if l.all digB then (numF l : Int) else -1
theorem dd_facts : ∀ n : Fin 64, av (dd2 n.1) = (n.1 : Int) ∧ numV (dd2 n.1) = (n.1 : Int) ∧ (95 : UInt8) ∉ dd2 n.1 ∧ (46 : UInt8) ∉ dd2 n.1 ∧ (dd2 n.1).length ≤ 2 ∧ dd2 n.1 ≠ [] := by decide +kernel
theorem av_dd {n : Nat} (h : n < 64) : av (dd n) = (n : Int) := by rw [dd_two (by omega)]; exact (dd_facts ⟨n, h⟩).1
theorem numV_dd {n : Nat} (h : n < 64) : numV (dd n) = (n : Int) := by rw [dd_two (by omega)]; exact (dd_facts ⟨n, h⟩).2.1
theorem dd_no95 {n : Nat} (h : n < 64) : (95 : UInt8) ∉ dd n := by rw [dd_two (by omega)]; exact (dd_facts ⟨n, h⟩).2.2.1
theorem dd_no46 {n : Nat} (h : n < 64) : (46 : UInt8) ∉ dd n := by rw [dd_two (by omega)]; exact (dd_facts ⟨n, h⟩).2.2.2.1
theorem dd_len {n : Nat} (h : n < 64) : (dd n).length ≤ 2 := by rw [dd_two (by omega)]; exact (dd_facts ⟨n, h⟩).2.2.2.2.1
theorem dd_ne {n : Nat} (h : n < 64) : dd n ≠ [] := by rw [dd_two (by omega)]; exact (dd_facts ⟨n, h⟩).2.2.2.2.2
theorem dd_len16 {n : Nat} (h : n < 16) : (dd n).length ≤ 2 := dd_len (by omega)
theorem endW_ne (d : Bool) : endW d ≠ [] := by cases d <;> decide
theorem endW_data (d : Bool) : decide (endW d = dataW) = d := by cases d <;> decide
theorem endW_no46 (d : Bool) : (46 : UInt8) ∉ endW d := by cases d <;> decide
theorem endW_no95 (d : Bool) : (95 : UInt8) ∉ endW d := by cases d <;> decide
theorem endW_len (d : Bool) : (endW d).length ≤ 5 := by cases d <;> decide
theorem fnL_len {f : FV} (h : Val f) : (fnL f).length ≤ 14 := by
  have h1 := dd_len h.1
  have h2 := dd_len16 h.2.1
  have h3 := dd_len16 h.2.2
  have h4 := endW_len f.2.2.2
  unfold fnL
  simp only [List.length_append, List.length_cons]
  omega
theorem fnL_ne (f : FV) : fnL f ≠ [] := by unfold fnL; simp
theorem index_one (c : UInt8) : ∀ (a r : List UInt8), c ∉ a → Lib.index (a ++ c :: r) [c] = (a.length : Int) := by
  intro a
  induction a with
  | nil => intro r _; simp [Lib.index]
  | cons b l ih =>
    intro r h
    have hb : ¬ c = b := fun e => h (by simp [e])
    have hl : c ∉ l := fun e => h (by simp [e])
    have := ih r hl
    rw [List.cons_append, Lib.index, this]
    have hne : ([c].isPrefixOf (b :: (l ++ c :: r))) = false := by simp [List.isPrefixOf, hb]
    rw [hne]
    simp only [Bool.false_eq_true, if_false, beq_iff_eq]
    rw [if_neg (by omega)]
    simp
theorem cut_at (c : UInt8) (a r : List UInt8) (h : c ∉ a) : Lib.cut (a ++ c :: r) [c] = (a, r, true) := by
  unfold Lib.cut
  rw [index_one c a r h, if_pos (by omega)]
  simp
theorem first_of (c : UInt8) (s : List UInt8) (hc : c ∈ s) : ∃ a r, s = a ++ c :: r ∧ c ∉ a := by
  induction s with
  | nil => cases hc
  | cons b l ih =>
    by_cases hb : b = c
    · exact ⟨[], l, by simp [hb], by simp⟩
    · have hl : c ∈ l := by
        rcases List.mem_cons.1 hc with h | h
        · exact absurd h.symm hb
        · exact h
      obtain ⟨a, r, e, hn⟩ := ih hl
      refine ⟨b :: a, r, by simp [e], fun h => ?_⟩
      rcases List.mem_cons.1 h with h | h
      · exact hb h.symm
      · exact hn h
theorem cut_way (c : UInt8) (s : List UInt8) : Lib.cut s [c] = (s, [], false) ∨ ∃ a r, s = a ++ c :: r ∧ Lib.cut s [c] = (a, r, true) := by
  by_cases hc : c ∈ s
  · right
    obtain ⟨a, r, e, hn⟩ := first_of c s hc
    exact ⟨a, r, e, by rw [e]; exact cut_at c a r hn⟩
  · left
    unfold Lib.cut
    have : Lib.index s [c] = -1 := by
      induction s with
      | nil => simp [Lib.index]
      | cons b l ih =>
        have hb : ¬ c = b := fun e => hc (by simp [e])
        have hl : c ∉ l := fun e => hc (by simp [e])
        rw [Lib.index, ih hl]
        have hne : ([c].isPrefixOf (b :: l)) = false := by simp [List.isPrefixOf, hb]
        rw [hne]
        simp
    rw [this]
    simp
/-- the words of a name -/
def wds (s : List UInt8) : List UInt8 × List UInt8 × List UInt8 × List UInt8 :=
  ((Lib.cut s [95]).1, (Lib.cut (Lib.cut s [95]).2.1 [95]).1, (Lib.cut (Lib.cut (Lib.cut s [95]).2.1 [95]).2.1 [46]).1, (Lib.cut (Lib.cut (Lib.cut s [95]).2.1 [95]).2.1 [46]).2.1)
def isVal (p r c : Int) : Bool := decide (0 ≤ p ∧ p < 64 ∧ 0 ≤ r ∧ r < 16 ∧ 0 ≤ c ∧ c < 16)
/-- what the program's ReadName reads -/
def readP (s : List UInt8) : Option FV :=
  if isVal (av (wds s).1) (av (wds s).2.1) (av (wds s).2.2.1) = true ∧ dd (av (wds s).1).toNat = (wds s).1 ∧ dd (av (wds s).2.1).toNat = (wds s).2.1 ∧ dd (av (wds s).2.2.1).toNat = (wds s).2.2.1 ∧ endW (decide ((wds s).2.2.2 = dataW)) = (wds s).2.2.2
  then some ((av (wds s).1).toNat, (av (wds s).2.1).toNat, (av (wds s).2.2.1).toNat, decide ((wds s).2.2.2 = dataW)) else none
theorem wds_fnL {f : FV} (h : Val f) : wds (fnL f) = (dd f.1, dd f.2.1, dd f.2.2.1, endW f.2.2.2) := by
  obtain ⟨h1, h2, h3⟩ := h
  have e1 : Lib.cut (fnL f) [95] = (dd f.1, dd f.2.1 ++ 95 :: (dd f.2.2.1 ++ 46 :: endW f.2.2.2), true) := cut_at _ _ _ (dd_no95 h1)
  unfold wds
  rw [e1]
  simp only
  rw [cut_at _ _ _ (dd_no95 (by omega))]
  simp only
  rw [cut_at _ _ _ (dd_no46 (by omega))]
theorem wds_back (s : List UInt8) (h2 : (wds s).2.1 ≠ []) (h3 : (wds s).2.2.1 ≠ []) (h4 : (wds s).2.2.2 ≠ []) : s = (wds s).1 ++ 95 :: ((wds s).2.1 ++ 95 :: ((wds s).2.2.1 ++ 46 :: (wds s).2.2.2)) := by
  unfold wds at *
  rcases cut_way 95 s with e | ⟨a, r, e, e'⟩
  · rw [e] at h2; exact absurd (by simp [Lib.cut, Lib.index]) h2
  rw [e'] at h2 h3 h4 ⊢
  simp only at h2 h3 h4 ⊢
  rcases cut_way 95 r with g | ⟨a2, r2, g, g'⟩
  · rw [g] at h3; exact absurd (by simp [Lib.cut, Lib.index]) h3
  rw [g'] at h2 h3 h4 ⊢
  simp only at h2 h3 h4 ⊢
  rcases cut_way 46 r2 with k | ⟨a3, r3, k, k'⟩
  · rw [k] at h4; exact absurd rfl h4
  rw [k']
  simp only
  rw [e, g, k]
theorem readP_spec (s : List UInt8) (f : FV) : readP s = some f ↔ Val f ∧ fnL f = s := by
  constructor
  · intro h
    unfold readP at h
    split at h
    · rename_i hc
      obtain ⟨h1, h2, h3, h4, h5⟩ := hc
      unfold isVal at h1
      have h1 := of_decide_eq_true h1
      obtain rfl := Option.some.inj h
      refine ⟨⟨by simp only; omega, by simp only; omega, by simp only; omega⟩, ?_⟩
      unfold fnL
      simp only
      rw [h2, h3, h4, h5]
      exact (wds_back s (by rw [← h3]; exact dd_ne (by omega)) (by rw [← h4]; exact dd_ne (by omega)) (by rw [← h5]; exact endW_ne _)).symm
    · cases h
  · rintro ⟨hv, rfl⟩
    have hw := wds_fnL hv
    obtain ⟨h1, h2, h3⟩ := hv
    unfold readP
    rw [hw]
    simp only
    rw [av_dd h1, av_dd (by omega : f.2.1 < 64), av_dd (by omega : f.2.2.1 < 64), endW_data]
    rw [if_pos]
    · simp
    · refine ⟨by unfold isVal; exact decide_eq_true (by omega), by simp, by simp, by simp, rfl⟩
/-- the document's split -/
def splitL (c : UInt8) : List UInt8 → List UInt8 → List (List UInt8)
  | cur, [] => [cur]
  | cur, b :: l => if b = c then cur :: splitL c [] l else splitL c (cur ++ [b]) l
theorem splitL_at (c : UInt8) : ∀ (a r cur : List UInt8), c ∉ a → splitL c cur (a ++ c :: r) = (cur ++ a) :: splitL c [] r := by
  intro a
  induction a with
  | nil => intro r cur _; simp [splitL]
  | cons b l ih =>
    intro r cur h
    have hb : ¬ b = c := fun e => h (by simp [e])
    have hl : c ∉ l := fun e => h (by simp [e])
    rw [List.cons_append, splitL, if_neg hb, ih r (cur ++ [b]) hl]
    simp
theorem splitL_none (c : UInt8) : ∀ (a cur : List UInt8), c ∉ a → splitL c cur a = [cur ++ a] := by
  intro a
  induction a with
  | nil => intro cur _; simp [splitL]
  | cons b l ih =>
    intro cur h
    have hb : ¬ b = c := fun e => h (by simp [e])
    have hl : c ∉ l := fun e => h (by simp [e])
    rw [splitL, if_neg hb, ih (cur ++ [b]) hl]
    simp
theorem splitL_pos (c : UInt8) : ∀ (a cur : List UInt8), 0 < (splitL c cur a).length := by
  intro a
  induction a with
  | nil => intro cur; simp [splitL]
  | cons b l ih =>
    intro cur
    rw [splitL]
    split
    · simp
    · exact ih _
/-- what the document's ReadName reads -/
def sW (s : List UInt8) : List (List UInt8) := splitL 46 [] s
def sN (s : List UInt8) : List (List UInt8) := splitL 95 [] ((sW s).getD 0 [])
def readD (s : List UInt8) : Option FV :=
  if s.length ≤ 14 ∧ (sW s).length = 2 ∧ (sN s).length = 3 ∧ isVal (numV ((sN s).getD 0 [])) (numV ((sN s).getD 1 [])) (numV ((sN s).getD 2 [])) = true ∧ fnL ((numV ((sN s).getD 0 [])).toNat, (numV ((sN s).getD 1 [])).toNat, (numV ((sN s).getD 2 [])).toNat, decide ((sW s).getD 1 [] = dataW)) = s
  then some ((numV ((sN s).getD 0 [])).toNat, (numV ((sN s).getD 1 [])).toNat, (numV ((sN s).getD 2 [])).toNat, decide ((sW s).getD 1 [] = dataW)) else none
theorem sW_fnL {f : FV} (h : Val f) : sW (fnL f) = [dd f.1 ++ 95 :: (dd f.2.1 ++ 95 :: dd f.2.2.1), endW f.2.2.2] := by
  obtain ⟨h1, h2, h3⟩ := h
  unfold sW fnL
  have e : dd f.1 ++ 95 :: (dd f.2.1 ++ 95 :: (dd f.2.2.1 ++ 46 :: endW f.2.2.2)) = (dd f.1 ++ 95 :: (dd f.2.1 ++ 95 :: dd f.2.2.1)) ++ 46 :: endW f.2.2.2 := by simp
  rw [e, splitL_at, splitL_none 46 _ _ (endW_no46 _)]
  · simp
  · simp only [List.mem_append, List.mem_cons, not_or]
    exact ⟨dd_no46 h1, by decide, dd_no46 (by omega), by decide, dd_no46 (by omega)⟩
theorem sN_fnL {f : FV} (h : Val f) : sN (fnL f) = [dd f.1, dd f.2.1, dd f.2.2.1] := by
  unfold sN
  rw [sW_fnL h]
  obtain ⟨h1, h2, h3⟩ := h
  simp only [List.getD_cons_zero]
  rw [splitL_at _ _ _ _ (dd_no95 h1), splitL_at _ _ _ _ (dd_no95 (by omega)), splitL_none _ _ _ (dd_no95 (by omega))]
  simp
theorem readD_spec (s : List UInt8) (f : FV) : readD s = some f ↔ Val f ∧ fnL f = s := by
  constructor
  · intro h
    unfold readD at h
    split at h
    · rename_i hc
      obtain ⟨h1, h2, h3, h4, h5⟩ := hc
      unfold isVal at h4
      have h4 := of_decide_eq_true h4
      obtain rfl := Option.some.inj h
      exact ⟨⟨by simp only; omega, by simp only; omega, by simp only; omega⟩, h5⟩
    · cases h
  · rintro ⟨hv, rfl⟩
    have hw := sW_fnL hv
    have hn := sN_fnL hv
    have hl := fnL_len hv
    obtain ⟨h1, h2, h3⟩ := hv
    unfold readD
    rw [hw, hn]
    have g0 : numV ([dd f.1, dd f.2.1, dd f.2.2.1].getD 0 []) = (f.1 : Int) := numV_dd h1
    have g1 : numV ([dd f.1, dd f.2.1, dd f.2.2.1].getD 1 []) = (f.2.1 : Int) := numV_dd (by omega)
    have g2 : numV ([dd f.1, dd f.2.1, dd f.2.2.1].getD 2 []) = (f.2.2.1 : Int) := numV_dd (by omega)
    have g3 : decide ([dd f.1 ++ 95 :: (dd f.2.1 ++ 95 :: dd f.2.2.1), endW f.2.2.2].getD 1 [] = dataW) = f.2.2.2 := endW_data _
    rw [g0, g1, g2, g3, Int.toNat_natCast, Int.toNat_natCast, Int.toNat_natCast]
    refine if_pos ?_
    exact ⟨hl, rfl, rfl, by unfold isVal; exact decide_eq_true (by omega), rfl⟩
theorem readP_D (s : List UInt8) : readP s = readD s := Option.ext fun f => by rw [readP_spec, readD_spec]
end Go.Proofs.YtioiphonajinmaaDoor
namespace Go.Proofs.YtioiphonajinmaaDoor
/-- the replicas of p that a node has, among owners from r on -/
def hdF (node : Int) (p : Nat) : Nat → List Int → List (Nat × Nat)
  | _, [] => []
  | r, a :: l => if a = node then (p, r) :: hdF node p (r + 1) l else hdF node p (r + 1) l
theorem hdF_append (node : Int) (p : Nat) (a : Int) : ∀ (r : Nat) (l : List Int), hdF node p r (l ++ [a]) = hdF node p r l ++ (if a = node then [(p, r + l.length)] else [])
  | r, [] => by
    simp only [List.nil_append, hdF, List.length_nil, Nat.add_zero]
  | r, b :: l => by
    simp only [List.cons_append, hdF, hdF_append node p a (r + 1) l, List.length_cons]
    rw [show r + 1 + l.length = r + (l.length + 1) by omega]
    by_cases e : b = node
    · rw [if_pos e, if_pos e, List.cons_append]
    · rw [if_neg e, if_neg e]
theorem hdF_take {node : Int} {p : Nat} {l : List Int} {q : Nat} (h : q < l.length) : hdF node p 0 (l.take (q + 1)) = hdF node p 0 (l.take q) ++ (if l[q] = node then [(p, q)] else []) := by
  rw [List.take_succ_eq_append_getElem h, hdF_append, List.length_take, Nat.zero_add, Nat.min_eq_left (by omega)]
theorem hdF_none {node : Int} {p : Nat} : ∀ {r : Nat} {l : List Int}, node ∉ l → hdF node p r l = []
  | r, [], _ => rfl
  | r, b :: l, h => by
    simp only [List.mem_cons, not_or] at h
    simp only [hdF]
    rw [if_neg (fun e => h.1 e.symm), hdF_none h.2]
/-- owners that are all different: one replica at most -/
theorem hdF_one {node : Int} {p : Nat} : ∀ {r : Nat} {l : List Int} {i : Nat} (h : i < l.length), l.Pairwise (· ≠ ·) → l[i] = node → hdF node p r l = [(p, r + i)]
  | r, b :: l, 0, h, hp, e => by
    simp only [List.getElem_cons_zero] at e
    subst e
    simp only [hdF, if_true, Nat.add_zero]
    rw [hdF_none fun hm => (List.pairwise_cons.1 hp).1 b hm rfl]
  | r, b :: l, i + 1, h, hp, e => by
    simp only [List.getElem_cons_succ] at e
    have hi : i < l.length := by simpa using h
    have hb : b ≠ node := fun eb => (List.pairwise_cons.1 hp).1 node (e ▸ List.getElem_mem hi) eb
    simp only [hdF]
    rw [if_neg hb, hdF_one hi (List.pairwise_cons.1 hp).2 e, show r + 1 + i = r + (i + 1) by omega]
theorem wkL_diff {ns : List ND} {P f : Nat} (i : Nat) : (owL ns (wkL ns P f i)).Pairwise (· ≠ ·) := by
  induction i with
  | zero => simp [wkL, owL]
  | succ i ih =>
    cases h : frsh ns P f i with
    | false => rw [wkL_no h]; exact ih
    | true =>
      rw [wkL_yes h]
      unfold owL at *
      rw [List.map_append, List.pairwise_append]
      refine ⟨ih, by simp, fun a ha b hb => ?_⟩
      obtain ⟨p, hp, rfl⟩ := List.mem_map.1 ha
      simp at hb
      subst hb
      exact frsh_taken.1 h p hp
theorem wk_diff (x : Nat → Int) (ns : List ND) (p : Int) : (owL ns (wk x ns p)).Pairwise (· ≠ ·) := by
  unfold wk wkR
  have := wkL_diff (ns := ns) (P := ptN ns) (f := p.toNat) (ptN ns)
  unfold owL at *
  rw [List.map_take]
  exact this.sublist (List.take_sublist _ _)
/-- a node's slots of the first q partitions -/
def hdL (x : Nat → Int) (ns : List ND) (node : Int) (q : Nat) : List (Nat × Nat) := (List.range q).flatMap fun p => hdF node p 0 (owL ns (wk x ns (p : Int)))
theorem hdL_0 (x : Nat → Int) (ns : List ND) (node : Int) : hdL x ns node 0 = [] := rfl
theorem hdL_succ (x : Nat → Int) (ns : List ND) (node : Int) (q : Nat) : hdL x ns node (q + 1) = hdL x ns node q ++ hdF node q 0 (owL ns (wk x ns (q : Int))) := by
  unfold hdL
  rw [List.range_succ, List.flatMap_append]
  simp
theorem hdF_len {node : Int} {p r : Nat} {l : List Int} (h : l.Pairwise (· ≠ ·)) : (hdF node p r l).length ≤ 1 := by
  by_cases hm : node ∈ l
  · obtain ⟨i, hi, e⟩ := List.getElem_of_mem hm
    rw [hdF_one hi h e]
    exact Nat.le_refl _
  · rw [hdF_none hm]
    exact Nat.zero_le _
theorem hdL_len (x : Nat → Int) (ns : List ND) (node : Int) (q : Nat) : (hdL x ns node q).length ≤ q := by
  induction q with
  | zero => exact Nat.le_refl _
  | succ q ih =>
    rw [hdL_succ, List.length_append]
    have := hdF_len (node := node) (p := q) (r := 0) (wk_diff x ns (q : Int))
    omega
theorem hdF_mem {node : Int} {p : Nat} : ∀ {r : Nat} {l : List Int} {s : Nat × Nat}, s ∈ hdF node p r l → s.1 = p ∧ s.2 < r + l.length
  | r, [], s, h => by simp [hdF] at h
  | r, b :: l, s, h => by
    simp only [hdF] at h
    split at h
    · rcases List.mem_cons.1 h with rfl | h
      · exact ⟨rfl, by simp⟩
      · have := hdF_mem h
        exact ⟨this.1, by simp; omega⟩
    · have := hdF_mem h
      exact ⟨this.1, by simp; omega⟩
theorem hdL_mem {x : Nat → Int} {ns : List ND} {node : Int} {q : Nat} (h16 : x 0 ≤ 16) {s : Nat × Nat} (h : s ∈ hdL x ns node q) : s.1 < q ∧ s.2 < 16 := by
  unfold hdL at h
  obtain ⟨p, hp, hs⟩ := List.mem_flatMap.1 h
  have := hdF_mem hs
  refine ⟨by rw [this.1]; exact List.mem_range.1 hp, ?_⟩
  have h2 := this.2
  rw [owL_len] at h2
  have : (wk x ns (p : Int)).length ≤ (x 0).toNat := by
    unfold wk wkR
    rw [List.length_take]
    omega
  omega
/-- the names of a slot's files, of the first k chunks -/
def fl1 (s : Nat × Nat) (k : Nat) : List (List UInt8) := (List.range k).flatMap fun c => [fnL (s.1, s.2, c, false), fnL (s.1, s.2, c, true)]
theorem fl1_succ (s : Nat × Nat) (k : Nat) : fl1 s (k + 1) = fl1 s k ++ [fnL (s.1, s.2, k, false), fnL (s.1, s.2, k, true)] := by
  unfold fl1
  rw [List.range_succ, List.flatMap_append]
  simp
theorem fl1_len (s : Nat × Nat) (k : Nat) : (fl1 s k).length = 2 * k := by
  induction k with
  | zero => rfl
  | succ k ih => rw [fl1_succ, List.length_append, ih]; simp; omega
/-- the names of all slots' files -/
def flL (l : List (Nat × Nat)) (k : Nat) : List (List UInt8) := l.flatMap fun s => fl1 s k
theorem flL_take {l : List (Nat × Nat)} {k q : Nat} (h : q < l.length) : flL (l.take (q + 1)) k = flL (l.take q) k ++ fl1 l[q] k := by
  unfold flL
  rw [List.take_succ_eq_append_getElem h, List.flatMap_append]
  simp
theorem flL_len (l : List (Nat × Nat)) (k : Nat) : (flL l k).length = l.length * (2 * k) := by
  unfold flL
  induction l with
  | nil => simp
  | cons s l ih => rw [List.flatMap_cons, List.length_append, fl1_len, ih, List.length_cons, Nat.add_mul, Nat.one_mul, Nat.add_comm]
end Go.Proofs.YtioiphonajinmaaDoor
namespace Go.Proofs
open Go.Shelf Go.RowKit
def Tryd.lays108_ren : Go.Shelf.Ren := ⟨fun | 108 => 46 | n => n, fun | 28 => 22 | 3 => 3 | 0 => 0 | 4 => 4 | n => n, fun | n => n⟩
theorem Tryd.lays108 : Go.Proofs.Lays.n108 Tryd.prog Tryd.lays108_ren := {
  mixed := by kernel_rfl
  f108 := Tryd.func46.trans (congrArg some (by kernel_rfl))
  t0 := Tryd.underlying0
  a0 := Tryd.isAgg0
  z0 := Tryd.sizeOf0
  v0 := Tryd.zeroValue0
  t3 := Tryd.underlying3
  a3 := Tryd.isAgg3
  z3 := Tryd.sizeOf3
  v3 := Tryd.zeroValue3
  t4 := Tryd.underlying4
  a4 := Tryd.isAgg4
  z4 := Tryd.sizeOf4
  v4 := Tryd.zeroValue4
  t28 := Tryd.underlying22
  a28 := Tryd.isAgg22
  z28 := Tryd.sizeOf22
  v28 := Tryd.zeroValue22 }
open Go.Lib in

theorem Tryd.slices_Index_int (b off n c : Nat) (zs : List Int) (x : Int) (w : World) (hz : n ≤ zs.length) (hbig : n ≤ 9223372036854775807) (hc : ∀ j, j < zs.length → w.cell? ⟨b, off + j, none⟩ = some (.int .i64 (zs.getD j 0))) :
    Calls Tryd.prog 46 #[.slice (some ⟨b, off, none⟩) n c, .int .i64 x] w fun e w' => e = .returned (.int .i64 (Lib.idxOf (zs.take n) x)) ∧ w' = w := Any.slices_Index_int Tryd.lays108 b off n c zs x w hz hbig hc
open Go.Lib in

def Tryd.lays190_ren : Go.Shelf.Ren := ⟨fun | 190 => 50 | 125 => 74 | 258 => 73 | 128 => 98 | 129 => 99 | 302 => 89 | 303 => 90 | 304 => 91 | 305 => 92 | 306 => 93 | 307 => 94 | 308 => 95 | 309 => 96 | 310 => 97 | 333 => 113 | 329 => 114 | 330 => 115 | 334 => 116 | 335 => 117 | 336 => 118 | 344 => 124 | n => n, fun | 31 => 61 | 9 => 9 | 3 => 3 | 46 => 125 | 0 => 0 | 51 => 74 | 53 => 129 | 4 => 4 | 183 => 159 | 182 => 158 | 131 => 163 | 5 => 5 | 218 => 183 | 222 => 96 | 228 => 193 | 229 => 194 | n => n, fun | n => n⟩
theorem Tryd.lays190 : Go.Proofs.Lays.n190 Tryd.prog Tryd.lays190_ren := {
  mixed := by kernel_rfl
  f125 := Tryd.func74.trans (congrArg some (by kernel_rfl))
  f128 := Tryd.func98.trans (congrArg some (by kernel_rfl))
  f129 := Tryd.func99.trans (congrArg some (by kernel_rfl))
  f190 := Tryd.func50.trans (congrArg some (by kernel_rfl))
  f258 := Tryd.func73.trans (congrArg some (by kernel_rfl))
  f302 := Tryd.func89.trans (congrArg some (by kernel_rfl))
  f303 := Tryd.func90.trans (congrArg some (by kernel_rfl))
  f304 := Tryd.func91.trans (congrArg some (by kernel_rfl))
  f305 := Tryd.func92.trans (congrArg some (by kernel_rfl))
  f306 := Tryd.func93.trans (congrArg some (by kernel_rfl))
  f307 := Tryd.func94.trans (congrArg some (by kernel_rfl))
  f308 := Tryd.func95.trans (congrArg some (by kernel_rfl))
  f309 := Tryd.func96.trans (congrArg some (by kernel_rfl))
  f310 := Tryd.func97.trans (congrArg some (by kernel_rfl))
  f329 := Tryd.func114.trans (congrArg some (by kernel_rfl))
  f330 := Tryd.func115.trans (congrArg some (by kernel_rfl))
  f333 := Tryd.func113.trans (congrArg some (by kernel_rfl))
  f334 := Tryd.func116.trans (congrArg some (by kernel_rfl))
  f335 := Tryd.func117.trans (congrArg some (by kernel_rfl))
  f336 := Tryd.func118.trans (congrArg some (by kernel_rfl))
  f344 := Tryd.func124.trans (congrArg some (by kernel_rfl))
  t0 := Tryd.underlying0
  a0 := Tryd.isAgg0
  z0 := Tryd.sizeOf0
  v0 := Tryd.zeroValue0
  t3 := Tryd.underlying3
  a3 := Tryd.isAgg3
  z3 := Tryd.sizeOf3
  v3 := Tryd.zeroValue3
  t4 := Tryd.underlying4
  a4 := Tryd.isAgg4
  z4 := Tryd.sizeOf4
  v4 := Tryd.zeroValue4
  t5 := Tryd.underlying5
  a5 := Tryd.isAgg5
  z5 := Tryd.sizeOf5
  v5 := Tryd.zeroValue5
  t9 := Tryd.underlying9
  a9 := Tryd.isAgg9
  z9 := Tryd.sizeOf9
  v9 := Tryd.zeroValue9
  t31 := Tryd.underlying61
  a31 := Tryd.isAgg61
  z31 := Tryd.sizeOf61
  v31 := Tryd.zeroValue61
  t46 := Tryd.underlying125
  a46 := Tryd.isAgg125
  z46 := Tryd.sizeOf125
  v46 := Tryd.zeroValue125
  t51 := Tryd.underlying74
  a51 := Tryd.isAgg74
  z51 := Tryd.sizeOf74
  v51 := Tryd.zeroValue74
  t53 := Tryd.underlying129
  a53 := Tryd.isAgg129
  z53 := Tryd.sizeOf129
  v53 := Tryd.zeroValue129
  t131 := Tryd.underlying163
  a131 := Tryd.isAgg163
  z131 := Tryd.sizeOf163
  v131 := Tryd.zeroValue163
  t182 := Tryd.underlying158
  a182 := Tryd.isAgg158
  z182 := Tryd.sizeOf158
  v182 := Tryd.zeroValue158
  t183 := Tryd.underlying159
  a183 := Tryd.isAgg159
  z183 := Tryd.sizeOf159
  v183 := Tryd.zeroValue159
  t218 := Tryd.underlying183
  a218 := Tryd.isAgg183
  z218 := Tryd.sizeOf183
  v218 := Tryd.zeroValue183
  t222 := Tryd.underlying96
  a222 := Tryd.isAgg96
  z222 := Tryd.sizeOf96
  v222 := Tryd.zeroValue96
  t228 := Tryd.underlying193
  a228 := Tryd.isAgg193
  z228 := Tryd.sizeOf193
  v228 := Tryd.zeroValue193
  t229 := Tryd.underlying194
  a229 := Tryd.isAgg194
  z229 := Tryd.sizeOf194
  v229 := Tryd.zeroValue194 }
open Go.Sort Go.RowKit in
theorem Tryd.slices_Sort_string (blk off cap : Nat) (ss : List (List UInt8)) (w : World) (hH : Holds encStr w blk off ss.toArray) (hblk : blk < w.heap.size) (hsz : ss.length < 4611686018427387904) :
    Calls Tryd.prog 50 #[.slice (some ⟨blk, off, none⟩) ss.length cap] w fun e w' =>
      e = .returned (.tuple #[]) ∧ ∃ n os, w' = grow (putRow encStr (Sort.ahead w n) blk off (ss.mergeSort fun x y => decide (x ≤ y)).toArray) os := Any.slices_Sort_string Tryd.lays190 blk off cap ss w hH hblk hsz
theorem Tryd.slices_Sort_string_none (p : Option Addr) (cap : Nat) (w : World) :
    Calls Tryd.prog 50 #[.slice p 0 cap] w fun e w' => e = .returned (.tuple #[]) ∧ w' = w := Any.slices_Sort_string_none Tryd.lays190 p cap w
end Go.Proofs
namespace Go.Proofs.YtioiphonajinmaaDoor
open Go.RowKit
theorem idx_way (L : List Int) (node : Int) : (node ∉ L ∧ Lib.idxOf (L.take L.length) node = -1) ∨ ∃ i, ∃ h : i < L.length, L[i] = node ∧ Lib.idxOf (L.take L.length) node = (i : Int) := by
  by_cases hm : node ∈ L
  · have hx : L.findIdx (fun a => a == node) < L.length := List.findIdx_lt_length_of_exists ⟨node, hm, by simp⟩
    have he : L[L.findIdx (fun a => a == node)] = node := by simpa using List.findIdx_getElem (w := hx)
    refine Or.inr ⟨_, hx, he, Lib.idxOf_hit L L.length _ node hx (Nat.le_refl _) (by rw [List.getD_eq_getElem?_getD, List.getElem?_eq_getElem hx]; exact he) fun j hj => ?_⟩
    have := List.not_of_lt_findIdx hj
    rw [List.getD_eq_getElem?_getD, List.getElem?_eq_getElem (by omega)]
    simpa using this
  · refine Or.inl ⟨hm, Lib.idxOf_miss L L.length node fun j hj e => hm ?_⟩
    rw [List.getD_eq_getElem?_getD, List.getElem?_eq_getElem hj] at e
    rw [← e]
    exact List.getElem_mem hj
/-- slots, as they lie there -/
def slc (l : List (Nat × Nat)) : List Value := l.flatMap fun s => [.int .i64 (s.1 : Int), .int .i64 (s.2 : Int)]
theorem slc_len (l : List (Nat × Nat)) : (slc l).length = l.length * 2 := by
  unfold slc
  induction l with
  | nil => rfl
  | cons s l ih => simp only [List.flatMap_cons, List.length_append, ih, List.length_cons, List.length_nil]; omega
theorem slc_append (a b : List (Nat × Nat)) : slc (a ++ b) = slc a ++ slc b := List.flatMap_append
theorem slc_at : ∀ (l : List (Nat × Nat)) (q : Nat) (h : q < l.length), (slc l)[q * 2]? = some (.int .i64 (l[q].1 : Int)) ∧ (slc l)[q * 2 + 1]? = some (.int .i64 (l[q].2 : Int))
  | [], q, h => absurd h (by simp)
  | s :: l, 0, _ => by simp [slc]
  | s :: l, q + 1, h => by
    have ih := slc_at l q (by simpa using h)
    rw [show (q + 1) * 2 = q * 2 + 1 + 1 by omega]
    simpa [slc] using ih
theorem slo_cells (w : World) (p r : Nat) : ∀ j u, (slc [(p, r)])[j]? = some u → (w.alloc (.cells #[.int .i64 (p : Int), .int .i64 (r : Int)] 109)).cell? ((⟨w.heap.size, 0, none⟩ : Addr).add j) = some u := by
  intro j u hj
  have e := heap_last w (.cells #[.int .i64 (p : Int), .int .i64 (r : Int)] 109)
  match j, hj with
  | 0, hj => simp [slc] at hj; subst hj; rw [add_pl]; unfold World.cell?; rw [e]; rfl
  | 1, hj => simp [slc] at hj; subst hj; rw [add_pl]; unfold World.cell?; rw [e]; rfl
  | (j + 2), hj => simp [slc] at hj
theorem sl_one (l : List (Nat × Nat)) : ∀ u ∈ slc l, u.oneCell' = true := by
  intro u hu
  unfold slc at hu
  obtain ⟨s, _, hs⟩ := List.mem_flatMap.1 hu
  simp at hs
  rcases hs with rfl | rfl <;> rfl
theorem infoSl : (Tryd.prog.info? 109).map (fun i => (i.zero, i.size, i.bytes)) = some (some (.agg #[.int .i64 0, .int .i64 0]), 2, 16) := by kernel_rfl
/-- the error of Holds -/
noncomputable def hdE (st : ByteArray) (x : Nat → Int) (ns : List ND) (node : Int) : Int := if errP st x ns = 0 then (if node < 0 ∨ (ns.length : Int) ≤ node then 68 else 0) else errP st x ns
theorem hdE_bad {st : ByteArray} {x : Nat → Int} {ns : List ND} {node : Int} (h : errP st x ns ≠ 0) : hdE st x ns node = errP st x ns := if_neg h
theorem hdE_node {st : ByteArray} {x : Nat → Int} {ns : List ND} {node : Int} (h : errP st x ns = 0) (hp : node < 0 ∨ (ns.length : Int) ≤ node) : hdE st x ns node = 68 := by unfold hdE; rw [if_pos h, if_pos hp]
theorem hdE_ok {st : ByteArray} {x : Nat → Int} {ns : List ND} {node : Int} (h : errP st x ns = 0) (hp : ¬ (node < 0 ∨ (ns.length : Int) ≤ node)) : hdE st x ns node = 0 := by unfold hdE; rw [if_pos h, if_neg hp]
theorem hdE_zero {st : ByteArray} {x : Nat → Int} {ns : List ND} {node : Int} (h : hdE st x ns node = 0) : errP st x ns = 0 := by
  by_cases e : errP st x ns = 0
  · exact e
  · rw [hdE_bad e] at h
    exact h
/-- what Holds answers -/
noncomputable def hdS (st : ByteArray) (x : Nat → Int) (ns : List ND) (node : Int) : List (Nat × Nat) := if hdE st x ns node = 0 then hdL x ns node (ptN ns) else []
theorem hdS_ok {st : ByteArray} {x : Nat → Int} {ns : List ND} {node : Int} (h : hdE st x ns node = 0) : hdS st x ns node = hdL x ns node (ptN ns) := if_pos h
theorem hdS_bad {st : ByteArray} {x : Nat → Int} {ns : List ND} {node : Int} (h : hdE st x ns node ≠ 0) : hdS st x ns node = [] := if_neg h
set_option maxHeartbeats 8000000 in
set_option maxRecDepth 100000 in
set_option linter.unusedSimpArgs false in
set_option linter.unusedVariables false in
theorem holds_any (N : Nat) (w : World) (st : ByteArray) (x : Nat → Int) (ao : Option Addr) (b o cap : Nat) (pv : Nat → Value) (ns : List ND) (node : Int) (h : NsAt N w ao b o pv ns) (hN : N ≤ w.heap.size) (hs : st.size ≤ 9223372036854775807) :
    Calls Tryd.prog 18 #[.agg (clA st x (.slice ao ns.length cap)), .int .i64 node] w fun e w' => ∃ v, e = .returned (.tuple #[v, .int .i64 (hdE st x ns node)]) ∧ w'.ownsRow w.heap.size 109 2 v (hdS st x ns node).length (slc (hdS st x ns node)) ∧ Below w.heap.size w w' := by
  have hlen := h.len
  obtain ⟨W0, hW0, hX⟩ := boxed st x cap h hN
  have HX := hide (hX.stand hN)
  have B0 := hide hX.bel
  clear hX h
  have ND := hide (nodesOf_any N W0 st x ao b o cap pv ns HX.out.nd HX.out.le hs)
  obtain ⟨k0, hk0, hx0, hx1, hx2⟩ := info_parts infoSl
  go_enter Tryd.func18, Tryd.ntmps18
  go_upto_region 1 with fail
  rw [← hW0]
  clear hW0
  go_wp2_with (refine wpList_loadCl rfl (.tmp 2) rfl w.heap.size st x _ rfl HX.out.cl ?_)
  refine Calls.mono ND.out ?_
  rintro e W1 ⟨⟨v, rfl, h1, h2⟩, hb⟩
  have X1 := hide (HX.out.below hb)
  have B1 := hide (B0.out.trans (hb.mono B0.out.size))
  clear hb HX ND
  have fin : Hid (∀ k : Int, k ≠ 0 → hdE st x ns node = k → ∃ v, Ending.returned (.tuple #[.slice none 0 0, .int .i64 k]) = .returned (.tuple #[v, .int .i64 (hdE st x ns node)]) ∧ W1.ownsRow w.heap.size 109 2 v (hdS st x ns node).length (slc (hdS st x ns node)) ∧ Below w.heap.size w W1) := fun k hk e => ⟨.slice none 0 0, by rw [e], by rw [hdS_bad (by rw [e]; exact hk)]; exact World.ownsRow_nil _ _ _ _, B1.out⟩
  by_cases he : errP st x ns = 0
  case neg =>
    obtain rfl := h2 he
    have HE := hide (fin.out _ he (hdE_bad he))
    generalize errP st x ns = k at *
    clear h1 h2 fin
    go_wp2_with fail
    go_ret2
    exact HE.out
  case pos =>
    obtain ⟨hd, g, rfl, hg, hgs⟩ := h1 he
    have d1 := hd.p1
    have d2 := hd.p2
    have hpt : (flat ns).length = ptN ns := rfl
    rw [hpt] at d1 d2
    have L0 : 1 ≤ x 0 ∧ x 0 ≤ 16 := sfP_lim (errP_ok he).1 0 (by omega)
    have HR : Hid (x 0 ≤ (kpN ns : Int)) := (errP_all he).2.2.2.2.1
    have HN68 := hide (fun hp => fin.out 68 (by omega) (hdE_node (node := node) he hp))
    have HOK := hide (fun hp => hdE_ok (node := node) he hp)
    have HD := hide hd
    have HG := hide hg
    have nvw := X1.out.cl.nv
    rw [he]
    clear h1 h2 hd hg hpt he fin hgs
    by_cases hp0 : node < 0
    · have HE := hide (HN68.out (Or.inl hp0))
      go_wp2_with fail
      go_ret2
      exact HE.out
    by_cases hp1 : (ns.length : Int) ≤ node
    · have HE := hide (HN68.out (Or.inr hp1))
      go_wp2_with fail
      go_ret2
      exact HE.out
    have HE := hide (HOK.out (by omega))
    clear HN68 HOK
    obtain ⟨R, hRR⟩ : ∃ R : Nat, (R : Int) = x 0 := ⟨(x 0).toNat, by omega⟩
    have x0c := X1.out.cl.x0
    rw [← hRR] at x0c HR
    have r1 : 1 ≤ R ∧ R ≤ 16 := by omega
    have HRR := hide hRR
    have CX : Hid (∀ Y, Below W1.heap.size W1 Y → Y.cell? ⟨w.heap.size, 1, none⟩ = some (.int .i64 (R : Int)) ∧ Y.heap[g]? = some (.cells (outL ns).toArray 3 (0, 0))) := fun Y hY => by
      refine ⟨?_, (hY.block _ (blk_lt HG.out)).trans HG.out⟩
      have := (X1.out.cl.below hY).x0
      rw [← HRR.out] at this
      exact this
    clear x0c L0 hRR
    obtain ⟨P, hP⟩ : ∃ P, P = ptN ns := ⟨_, rfl⟩
    have HP := hide hP
    rw [← hP] at d1 d2 ⊢
    clear hP
    go_wp2_with fail
    clear nvw
    go_loopw [8, 31] (fun vl vi wr => ∃ (q : Nat), q ≤ P ∧ vi = .int .i64 (q : Int) ∧ (∃ ba cp, vl = .slice ba (hdL x ns node q).length cp) ∧ Hid (wr.ownsRow W1.heap.size 109 2 vl (hdL x ns node q).length (slc (hdL x ns node q))) ∧ Hid (Below W1.heap.size W1 wr)) (fun _ vi _ => P - (intOf vi).toNat)
    case atStart => exact ⟨0, Nat.zero_le _, rfl, ⟨none, 0, rfl⟩, World.ownsRow_nil _ _ _ _, Below.refl _ _⟩
    case round =>
      obtain ⟨q, hq, rfl, ⟨ba, cp, rfl⟩, HO, HB⟩ := hrel
      by_cases hql : q < P
      case neg =>
        obtain rfl : q = P := by omega
        have FN : Hid (wr.ownsRow w.heap.size 109 2 (.slice ba (hdL x ns node q).length cp) (hdS st x ns node).length (slc (hdS st x ns node))) := by
          rw [hdS_ok HE.out, ← HP.out]
          exact own_lower HO.out B1.out.size
        go_wp2_with fail
        go_ret2
        exact ⟨_, by rw [HE.out]; rfl, FN.out, B1.out.trans (HB.out.mono B1.out.size)⟩
      case pos =>
        have hqi : (q : Int) < (P : Int) := by omega
        obtain ⟨x0c, hgr⟩ := CX.out _ HB.out
        have WK := walk_any wr g P q R ns hgr (by rw [HP.out]; rfl) (by omega) (by omega) hql (by omega) (by omega)
        have hwk : wkR ns P q R = wk x ns (q : Int) := by
          unfold wk
          rw [← HP.out, ← HRR.out]
          rfl
        rw [hwk] at WK
        have HW := hide (wk_diff x ns (q : Int))
        have HSu := hide (hdL_succ x ns node q)
        have hlw : (wk x ns (q : Int)).length = R := by
          have := wk_full (x := x) (p := (q : Int)) HD.out (by omega) (by rw [← HP.out]; omega) (by rw [← HRR.out]; omega) (by rw [← HRR.out]; exact HR.out)
          have := HRR.out
          omega
        have hwl : Hid (∀ k ∈ wk x ns (q : Int), k < P) := by rw [HP.out]; exact wk_lt (by rw [← HP.out]; omega)
        have hsl : (hdL x ns node q).length ≤ 64 := by have := hdL_len x ns node q; omega
        have hl1 : 1 ≤ (wk x ns (q : Int)).length ∧ (wk x ns (q : Int)).length ≤ 16 := by omega
        replace WK := hide WK
        clear hwk hgr hlw
        generalize wk x ns (q : Int) = L at *
        go_wp2_with fail
        refine Calls.mono WK.out ?_
        rintro e W2 ⟨v2, rfl, o2, hb⟩
        obtain ⟨pa, pb, po, pc, hv2, hps⟩ := own_ps o2 (nis_len _).symm (by rw [nis_len]; omega)
        subst hv2
        have HB2 := hide (HB.out.trans (hb.mono HB.out.size))
        have O2 : Hid (W2.ownsRow W1.heap.size 109 2 (.slice ba (hdL x ns node q).length cp) (hdL x ns node q).length (slc (hdL x ns node q))) := own_keep HO.out fun i hi => hb.block i (own_lt HO.out hi).2
        have KE := keepers_any W2.heap.size W2 g P (some ⟨g, 0, none⟩) ns L pa pb po pc hps (Nat.le_refl _) (fun _ => ⟨rfl, blk_lt (CX.out _ HB2.out).2⟩) (fun k hk => outL_cell (CX.out _ HB2.out).2 (show k < ptN ns by rw [← HP.out]; exact hk)) hwl.out (by omega) (by omega)
        rw [← nis_len L] at KE
        replace KE := hide KE
        clear hb o2 WK HO HB hps x0c
        go_wp2_with fail
        refine Calls.mono KE.out ?_
        rintro e W3 ⟨v3, rfl, o3, hb⟩
        rw [nis_len] at o3
        obtain ⟨go, co, hv3⟩ := own_some o3 (by omega)
        subst hv3
        have HB3 := hide (HB2.out.trans (hb.mono HB2.out.size))
        have O3 : Hid (W3.ownsRow W1.heap.size 109 2 (.slice ba (hdL x ns node q).length cp) (hdL x ns node q).length (slc (hdL x ns node q))) := own_keep O2.out fun i hi => hb.block i (own_lt O2.out hi).2
        have IX := Tryd.slices_Index_int go 0 L.length co (owL ns L) node W3 (by rw [owL_len]; exact Nat.le_refl _) (by omega) (fun j hj => by
          rw [Nat.zero_add, own_cell o3 (owL_len _ _).symm hj, List.getD_eq_getElem?_getD, List.getElem?_eq_getElem hj]
          rfl)
        rw [show List.take L.length (owL ns L) = List.take (owL ns L).length (owL ns L) by rw [owL_len]] at IX
        have HI := hide (idx_way (owL ns L) node)
        generalize Lib.idxOf (List.take (owL ns L).length (owL ns L)) node = ix at *
        replace IX := hide IX
        clear hb o3 KE O2 HB2
        go_wp2_with fail
        refine Calls.mono IX.out ?_
        rintro e W3' ⟨rfl, rfl⟩
        clear IX
        rcases HI.out with ⟨hm, rfl⟩ | ⟨i, hi, hmi, rfl⟩
        · have hS : hdL x ns node (q + 1) = hdL x ns node q := by rw [HSu.out, hdF_none hm, List.append_nil]
          have HS := hide hS
          clear hm hS HI HSu HW
          go_wp2_with fail
          go_roundw
          case rel => exact ⟨q + 1, by omega, by go_num, ⟨ba, cp, by rw [HS.out]⟩, by rw [HS.out]; exact O3, HB3⟩
          case measure => simp [intOf]; omega
        · have hS : hdL x ns node (q + 1) = hdL x ns node q ++ [(q, i)] := by rw [HSu.out, hdF_one hi HW.out hmi, Nat.zero_add]
          have HS := hide hS
          clear hS HI HSu HW hmi hi
          have hi0 : (0 : Int) ≤ (i : Int) := by omega
          generalize hdL x ns node q = A at *
          go_wp2_with (at_builtin; refine wpList_append_own_at _ rfl (.tmp 46) (.tmp 50) 55 rfl W1.heap.size 109 k0 (.agg #[.int .i64 0, .int .i64 0]) 2 16 Tryd.underlying55 hk0 hx0 hx1 hx2 rfl (by decide) _ _ _ rfl (O3.out.alloc _) ⟨_, 0, none⟩ 1 1 (slc [(q, i)]) rfl rfl (slo_cells _ q i) (sl_one _) (by unfold maxLen; omega) (by omega) (by have := HB3.out.size; simp; omega) ?_; intro v4 X4 o4 g4 n4 a4; clear n4 a4)
          have B4 : Hid (Below W1.heap.size W1 X4) := (HB3.out.alloc HB3.out.size _).grown g4 (by have := HB3.out.size; simp; omega) (fun j hj => (own_lt O3.out hj).1)
          have O4 : Hid (X4.ownsRow W1.heap.size 109 2 v4 (hdL x ns node (q + 1)).length (slc (hdL x ns node (q + 1)))) := by
            rw [HS.out, List.length_append, slc_append]
            exact o4
          obtain ⟨ba4, cp4, hv4, _⟩ := own_sl O4.out
          subst hv4
          clear o4 g4 O3
          go_wp2_with fail
          go_roundw
          case rel => exact ⟨q + 1, by omega, by go_num, ⟨ba4, cp4, rfl⟩, O4, B4⟩
          case measure => simp [intOf]; omega
end Go.Proofs.YtioiphonajinmaaDoor
