import Derived.WalkKit
import Derived.Lib.AtoiAll
import Derived.Lib.ItoaNum
import Derived.Lib.IndexMore
import Derived.Test.YtioiphonajinmaaGreatDoorGGmMod
import Derived.Test.YtioiphonajinmaaGreatDoorGGmMade
import Derived.Shelf.Slices.Turned
import Derived.Shelf.Sort.Plain
import Derived.Shelf.Slices.In.SortNone
import Derived.Test.YtioiphonajinmaaGreatDoorProg
namespace Go.Proofs.YtioiphonajinmaaGreatDoor
/-- a name in its place -/
def insN (a : List UInt8) : List (List UInt8) → List (List UInt8)
  | [] => [a]
  | b :: l => if a < b then a :: b :: l else b :: insN a l
theorem insN_perm (a : List UInt8) : ∀ l, (insN a l).Perm (a :: l)
  | [] => List.Perm.refl _
  | b :: l => by
    unfold insN
    split
    · exact List.Perm.refl _
    · exact ((insN_perm a l).cons b).trans (List.Perm.swap a b l)
theorem insN_sorted (a : List UInt8) : ∀ l : List (List UInt8), l.Pairwise (· ≤ ·) → (insN a l).Pairwise (· ≤ ·)
  | [], _ => by simp [insN]
  | b :: l, h => by
    unfold insN
    obtain ⟨h1, h2⟩ := List.pairwise_cons.1 h
    split
    · rename_i hab
      refine List.pairwise_cons.2 ⟨fun c hc => ?_, h⟩
      have hb : a ≤ b := List.le_of_lt hab
      rcases List.mem_cons.1 hc with rfl | hc
      · exact hb
      · exact List.le_trans hb (h1 c hc)
    · rename_i hab
      refine List.pairwise_cons.2 ⟨fun c hc => ?_, insN_sorted a l h2⟩
      rcases List.mem_cons.1 ((insN_perm a l).mem_iff.1 hc) with rfl | hc
      · exact List.not_lt.1 hab
      · exact h1 c hc
/-- all names, each put in its place -/
def insA (l : List (List UInt8)) : List (List UInt8) := l.foldl (fun m a => insN a m) []
theorem insA_append (l : List (List UInt8)) (a : List UInt8) : insA (l ++ [a]) = insN a (insA l) := by simp [insA]
theorem fold_perm (l : List (List UInt8)) : ∀ m, (l.foldl (fun m a => insN a m) m).Perm (l ++ m) := by
  induction l with
  | nil => intro m; exact List.Perm.refl _
  | cons a l ih =>
    intro m
    rw [List.foldl_cons]
    refine (ih _).trans ?_
    refine ((insN_perm a m).append_left l).trans ?_
    exact List.perm_middle
theorem fold_sorted (l : List (List UInt8)) : ∀ m : List (List UInt8), m.Pairwise (· ≤ ·) → (l.foldl (fun m a => insN a m) m).Pairwise (· ≤ ·) := by
  induction l with
  | nil => intro m h; exact h
  | cons a l ih =>
    intro m h
    exact ih _ (insN_sorted a m h)
theorem eq_sorted : ∀ (a b : List (List UInt8)), a.Perm b → a.Pairwise (· ≤ ·) → b.Pairwise (· ≤ ·) → a = b
  | [], b, h, _, _ => (List.nil_perm.1 h).symm
  | x :: a, [], h, _, _ => absurd h.length_eq (by simp)
  | x :: a, y :: b, h, ha, hb => by
    obtain ⟨a1, a2⟩ := List.pairwise_cons.1 ha
    obtain ⟨b1, b2⟩ := List.pairwise_cons.1 hb
    have hx : x ≤ y := by
      rcases List.mem_cons.1 (h.mem_iff.2 (List.mem_cons_self ..)) with e | e
      · rw [e]; exact List.le_refl _
      · exact a1 y e
    have hy : y ≤ x := by
      rcases List.mem_cons.1 (h.mem_iff.1 (List.mem_cons_self ..)) with e | e
      · rw [e]; exact List.le_refl _
      · exact b1 x e
    obtain rfl := List.le_antisymm hx hy
    rw [eq_sorted a b h.cons_inv a2 b2]
theorem insA_sort (l : List (List UInt8)) : insA l = l.mergeSort fun x y => decide (x ≤ y) := by
  refine eq_sorted _ _ ?_ (fold_sorted l [] List.Pairwise.nil) ?_
  · refine (fold_perm l []).trans ?_
    rw [List.append_nil]
    exact (List.mergeSort_perm l _).symm
  · have := List.pairwise_mergeSort (le := fun x y : List UInt8 => decide (x ≤ y)) (fun a b c h1 h2 => decide_eq_true (List.le_trans (of_decide_eq_true h1) (of_decide_eq_true h2))) (fun a b => by
      rcases List.le_total a b with h | h
      · simp [h]
      · simp [h]) l
    exact this.imp fun h => of_decide_eq_true h
end Go.Proofs.YtioiphonajinmaaGreatDoor
namespace Go.Proofs.YtioiphonajinmaaGreatDoor
/-- a file: partition, replica, chunk, is it the data -/
abbrev FV := Nat × Nat × Nat × Bool
def dataW : List UInt8 := [100, 97, 116, 97]
def indexW : List UInt8 := [105, 110, 100, 101, 120]
def endW (d : Bool) : List UInt8 := if d then dataW else indexW
def dd (n : Nat) : List UInt8 := Lib.decDigits n
def dd2 (n : Nat) : List UInt8 := if n < 10 then [UInt8.ofNat (48 + n)] else [UInt8.ofNat (48 + n / 10), UInt8.ofNat (48 + n % 10)]
theorem dd_two {n : Nat} (h : n < 100) : dd n = dd2 n := by
  unfold dd dd2
  rw [Lib.decDigits]
  by_cases h1 : n < 10
  · rw [dif_pos h1, if_pos h1]
  · rw [dif_neg h1, if_neg h1, Lib.decDigits, dif_pos (by omega)]
    rfl
def fnL (f : FV) : List UInt8 := dd f.1 ++ 95 :: (dd f.2.1 ++ 95 :: (dd f.2.2.1 ++ 46 :: endW f.2.2.2))
def Val (f : FV) : Prop := f.1 < 64 ∧ f.2.1 < 16 ∧ f.2.2.1 < 16
/-- what Atoi answers -/
def av (l : List UInt8) : Int := match Lib.atoiAll l with
  | .ok v => v
  | .syntax => 0
  | .range => Lib.atoiSat l
/-- what the document's number answers -/
def digB (b : UInt8) : Bool := decide (48 ≤ b.toNat) && decide (b.toNat ≤ 57)
def numF (l : List UInt8) : Nat := l.foldl (fun n b => n * 10 + (b.toNat - 48)) 0
def numV (l : List UInt8) : Int := if l = [] ∨ 10 < l.length ∨ (l.head? = some 48 ∧ l ≠ [48]) then -1 else if l.all digB then (numF l : Int) else -1
theorem dd_facts : ∀ n : Fin 64, av (dd2 n.1) = (n.1 : Int) ∧ numV (dd2 n.1) = (n.1 : Int) ∧ (95 : UInt8) ∉ dd2 n.1 ∧ (46 : UInt8) ∉ dd2 n.1 ∧ (dd2 n.1).length ≤ 2 ∧ dd2 n.1 ≠ [] := by decide +kernel
theorem av_dd {n : Nat} (h : n < 64) : av (dd n) = (n : Int) := by rw [dd_two (by omega)]; exact (dd_facts ⟨n, h⟩).1
theorem numV_dd {n : Nat} (h : n < 64) : numV (dd n) = (n : Int) := by rw [dd_two (by omega)]; exact (dd_facts ⟨n, h⟩).2.1
theorem dd_no95 {n : Nat} (h : n < 64) : (95 : UInt8) ∉ dd n := by rw [dd_two (by omega)]; exact (dd_facts ⟨n, h⟩).2.2.1
theorem dd_no46 {n : Nat} (h : n < 64) : (46 : UInt8) ∉ dd n := by rw [dd_two (by omega)]; exact (dd_facts ⟨n, h⟩).2.2.2.1
theorem dd_len {n : Nat} (h : n < 64) : (dd n).length ≤ 2 := by rw [dd_two (by omega)]; exact (dd_facts ⟨n, h⟩).2.2.2.2.1
theorem dd_ne {n : Nat} (h : n < 64) : dd n ≠ [] := by rw [dd_two (by omega)]; exact (dd_facts ⟨n, h⟩).2.2.2.2.2
theorem dd_len16 {n : Nat} (h : n < 16) : (dd n).length ≤ 2 := dd_len (by omega)
theorem endW_ne (d : Bool) : endW d ≠ [] := by cases d <;> decide
theorem endW_data (d : Bool) : decide (endW d = dataW) = d := by cases d <;> decide
theorem endW_no46 (d : Bool) : (46 : UInt8) ∉ endW d := by cases d <;> decide
theorem endW_no95 (d : Bool) : (95 : UInt8) ∉ endW d := by cases d <;> decide
theorem endW_len (d : Bool) : (endW d).length ≤ 5 := by cases d <;> decide
theorem fnL_len {f : FV} (h : Val f) : (fnL f).length ≤ 14 := by
  have h1 := dd_len h.1
  have h2 := dd_len16 h.2.1
  have h3 := dd_len16 h.2.2
  have h4 := endW_len f.2.2.2
  unfold fnL
  simp only [List.length_append, List.length_cons]
  omega
theorem fnL_ne (f : FV) : fnL f ≠ [] := by unfold fnL; simp
theorem index_one (c : UInt8) : ∀ (a r : List UInt8), c ∉ a → Lib.index (a ++ c :: r) [c] = (a.length : Int) := by
  intro a
  induction a with
  | nil => intro r _; simp [Lib.index]
  | cons b l ih =>
    intro r h
    have hb : ¬ c = b := fun e => h (by simp [e])
    have hl : c ∉ l := fun e => h (by simp [e])
    have := ih r hl
    rw [List.cons_append, Lib.index, this]
    have hne : ([c].isPrefixOf (b :: (l ++ c :: r))) = false := by simp [List.isPrefixOf, hb]
    rw [hne]
    simp only [Bool.false_eq_true, if_false, beq_iff_eq]
    rw [if_neg (by omega)]
    simp
theorem cut_at (c : UInt8) (a r : List UInt8) (h : c ∉ a) : Lib.cut (a ++ c :: r) [c] = (a, r, true) := by
  unfold Lib.cut
  rw [index_one c a r h, if_pos (by omega)]
  simp
theorem first_of (c : UInt8) (s : List UInt8) (hc : c ∈ s) : ∃ a r, s = a ++ c :: r ∧ c ∉ a := by
  induction s with
  | nil => cases hc
  | cons b l ih =>
    by_cases hb : b = c
    · exact ⟨[], l, by simp [hb], by simp⟩
    · have hl : c ∈ l := by
        rcases List.mem_cons.1 hc with h | h
        · exact absurd h.symm hb
        · exact h
      obtain ⟨a, r, e, hn⟩ := ih hl
      refine ⟨b :: a, r, by simp [e], fun h => ?_⟩
      rcases List.mem_cons.1 h with h | h
      · exact hb h.symm
      · exact hn h
theorem cut_way (c : UInt8) (s : List UInt8) : Lib.cut s [c] = (s, [], false) ∨ ∃ a r, s = a ++ c :: r ∧ Lib.cut s [c] = (a, r, true) := by
  by_cases hc : c ∈ s
  · right
    obtain ⟨a, r, e, hn⟩ := first_of c s hc
    exact ⟨a, r, e, by rw [e]; exact cut_at c a r hn⟩
  · left
    unfold Lib.cut
    have : Lib.index s [c] = -1 := by
      induction s with
      | nil => simp [Lib.index]
      | cons b l ih =>
        have hb : ¬ c = b := fun e => hc (by simp [e])
        have hl : c ∉ l := fun e => hc (by simp [e])
        rw [Lib.index, ih hl]
        have hne : ([c].isPrefixOf (b :: l)) = false := by simp [List.isPrefixOf, hb]
        rw [hne]
        simp
    rw [this]
    simp
/-- the words of a name -/
def wds (s : List UInt8) : List UInt8 × List UInt8 × List UInt8 × List UInt8 :=
  ((Lib.cut s [95]).1, (Lib.cut (Lib.cut s [95]).2.1 [95]).1, (Lib.cut (Lib.cut (Lib.cut s [95]).2.1 [95]).2.1 [46]).1, (Lib.cut (Lib.cut (Lib.cut s [95]).2.1 [95]).2.1 [46]).2.1)
def isVal (p r c : Int) : Bool := decide (0 ≤ p ∧ p < 64 ∧ 0 ≤ r ∧ r < 16 ∧ 0 ≤ c ∧ c < 16)
/-- what the program's ReadName reads -/
def readP (s : List UInt8) : Option FV :=
  if isVal (av (wds s).1) (av (wds s).2.1) (av (wds s).2.2.1) = true ∧ dd (av (wds s).1).toNat = (wds s).1 ∧ dd (av (wds s).2.1).toNat = (wds s).2.1 ∧ dd (av (wds s).2.2.1).toNat = (wds s).2.2.1 ∧ endW (decide ((wds s).2.2.2 = dataW)) = (wds s).2.2.2
  then some ((av (wds s).1).toNat, (av (wds s).2.1).toNat, (av (wds s).2.2.1).toNat, decide ((wds s).2.2.2 = dataW)) else none
theorem wds_fnL {f : FV} (h : Val f) : wds (fnL f) = (dd f.1, dd f.2.1, dd f.2.2.1, endW f.2.2.2) := by
  obtain ⟨h1, h2, h3⟩ := h
  have e1 : Lib.cut (fnL f) [95] = (dd f.1, dd f.2.1 ++ 95 :: (dd f.2.2.1 ++ 46 :: endW f.2.2.2), true) := cut_at _ _ _ (dd_no95 h1)
  unfold wds
  rw [e1]
  simp only
  rw [cut_at _ _ _ (dd_no95 (by omega))]
  simp only
  rw [cut_at _ _ _ (dd_no46 (by omega))]
theorem wds_back (s : List UInt8) (h2 : (wds s).2.1 ≠ []) (h3 : (wds s).2.2.1 ≠ []) (h4 : (wds s).2.2.2 ≠ []) : s = (wds s).1 ++ 95 :: ((wds s).2.1 ++ 95 :: ((wds s).2.2.1 ++ 46 :: (wds s).2.2.2)) := by
  unfold wds at *
  rcases cut_way 95 s with e | ⟨a, r, e, e'⟩
  · rw [e] at h2; exact absurd (by simp [Lib.cut, Lib.index]) h2
  rw [e'] at h2 h3 h4 ⊢
  simp only at h2 h3 h4 ⊢
  rcases cut_way 95 r with g | ⟨a2, r2, g, g'⟩
  · rw [g] at h3; exact absurd (by simp [Lib.cut, Lib.index]) h3
  rw [g'] at h2 h3 h4 ⊢
  simp only at h2 h3 h4 ⊢
  rcases cut_way 46 r2 with k | ⟨a3, r3, k, k'⟩
  · rw [k] at h4; exact absurd rfl h4
  rw [k']
  simp only
  rw [e, g, k]
theorem readP_spec (s : List UInt8) (f : FV) : readP s = some f ↔ Val f ∧ fnL f = s := by
  constructor
  · intro h
    unfold readP at h
    split at h
    · rename_i hc
      obtain ⟨h1, h2, h3, h4, h5⟩ := hc
      unfold isVal at h1
      have h1 := of_decide_eq_true h1
      obtain rfl := Option.some.inj h
      refine ⟨⟨by simp only; omega, by simp only; omega, by simp only; omega⟩, ?_⟩
      unfold fnL
      simp only
      rw [h2, h3, h4, h5]
      exact (wds_back s (by rw [← h3]; exact dd_ne (by omega)) (by rw [← h4]; exact dd_ne (by omega)) (by rw [← h5]; exact endW_ne _)).symm
    · cases h
  · rintro ⟨hv, rfl⟩
    have hw := wds_fnL hv
    obtain ⟨h1, h2, h3⟩ := hv
    unfold readP
    rw [hw]
    simp only
    rw [av_dd h1, av_dd (by omega : f.2.1 < 64), av_dd (by omega : f.2.2.1 < 64), endW_data]
    rw [if_pos]
    · simp
    · refine ⟨by unfold isVal; exact decide_eq_true (by omega), by simp, by simp, by simp, rfl⟩
/-- the document's split -/
def splitL (c : UInt8) : List UInt8 → List UInt8 → List (List UInt8)
  | cur, [] => [cur]
  | cur, b :: l => if b = c then cur :: splitL c [] l else splitL c (cur ++ [b]) l
theorem splitL_at (c : UInt8) : ∀ (a r cur : List UInt8), c ∉ a → splitL c cur (a ++ c :: r) = (cur ++ a) :: splitL c [] r := by
  intro a
  induction a with
  | nil => intro r cur _; simp [splitL]
  | cons b l ih =>
    intro r cur h
    have hb : ¬ b = c := fun e => h (by simp [e])
    have hl : c ∉ l := fun e => h (by simp [e])
    rw [List.cons_append, splitL, if_neg hb, ih r (cur ++ [b]) hl]
    simp
theorem splitL_none (c : UInt8) : ∀ (a cur : List UInt8), c ∉ a → splitL c cur a = [cur ++ a] := by
  intro a
  induction a with
  | nil => intro cur _; simp [splitL]
  | cons b l ih =>
    intro cur h
    have hb : ¬ b = c := fun e => h (by simp [e])
    have hl : c ∉ l := fun e => h (by simp [e])
    rw [splitL, if_neg hb, ih (cur ++ [b]) hl]
    simp
theorem splitL_pos (c : UInt8) : ∀ (a cur : List UInt8), 0 < (splitL c cur a).length := by
  intro a
  induction a with
  | nil => intro cur; simp [splitL]
  | cons b l ih =>
    intro cur
    rw [splitL]
    split
    · simp
    · exact ih _
/-- what the document's ReadName reads -/
def sW (s : List UInt8) : List (List UInt8) := splitL 46 [] s
def sN (s : List UInt8) : List (List UInt8) := splitL 95 [] ((sW s).getD 0 [])
def readD (s : List UInt8) : Option FV :=
  if s.length ≤ 14 ∧ (sW s).length = 2 ∧ (sN s).length = 3 ∧ isVal (numV ((sN s).getD 0 [])) (numV ((sN s).getD 1 [])) (numV ((sN s).getD 2 [])) = true ∧ fnL ((numV ((sN s).getD 0 [])).toNat, (numV ((sN s).getD 1 [])).toNat, (numV ((sN s).getD 2 [])).toNat, decide ((sW s).getD 1 [] = dataW)) = s
  then some ((numV ((sN s).getD 0 [])).toNat, (numV ((sN s).getD 1 [])).toNat, (numV ((sN s).getD 2 [])).toNat, decide ((sW s).getD 1 [] = dataW)) else none
theorem sW_fnL {f : FV} (h : Val f) : sW (fnL f) = [dd f.1 ++ 95 :: (dd f.2.1 ++ 95 :: dd f.2.2.1), endW f.2.2.2] := by
  obtain ⟨h1, h2, h3⟩ := h
  unfold sW fnL
  have e : dd f.1 ++ 95 :: (dd f.2.1 ++ 95 :: (dd f.2.2.1 ++ 46 :: endW f.2.2.2)) = (dd f.1 ++ 95 :: (dd f.2.1 ++ 95 :: dd f.2.2.1)) ++ 46 :: endW f.2.2.2 := by simp
  rw [e, splitL_at, splitL_none 46 _ _ (endW_no46 _)]
  · simp
  · simp only [List.mem_append, List.mem_cons, not_or]
    exact ⟨dd_no46 h1, by decide, dd_no46 (by omega), by decide, dd_no46 (by omega)⟩
theorem sN_fnL {f : FV} (h : Val f) : sN (fnL f) = [dd f.1, dd f.2.1, dd f.2.2.1] := by
  unfold sN
  rw [sW_fnL h]
  obtain ⟨h1, h2, h3⟩ := h
  simp only [List.getD_cons_zero]
  rw [splitL_at _ _ _ _ (dd_no95 h1), splitL_at _ _ _ _ (dd_no95 (by omega)), splitL_none _ _ _ (dd_no95 (by omega))]
  simp
theorem readD_spec (s : List UInt8) (f : FV) : readD s = some f ↔ Val f ∧ fnL f = s := by
  constructor
  · intro h
    unfold readD at h
    split at h
    · rename_i hc
      obtain ⟨h1, h2, h3, h4, h5⟩ := hc
      unfold isVal at h4
      have h4 := of_decide_eq_true h4
      obtain rfl := Option.some.inj h
      exact ⟨⟨by simp only; omega, by simp only; omega, by simp only; omega⟩, h5⟩
    · cases h
  · rintro ⟨hv, rfl⟩
    have hw := sW_fnL hv
    have hn := sN_fnL hv
    have hl := fnL_len hv
    obtain ⟨h1, h2, h3⟩ := hv
    unfold readD
    rw [hw, hn]
    have g0 : numV ([dd f.1, dd f.2.1, dd f.2.2.1].getD 0 []) = (f.1 : Int) := numV_dd h1
    have g1 : numV ([dd f.1, dd f.2.1, dd f.2.2.1].getD 1 []) = (f.2.1 : Int) := numV_dd (by omega)
    have g2 : numV ([dd f.1, dd f.2.1, dd f.2.2.1].getD 2 []) = (f.2.2.1 : Int) := numV_dd (by omega)
    have g3 : decide ([dd f.1 ++ 95 :: (dd f.2.1 ++ 95 :: dd f.2.2.1), endW f.2.2.2].getD 1 [] = dataW) = f.2.2.2 := endW_data _
    rw [g0, g1, g2, g3, Int.toNat_natCast, Int.toNat_natCast, Int.toNat_natCast]
    refine if_pos ?_
    exact ⟨hl, rfl, rfl, by unfold isVal; exact decide_eq_true (by omega), rfl⟩
theorem readP_D (s : List UInt8) : readP s = readD s := Option.ext fun f => by rw [readP_spec, readD_spec]
end Go.Proofs.YtioiphonajinmaaGreatDoor
namespace Go.Proofs.YtioiphonajinmaaGreatDoor
/-- the replicas of p that a node has, among owners from r on -/
def hdF (node : Int) (p : Nat) : Nat → List Int → List (Nat × Nat)
  | _, [] => []
  | r, a :: l => if a = node then (p, r) :: hdF node p (r + 1) l else hdF node p (r + 1) l
theorem hdF_append (node : Int) (p : Nat) (a : Int) : ∀ (r : Nat) (l : List Int), hdF node p r (l ++ [a]) = hdF node p r l ++ (if a = node then [(p, r + l.length)] else [])
  | r, [] => by
    simp only [List.nil_append, hdF, List.length_nil, Nat.add_zero]
  | r, b :: l => by
    simp only [List.cons_append, hdF, hdF_append node p a (r + 1) l, List.length_cons]
    rw [show r + 1 + l.length = r + (l.length + 1) by omega]
    by_cases e : b = node
    · rw [if_pos e, if_pos e, List.cons_append]
    · rw [if_neg e, if_neg e]
theorem hdF_take {node : Int} {p : Nat} {l : List Int} {q : Nat} (h : q < l.length) : hdF node p 0 (l.take (q + 1)) = hdF node p 0 (l.take q) ++ (if l[q] = node then [(p, q)] else []) := by
  rw [List.take_succ_eq_append_getElem h, hdF_append, List.length_take, Nat.zero_add, Nat.min_eq_left (by omega)]
theorem hdF_none {node : Int} {p : Nat} : ∀ {r : Nat} {l : List Int}, node ∉ l → hdF node p r l = []
  | r, [], _ => rfl
  | r, b :: l, h => by
    simp only [List.mem_cons, not_or] at h
    simp only [hdF]
    rw [if_neg (fun e => h.1 e.symm), hdF_none h.2]
/-- owners that are all different: one replica at most -/
theorem hdF_one {node : Int} {p : Nat} : ∀ {r : Nat} {l : List Int} {i : Nat} (h : i < l.length), l.Pairwise (· ≠ ·) → l[i] = node → hdF node p r l = [(p, r + i)]
  | r, b :: l, 0, h, hp, e => by
    simp only [List.getElem_cons_zero] at e
    subst e
    simp only [hdF, if_true, Nat.add_zero]
    rw [hdF_none fun hm => (List.pairwise_cons.1 hp).1 b hm rfl]
  | r, b :: l, i + 1, h, hp, e => by
    simp only [List.getElem_cons_succ] at e
    have hi : i < l.length := by simpa using h
    have hb : b ≠ node := fun eb => (List.pairwise_cons.1 hp).1 node (e ▸ List.getElem_mem hi) eb
    simp only [hdF]
    rw [if_neg hb, hdF_one hi (List.pairwise_cons.1 hp).2 e, show r + 1 + i = r + (i + 1) by omega]
theorem wkL_diff {ns : List ND} {P f : Nat} (i : Nat) : (owL ns (wkL ns P f i)).Pairwise (· ≠ ·) := by
  induction i with
  | zero => simp [wkL, owL]
  | succ i ih =>
    cases h : frsh ns P f i with
    | false => rw [wkL_no h]; exact ih
    | true =>
      rw [wkL_yes h]
      unfold owL at *
      rw [List.map_append, List.pairwise_append]
      refine ⟨ih, by simp, fun a ha b hb => ?_⟩
      obtain ⟨p, hp, rfl⟩ := List.mem_map.1 ha
      simp at hb
      subst hb
      exact frsh_taken.1 h p hp
theorem wk_diff (x : Nat → Int) (ns : List ND) (p : Int) : (owL ns (wk x ns p)).Pairwise (· ≠ ·) := by
  unfold wk wkR
  have := wkL_diff (ns := ns) (P := ptN ns) (f := p.toNat) (ptN ns)
  unfold owL at *
  rw [List.map_take]
  exact this.sublist (List.take_sublist _ _)
/-- a node's slots of the first q partitions -/
def hdL (x : Nat → Int) (ns : List ND) (node : Int) (q : Nat) : List (Nat × Nat) := (List.range q).flatMap fun p => hdF node p 0 (owL ns (wk x ns (p : Int)))
theorem hdL_0 (x : Nat → Int) (ns : List ND) (node : Int) : hdL x ns node 0 = [] := rfl
theorem hdL_succ (x : Nat → Int) (ns : List ND) (node : Int) (q : Nat) : hdL x ns node (q + 1) = hdL x ns node q ++ hdF node q 0 (owL ns (wk x ns (q : Int))) := by
  unfold hdL
  rw [List.range_succ, List.flatMap_append]
  simp
theorem hdF_len {node : Int} {p r : Nat} {l : List Int} (h : l.Pairwise (· ≠ ·)) : (hdF node p r l).length ≤ 1 := by
  by_cases hm : node ∈ l
  · obtain ⟨i, hi, e⟩ := List.getElem_of_mem hm
    rw [hdF_one hi h e]
    exact Nat.le_refl _
  · rw [hdF_none hm]
    exact Nat.zero_le _
theorem hdL_len (x : Nat → Int) (ns : List ND) (node : Int) (q : Nat) : (hdL x ns node q).length ≤ q := by
  induction q with
  | zero => exact Nat.le_refl _
  | succ q ih =>
    rw [hdL_succ, List.length_append]
    have := hdF_len (node := node) (p := q) (r := 0) (wk_diff x ns (q : Int))
    omega
theorem hdF_mem {node : Int} {p : Nat} : ∀ {r : Nat} {l : List Int} {s : Nat × Nat}, s ∈ hdF node p r l → s.1 = p ∧ s.2 < r + l.length
  | r, [], s, h => by simp [hdF] at h
  | r, b :: l, s, h => by
    simp only [hdF] at h
    split at h
    · rcases List.mem_cons.1 h with rfl | h
      · exact ⟨rfl, by simp⟩
      · have := hdF_mem h
        exact ⟨this.1, by simp; omega⟩
    · have := hdF_mem h
      exact ⟨this.1, by simp; omega⟩
theorem hdL_mem {x : Nat → Int} {ns : List ND} {node : Int} {q : Nat} (h16 : x 0 ≤ 16) {s : Nat × Nat} (h : s ∈ hdL x ns node q) : s.1 < q ∧ s.2 < 16 := by
  unfold hdL at h
  obtain ⟨p, hp, hs⟩ := List.mem_flatMap.1 h
  have := hdF_mem hs
  refine ⟨by rw [this.1]; exact List.mem_range.1 hp, ?_⟩
  have h2 := this.2
  rw [owL_len] at h2
  have : (wk x ns (p : Int)).length ≤ (x 0).toNat := by
    unfold wk wkR
    rw [List.length_take]
    omega
  omega
/-- the names of a slot's files, of the first k chunks -/
def fl1 (s : Nat × Nat) (k : Nat) : List (List UInt8) := (List.range k).flatMap fun c => [fnL (s.1, s.2, c, false), fnL (s.1, s.2, c, true)]
theorem fl1_succ (s : Nat × Nat) (k : Nat) : fl1 s (k + 1) = fl1 s k ++ [fnL (s.1, s.2, k, false), fnL (s.1, s.2, k, true)] := by
  unfold fl1
  rw [List.range_succ, List.flatMap_append]
  simp
theorem fl1_len (s : Nat × Nat) (k : Nat) : (fl1 s k).length = 2 * k := by
  induction k with
  | zero => rfl
  | succ k ih => rw [fl1_succ, List.length_append, ih]; simp; omega
/-- the names of all slots' files -/
def flL (l : List (Nat × Nat)) (k : Nat) : List (List UInt8) := l.flatMap fun s => fl1 s k
theorem flL_take {l : List (Nat × Nat)} {k q : Nat} (h : q < l.length) : flL (l.take (q + 1)) k = flL (l.take q) k ++ fl1 l[q] k := by
  unfold flL
  rw [List.take_succ_eq_append_getElem h, List.flatMap_append]
  simp
theorem flL_len (l : List (Nat × Nat)) (k : Nat) : (flL l k).length = l.length * (2 * k) := by
  unfold flL
  induction l with
  | nil => simp
  | cons s l ih => rw [List.flatMap_cons, List.length_append, fl1_len, ih, List.length_cons, Nat.add_mul, Nat.one_mul, Nat.add_comm]
end Go.Proofs.YtioiphonajinmaaGreatDoor
namespace Go.Proofs.YtioiphonajinmaaGreatDoor
theorem wkL_first {ns : List ND} {P f : Nat} (hf : f < P) : ∃ t, wkL ns P f P = f :: t := by
  obtain ⟨r, hr⟩ := wkL_pre ns P f 1 (P - 1)
  rw [show 1 + (P - 1) = P by omega] at hr
  have h1 : wkL ns P f 1 = [f] := by
    rw [show (1 : Nat) = 0 + 1 from rfl, wkL_yes (by simp [frsh])]
    simp [wkL, plc, Nat.mod_eq_of_lt hf]
  exact ⟨r, by rw [hr, h1]; rfl⟩
theorem wk_first {x : Nat → Int} {ns : List ND} {p : Nat} (hp : p < ptN ns) (h0 : 1 ≤ x 0) : ∃ t, wk x ns (p : Int) = p :: t := by
  obtain ⟨t, ht⟩ := wkL_first (ns := ns) hp
  obtain ⟨m, hm⟩ : ∃ m, (x 0).toNat = m + 1 := ⟨(x 0).toNat - 1, by omega⟩
  exact ⟨t.take m, by unfold wk wkR; rw [show ((p : Nat) : Int).toNat = p from rfl, ht, hm]; rfl⟩
theorem hm_in {ns : List ND} (hd : Dealt ns) {k : Nat} (hk : k < ptN ns) : ∃ i, ∃ h : i < ns.length, hm ns k = (i : Int) ∧ (k : Int) ∈ ns[i].ps := by
  have h1 := hd.once k hk
  have h2 : (k : Int) ∈ flat ns := cntI_mem.1 (by omega)
  unfold flat at h2
  obtain ⟨n, hn, hkn⟩ := List.mem_flatMap.1 h2
  obtain ⟨i, hi, rfl⟩ := List.getElem_of_mem hn
  exact ⟨i, hi, ownF_mem hd hi hkn, hkn⟩
theorem hdF_iff {node : Int} {p k : Nat} : ∀ {r : Nat} {l : List Int}, (p, k) ∈ hdF node p r l ↔ ∃ i, ∃ h : i < l.length, l[i] = node ∧ k = r + i
  | r, [] => by simp [hdF]
  | r, a :: l => by
    have ih := hdF_iff (node := node) (p := p) (k := k) (r := r + 1) (l := l)
    simp only [hdF]
    constructor
    · intro h
      by_cases e : a = node
      · rw [if_pos e] at h
        rcases List.mem_cons.1 h with h | h
        · injection h with _ h
          exact ⟨0, by simp, e, by omega⟩
        · obtain ⟨i, hi, e1, e2⟩ := ih.1 h
          exact ⟨i + 1, by simpa using hi, by simpa using e1, by omega⟩
      · rw [if_neg e] at h
        obtain ⟨i, hi, e1, e2⟩ := ih.1 h
        exact ⟨i + 1, by simpa using hi, by simpa using e1, by omega⟩
    · rintro ⟨i, hi, e1, e2⟩
      cases i with
      | zero =>
        simp only [List.getElem_cons_zero] at e1
        rw [if_pos e1]
        exact List.mem_cons.2 (Or.inl (by rw [e2]; rfl))
      | succ i =>
        have := ih.2 ⟨i, by simpa using hi, by simpa using e1, by omega⟩
        split
        · exact List.mem_cons_of_mem _ this
        · exact this
/-- a node has a slot just where it is the owner of that place -/
theorem hdL_iff {x : Nat → Int} {ns : List ND} {node : Int} {P p k : Nat} (hp : p < P) (hk : k < (owL ns (wk x ns (p : Int))).length) : (p, k) ∈ hdL x ns node P ↔ (owL ns (wk x ns (p : Int)))[k] = node := by
  unfold hdL
  rw [List.mem_flatMap]
  constructor
  · rintro ⟨p', hp', h⟩
    obtain rfl : p = p' := (hdF_mem h).1
    obtain ⟨i, hi, e1, e2⟩ := hdF_iff.1 h
    obtain rfl : k = i := by omega
    exact e1
  · intro h
    exact ⟨p, List.mem_range.2 hp, hdF_iff.2 ⟨k, hk, h, by omega⟩⟩
/-- sums -/
def sumN (f : Nat → Nat) : Nat → Nat
  | 0 => 0
  | n + 1 => sumN f n + f n
theorem sumN_add (f g : Nat → Nat) (N : Nat) : sumN (fun n => f n + g n) N = sumN f N + sumN g N := by
  induction N with
  | zero => rfl
  | succ N ih => simp only [sumN, ih]; omega
theorem sumN_zero (N : Nat) : sumN (fun _ => 0) N = 0 := by
  induction N with
  | zero => rfl
  | succ N ih => simp only [sumN, ih]
theorem sumN_ite (a : Int) (N : Nat) : sumN (fun n => if a = (n : Int) then 1 else 0) N = if 0 ≤ a ∧ a < (N : Int) then 1 else 0 := by
  induction N with
  | zero => simp only [sumN]; rw [if_neg (by omega)]
  | succ N ih =>
    simp only [sumN, ih]
    by_cases h1 : a = (N : Int)
    · rw [if_neg (by omega), if_pos h1, if_pos (by omega)]
    · rw [if_neg h1]
      by_cases h2 : 0 ≤ a ∧ a < (N : Int)
      · rw [if_pos h2, if_pos (by omega)]
      · rw [if_neg h2, if_neg (by omega)]
theorem hdF_cons_len (n : Int) (p r : Nat) (a : Int) (l : List Int) : (hdF n p r (a :: l)).length = (if a = n then 1 else 0) + (hdF n p (r + 1) l).length := by
  simp only [hdF]
  split
  · rw [List.length_cons]; omega
  · omega
theorem hdF_sum (p N : Nat) : ∀ (r : Nat) (l : List Int), (∀ a ∈ l, 0 ≤ a ∧ a < (N : Int)) → sumN (fun n => (hdF (n : Int) p r l).length) N = l.length
  | r, [], _ => by simp only [hdF, List.length_nil]; exact sumN_zero N
  | r, a :: l, h => by
    have ih := hdF_sum p N (r + 1) l (fun b hb => h b (List.mem_cons_of_mem _ hb))
    simp only [hdF_cons_len]
    rw [sumN_add, ih, sumN_ite, if_pos (h a (List.mem_cons_self ..)), List.length_cons]
    omega
/-- all slots together -/
theorem hdL_sum {x : Nat → Int} {ns : List ND} (hd : Dealt ns) (h0 : 1 ≤ x 0) (h1 : x 0 ≤ (kpN ns : Int)) : ∀ q, q ≤ ptN ns → sumN (fun n => (hdL x ns (n : Int) q).length) ns.length = q * (x 0).toNat
  | 0, _ => by simp only [hdL_0, List.length_nil]; rw [sumN_zero]; omega
  | q + 1, hq => by
    have ih := hdL_sum hd h0 h1 q (by omega)
    simp only [hdL_succ, List.length_append]
    rw [sumN_add, ih, hdF_sum q ns.length 0 _ (fun a ha => ?_), owL_len, Nat.succ_mul]
    · have := wk_full (x := x) (p := (q : Int)) hd (by omega) (by omega) (by omega) h1
      omega
    · unfold owL at ha
      obtain ⟨k, hk, rfl⟩ := List.mem_map.1 ha
      obtain ⟨i, hi, e, _⟩ := hm_in hd (wk_lt (by omega) k hk)
      rw [e]
      exact ⟨by omega, by omega⟩
theorem hdL_pair (x : Nat → Int) (ns : List ND) (node : Int) (q : Nat) : (hdL x ns node q).Pairwise (fun a b => a.1 ≠ b.1) := by
  induction q with
  | zero => simp [hdL]
  | succ q ih =>
    rw [hdL_succ, List.pairwise_append]
    refine ⟨ih, ?_, fun a ha b hb => ?_⟩
    · have := hdF_len (node := node) (p := q) (r := 0) (wk_diff x ns (q : Int))
      match hdF node q 0 (owL ns (wk x ns (q : Int))), this with
      | [], _ => exact List.Pairwise.nil
      | [a], _ => simp
      | a :: b :: t, h => simp at h
    · have h1 := (hdF_mem hb).1
      unfold hdL at ha
      obtain ⟨p', hp', h⟩ := List.mem_flatMap.1 ha
      have h2 := (hdF_mem h).1
      have := List.mem_range.1 hp'
      omega
theorem fnL_inj {f g : FV} (hf : Val f) (hg : Val g) (h : fnL f = fnL g) : f = g := by
  have h1 := (readP_spec (fnL f) f).2 ⟨hf, rfl⟩
  have h2 := (readP_spec (fnL f) g).2 ⟨hg, h.symm⟩
  exact Option.some.inj (h1.symm.trans h2)
theorem fl1_mem {s : Nat × Nat} {k : Nat} {a : List UInt8} : a ∈ fl1 s k ↔ ∃ c d, c < k ∧ a = fnL (s.1, s.2, c, d) := by
  unfold fl1
  rw [List.mem_flatMap]
  constructor
  · rintro ⟨c, hc, h⟩
    simp only [List.mem_cons, List.not_mem_nil, or_false] at h
    rcases h with h | h
    · exact ⟨c, false, List.mem_range.1 hc, h⟩
    · exact ⟨c, true, List.mem_range.1 hc, h⟩
  · rintro ⟨c, d, hc, h⟩
    refine ⟨c, List.mem_range.2 hc, ?_⟩
    cases d <;> simp [h]
theorem flL_mem {l : List (Nat × Nat)} {k : Nat} {a : List UInt8} : a ∈ flL l k ↔ ∃ s ∈ l, ∃ c d, c < k ∧ a = fnL (s.1, s.2, c, d) := by
  unfold flL
  rw [List.mem_flatMap]
  constructor
  · rintro ⟨s, hs, h⟩
    exact ⟨s, hs, fl1_mem.1 h⟩
  · rintro ⟨s, hs, h⟩
    exact ⟨s, hs, fl1_mem.2 h⟩
theorem fl1_nodup {s : Nat × Nat} (h1 : s.1 < 64) (h2 : s.2 < 16) : ∀ k, k ≤ 16 → (fl1 s k).Nodup
  | 0, _ => by simp [fl1]
  | k + 1, hk => by
    rw [fl1_succ]
    have key : ∀ c d c' d', c < 16 → c' < 16 → fnL (s.1, s.2, c, d) = fnL (s.1, s.2, c', d') → c = c' ∧ d = d' := fun c d c' d' hc hc' e => by
      have := fnL_inj (f := (s.1, s.2, c, d)) (g := (s.1, s.2, c', d')) ⟨h1, h2, hc⟩ ⟨h1, h2, hc'⟩ e
      injection this with _ this
      injection this with _ this
      injection this with e1 e2
      exact ⟨e1, e2⟩
    refine List.nodup_append.2 ⟨fl1_nodup h1 h2 k (by omega), ?_, fun a ha b hb e => ?_⟩
    · refine List.nodup_cons.2 ⟨fun h => ?_, by simp⟩
      have := (key k false k true (by omega) (by omega) (by simpa using h)).2
      cases this
    · obtain ⟨c, d, hc, e1⟩ := fl1_mem.1 ha
      simp only [List.mem_cons, List.not_mem_nil, or_false] at hb
      rcases hb with hb | hb
      · have := (key c d k false (by omega) (by omega) (by rw [← e1, ← hb, e])).1
        omega
      · have := (key c d k true (by omega) (by omega) (by rw [← e1, ← hb, e])).1
        omega
theorem flL_nodup {k : Nat} (hk : k ≤ 16) : ∀ (l : List (Nat × Nat)), (∀ s ∈ l, s.1 < 64 ∧ s.2 < 16) → l.Pairwise (fun a b => a.1 ≠ b.1) → (flL l k).Nodup
  | [], _, _ => by simp [flL]
  | s :: l, h, hp => by
    obtain ⟨p1, p2⟩ := List.pairwise_cons.1 hp
    have hs := h s (List.mem_cons_self ..)
    rw [show flL (s :: l) k = fl1 s k ++ flL l k from List.flatMap_cons]
    refine List.nodup_append.2 ⟨fl1_nodup hs.1 hs.2 k hk, flL_nodup hk l (fun t ht => h t (List.mem_cons_of_mem _ ht)) p2, fun a ha b hb e => ?_⟩
    obtain ⟨c, d, hc, e1⟩ := fl1_mem.1 ha
    obtain ⟨t, ht, c', d', hc', e2⟩ := flL_mem.1 hb
    have ht2 := h t (List.mem_cons_of_mem _ ht)
    have := fnL_inj (f := (s.1, s.2, c, d)) (g := (t.1, t.2, c', d')) ⟨hs.1, hs.2, by show c < 16; omega⟩ ⟨ht2.1, ht2.2, by show c' < 16; omega⟩ (by rw [← e1, ← e2, e])
    injection this with e3 _
    exact p1 t ht e3
theorem insA_mem {l : List (List UInt8)} {a : List UInt8} : a ∈ insA l ↔ a ∈ l := by
  have := (fold_perm l []).mem_iff (a := a)
  simpa [insA] using this
/-- names that rise -/
theorem insA_rise {l : List (List UInt8)} (h : l.Nodup) {i : Nat} (hi : i + 1 < (insA l).length) : (insA l)[i] < (insA l)[i + 1] := by
  have hp : (insA l).Nodup := ((fold_perm l []).nodup_iff).2 (by simpa using h)
  have hs : (insA l).Pairwise (· ≤ ·) := fold_sorted l [] List.Pairwise.nil
  have h1 := List.pairwise_iff_getElem.1 hs i (i + 1) (by omega) hi (by omega)
  have h2 := List.pairwise_iff_getElem.1 hp i (i + 1) (by omega) hi (by omega)
  exact List.not_le.1 (fun h => h2 (List.le_antisymm h1 h))
end Go.Proofs.YtioiphonajinmaaGreatDoor
namespace Go.Proofs
open Go.Shelf Go.RowKit
def Tryz.lays108_ren : Go.Shelf.Ren := ⟨fun | 108 => 22 | n => n, fun | 28 => 22 | 3 => 3 | 0 => 0 | 4 => 4 | n => n, fun | n => n⟩
theorem Tryz.lays108 : Go.Proofs.Lays.n108 Tryz.prog Tryz.lays108_ren := {
  mixed := by kernel_rfl
  f108 := Tryz.func22.trans (congrArg some (by kernel_rfl))
  t0 := Tryz.underlying0
  a0 := Tryz.isAgg0
  z0 := Tryz.sizeOf0
  v0 := Tryz.zeroValue0
  t3 := Tryz.underlying3
  a3 := Tryz.isAgg3
  z3 := Tryz.sizeOf3
  v3 := Tryz.zeroValue3
  t4 := Tryz.underlying4
  a4 := Tryz.isAgg4
  z4 := Tryz.sizeOf4
  v4 := Tryz.zeroValue4
  t28 := Tryz.underlying22
  a28 := Tryz.isAgg22
  z28 := Tryz.sizeOf22
  v28 := Tryz.zeroValue22 }
open Go.Lib in
theorem Tryz.slices_Index_int (b off n c : Nat) (zs : List Int) (x : Int) (w : World) (hz : n ≤ zs.length) (hbig : n ≤ 9223372036854775807) (hc : ∀ j, j < zs.length → w.cell? ⟨b, off + j, none⟩ = some (.int .i64 (zs.getD j 0))) :
    Calls Tryz.prog 22 #[.slice (some ⟨b, off, none⟩) n c, .int .i64 x] w fun e w' => e = .returned (.int .i64 (Lib.idxOf (zs.take n) x)) ∧ w' = w := Any.slices_Index_int Tryz.lays108 b off n c zs x w hz hbig hc
def Tryz.lays190_ren : Go.Shelf.Ren := ⟨fun | 190 => 25 | 125 => 41 | 258 => 40 | 128 => 59 | 129 => 60 | 302 => 50 | 303 => 51 | 304 => 52 | 305 => 53 | 306 => 54 | 307 => 55 | 308 => 56 | 309 => 57 | 310 => 58 | 333 => 69 | 329 => 70 | 330 => 71 | 334 => 72 | 335 => 73 | 336 => 74 | 344 => 91 | n => n, fun | 31 => 25 | 9 => 9 | 3 => 3 | 46 => 88 | 0 => 0 | 51 => 114 | 53 => 116 | 4 => 4 | 183 => 107 | 182 => 106 | 131 => 111 | 5 => 5 | 218 => 128 | 222 => 101 | 228 => 153 | 229 => 154 | n => n, fun | n => n⟩
theorem Tryz.lays190 : Go.Proofs.Lays.n190 Tryz.prog Tryz.lays190_ren := {
  mixed := by kernel_rfl
  f125 := Tryz.func41.trans (congrArg some (by kernel_rfl))
  f128 := Tryz.func59.trans (congrArg some (by kernel_rfl))
  f129 := Tryz.func60.trans (congrArg some (by kernel_rfl))
  f190 := Tryz.func25.trans (congrArg some (by kernel_rfl))
  f258 := Tryz.func40.trans (congrArg some (by kernel_rfl))
  f302 := Tryz.func50.trans (congrArg some (by kernel_rfl))
  f303 := Tryz.func51.trans (congrArg some (by kernel_rfl))
  f304 := Tryz.func52.trans (congrArg some (by kernel_rfl))
  f305 := Tryz.func53.trans (congrArg some (by kernel_rfl))
  f306 := Tryz.func54.trans (congrArg some (by kernel_rfl))
  f307 := Tryz.func55.trans (congrArg some (by kernel_rfl))
  f308 := Tryz.func56.trans (congrArg some (by kernel_rfl))
  f309 := Tryz.func57.trans (congrArg some (by kernel_rfl))
  f310 := Tryz.func58.trans (congrArg some (by kernel_rfl))
  f329 := Tryz.func70.trans (congrArg some (by kernel_rfl))
  f330 := Tryz.func71.trans (congrArg some (by kernel_rfl))
  f333 := Tryz.func69.trans (congrArg some (by kernel_rfl))
  f334 := Tryz.func72.trans (congrArg some (by kernel_rfl))
  f335 := Tryz.func73.trans (congrArg some (by kernel_rfl))
  f336 := Tryz.func74.trans (congrArg some (by kernel_rfl))
  f344 := Tryz.func91.trans (congrArg some (by kernel_rfl))
  t0 := Tryz.underlying0
  a0 := Tryz.isAgg0
  z0 := Tryz.sizeOf0
  v0 := Tryz.zeroValue0
  t3 := Tryz.underlying3
  a3 := Tryz.isAgg3
  z3 := Tryz.sizeOf3
  v3 := Tryz.zeroValue3
  t4 := Tryz.underlying4
  a4 := Tryz.isAgg4
  z4 := Tryz.sizeOf4
  v4 := Tryz.zeroValue4
  t5 := Tryz.underlying5
  a5 := Tryz.isAgg5
  z5 := Tryz.sizeOf5
  v5 := Tryz.zeroValue5
  t9 := Tryz.underlying9
  a9 := Tryz.isAgg9
  z9 := Tryz.sizeOf9
  v9 := Tryz.zeroValue9
  t31 := Tryz.underlying25
  a31 := Tryz.isAgg25
  z31 := Tryz.sizeOf25
  v31 := Tryz.zeroValue25
  t46 := Tryz.underlying88
  a46 := Tryz.isAgg88
  z46 := Tryz.sizeOf88
  v46 := Tryz.zeroValue88
  t51 := Tryz.underlying114
  a51 := Tryz.isAgg114
  z51 := Tryz.sizeOf114
  v51 := Tryz.zeroValue114
  t53 := Tryz.underlying116
  a53 := Tryz.isAgg116
  z53 := Tryz.sizeOf116
  v53 := Tryz.zeroValue116
  t131 := Tryz.underlying111
  a131 := Tryz.isAgg111
  z131 := Tryz.sizeOf111
  v131 := Tryz.zeroValue111
  t182 := Tryz.underlying106
  a182 := Tryz.isAgg106
  z182 := Tryz.sizeOf106
  v182 := Tryz.zeroValue106
  t183 := Tryz.underlying107
  a183 := Tryz.isAgg107
  z183 := Tryz.sizeOf107
  v183 := Tryz.zeroValue107
  t218 := Tryz.underlying128
  a218 := Tryz.isAgg128
  z218 := Tryz.sizeOf128
  v218 := Tryz.zeroValue128
  t222 := Tryz.underlying101
  a222 := Tryz.isAgg101
  z222 := Tryz.sizeOf101
  v222 := Tryz.zeroValue101
  t228 := Tryz.underlying153
  a228 := Tryz.isAgg153
  z228 := Tryz.sizeOf153
  v228 := Tryz.zeroValue153
  t229 := Tryz.underlying154
  a229 := Tryz.isAgg154
  z229 := Tryz.sizeOf154
  v229 := Tryz.zeroValue154 }
open Go.Sort Go.RowKit in
theorem Tryz.slices_Sort_string (blk off cap : Nat) (ss : List (List UInt8)) (w : World) (hH : Holds encStr w blk off ss.toArray) (hblk : blk < w.heap.size) (hsz : ss.length < 4611686018427387904) :
    Calls Tryz.prog 25 #[.slice (some ⟨blk, off, none⟩) ss.length cap] w fun e w' =>
      e = .returned (.tuple #[]) ∧ ∃ n os, w' = grow (putRow encStr (Sort.ahead w n) blk off (ss.mergeSort fun x y => decide (x ≤ y)).toArray) os := Any.slices_Sort_string Tryz.lays190 blk off cap ss w hH hblk hsz
open Go.RowKit Go.Sort in
theorem Tryz.slices_Sort_string_none (p : Option Addr) (cap : Nat) (w : World) :
    Calls Tryz.prog 25 #[.slice p 0 cap] w fun e w' => e = .returned (.tuple #[]) ∧ w' = w := Any.slices_Sort_string_none Tryz.lays190 p cap w
end Go.Proofs
