import Derived.Lib.Split
import Derived.Lib.Join
namespace Go.Proofs.YtgdibjnendjhnaaGreatDoor
open Go

/-- a byte that a name may hold -/
def nb (b : UInt8) : Bool := (97 ≤ b && b ≤ 122) || (48 ≤ b && b ≤ 57) || b == 45 || b == 95 || b == 46
/-- a name -/
def nm (l : List UInt8) : Bool := l != [] && decide (l.length ≤ 40) && l != [46] && l != [46, 46] && l.all nb
/-- the pieces between slashes -/
def pcs : List UInt8 → List (List UInt8)
  | [] => [[]]
  | c :: r => if c = 47 then [] :: pcs r else ((c :: (pcs r).headD []) :: (pcs r).tail)
/-- is it a path? -/
def isPath (l : List UInt8) : Bool := l == [] || (decide ((pcs l).length ≤ 8) && (pcs l).all nm)
/-- how many names -/
def nNames (l : List UInt8) : Nat := if l = [] then 0 else (pcs l).length

theorem pcs_ne (l : List UInt8) : pcs l ≠ [] := by
  cases l with
  | nil => simp [pcs]
  | cons c r => unfold pcs; split <;> simp

theorem pcs_pos (l : List UInt8) : 1 ≤ (pcs l).length := by
  have := pcs_ne l
  cases h : pcs l with
  | nil => exact absurd h this
  | cons a t => simp

/-- a piece without slashes, then a slash -/
theorem pcs_cut (a r : List UInt8) (h : (47 : UInt8) ∉ a) : pcs (a ++ 47 :: r) = a :: pcs r := by
  induction a with
  | nil => simp [pcs]
  | cons c a ih =>
    have hc : c ≠ 47 := fun e => h (by simp [e])
    have ih := ih (fun e => h (by simp [e]))
    rw [List.cons_append, pcs, if_neg hc, ih]
    rfl

theorem pcs_last (a : List UInt8) (h : (47 : UInt8) ∉ a) : pcs a = [a] := by
  induction a with
  | nil => simp [pcs]
  | cons c a ih =>
    have hc : c ≠ 47 := fun e => h (by simp [e])
    have ih := ih (fun e => h (by simp [e]))
    rw [pcs, if_neg hc, ih]
    rfl

theorem occ47 (s : List UInt8) (j : Nat) : Lib.occAt s [47] j = (s[j]? == some 47) := by
  unfold Lib.occAt
  cases h : s.drop j with
  | nil =>
    have : s.length ≤ j := List.drop_eq_nil_iff.1 h
    simp [List.isPrefixOf, List.getElem?_eq_none this]
  | cons c t =>
    have h1 : s[j]? = some c := by
      have := List.getElem?_drop (xs := s) (i := j) (j := 0)
      rw [h] at this
      simpa using this.symm
    rw [h1]
    simp only [List.isPrefixOf, Bool.and_true]
    rw [Bool.eq_iff_iff, beq_iff_eq, beq_iff_eq]
    exact ⟨fun e => by rw [← e], fun e => (Option.some.inj e).symm⟩

theorem split_pcs (s : List UInt8) : Lib.splitK [47] 0 (Lib.count s [47]) s = pcs s := by
  induction h : s.length using Nat.strongRecOn generalizing s with
  | ind n ih =>
    rcases Lib.index_spec s [47] with ⟨h1, h2⟩ | ⟨i, h1, h2, h3, h4⟩
    · rw [Lib.count_miss h1]
      have : (47 : UInt8) ∉ s := by
        intro hm
        obtain ⟨j, hj, e⟩ := List.getElem_of_mem hm
        have := h2 j (by omega)
        rw [occ47, List.getElem?_eq_getElem hj, e] at this
        simp at this
      rw [pcs_last s this]
      rfl
    · have hc := Lib.count_hit (s := s) (sub := [47]) (by simp) h1
      rw [hc, Nat.add_comm 1, Lib.splitK]
      have hne : ¬ (Lib.index s [47] == -1) = true := fun e => by have := beq_iff_eq.1 e; omega
      rw [if_neg hne, h1]
      simp only [Int.toNat_natCast, Nat.add_zero, List.length_cons, List.length_nil, Nat.zero_add]
      rw [occ47] at h3
      have h3 : s[i]? = some 47 := by simpa using h3
      have hi : i < s.length := by
        rcases Nat.lt_or_ge i s.length with h | h
        · exact h
        · rw [List.getElem?_eq_none h] at h3; simp at h3
      rw [ih _ (by rw [List.length_drop]; omega) _ rfl]
      have hno : (47 : UInt8) ∉ s.take i := by
        intro hm
        obtain ⟨j, hj, e⟩ := List.getElem_of_mem hm
        rw [List.length_take] at hj
        have := h4 j (by omega)
        rw [occ47, List.getElem?_eq_getElem (by omega)] at this
        rw [List.getElem_take] at e
        rw [e] at this
        simp at this
      have hs : s = s.take i ++ 47 :: s.drop (i + 1) := by
        have e0 : s[i] = 47 := by rw [List.getElem?_eq_getElem hi] at h3; exact Option.some.inj h3
        conv => lhs; rw [← List.take_append_drop i s, List.drop_eq_getElem_cons hi, e0]
      conv => rhs; rw [hs]
      rw [pcs_cut _ _ hno]

theorem nm_len {l : List UInt8} (h : nm l = true) : l.length ≤ 40 := by
  unfold nm at h; simp at h; omega

theorem pcs_sum (l : List UInt8) : ((pcs l).map List.length).sum + (pcs l).length = l.length + 1 := by
  induction l with
  | nil => simp [pcs]
  | cons c r ih =>
    unfold pcs
    by_cases hc : c = 47
    · rw [if_pos hc]
      simp only [List.map_cons, List.sum_cons, List.length_cons, List.length_nil]
      omega
    · rw [if_neg hc]
      cases h : pcs r with
      | nil => exact absurd h (pcs_ne r)
      | cons a t =>
        rw [h] at ih
        simp only [List.map_cons, List.sum_cons, List.length_cons, List.headD_cons, List.tail_cons] at ih ⊢
        omega

theorem sum_le (k : Nat) (ls : List (List UInt8)) (h : ∀ x ∈ ls, x.length ≤ k) : (ls.map List.length).sum ≤ k * ls.length := by
  induction ls with
  | nil => simp
  | cons a t ih =>
    have h1 := h a (by simp)
    have h2 := ih (fun x hx => h x (by simp [hx]))
    simp only [List.map_cons, List.sum_cons, List.length_cons, Nat.mul_succ]
    omega

/-- a longer text is no path -/
theorem isPath_len (l : List UInt8) (h : isPath l = true) : l.length ≤ 327 := by
  unfold isPath at h
  simp only [Bool.or_eq_true, beq_iff_eq, Bool.and_eq_true, decide_eq_true_eq, List.all_eq_true] at h
  rcases h with h | ⟨h1, h2⟩
  · simp [h]
  · have a := pcs_sum l
    have b := sum_le 40 (pcs l) (fun x hx => nm_len (h2 x hx))
    omega

/-- the check of what is left of a path, behind m names -/
def chk (m : Nat) (r : List UInt8) : Bool := decide (m + (pcs r).length ≤ 8) && (pcs r).all nm

theorem isPath_chk (l : List UInt8) (h : l ≠ []) : isPath l = chk 0 l := by
  unfold isPath chk
  have : (l == []) = false := by simpa using h
  rw [this, Bool.false_or, Nat.zero_add]

theorem piece_cut (s : List UInt8) (f i : Nat) (hf : f ≤ i) (hi : i < s.length) (h47 : s[i] = 47) (hno : (47 : UInt8) ∉ (s.drop f).take (i - f)) :
    pcs (s.drop f) = (s.drop f).take (i - f) :: pcs (s.drop (i + 1)) := by
  have hs : s.drop f = (s.drop f).take (i - f) ++ 47 :: s.drop (i + 1) := by
    conv => lhs; rw [← List.take_append_drop (i - f) (s.drop f), List.drop_drop]
    rw [show f + (i - f) = i by omega, List.drop_eq_getElem_cons hi, h47]
  conv => lhs; rw [hs]
  rw [pcs_cut _ _ hno]

theorem chk_cut (s : List UInt8) (m f i : Nat) (hf : f ≤ i) (hi : i < s.length) (h47 : s[i] = 47) (hno : (47 : UInt8) ∉ (s.drop f).take (i - f)) :
    chk m (s.drop f) = (nm ((s.drop f).take (i - f)) && decide (m < 8) && chk (m + 1) (s.drop (i + 1))) := by
  unfold chk
  rw [piece_cut s f i hf hi h47 hno]
  have := pcs_pos (s.drop (i + 1))
  rw [Bool.eq_iff_iff]
  simp only [List.length_cons, List.all_cons, Bool.and_eq_true, decide_eq_true_eq]
  constructor
  · rintro ⟨h1, h2, h3⟩; exact ⟨⟨h2, by omega⟩, by omega, h3⟩
  · rintro ⟨⟨h2, h4⟩, h1, h3⟩; exact ⟨by omega, h2, h3⟩

theorem chk_end (s : List UInt8) (m f : Nat) (hno : (47 : UInt8) ∉ s.drop f) : chk m (s.drop f) = (nm (s.drop f) && decide (m < 8)) := by
  unfold chk
  rw [pcs_last _ hno, Bool.eq_iff_iff]
  simp only [List.length_cons, List.length_nil, List.all_cons, List.all_nil, Bool.and_eq_true, decide_eq_true_eq, Bool.and_true]
  constructor
  · rintro ⟨h1, h2⟩; exact ⟨h2, by omega⟩
  · rintro ⟨h1, h2⟩; exact ⟨by omega, h1⟩

theorem no47_snoc (s : List UInt8) (f i : Nat) (hf : f ≤ i) (hi : i < s.length) (h47 : s[i] ≠ 47) (hno : (47 : UInt8) ∉ (s.drop f).take (i - f)) :
    (47 : UInt8) ∉ (s.drop f).take (i + 1 - f) := by
  have hl : i - f < (s.drop f).length := by rw [List.length_drop]; omega
  rw [show i + 1 - f = (i - f) + 1 by omega, List.take_succ_eq_append_getElem hl]
  intro h
  rcases List.mem_append.1 h with h | h
  · exact hno h
  · rw [List.mem_singleton, List.getElem_drop] at h
    apply h47
    rw [h]
    congr 1
    omega

/-- the names' loop: all bytes so far are a name's -/
theorem all_snoc (l : List UInt8) (k : Nat) (hk : k < l.length) : (l.take (k + 1)).all nb = ((l.take k).all nb && nb l[k]) := by
  rw [List.take_succ_eq_append_getElem hk, List.all_append]
  simp

/-- the joined names, one more -/
theorem join_snoc (xs : List (List UInt8)) (k : Nat) (y : List UInt8) (h : xs[k]? = some y) :
    Lib.join (xs.take (k + 1)) [47] = if k = 0 then y else Lib.join (xs.take k) [47] ++ [47] ++ y := by
  cases xs with
  | nil => simp at h
  | cons x r =>
    cases k with
    | zero =>
      simp only [List.getElem?_cons_zero, Option.some.injEq] at h
      subst h
      simp [Lib.join_one]
    | succ k =>
      rw [List.getElem?_cons_succ] at h
      rw [if_neg (by omega), List.take_succ_cons, List.take_succ_cons, Lib.join_cons, Lib.join_cons, Lib.joinTail_take_succ _ _ _ _ h]
      simp [List.append_assoc]

theorem join_take_le (xs : List (List UInt8)) (k : Nat) : (Lib.join (xs.take k) [47]).length ≤ (Lib.join xs [47]).length := by
  cases xs with
  | nil => simp
  | cons x r =>
    cases k with
    | zero => simp [Lib.join_nil]
    | succ k =>
      rw [List.take_succ_cons, Lib.join_cons, Lib.join_cons, List.length_append, List.length_append]
      have := Lib.joinTail_take_le [47] r k
      omega

theorem join_len (xs : List (List UInt8)) : (Lib.join xs [47]).length ≤ xs.length + Lib.lens xs := by
  cases xs with
  | nil => simp [Lib.join_nil]
  | cons x r =>
    rw [Lib.join_length]
    simp only [List.length_cons, List.length_nil]
    omega

end Go.Proofs.YtgdibjnendjhnaaGreatDoor
