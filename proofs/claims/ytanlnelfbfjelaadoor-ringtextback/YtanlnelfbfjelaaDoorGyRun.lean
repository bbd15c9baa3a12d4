import Derived.Test.YtanlnelfbfjelaaDoorGGrShelf
namespace Go.Proofs.YtanlnelfbfjelaaDoor
/-- behind the lines of A, and the first m nodes' -/
def mkS (st : List UInt8) (x : Nat → Int) (ns : List ND) (A : Nat → Bool) (m : Nat) : PS := ⟨if A 0 then st else [], fun i => if A (i + 1) then x i else -1, ns.take m⟩
def setB (A : Nat → Bool) (k : Nat) : Nat → Bool := fun j => decide (j = k) || A j
theorem mkS_zero (st : List UInt8) (x : Nat → Int) (ns : List ND) : mkS st x ns (fun _ => false) 0 = ps0 := rfl
section
variable {st : List UInt8} {x : Nat → Int} {ns : List ND}
theorem ln_non {l : List UInt8} (h : l = [] ∨ l.head? = some 35) (s : PS) : lnE s l = 0 ∧ lnN s l = s := by
  unfold lnE lnN rdL
  rw [if_pos h]
  exact ⟨rfl, rfl⟩
theorem ln_set (h : PrM st x ns) (A : Nat → Bool) (m : Nat) {k : Nat} (hk : k < 22) : lnE (mkS st x ns A m) (lnK st x ns k) = (if A k then 61 else 0) ∧ lnN (mkS st x ns A m) (lnK st x ns k) = mkS st x ns (setB A k) m := by
  cases k with
  | zero =>
    unfold lnE lnN
    rw [rd_store h]
    refine ⟨?_, ?_⟩
    · show (if (mkS st x ns A m).st = [] then (0 : Int) else 61) = _
      unfold mkS
      cases hA : A 0
      · simp
      · simp [h.s0]
    · unfold stN mkS setB
      simp
  | succ i =>
    have hi : i < 21 := by omega
    unfold lnE lnN
    rw [rd_set h hi]
    refine ⟨?_, ?_⟩
    · show (if 0 ≤ (mkS st x ns A m).x i then (61 : Int) else 0) = _
      unfold mkS
      cases hA : A (i + 1)
      · simp [hA]
      · simp [hA, (h.x i hi).1]
    · unfold stN mkS setB
      simp only [PS.mk.injEq, and_true]
      refine ⟨by simp, ?_⟩
      funext j
      unfold put1
      by_cases e : j = i
      · subst e; simp
      · simp [e]
theorem ln_node (h : PrM st x ns) (A : Nat → Bool) {m : Nat} (hm : m < ns.length) : lnE (mkS st x ns A m) (lnK st x ns (22 + m)) = 0 ∧ lnN (mkS st x ns A m) (lnK st x ns (22 + m)) = mkS st x ns A (m + 1) := by
  have hl : (mkS st x ns A m).ns.length = m := by unfold mkS; simp; omega
  unfold lnE lnN
  rw [hl, rd_node h hm]
  refine ⟨rfl, ?_⟩
  unfold stN mkS
  simp only [PS.mk.injEq, true_and]
  rw [List.take_succ_eq_append_getElem hm]
/-- lines that go -/
inductive Run (st : List UInt8) (x : Nat → Int) (ns : List ND) : (Nat → Bool) → Nat → List (List UInt8) → (Nat → Bool) → Nat → Prop
  | nil (A : Nat → Bool) (m : Nat) : Run st x ns A m [] A m
  | non {A B : Nat → Bool} {m n : Nat} {l : List UInt8} {L : List (List UInt8)} (h : l = [] ∨ l.head? = some 35) (r : Run st x ns A m L B n) : Run st x ns A m (l :: L) B n
  | set {A B : Nat → Bool} {m n k : Nat} {L : List (List UInt8)} (hk : k < 22) (hA : A k = false) (r : Run st x ns (setB A k) m L B n) : Run st x ns A m (lnK st x ns k :: L) B n
  | node {A B : Nat → Bool} {m n : Nat} {L : List (List UInt8)} (hm : m < ns.length) (r : Run st x ns A (m + 1) L B n) : Run st x ns A m (lnK st x ns (22 + m) :: L) B n
theorem Run.app {A B C : Nat → Bool} {m n p : Nat} {L M : List (List UInt8)} (h : Run st x ns A m L B n) (g : Run st x ns B n M C p) : Run st x ns A m (L ++ M) C p := by
  induction h with
  | nil => exact g
  | non h _ ih => exact .non h (ih g)
  | set hk hA _ ih => exact .set hk hA (ih g)
  | node hm _ ih => exact .node hm (ih g)
theorem Run.fine (hP : PrM st x ns) {A B : Nat → Bool} {m n : Nat} {L : List (List UInt8)} (h : Run st x ns A m L B n) : L.foldl lnN (mkS st x ns A m) = mkS st x ns B n ∧ ∀ (j : Nat) (hj : j < L.length), lnE ((L.take j).foldl lnN (mkS st x ns A m)) L[j] = 0 := by
  have key : ∀ {A A' : Nat → Bool} {m m' : Nat} {l : List UInt8} {L : List (List UInt8)}, lnE (mkS st x ns A m) l = 0 → lnN (mkS st x ns A m) l = mkS st x ns A' m' → (L.foldl lnN (mkS st x ns A' m') = mkS st x ns B n ∧ ∀ (j : Nat) (hj : j < L.length), lnE ((L.take j).foldl lnN (mkS st x ns A' m')) L[j] = 0) → ((l :: L).foldl lnN (mkS st x ns A m) = mkS st x ns B n ∧ ∀ (j : Nat) (hj : j < (l :: L).length), lnE (((l :: L).take j).foldl lnN (mkS st x ns A m)) (l :: L)[j] = 0) := by
    intro A A' m m' l L h1 h2 h3
    refine ⟨by rw [List.foldl_cons, h2]; exact h3.1, fun j hj => ?_⟩
    cases j with
    | zero => exact h1
    | succ j =>
      rw [List.take_succ_cons, List.foldl_cons, h2]
      exact h3.2 j (by simpa using hj)
  induction h with
  | nil => exact ⟨rfl, fun j hj => absurd hj (Nat.not_lt_zero _)⟩
  | non h _ ih =>
    obtain ⟨a, b⟩ := ln_non h (mkS st x ns _ _)
    exact key a b (ih key)
  | set hk hA _ ih =>
    obtain ⟨a, b⟩ := ln_set hP _ _ hk
    exact key (by rw [a, hA]; rfl) b (ih key)
  | node hm _ ih =>
    obtain ⟨a, b⟩ := ln_node hP _ hm
    exact key a b (ih key)
/-- the lines that Print writes; those without the line k; those turned; those with the line k twice -/
def lsL (st : List UInt8) (x : Nat → Int) (ns : List ND) (i : Nat) : List (List UInt8) := (List.range i).map (lnK st x ns)
def leL (st : List UInt8) (x : Nat → Int) (ns : List ND) (k i : Nat) : List (List UInt8) := (List.range i).flatMap fun j => if j = k then [] else [lnK st x ns j]
def twL (st : List UInt8) (x : Nat → Int) (ns : List ND) (k i : Nat) : List (List UInt8) := (List.range i).flatMap fun j => if j = k then [lnK st x ns j, lnK st x ns j] else [lnK st x ns j]
def tuL (st : List UInt8) (x : Nat → Int) (ns : List ND) (i : Nat) : List (List UInt8) := (List.range i).flatMap fun j => if j < 22 then [lnK st x ns (21 - j)] else [lnK st x ns j, [], [35]]
theorem leL_succ (k i : Nat) : leL st x ns k (i + 1) = leL st x ns k i ++ if i = k then [] else [lnK st x ns i] := by unfold leL; rw [List.range_succ, List.flatMap_append]; simp
theorem twL_succ (k i : Nat) : twL st x ns k (i + 1) = twL st x ns k i ++ if i = k then [lnK st x ns i, lnK st x ns i] else [lnK st x ns i] := by unfold twL; rw [List.range_succ, List.flatMap_append]; simp
theorem tuL_succ (i : Nat) : tuL st x ns (i + 1) = tuL st x ns i ++ if i < 22 then [lnK st x ns (21 - i)] else [lnK st x ns i, [], [35]] := by unfold tuL; rw [List.range_succ, List.flatMap_append]; simp
theorem lsL_succ (i : Nat) : lsL st x ns (i + 1) = lsL st x ns i ++ [lnK st x ns i] := by unfold lsL; rw [List.range_succ, List.map_append]; rfl
theorem run_less (k : Nat) (hk : k < 22 ∨ 22 + ns.length ≤ k) : ∀ (i : Nat), i ≤ 22 + ns.length → Run st x ns (fun _ => false) 0 (leL st x ns k i) (fun j => decide (j < i) && decide (j < 22) && decide (j ≠ k)) (i - 22)
  | 0, _ => by
    have e : (fun j : Nat => decide (j < 0) && decide (j < 22) && decide (j ≠ k)) = fun _ => false := by funext j; simp
    rw [e]
    exact .nil _ _
  | i + 1, h => by
    have ih := run_less k hk i (by omega)
    rw [leL_succ]
    by_cases e : i = k
    · rw [if_pos e, List.append_nil]
      have e1 : (fun j : Nat => decide (j < i + 1) && decide (j < 22) && decide (j ≠ k)) = fun j => decide (j < i) && decide (j < 22) && decide (j ≠ k) := by
        funext j
        by_cases a : j = k
        · simp [a]
        · have : (j < i + 1) = (j < i) := propext (by omega)
          simp only [this]
      rw [e1, show i + 1 - 22 = i - 22 by omega]
      exact ih
    · rw [if_neg e]
      refine ih.app ?_
      by_cases h22 : i < 22
      · refine .set h22 (by simp) ?_
        have e1 : setB (fun j : Nat => decide (j < i) && decide (j < 22) && decide (j ≠ k)) i = fun j => decide (j < i + 1) && decide (j < 22) && decide (j ≠ k) := by
          funext j
          unfold setB
          by_cases a : j = i
          · subst a; simp [h22, e]
          · have : (j < i + 1) = (j < i) := propext (by omega)
            simp only [this, a, decide_false, Bool.false_or]
        rw [e1, show i + 1 - 22 = i - 22 by omega]
        exact .nil _ _
      · have hi : i = 22 + (i - 22) := by omega
        have e1 : (fun j : Nat => decide (j < i + 1) && decide (j < 22) && decide (j ≠ k)) = fun j => decide (j < i) && decide (j < 22) && decide (j ≠ k) := by
          funext j
          by_cases a : j < 22
          · have t1 : j < i + 1 := by omega
            have t2 : j < i := by omega
            simp [t1, t2]
          · simp [a]
        rw [e1, show i + 1 - 22 = (i - 22) + 1 by omega]
        have : Run st x ns (fun j => decide (j < i) && decide (j < 22) && decide (j ≠ k)) (i - 22) [lnK st x ns (22 + (i - 22))] (fun j => decide (j < i) && decide (j < 22) && decide (j ≠ k)) (i - 22 + 1) := .node (by omega) (.nil _ _)
        rw [← hi] at this
        exact this
theorem run_turned : ∀ (i : Nat), i ≤ 22 + ns.length → Run st x ns (fun _ => false) 0 (tuL st x ns i) (fun j => decide (22 ≤ j + i) && decide (j < 22)) (i - 22)
  | 0, _ => by
    have e : (fun j : Nat => decide (22 ≤ j + 0) && decide (j < 22)) = fun _ => false := by
      funext j
      by_cases a : j < 22
      · rw [decide_eq_false (show ¬ 22 ≤ j + 0 by omega)]; rfl
      · simp [a]
    rw [e]
    exact .nil _ _
  | i + 1, h => by
    have ih := run_turned i (by omega)
    rw [tuL_succ]
    refine ih.app ?_
    by_cases h22 : i < 22
    · rw [if_pos h22]
      refine .set (by omega) (by simp; omega) ?_
      have e1 : setB (fun j : Nat => decide (22 ≤ j + i) && decide (j < 22)) (21 - i) = fun j => decide (22 ≤ j + (i + 1)) && decide (j < 22) := by
        funext j
        unfold setB
        by_cases a : j = 21 - i
        · have t1 : 22 ≤ j + (i + 1) := by omega
          have t2 : j < 22 := by omega
          rw [decide_eq_true a, decide_eq_true t1, decide_eq_true t2]
          rfl
        · have : (22 ≤ j + (i + 1)) = (22 ≤ j + i) := propext (by omega)
          simp only [this, a, decide_false, Bool.false_or]
      rw [e1, show i + 1 - 22 = i - 22 by omega]
      exact .nil _ _
    · rw [if_neg h22]
      have hi : i = 22 + (i - 22) := by omega
      have e1 : (fun j : Nat => decide (22 ≤ j + (i + 1)) && decide (j < 22)) = fun j => decide (22 ≤ j + i) && decide (j < 22) := by
        funext j
        have t1 : 22 ≤ j + (i + 1) := by omega
        have t2 : 22 ≤ j + i := by omega
        simp [t1, t2]
      rw [e1, show i + 1 - 22 = (i - 22) + 1 by omega]
      have : Run st x ns (fun j => decide (22 ≤ j + i) && decide (j < 22)) (i - 22) [lnK st x ns (22 + (i - 22)), [], [35]] (fun j => decide (22 ≤ j + i) && decide (j < 22)) (i - 22 + 1) := .node (by omega) (.non (.inl rfl) (.non (.inr rfl) (.nil _ _)))
      rw [← hi] at this
      exact this
theorem leL_all (k : Nat) : ∀ (i : Nat), i ≤ k → leL st x ns k i = lsL st x ns i
  | 0, _ => rfl
  | i + 1, h => by rw [leL_succ, lsL_succ, leL_all k i (by omega), if_neg (by omega)]
theorem twL_one (k : Nat) : ∀ (i : Nat), i ≤ k → twL st x ns k i = lsL st x ns i
  | 0, _ => rfl
  | i + 1, h => by rw [twL_succ, lsL_succ, twL_one k i (by omega), if_neg (by omega)]
/-- the line k, the second time -/
theorem twL_two (k : Nat) : ∀ (i : Nat), k < i → ∃ M, twL st x ns k i = lsL st x ns (k + 1) ++ lnK st x ns k :: M
  | 0, h => absurd h (Nat.not_lt_zero _)
  | i + 1, h => by
    by_cases e : i = k
    · subst e
      refine ⟨[], ?_⟩
      rw [twL_succ, twL_one i i (Nat.le_refl _), if_pos rfl, lsL_succ]
      simp
    · obtain ⟨M, hM⟩ := twL_two k i (by omega)
      refine ⟨M ++ [lnK st x ns i], ?_⟩
      rw [twL_succ, hM, if_neg e]
      simp
/-- a text of lines -/
def txL (L : List (List UInt8)) : List UInt8 := L.flatMap fun l => l ++ [10]
theorem txL_app (L M : List (List UInt8)) : txL (L ++ M) = txL L ++ txL M := List.flatMap_append
theorem txL_one (l : List UInt8) : txL [l] = l ++ [10] := by unfold txL; simp
theorem txL_ls (n : Nat) : txL (lsL st x ns (22 + n)) = (lnK st x ns 0 ++ [10]) ++ ((List.range 21).flatMap fun j => lnK st x ns (j + 1) ++ [10]) ++ ((List.range n).flatMap fun j => lnK st x ns (22 + j) ++ [10]) := by
  induction n with
  | zero =>
    rw [List.range_zero, List.flatMap_nil, List.append_nil]
    rfl
  | succ n ih =>
    rw [show 22 + (n + 1) = (22 + n) + 1 from rfl, lsL_succ, txL_app, ih, txL_one, show List.range (n + 1) = List.range n ++ [n] from List.range_succ, List.flatMap_append]
    simp only [List.append_assoc, List.flatMap_cons, List.flatMap_nil, List.append_nil]
end
theorem txL_print {st : ByteArray} {x : Nat → Int} {ns : List ND} : prT st x ns = txL (lsL st.data.toList x ns (22 + ns.length)) := by
  rw [txL_ls]
  unfold prT prS prN lnB
  have e1 : lnK st.data.toList x ns 0 = Lib.join [storeW, st.data.toList] [32] := rfl
  have e2 : ((List.range 21).flatMap fun j => lnK st.data.toList x ns (j + 1) ++ [10]) = (List.range 21).flatMap fun j => Lib.join [swd j, itB (x j)] [32] ++ [10] := by
    have : ∀ j ∈ List.range 21, lnK st.data.toList x ns (j + 1) ++ [10] = Lib.join [swd j, itB (x j)] [32] ++ [10] := fun j hj => by
      have := List.mem_range.1 hj
      unfold lnK
      rw [if_neg (by omega), if_pos (by omega), Nat.add_sub_cancel]
    rw [List.flatMap_def, List.flatMap_def, List.map_congr_left this]
  have e3 : ((List.range ns.length).flatMap fun j => lnK st.data.toList x ns (22 + j) ++ [10]) = (List.range ns.length).flatMap fun j => Lib.join (ndW j (ns[j]?.getD default)) [32] ++ [10] := by
    rw [List.flatMap_def, List.flatMap_def]
    congr 1
    refine List.map_congr_left fun j _ => ?_
    unfold lnK
    rw [if_neg (by omega), if_neg (by omega), show 22 + j - 22 = j by omega]
  rw [e1, e2, e3]
end Go.Proofs.YtanlnelfbfjelaaDoor
