import Derived.Test.YtnegdhnmgkpkjaaGKbPlain
import Derived.BigRegion
namespace Go.Proofs.Ytnegdhnmgkpkjaa
/-- an element of a list, 0 behind its end -/
def atL (d : List Int) (i : Nat) : Int := d.getD i 0
theorem atL_get {d : List Int} {i : Nat} (h : i < d.length) : atL d i = d[i] := by
  unfold atL
  rw [List.getD_eq_getElem?_getD, List.getElem?_eq_getElem h]
  rfl
theorem atL_some {d : List Int} {i : Nat} (h : i < d.length) : d[i]? = some (atL d i) := by
  rw [atL_get h, List.getElem?_eq_getElem h]
theorem atL_ext {d e : List Int} (hl : d.length = e.length) (h : ∀ i, i < d.length → atL d i = atL e i) : d = e := by
  apply List.ext_getElem hl
  intro i h1 h2
  have := h i h1
  rwa [atL_get h1, atL_get h2] at this
theorem atL_set (d : List Int) (i j : Nat) (x : Int) (hi : i < d.length) : atL (d.set i x) j = if j = i then x else atL d j := by
  unfold atL
  rw [List.getD_eq_getElem?_getD, List.getD_eq_getElem?_getD, List.getElem?_set]
  by_cases e : i = j
  · subst e
    simp [hi]
  · rw [if_neg e, if_neg (fun q => e q.symm)]
/-- two elements change places -/
def swp (d : List Int) (i j : Nat) : List Int := (d.set i (atL d j)).set j (atL d i)
theorem swp_len (d : List Int) (i j : Nat) : (swp d i j).length = d.length := by simp [swp]
theorem atL_swp (d : List Int) {i j : Nat} (hi : i < d.length) (hj : j < d.length) (k : Nat) : atL (swp d i j) k = if k = j then atL d i else if k = i then atL d j else atL d k := by
  unfold swp
  rw [atL_set _ _ _ _ (by simpa using hj)]
  split
  · rfl
  · rw [atL_set _ _ _ _ hi]
variable (K : Int → Int)
/-- those of each key stand in the same order -/
def EqF (d e : List Int) : Prop := ∀ v, d.filter (fun x => K x == v) = e.filter (fun x => K x == v)
variable {K}
theorem EqF.refl (d : List Int) : EqF K d d := fun _ => rfl
theorem EqF.trans {d e f : List Int} (h : EqF K d e) (h' : EqF K e f) : EqF K d f := fun v => (h v).trans (h' v)
theorem EqF.symm {d e : List Int} (h : EqF K d e) : EqF K e d := fun v => (h v).symm
theorem EqF.mem {d e : List Int} (h : EqF K d e) {x : Int} : x ∈ e ↔ x ∈ d := by
  have := h (K x)
  constructor
  · intro hx
    have : x ∈ e.filter (fun y => K y == K x) := List.mem_filter.2 ⟨hx, by simp⟩
    rw [← h (K x)] at this
    exact (List.mem_filter.1 this).1
  · intro hx
    have : x ∈ d.filter (fun y => K y == K x) := List.mem_filter.2 ⟨hx, by simp⟩
    rw [h (K x)] at this
    exact (List.mem_filter.1 this).1
theorem EqF.cons {d e : List Int} (x : Int) (h : EqF K d e) : EqF K (x :: d) (x :: e) := fun v => by
  simp only [List.filter_cons, h v]
/-- two stretches of unlike keys change places -/
theorem eqf_blocks (P X Y Q : List Int) (h : ∀ x ∈ X, ∀ y ∈ Y, K x ≠ K y) : EqF K (P ++ X ++ Y ++ Q) (P ++ Y ++ X ++ Q) := fun v => by
  simp only [List.filter_append]
  have : X.filter (fun x => K x == v) = [] ∨ Y.filter (fun x => K x == v) = [] := by
    cases hx : X.filter (fun x => K x == v) with
    | nil => exact Or.inl rfl
    | cons a r =>
      refine Or.inr (List.filter_eq_nil_iff.2 fun y hy => ?_)
      have ha : a ∈ X.filter (fun x => K x == v) := by rw [hx]; exact List.mem_cons_self
      have h1 := List.mem_filter.1 ha
      have h2 := h a h1.1 y hy
      simp only [beq_iff_eq] at h1 ⊢
      rw [← h1.2]
      exact fun q => h2 q.symm
  rcases this with e | e <;> simp [e]
/-- what has become of a stretch -/
structure Seg (K : Int → Int) (d e : List Int) (a b : Nat) : Prop where
  len : e.length = d.length
  out : ∀ i, i < a ∨ b ≤ i → atL e i = atL d i
  ins : ∀ i, a ≤ i → i < b → ∃ j, a ≤ j ∧ j < b ∧ atL e i = atL d j
  eqf : EqF K d e
theorem Seg.refl (d : List Int) (a b : Nat) : Seg K d d a b := ⟨rfl, fun _ _ => rfl, fun i h1 h2 => ⟨i, h1, h2, rfl⟩, EqF.refl d⟩
theorem Seg.trans {d e f : List Int} {a b : Nat} (h : Seg K d e a b) (h' : Seg K e f a b) : Seg K d f a b := by
  refine ⟨h'.len.trans h.len, fun i hi => (h'.out i hi).trans (h.out i hi), fun i h1 h2 => ?_, h.eqf.trans h'.eqf⟩
  obtain ⟨j, j1, j2, j3⟩ := h'.ins i h1 h2
  obtain ⟨k, k1, k2, k3⟩ := h.ins j j1 j2
  exact ⟨k, k1, k2, j3.trans k3⟩
theorem Seg.mono {d e : List Int} {a b a' b' : Nat} (h : Seg K d e a b) (h1 : a' ≤ a) (h2 : b ≤ b') : Seg K d e a' b' := by
  refine ⟨h.len, fun i hi => h.out i (by omega), fun i i1 i2 => ?_, h.eqf⟩
  by_cases q : a ≤ i ∧ i < b
  · obtain ⟨j, j1, j2, j3⟩ := h.ins i q.1 q.2
    exact ⟨j, by omega, by omega, j3⟩
  · exact ⟨i, i1, i2, h.out i (by omega)⟩
/-- a stretch is sorted -/
def Srt (K : Int → Int) (d : List Int) (a b : Nat) : Prop := ∀ i j, a ≤ i → i < j → j < b → K (atL d i) ≤ K (atL d j)
theorem Seg.srt {d e : List Int} {a b l r : Nat} (h : Seg K d e a b) (hs : Srt K d l r) (hd : r ≤ a ∨ b ≤ l) : Srt K e l r := fun i j h1 h2 h3 => by
  rw [h.out i (by omega), h.out j (by omega)]
  exact hs i j h1 h2 h3
theorem Srt.sub {d : List Int} {a b a' b' : Nat} (h : Srt K d a b) (h1 : a ≤ a') (h2 : b' ≤ b) : Srt K d a' b' := fun i j i1 i2 i3 => h i j (by omega) i2 (by omega)
theorem Srt.le {d : List Int} {a b : Nat} (h : Srt K d a b) {i j : Nat} (h1 : a ≤ i) (h2 : i ≤ j) (h3 : j < b) : K (atL d i) ≤ K (atL d j) := by
  by_cases e : i = j
  · subst e; exact Int.le_refl _
  · exact h i j h1 (by omega) h3
theorem Srt.tiny (d : List Int) {a b : Nat} (h : b ≤ a + 1) : Srt K d a b := fun i j h1 h2 h3 => by omega
theorem Srt.join {d : List Int} {a m b : Nat} (h1 : Srt K d a m) (h2 : Srt K d m b) (h : ∀ i j, a ≤ i → i < m → m ≤ j → j < b → K (atL d i) ≤ K (atL d j)) : Srt K d a b := fun i j i1 i2 i3 => by
  by_cases q : j < m
  · exact h1 i j i1 i2 q
  · by_cases q2 : m ≤ i
    · exact h2 i j q2 i2 i3
    · exact h i j i1 (by omega) (by omega) i3
/-- neighbours of unlike keys change places -/
theorem eqf_swp : ∀ (d : List Int) (i : Nat), i + 1 < d.length → K (atL d i) ≠ K (atL d (i + 1)) → EqF K d (swp d i (i + 1))
  | [], i, h, _ => absurd h (by simp)
  | [x], i, h, _ => absurd h (by simp)
  | x :: y :: r, 0, _, hk => eqf_blocks [] [x] [y] r (by simpa [atL] using hk)
  | x :: y :: r, i + 1, h, hk => by
    have ih := eqf_swp (y :: r) i (by simpa using h) (by simpa [atL] using hk)
    have e : swp (x :: y :: r) (i + 1) (i + 1 + 1) = x :: swp (y :: r) i (i + 1) := by simp [swp, atL]
    rw [e]
    exact ih.cons x
theorem seg_swp {d : List Int} {i : Nat} (h : i + 1 < d.length) (hk : K (atL d i) ≠ K (atL d (i + 1))) : Seg K d (swp d i (i + 1)) i (i + 2) := by
  refine ⟨swp_len _ _ _, fun k hk => ?_, fun k h1 h2 => ?_, eqf_swp d i h hk⟩
  · rw [atL_swp d (by omega) h, if_neg (by omega), if_neg (by omega)]
  · rw [atL_swp d (by omega) h]
    by_cases q : k = i + 1
    · rw [if_pos q]; exact ⟨i, by omega, by omega, rfl⟩
    · rw [if_neg q, if_pos (by omega)]; exact ⟨i + 1, by omega, by omega, rfl⟩
theorem swp_comm (d : List Int) {i j : Nat} (hi : i < d.length) (hj : j < d.length) : swp d i j = swp d j i := by
  refine atL_ext (by simp [swp]) fun k _ => ?_
  rw [atL_swp d hi hj, atL_swp d hj hi]
  by_cases e1 : k = j
  · by_cases e2 : k = i
    · subst e1; rw [if_pos rfl, if_pos e2, e2]
    · rw [if_pos e1, if_neg e2, if_pos e1]
  · by_cases e2 : k = i
    · rw [if_neg e1, if_pos e2, if_pos e2]
    · rw [if_neg e1, if_neg e2, if_neg e2, if_neg e1]
/-- what a turn of three places makes -/
def rotF (d : List Int) (s m e t : Nat) : Int := if t < s then atL d t else if t < s + (e - m) then atL d (m + (t - s)) else if t < e then atL d (s + (t - (s + (e - m)))) else atL d t
set_option linter.unusedVariables false in
theorem take_drop_at (d : List Int) (a b t : Nat) (hb : b ≤ d.length) (ht : a + t < b) : atL ((d.take b).drop a) t = atL d (a + t) := by
  unfold atL
  rw [List.getD_eq_getElem?_getD, List.getD_eq_getElem?_getD, List.getElem?_drop, List.getElem?_take, if_pos ht]
theorem atL_app_l {a b : List Int} {t : Nat} (h : t < a.length) : atL (a ++ b) t = atL a t := by
  unfold atL
  rw [List.getD_eq_getElem?_getD, List.getD_eq_getElem?_getD, List.getElem?_append_left h]
theorem atL_app_r {a b : List Int} {t : Nat} (h : a.length ≤ t) : atL (a ++ b) t = atL b (t - a.length) := by
  unfold atL
  rw [List.getD_eq_getElem?_getD, List.getD_eq_getElem?_getD, List.getElem?_append_right h]
theorem rot_list {d f : List Int} {s m e : Nat} (h1 : s ≤ m) (h2 : m ≤ e) (h3 : e ≤ d.length) (hl : f.length = d.length) (h : ∀ t, atL f t = rotF d s m e t) :
    f = d.take s ++ (d.take e).drop m ++ (d.take m).drop s ++ d.drop e := by
  refine atL_ext (by simp; omega) fun t ht => ?_
  rw [h]
  unfold rotF
  have l1 : (d.take s).length = s := by simp; omega
  have l2 : ((d.take e).drop m).length = e - m := by simp; omega
  have l3 : ((d.take m).drop s).length = m - s := by simp; omega
  by_cases q1 : t < s
  · rw [if_pos q1, List.append_assoc, List.append_assoc, atL_app_l (by omega)]
    have := take_drop_at d 0 s t (by omega) (by omega)
    simp only [List.drop_zero, Nat.zero_add] at this
    exact this.symm
  · rw [if_neg q1]
    by_cases q2 : t < s + (e - m)
    · rw [if_pos q2, List.append_assoc, atL_app_l (by rw [List.length_append]; omega), atL_app_r (by omega), take_drop_at d m e _ h3 (by omega), l1]
    · rw [if_neg q2]
      by_cases q3 : t < e
      · rw [if_pos q3, atL_app_l (by rw [List.length_append, List.length_append]; omega), atL_app_r (by rw [List.length_append]; omega), List.length_append, l1, l2, take_drop_at d s m _ (by omega) (by omega)]
      · rw [if_neg q3, atL_app_r (by rw [List.length_append, List.length_append]; omega), List.length_append, List.length_append, l1, l2, l3]
        unfold atL
        rw [List.getD_eq_getElem?_getD, List.getD_eq_getElem?_getD, List.getElem?_drop]
        congr 2
        omega
theorem mem_mid {d : List Int} {a b : Nat} (hb : b ≤ d.length) {x : Int} (hx : x ∈ (d.take b).drop a) : ∃ t, a ≤ t ∧ t < b ∧ x = atL d t := by
  obtain ⟨i, hi, e⟩ := List.getElem_of_mem hx
  have hl : ((d.take b).drop a).length = b - a := by simp; omega
  refine ⟨a + i, by omega, by omega, ?_⟩
  rw [← take_drop_at d a b i hb (by omega), atL_get hi, e]
set_option linter.unusedVariables false in
theorem split4 {d : List Int} {s m e : Nat} (h1 : s ≤ m) (h2 : m ≤ e) (h3 : e ≤ d.length) : d = d.take s ++ (d.take m).drop s ++ (d.take e).drop m ++ d.drop e := by
  have a1 : (d.take m).take s ++ (d.take m).drop s = d.take m := List.take_append_drop s _
  have a2 : (d.take e).take m ++ (d.take e).drop m = d.take e := List.take_append_drop m _
  rw [List.take_take, Nat.min_eq_left h1] at a1
  rw [List.take_take, Nat.min_eq_left h2] at a2
  rw [a1, a2, List.take_append_drop]
/-- a turn of two sorted-apart stretches -/
theorem seg_rot {d f : List Int} {s m e : Nat} (h1 : s ≤ m) (h2 : m ≤ e) (h3 : e ≤ d.length) (hl : f.length = d.length) (h : ∀ t, atL f t = rotF d s m e t) (hk : ∀ t u, s ≤ t → t < m → m ≤ u → u < e → K (atL d u) < K (atL d t)) : Seg K d f s e := by
  refine ⟨hl, fun i hi => ?_, fun i i1 i2 => ?_, ?_⟩
  · rw [h]
    unfold rotF
    by_cases q : i < s
    · rw [if_pos q]
    · rw [if_neg q, if_neg (by omega), if_neg (by omega)]
  · rw [h]
    unfold rotF
    rw [if_neg (by omega)]
    by_cases q : i < s + (e - m)
    · rw [if_pos q]; exact ⟨_, by omega, by omega, rfl⟩
    · rw [if_neg q, if_pos i2]; exact ⟨_, by omega, by omega, rfl⟩
  · rw [rot_list h1 h2 h3 hl h]
    have := eqf_blocks (K := K) (d.take s) ((d.take m).drop s) ((d.take e).drop m) (d.drop e) (fun x hx y hy => by
      obtain ⟨t, t1, t2, rfl⟩ := mem_mid (by omega) hx
      obtain ⟨u, u1, u2, rfl⟩ := mem_mid h3 hy
      have := hk t u t1 t2 u1 u2
      omega)
    rw [← split4 h1 h2 h3] at this
    exact this
/-- stretches of n change places -/
def swpR (d : List Int) (a b : Nat) : Nat → List Int
  | 0 => d
  | i + 1 => swp (swpR d a b i) (a + i) (b + i)
theorem swpR_len (d : List Int) (a b n : Nat) : (swpR d a b n).length = d.length := by
  induction n with
  | zero => rfl
  | succ n ih => rw [swpR, swp_len, ih]
theorem atL_swpR (d : List Int) {a b : Nat} : ∀ (n : Nat), a + n ≤ b → b + n ≤ d.length → ∀ t, atL (swpR d a b n) t = if a ≤ t ∧ t < a + n then atL d (b + (t - a)) else if b ≤ t ∧ t < b + n then atL d (a + (t - b)) else atL d t
  | 0, _, _, t => by rw [swpR, if_neg (by omega), if_neg (by omega)]
  | n + 1, h1, h2, t => by
    have ih := atL_swpR d (a := a) (b := b) n (by omega) (by omega)
    rw [swpR, atL_swp _ (by rw [swpR_len]; omega) (by rw [swpR_len]; omega), ih (a + n), ih (b + n), ih t]
    repeat' split
    all_goals first | omega | (congr 1; omega) | rfl
/-- one round of a turn -/
theorem rot_gt {d : List Int} {m i j : Nat} (hi : i ≤ m) (hj : m + j ≤ d.length) (h : j < i) (t : Nat) : rotF (swpR d (m - i) m j) (m - (i - j)) m (m + j) t = rotF d (m - i) m (m + j) t := by
  unfold rotF
  simp only [atL_swpR d (a := m - i) (b := m) j (by omega) (by omega)]
  repeat' split
  all_goals first | omega | (congr 1; omega) | rfl
theorem rot_lt {d : List Int} {m i j : Nat} (hi : i ≤ m) (hj : m + j ≤ d.length) (h : i < j) (t : Nat) : rotF (swpR d (m - i) (m + j - i) i) (m - i) m (m + (j - i)) t = rotF d (m - i) m (m + j) t := by
  unfold rotF
  simp only [atL_swpR d (a := m - i) (b := m + j - i) i (by omega) (by omega)]
  repeat' split
  all_goals first | omega | (congr 1; omega) | rfl
theorem rot_eq {d : List Int} {m i : Nat} (hi : i ≤ m) (hj : m + i ≤ d.length) (t : Nat) : atL (swpR d (m - i) m i) t = rotF d (m - i) m (m + i) t := by
  unfold rotF
  simp only [atL_swpR d (a := m - i) (b := m) i (by omega) (by omega)]
  repeat' split
  all_goals first | omega | (congr 1; omega) | rfl
end Go.Proofs.Ytnegdhnmgkpkjaa
namespace Go.Proofs.Ytnegdhnmgkpkjaa
variable {K : Int → Int}
/-- the insertion under way: the element at j is not in its place yet -/
structure Ins (K : Int → Int) (d : List Int) (a i j : Nat) : Prop where
  aj : a ≤ j
  ji : j ≤ i
  oth : ∀ p q, a ≤ p → p < q → q < i + 1 → p ≠ j → q ≠ j → K (atL d p) ≤ K (atL d q)
  beh : ∀ q, j < q → q < i + 1 → K (atL d j) < K (atL d q)
theorem Ins.start {d : List Int} {a i : Nat} (h : Srt K d a i) (ha : a ≤ i) : Ins K d a i i := ⟨ha, Nat.le_refl _, fun p q h1 h2 h3 h4 h5 => h p q h1 h2 (by omega), fun q h1 h2 => by omega⟩
theorem Ins.step {d : List Int} {a i j : Nat} (h : Ins K d a i (j + 1)) (hi : i < d.length) (haj : a ≤ j) (hlt : K (atL d (j + 1)) < K (atL d j)) : Ins K (swp d j (j + 1)) a i j := by
  have ji := h.ji
  have s := atL_swp d (i := j) (j := j + 1) (by omega) (by omega)
  refine ⟨haj, by omega, fun p q h1 h2 h3 h4 h5 => ?_, fun q h1 h2 => ?_⟩
  · rw [s, s]
    by_cases e1 : p = j + 1
    · rw [if_pos e1, if_neg (by omega), if_neg h5]
      exact h.oth j q haj (by omega) h3 (by omega) (by omega)
    · rw [if_neg e1, if_neg h4]
      by_cases e2 : q = j + 1
      · rw [if_pos e2]
        exact h.oth p j h1 (by omega) (by omega) e1 (by omega)
      · rw [if_neg e2, if_neg h5]
        exact h.oth p q h1 h2 h3 e1 e2
  · rw [s, s, if_neg (by omega), if_pos rfl]
    by_cases e2 : q = j + 1
    · rw [if_pos e2]
      exact hlt
    · rw [if_neg e2, if_neg (by omega)]
      exact h.beh q (by omega) h2
theorem Ins.done {d : List Int} {a i j : Nat} (h : Ins K d a i j) (hs : j = a ∨ (a < j ∧ ¬ K (atL d j) < K (atL d (j - 1)))) : Srt K d a (i + 1) := fun p q h1 h2 h3 => by
  by_cases e1 : p = j
  · subst e1
    have := h.beh q h2 h3
    omega
  · by_cases e2 : q = j
    · subst e2
      rcases hs with hs | ⟨hs, hn⟩
      · omega
      · by_cases e3 : p = q - 1
        · subst e3; omega
        · have := h.oth p (q - 1) h1 (by omega) (by omega) e1 (by omega)
          omega
    · exact h.oth p q h1 h2 h3 e1 e2
/-- one element is carried up -/
structure Up (d0 d : List Int) (a k : Nat) : Prop where
  len : d.length = d0.length
  lo : ∀ t, t < a → atL d t = atL d0 t
  mi : ∀ t, a ≤ t → t < k → atL d t = atL d0 (t + 1)
  at_ : atL d k = atL d0 a
  hi : ∀ t, k < t → atL d t = atL d0 t
theorem Up.start (d : List Int) (a : Nat) : Up d d a a := ⟨rfl, fun _ _ => rfl, fun t h1 h2 => by omega, rfl, fun _ _ => rfl⟩
theorem Up.step {d0 d : List Int} {a k : Nat} (h : Up d0 d a k) (ha : a ≤ k) (hk : k + 1 < d0.length) : Up d0 (swp d k (k + 1)) a (k + 1) := by
  have hl := h.len
  have s := atL_swp d (i := k) (j := k + 1) (by omega) (by omega)
  refine ⟨(swp_len _ _ _).trans hl, fun t ht => ?_, fun t h1 h2 => ?_, ?_, fun t ht => ?_⟩
  · rw [s, if_neg (by omega), if_neg (by omega)]; exact h.lo t ht
  · rw [s, if_neg (by omega)]
    by_cases e : t = k
    · rw [if_pos e, h.hi (k + 1) (by omega), e]
    · rw [if_neg e]; exact h.mi t h1 (by omega)
  · rw [s, if_pos rfl]; exact h.at_
  · rw [s, if_neg (by omega), if_neg (by omega)]; exact h.hi t (by omega)
/-- one element is carried down -/
structure Dn (d0 d : List Int) (m k : Nat) : Prop where
  len : d.length = d0.length
  lo : ∀ t, t < k → atL d t = atL d0 t
  at_ : atL d k = atL d0 m
  mi : ∀ t, k < t → t ≤ m → atL d t = atL d0 (t - 1)
  hi : ∀ t, m < t → atL d t = atL d0 t
theorem Dn.start (d : List Int) (m : Nat) : Dn d d m m := ⟨rfl, fun _ _ => rfl, rfl, fun t h1 h2 => by omega, fun _ _ => rfl⟩
theorem Dn.step {d0 d : List Int} {m k : Nat} (h : Dn d0 d m (k + 1)) (hk : k + 1 ≤ m) (hm : m < d0.length) : Dn d0 (swp d k (k + 1)) m k := by
  have hl := h.len
  have s := atL_swp d (i := k) (j := k + 1) (by omega) (by omega)
  refine ⟨(swp_len _ _ _).trans hl, fun t ht => ?_, ?_, fun t h1 h2 => ?_, fun t ht => ?_⟩
  · rw [s, if_neg (by omega), if_neg (by omega)]; exact h.lo t (by omega)
  · rw [s, if_neg (by omega), if_pos rfl]; exact h.at_
  · rw [s]
    by_cases e : t = k + 1
    · rw [if_pos e, h.lo k (by omega), e]; rfl
    · rw [if_neg e, if_neg (by omega)]; exact h.mi t (by omega) h2
  · rw [s, if_neg (by omega), if_neg (by omega)]; exact h.hi t ht
theorem up_sorted {d0 d : List Int} {a i b : Nat} (h : Up d0 d a (i - 1)) (hs : Srt K d0 (a + 1) b) (h1 : a + 1 ≤ i) (h2 : i ≤ b) (lo : ∀ t, a + 1 ≤ t → t < i → K (atL d0 t) < K (atL d0 a)) (hi : ∀ t, i ≤ t → t < b → K (atL d0 a) ≤ K (atL d0 t)) : Srt K d a b := fun p q p1 p2 p3 => by
  have val : ∀ t, a ≤ t → atL d t = if t < i - 1 then atL d0 (t + 1) else if t = i - 1 then atL d0 a else atL d0 t := fun t ht => by
    by_cases e : t < i - 1
    · rw [if_pos e]; exact h.mi t ht e
    · rw [if_neg e]
      by_cases e2 : t = i - 1
      · rw [if_pos e2, e2]; exact h.at_
      · rw [if_neg e2]; exact h.hi t (by omega)
  rw [val p p1, val q (by omega)]
  by_cases a1 : p < i - 1
  · rw [if_pos a1]
    by_cases b1 : q < i - 1
    · rw [if_pos b1]; exact hs (p + 1) (q + 1) (by omega) (by omega) (by omega)
    · rw [if_neg b1]
      by_cases b2 : q = i - 1
      · rw [if_pos b2]; have := lo (p + 1) (by omega) (by omega); omega
      · rw [if_neg b2]; exact hs (p + 1) q (by omega) (by omega) (by omega)
  · rw [if_neg a1, if_neg (by omega : ¬ q < i - 1), if_neg (by omega : ¬ q = i - 1)]
    by_cases a2 : p = i - 1
    · rw [if_pos a2]; exact hi q (by omega) p3
    · rw [if_neg a2]; exact hs p q (by omega) p2 p3
theorem dn_sorted {d0 d : List Int} {a i m : Nat} (h : Dn d0 d m i) (hs : Srt K d0 a m) (h1 : a ≤ i) (h2 : i ≤ m) (lo : ∀ t, a ≤ t → t < i → K (atL d0 t) ≤ K (atL d0 m)) (hi : ∀ t, i ≤ t → t < m → K (atL d0 m) < K (atL d0 t)) : Srt K d a (m + 1) := fun p q p1 p2 p3 => by
  have val : ∀ t, t ≤ m → atL d t = if t < i then atL d0 t else if t = i then atL d0 m else atL d0 (t - 1) := fun t ht => by
    by_cases e : t < i
    · rw [if_pos e]; exact h.lo t e
    · rw [if_neg e]
      by_cases e2 : t = i
      · rw [if_pos e2, e2]; exact h.at_
      · rw [if_neg e2]; exact h.mi t (by omega) ht
  rw [val p (by omega), val q (by omega)]
  by_cases a1 : p < i
  · rw [if_pos a1]
    by_cases b1 : q < i
    · rw [if_pos b1]; exact hs p q p1 p2 (by omega)
    · rw [if_neg b1]
      by_cases b2 : q = i
      · rw [if_pos b2]; exact lo p p1 a1
      · rw [if_neg b2]; exact hs.le p1 (by omega) (by omega)
  · rw [if_neg a1, if_neg (by omega : ¬ q < i), if_neg (by omega : ¬ q = i)]
    by_cases a2 : p = i
    · rw [if_pos a2]; have := hi (q - 1) (by omega) (by omega); omega
    · rw [if_neg a2]; exact hs.le (by omega) (by omega) (by omega)
/-- where symMerge parts: what is found -/
structure Cutd (K : Int → Int) (d : List Int) (a m b s e mid : Nat) : Prop where
  s1 : a ≤ s
  s2 : s ≤ m
  e1 : m ≤ e
  e2 : e ≤ b
  sum : s + e = mid + m
  m1 : a ≤ mid
  m2 : mid ≤ b
  f1 : ∀ t u, a ≤ t → t < s → e ≤ u → u < b → K (atL d t) ≤ K (atL d u)
  f2 : ∀ t u, s ≤ t → t < m → m ≤ u → u < e → K (atL d u) < K (atL d t)
theorem cut_of {d : List Int} {a m b s lo hi mid : Nat} (sa : Srt K d a m) (sb : Srt K d m b) (ham : a < m) (hmb : m < b) (hmid : mid = (a + b) / 2) (hlo : lo = if mid < m then mid + m - b else a) (hhi : hi = if mid < m then mid else m) (h1 : lo ≤ s) (h2 : s ≤ hi)
    (l1 : lo < s → K (atL d (s - 1)) ≤ K (atL d (mid + m - s))) (l2 : s < hi → K (atL d (mid + m - 1 - s)) < K (atL d s)) : Cutd K d a m b s (mid + m - s) mid := by
  have hb : a ≤ lo ∧ hi ≤ m ∧ lo ≤ hi ∧ mid + m - lo ≤ b ∧ m ≤ mid + m - hi ∧ hi ≤ mid := by
    by_cases q : mid < m
    · rw [if_pos q] at hlo hhi; omega
    · rw [if_neg q] at hlo hhi; omega
  have z1 : lo = a ∨ mid + m - lo = b := by
    by_cases q : mid < m
    · rw [if_pos q] at hlo; omega
    · rw [if_neg q] at hlo; omega
  have z2 : hi = m ∨ mid + m - hi = m := by
    by_cases q : mid < m
    · rw [if_pos q] at hhi; omega
    · rw [if_neg q] at hhi; omega
  refine ⟨by omega, by omega, by omega, by omega, by omega, by omega, by omega, fun t u t1 t2 u1 u2 => ?_, fun t u t1 t2 u1 u2 => ?_⟩
  · by_cases q : lo < s
    · have w1 := l1 q
      have w2 := sa.le (i := t) (j := s - 1) t1 (by omega) (by omega)
      have w3 := sb.le (i := mid + m - s) (j := u) (by omega) u1 u2
      omega
    · omega
  · by_cases q : s < hi
    · have w1 := l2 q
      have w2 := sa.le (i := s) (j := t) (by omega) t1 t2
      have w3 := sb.le (i := u) (j := mid + m - 1 - s) u1 (by omega) (by omega)
      omega
    · omega
/-- behind the turn -/
theorem cut_turned {d f : List Int} {a m b s e mid : Nat} (h : Cutd K d a m b s e mid) (sa : Srt K d a m) (sb : Srt K d m b) (hl : f.length = d.length) (hb : b ≤ d.length) (hf : ∀ t, atL f t = rotF d s m e t) :
    Seg K d f a b ∧ Srt K f a s ∧ Srt K f s mid ∧ Srt K f mid e ∧ Srt K f e b ∧ ∀ t u, a ≤ t → t < mid → mid ≤ u → u < b → K (atL f t) ≤ K (atL f u) := by
  have s1 := h.s1
  have s2 := h.s2
  have e1 := h.e1
  have e2 := h.e2
  have sum := h.sum
  have val : ∀ t, atL f t = if t < s then atL d t else if t < mid then atL d (m + (t - s)) else if t < e then atL d (s + (t - mid)) else atL d t := fun t => by
    rw [hf]
    unfold rotF
    rw [show s + (e - m) = mid by omega]
  refine ⟨(seg_rot (K := K) s2 e1 (by omega) hl hf h.f2).mono s1 e2, fun i j i1 i2 i3 => ?_, fun i j i1 i2 i3 => ?_, fun i j i1 i2 i3 => ?_, fun i j i1 i2 i3 => ?_, fun t u t1 t2 u1 u2 => ?_⟩
  · rw [val, val, if_pos (by omega), if_pos i3]; exact sa i j i1 i2 (by omega)
  · rw [val, val, if_neg (by omega), if_pos (by omega), if_neg (by omega), if_pos (by omega)]; exact sb _ _ (by omega) (by omega) (by omega)
  · rw [val, val, if_neg (by omega), if_neg (by omega), if_pos (by omega), if_neg (by omega), if_neg (by omega), if_pos (by omega)]; exact sa _ _ (by omega) (by omega) (by omega)
  · rw [val, val, if_neg (by omega), if_neg (by omega), if_neg (by omega), if_neg (by omega), if_neg (by omega), if_neg (by omega)]; exact sb _ _ (by omega) (by omega) (by omega)
  · rw [val t, val u]
    rw [if_neg (by omega : ¬ u < s), if_neg (by omega : ¬ u < mid)]
    by_cases q1 : t < s
    · rw [if_pos q1]
      by_cases q2 : u < e
      · rw [if_pos q2]; exact sa _ _ t1 (by omega) (by omega)
      · rw [if_neg q2]; exact h.f1 t u t1 q1 (by omega) u2
    · rw [if_neg q1, if_pos t2]
      by_cases q2 : u < e
      · rw [if_pos q2]; have := h.f2 (s + (u - mid)) (m + (t - s)) (by omega) (by omega) (by omega) (by omega); omega
      · rw [if_neg q2]; exact sb _ _ (by omega) (by omega) (by omega)
/-- behind both halves -/
theorem cut_joined {d f g h : List Int} {a mid b : Nat} (sf : Seg K d f a b) (apart : ∀ t u, a ≤ t → t < mid → mid ≤ u → u < b → K (atL f t) ≤ K (atL f u)) (h1 : a ≤ mid) (h2 : mid ≤ b) (sg : Seg K f g a mid) (rg : Srt K g a mid) (sh : Seg K g h mid b) (rh : Srt K h mid b) : Seg K d h a b ∧ Srt K h a b := by
  refine ⟨(sf.trans (sg.mono (Nat.le_refl _) h2)).trans (sh.mono h1 (Nat.le_refl _)), (sh.srt rg (Or.inl (Nat.le_refl _))).join rh fun i j i1 i2 j1 j2 => ?_⟩
  rw [sh.out i (Or.inl i2)]
  obtain ⟨p, p1, p2, p3⟩ := sg.ins i i1 i2
  obtain ⟨q, q1, q2, q3⟩ := sh.ins j j1 j2
  rw [p3, q3, sg.out q (Or.inr q1)]
  exact apart p q p1 p2 q1 q2
/-- the one order -/
theorem eqf_unique : ∀ {d e : List Int}, EqF K d e → d.Pairwise (fun x y => K x ≤ K y) → e.Pairwise (fun x y => K x ≤ K y) → d = e
  | [], e, h, _, _ => by
    cases e with
    | nil => rfl
    | cons y r =>
      have := (h.mem (x := y)).1 List.mem_cons_self
      simp at this
  | x :: r, [], h, _, _ => by
    have := (h.mem (x := x)).2 List.mem_cons_self
    simp at this
  | x :: r, y :: s, h, h1, h2 => by
    have k1 : K x = K y := by
      have a1 : x ∈ y :: s := (h.mem (x := x)).2 List.mem_cons_self
      have a2 : y ∈ x :: r := (h.mem (x := y)).1 List.mem_cons_self
      have b1 : K y ≤ K x := by
        rcases List.mem_cons.1 a1 with q | q
        · rw [q]; exact Int.le_refl _
        · exact (List.pairwise_cons.1 h2).1 x q
      have b2 : K x ≤ K y := by
        rcases List.mem_cons.1 a2 with q | q
        · rw [q]; exact Int.le_refl _
        · exact (List.pairwise_cons.1 h1).1 y q
      omega
    have e0 := h (K x)
    rw [List.filter_cons_of_pos (by simp), List.filter_cons_of_pos (by simp [k1])] at e0
    injection e0 with e1 e2
    subst e1
    have : EqF K r s := fun v => by
      have := h v
      simp only [List.filter_cons] at this
      split at this
      · injection this
      · exact this
    rw [eqf_unique this (List.pairwise_cons.1 h1).2 (List.pairwise_cons.1 h2).2]
theorem srt_pairwise {d : List Int} (h : Srt K d 0 d.length) : d.Pairwise (fun x y => K x ≤ K y) := by
  rw [List.pairwise_iff_getElem]
  intro i j hi hj hij
  have := h i j (Nat.zero_le _) hij hj
  rwa [atL_get hi, atL_get hj] at this
/-- sorted within stretches of k -/
def SrtB (K : Int → Int) (d : List Int) (k lo hi : Nat) : Prop := ∀ i j, lo ≤ i → i < j → j < hi → i / k = j / k → K (atL d i) ≤ K (atL d j)
end Go.Proofs.Ytnegdhnmgkpkjaa
namespace Go.Proofs.Ytnegdhnmgkpkjaa
open Go.RowKit
/-- ints, as cells -/
def ints (L : List Int) : List Value := L.map fun n : Int => .int .i64 n
theorem ints_len (L : List Int) : (ints L).length = L.length := by simp [ints]
theorem ints_at (L : List Int) (q : Nat) : (ints L)[q]? = (L[q]?).map fun n : Int => .int .i64 n := by simp [ints]
theorem ints_append (a b : List Int) : ints (a ++ b) = ints a ++ ints b := by simp [ints]
theorem ints_one (L : List Int) : ∀ u ∈ ints L, u.oneCell' = true := by
  intro u hu
  obtain ⟨n, _, rfl⟩ := List.mem_map.1 hu
  rfl
theorem ints_set (L : List Int) (i : Nat) (x : Int) : (ints L).set i (.int .i64 x) = ints (L.set i x) := by simp [ints, List.map_set]
/-- a row of ints that fills its block -/
def Rw (w : World) (g : Nat) (d : List Int) : Prop := w.heap[g]? = some (.cells (ints d).toArray 3)
theorem Rw.cell {w : World} {g : Nat} {d : List Int} (h : Rw w g d) {i : Nat} (hi : i < d.length) : w.cell? ⟨g, i, none⟩ = some (.int .i64 (atL d i)) := by
  unfold World.cell?
  dsimp only
  rw [h]
  dsimp only
  rw [List.getElem?_toArray, ints_at, atL_some hi]
  rfl
theorem Rw.fz {w : World} {g : Nat} {d : List Int} (h : Rw w g d) (i : Nat) : w.frozen? ⟨g, i, none⟩ = false := by
  unfold World.frozen?; rw [h]; simp
theorem Rw.set {w : World} {g : Nat} {d : List Int} (h : Rw w g d) (i : Nat) (x : Int) : Rw (w.setCell ⟨g, i, none⟩ (.int .i64 x)) g (d.set i x) := by
  unfold Rw
  rw [heap_setCell _ _ _ _ _ _ _ h, List.setIfInBounds_toArray, ints_set]
theorem Rw.swp {w : World} {g : Nat} {d : List Int} (h : Rw w g d) (i j : Nat) : Rw ((w.setCell ⟨g, i, none⟩ (.int .i64 (atL d j))).setCell ⟨g, j, none⟩ (.int .i64 (atL d i))) g (swp d i j) := (h.set i _).set j _
/-- the row, and all else as it was -/
structure Sx (w0 w : World) (g : Nat) (d : List Int) : Prop where
  row : Rw w g d
  kp : Kp w0 w (fun k => k = g)
theorem Sx.drewN {w0 w : World} {g : Nat} {d : List Int} (h : Sx w0 w g d) (n : Nat) : Sx w0 (w.drewN n) g d := ⟨h.row, h.kp.drewN n⟩
theorem Sx.drew {w0 w : World} {g : Nat} {d : List Int} (h : Sx w0 w g d) : Sx w0 w.drew g d := ⟨h.row, h.kp.drew⟩
theorem Sx.swp {w0 w : World} {g : Nat} {d : List Int} (h : Sx w0 w g d) (i j : Nat) : Sx w0 ((w.setCell ⟨g, i, none⟩ (.int .i64 (atL d j))).setCell ⟨g, j, none⟩ (.int .i64 (atL d i))) g (swp d i j) :=
  ⟨h.row.swp i j, (h.kp.set (Or.inl rfl) _ _).set (Or.inl rfl) _ _⟩
set_option maxHeartbeats 4000000 in
set_option maxRecDepth 100000 in
set_option linter.unusedSimpArgs false in
set_option linter.unusedVariables false in
theorem swapRange_any {w0 w : World} {g : Nat} {d : List Int} (h : Sx w0 w g d) (a b n : Nat) (fv : Value) (h1 : a + n ≤ b) (h2 : b + n ≤ d.length) (hl : d.length ≤ 1000000) :
    Calls Try.prog 53 #[.slice (some ⟨g, 0, none⟩) d.length d.length, .int .i64 (a : Int), .int .i64 (b : Int), .int .i64 (n : Int), fv] w fun e w' => e = .returned (.tuple #[]) ∧ Sx w0 w' g (swpR d a b n) := by
  have H := hide h
  obtain ⟨N, hN⟩ : ∃ N, N = d.length := ⟨_, rfl⟩
  rw [← hN] at h2 hl ⊢
  have HN := hide hN
  clear h hN
  go_enter Try.func53, Try.ntmps53
  go_wp2_with fail
  go_loopw [10] (fun vi wr => ∃ (i : Nat), i ≤ n ∧ vi = .int .i64 (i : Int) ∧ Hid (Sx w0 wr g (swpR d a b i))) (fun vi _ => n - (intOf vi).toNat)
  case atStart => exact ⟨0, Nat.zero_le _, rfl, H.out⟩
  case round =>
    obtain ⟨i, hi, rfl, HS⟩ := hrel
    by_cases hin : i < n
    · have hii : (i : Int) < (n : Int) := by omega
      have HL : Hid ((swpR d a b i).length = N) := by show _ = _; rw [swpR_len, HN.out]
      have HE : Hid (swpR d a b (i + 1) = swp (swpR d a b i) (a + i) (b + i)) := rfl
      generalize swpR d a b i = d1 at *
      have c1 := HS.out.row.cell (i := a + i) (by rw [HL.out]; omega)
      have c2 := HS.out.row.cell (i := b + i) (by rw [HL.out]; omega)
      have f1 := HS.out.row.fz (a + i)
      have f2 := HS.out.row.fz (b + i)
      have HF := (HS.out.swp (a + i) (b + i)).drew
      generalize atL d1 (a + i) = x at *
      generalize atL d1 (b + i) = y at *
      obtain ⟨p, hp⟩ : ∃ p, p = a + i := ⟨_, rfl⟩
      obtain ⟨q, hq⟩ : ∃ q, q = b + i := ⟨_, rfl⟩
      rw [← hp] at c1 f1 HF HE
      rw [← hq] at c2 f2 HF HE
      have pz : (a : Int) + (i : Int) = (p : Int) := by omega
      have qz : (b : Int) + (i : Int) = (q : Int) := by omega
      have pN : (p : Int) < (N : Int) := by omega
      have qN : (q : Int) < (N : Int) := by omega
      have HF := hide HF
      have HP := hide hp
      have HQ := hide hq
      have hpq : p ≠ q := by omega
      clear hp hq
      go_wp2_with fail
      go_big_region
      all_goals go_wp2_with fail
      refine ⟨⟨i + 1, by omega, by go_num, ?_⟩, by simp [intOf]; omega⟩
      rw [HE.out]
      exact HF
    · obtain rfl : i = n := by omega
      go_wp2_with fail
      go_end0
      exact ⟨rfl, HS.out⟩
set_option maxHeartbeats 4000000 in
set_option maxRecDepth 100000 in
set_option linter.unusedSimpArgs false in
set_option linter.unusedVariables false in
theorem rotate_any {w0 w : World} {g : Nat} {d : List Int} (h : Sx w0 w g d) (a m b : Nat) (fv : Value) (h1 : a < m) (h2 : m < b) (h3 : b ≤ d.length) (hl : d.length ≤ 1000000) :
    Calls Try.prog 52 #[.slice (some ⟨g, 0, none⟩) d.length d.length, .int .i64 (a : Int), .int .i64 (m : Int), .int .i64 (b : Int), fv] w fun e w' => e = .returned (.tuple #[]) ∧ ∃ f : List Int, f.length = d.length ∧ (∀ t, atL f t = rotF d a m b t) ∧ Sx w0 w' g f := by
  have H := hide h
  have SR : Hid (∀ (W : World) (d1 : List Int), d1.length = d.length → Sx w0 W g d1 → ∀ x y n : Nat, x + n ≤ y → y + n ≤ d.length → Calls Try.prog 53 #[.slice (some ⟨g, 0, none⟩) d.length d.length, .int .i64 (x : Int), .int .i64 (y : Int), .int .i64 (n : Int), fv] W fun e w' => e = .returned (.tuple #[]) ∧ Sx w0 w' g (swpR d1 x y n)) := fun W d1 e hs x y n q1 q2 => by
    have := swapRange_any hs x y n fv q1 (by rw [e]; exact q2) (by rw [e]; exact hl)
    rwa [e] at this
  obtain ⟨N, hN⟩ : ∃ N, N = d.length := ⟨_, rfl⟩
  rw [← hN] at h3 hl SR ⊢
  have HN := hide hN
  clear h hN
  have e1 : (m : Int) - (a : Int) = ((m - a : Nat) : Int) := by omega
  have e2 : (b : Int) - (m : Int) = ((b - m : Nat) : Int) := by omega
  go_enter Try.func52, Try.ntmps52
  go_wp2_with fail
  go_loopw [10, 11] (fun vi vj wr => ∃ (i j : Nat) (d1 : List Int), 0 < i ∧ 0 < j ∧ i ≤ m - a ∧ j ≤ b - m ∧ vi = .int .i64 (i : Int) ∧ vj = .int .i64 (j : Int) ∧ Hid (d1.length = N) ∧ Hid (∀ t, rotF d1 (m - i) m (m + j) t = rotF d a m b t) ∧ Hid (Sx w0 wr g d1)) (fun vi vj _ => (intOf vi).toNat + (intOf vj).toNat)
  case atStart => exact ⟨m - a, b - m, d, by omega, by omega, Nat.le_refl _, Nat.le_refl _, by rw [← e1], by rw [← e2], HN.out.symm, fun t => by rw [show m - (m - a) = a by omega, show m + (b - m) = b by omega], H.out⟩
  case round =>
    clear H e1 e2
    obtain ⟨i, j, d1, i0, j0, hi, hj, rfl, rfl, HL, HR, HS⟩ := hrel
    have z1 : (m : Int) - (i : Int) = ((m - i : Nat) : Int) := by omega
    by_cases hij : i = j
    · subst hij
      have S1 := hide (SR.out wr d1 HL.out HS.out (m - i) m i (by omega) (by omega))
      go_wp2_with fail
      refine Calls.mono S1.out ?_
      rintro e W1 ⟨rfl, h4⟩
      have H4 := hide h4
      clear h4 S1
      go_wp2_with fail
      go_end0
      refine ⟨rfl, swpR d1 (m - i) m i, (swpR_len _ _ _ _).trans HL.out, fun t => ?_, H4.out⟩
      rw [rot_eq (by omega) (by rw [HL.out]; omega), HR.out]
    · by_cases hgt : j < i
      · have q1 : ((i : Int) == (j : Int)) = false := by simp; omega
        have q2 : (j : Int) < (i : Int) := by omega
        have z3 : (i : Int) - (j : Int) = ((i - j : Nat) : Int) := by omega
        have HR2 : Hid (∀ t, rotF (swpR d1 (m - i) m j) (m - (i - j)) m (m + j) t = rotF d a m b t) := fun t => by rw [rot_gt (by omega) (by rw [HL.out]; omega) hgt]; exact HR.out t
        have S1 := hide (SR.out wr d1 HL.out HS.out (m - i) m j (by omega) (by omega))
        clear hij
        go_wp2_with fail
        refine Calls.mono S1.out ?_
        rintro e W1 ⟨rfl, h4⟩
        have H4 := hide h4
        clear h4 S1
        go_wp2_with fail
        go_roundw
        case rel => exact ⟨i - j, j, swpR d1 (m - i) m j, by omega, j0, by omega, hj, by first | rfl | go_num | (congr 1; omega), rfl, (swpR_len _ _ _ _).trans HL.out, HR2, H4⟩
        case measure => simp [intOf]; omega
      · have q1 : ((i : Int) == (j : Int)) = false := by simp; omega
        have hlt : i < j := by omega
        have q2 : ¬ (j : Int) < (i : Int) := by omega
        have z3 : (j : Int) - (i : Int) = ((j - i : Nat) : Int) := by omega
        have z4 : (m : Int) + (j : Int) - (i : Int) = ((m + j - i : Nat) : Int) := by omega
        have HR2 : Hid (∀ t, rotF (swpR d1 (m - i) (m + j - i) i) (m - i) m (m + (j - i)) t = rotF d a m b t) := fun t => by rw [rot_lt (by omega) (by rw [HL.out]; omega) (by omega)]; exact HR.out t
        have S1 := hide (SR.out wr d1 HL.out HS.out (m - i) (m + j - i) i (by omega) (by omega))
        clear hij
        go_wp2_with fail
        refine Calls.mono S1.out ?_
        rintro e W1 ⟨rfl, h4⟩
        have H4 := hide h4
        clear h4 S1
        go_wp2_with fail
        go_roundw
        case rel => exact ⟨i, j - i, swpR d1 (m - i) (m + j - i) i, i0, by omega, hi, by omega, rfl, by first | rfl | go_num | (congr 1; omega), (swpR_len _ _ _ _).trans HL.out, HR2, H4⟩
        case measure => simp [intOf]; omega
end Go.Proofs.Ytnegdhnmgkpkjaa
namespace Go.Proofs.Ytnegdhnmgkpkjaa
open Go.RowKit
/-- what is asked of the comparison: it only reads, and not the row -/
structure CmpC (w0 : World) (g : Nat) (cb : Value) (K : Int → Int) (ok : Int → Prop) (cf : Int → Int → Int) : Prop where
  cl : ∀ W, Kp w0 W (fun k => k = g) → ∀ x y, ok x → ok y → Calls Try.prog 35 #[.int .i64 x, .int .i64 y, cb] W fun e w' => e = .returned (.int .i64 (cf x y)) ∧ ∃ q, w' = W.drewN q
  lt : ∀ x y, cf x y < 0 ↔ K x < K y
/-- the row may be compared -/
def OkL (ok : Int → Prop) (d : List Int) : Prop := ∀ x ∈ d, ok x
theorem OkL.at_ {ok : Int → Prop} {d : List Int} (h : OkL ok d) {i : Nat} (hi : i < d.length) : ok (atL d i) := by
  rw [atL_get hi]
  exact h _ (List.getElem_mem hi)
theorem OkL.eqf {ok : Int → Prop} {K : Int → Int} {d e : List Int} (h : OkL ok d) (he : EqF K d e) : OkL ok e := fun x hx => h x (he.mem.1 hx)
set_option maxHeartbeats 8000000 in
set_option maxRecDepth 100000 in
set_option linter.unusedSimpArgs false in
set_option linter.unusedVariables false in
theorem insSort_any {w0 w : World} {g : Nat} {d : List Int} (h : Sx w0 w g d) {cb : Value} {Ky : Int → Int} {ok : Int → Prop} {cf : Int → Int → Int} (hc : CmpC w0 g cb Ky ok cf) (ho : OkL ok d) (a b : Nat) (h1 : a ≤ b) (h2 : b ≤ d.length) (hl : d.length ≤ 1000000) :
    Calls Try.prog 50 #[.slice (some ⟨g, 0, none⟩) d.length d.length, .int .i64 (a : Int), .int .i64 (b : Int), .func (.func 35) #[] #[cb]] w fun e w' => e = .returned (.tuple #[]) ∧ ∃ f : List Int, Seg Ky d f a b ∧ Srt Ky f a b ∧ Sx w0 w' g f := by
  have H := hide h
  have HC := hide hc
  have HO := hide ho
  obtain ⟨N, hN⟩ : ∃ N, N = d.length := ⟨_, rfl⟩
  rw [← hN] at h2 hl ⊢
  have HN := hide hN
  clear h hN hc ho
  go_enter Try.func50, Try.ntmps50
  go_wp2_with fail
  go_loopw [8] (fun vi wr => ∃ (i : Nat) (d1 : List Int), a < i ∧ (i ≤ b ∨ i = a + 1) ∧ vi = .int .i64 (i : Int) ∧ Hid (Seg Ky d d1 a b) ∧ Hid (Srt Ky d1 a i) ∧ Hid (Sx w0 wr g d1)) (fun vi _ => b + 1 - (intOf vi).toNat)
  case atStart => exact ⟨a + 1, d, by omega, by omega, by go_num, Seg.refl _ _ _, Srt.tiny _ (Nat.le_refl _), H.out⟩
  case round =>
    clear H
    obtain ⟨i, d1, hai, hib, rfl, HG, HR, HS⟩ := hrel
    by_cases hlt : i < b
    · have hltz : (i : Int) < (b : Int) := by omega
      go_wp2_with fail
      go_loopw [9] (fun vj wr => ∃ (j : Nat) (d2 : List Int), vj = .int .i64 (j : Int) ∧ a ≤ j ∧ j ≤ i ∧ Hid (Seg Ky d1 d2 a b) ∧ Hid (Ins Ky d2 a i j) ∧ Hid (Sx w0 wr g d2)) (fun vj _ => (intOf vj).toNat)
      case atStart => exact ⟨i, d1, rfl, by omega, Nat.le_refl _, Seg.refl _ _ _, Ins.start HR.out (by omega), HS.out⟩
      case round =>
        clear HS
        obtain ⟨j, d2, rfl, haj, hji, HG2, HI, HS⟩ := hrel
        have HL : Hid (d2.length = N) := by show _ = _; rw [HG2.out.len, HG.out.len, HN.out]
        by_cases hja : a < j
        · have hjaz : (a : Int) < (j : Int) := by omega
          obtain ⟨jp, hjp⟩ : ∃ jp, jp + 1 = j := ⟨j - 1, by omega⟩
          have HOK : Hid (OkL ok d2) := HO.out.eqf (HG.out.eqf.trans HG2.out.eqf)
          have c1 := HS.out.row.cell (i := j) (by rw [HL.out]; omega)
          have c2 := HS.out.row.cell (i := jp) (by rw [HL.out]; omega)
          have f1 := HS.out.row.fz j
          have f2 := HS.out.row.fz jp
          have CM := fun k => HC.out.cl (wr.drewN k) (HS.out.kp.drewN k) (atL d2 j) (atL d2 jp) (HOK.out.at_ (by rw [HL.out]; omega)) (HOK.out.at_ (by rw [HL.out]; omega))
          have HLT := hide (HC.out.lt (atL d2 j) (atL d2 jp))
          have HX : Hid (∀ m, Sx w0 (((wr.drewN m).setCell ⟨g, j, none⟩ (.int .i64 (atL d2 jp))).setCell ⟨g, jp, none⟩ (.int .i64 (atL d2 j))).drew g (swp d2 j jp)) := fun m => ((HS.out.drewN m).swp j jp).drew
          have HF1 : Hid (Ky (atL d2 j) < Ky (atL d2 jp) → Seg Ky d1 (swp d2 j jp) a b ∧ Ins Ky (swp d2 j jp) a i jp) := fun q => by
            subst hjp
            rw [swp_comm d2 (by rw [HL.out]; omega) (by rw [HL.out]; omega)]
            exact ⟨HG2.out.trans ((seg_swp (by rw [HL.out]; omega) (by omega)).mono (by omega) (by omega)), HI.out.step (by rw [HL.out]; omega) (by omega) q⟩
          have HF2 : Hid (¬ Ky (atL d2 j) < Ky (atL d2 jp) → Srt Ky d2 a (i + 1)) := fun q => HI.out.done (Or.inr ⟨hja, by rw [show j - 1 = jp by omega]; exact q⟩)
          have HSd := hide fun m => HS.out.drewN m
          generalize swp d2 j jp = d3 at *
          generalize atL d2 j = x at *
          generalize atL d2 jp = y at *
          have jz : (j : Int) < (N : Int) := by omega
          have jz1 : (jp : Int) < (N : Int) := by omega
          have ej : (j : Int) - 1 = (jp : Int) := by omega
          have hne : j ≠ jp := by omega
          have HJ := hide hjp
          clear hjp HI HS HOK
          by_cases hlv : cf x y < 0
          · go_wp2_with fail
            go_quiet (first | (go_at_call 35; refine Calls.quiet_of (CM _)))
            have d1' : (wr.drewN nq).cell? ⟨g, j, none⟩ = some (.int .i64 x) := c1
            have d2' : (wr.drewN nq).cell? ⟨g, jp, none⟩ = some (.int .i64 y) := c2
            have g1' : (wr.drewN nq).frozen? ⟨g, j, none⟩ = false := f1
            have g2' : (wr.drewN nq).frozen? ⟨g, jp, none⟩ = false := f2
            have HX := hide (HX.out nq)
            have HF := hide (HF1.out (HLT.out.1 hlv))
            clear c1 c2 f1 f2 CM HF1 HF2 HSd hlv HLT
            generalize wr.drewN nq = wq at *
            go_wp2_with fail
            go_big_region
            all_goals go_wp2_with fail
            exact ⟨⟨jp, d3, rfl, by omega, by omega, HF.out.1, HF.out.2, HX.out⟩, by simp [intOf]; omega⟩
          · have hlv' : decide (cf x y < 0) = false := decide_eq_false hlv
            have HF := hide (HF2.out (fun q => hlv (HLT.out.2 q)))
            clear hlv
            go_wp2_with fail
            go_quiet (first | (go_at_call 35; refine Calls.quiet_of (CM _)))
            have HX := hide (HSd.out nq)
            clear c1 c2 f1 f2 CM HF1 HF2 HSd HLT
            generalize wr.drewN nq = wq at *
            go_wp2_with fail
            go_roundw
            case rel => exact ⟨i + 1, d2, by omega, by omega, by go_num, HG.out.trans HG2.out, HF.out, HX.out⟩
            case measure => simp [intOf]; omega
        · have hjaz : ¬ (a : Int) < (j : Int) := by omega
          have hjad : decide ((j : Int) > (a : Int)) = false := decide_eq_false (by omega)
          have HF := hide (HI.out.done (Or.inl (by omega)))
          have HSd := hide fun m => HS.out.drewN m
          clear HI HS
          go_wp2_with fail
          go_quiet (fail)
          have HX := hide (HSd.out nq)
          generalize wr.drewN nq = wq at *
          go_wp2_with fail
          go_roundw
          case rel => exact ⟨i + 1, d2, by omega, by omega, by go_num, HG.out.trans HG2.out, HF.out, HX.out⟩
          case measure => simp [intOf]; omega
    · have hltz : ¬ (i : Int) < (b : Int) := by omega
      go_wp2_with fail
      go_end0
      exact ⟨rfl, d1, HG.out, HR.out.sub (Nat.le_refl _) (by omega), HS.out⟩
end Go.Proofs.Ytnegdhnmgkpkjaa
