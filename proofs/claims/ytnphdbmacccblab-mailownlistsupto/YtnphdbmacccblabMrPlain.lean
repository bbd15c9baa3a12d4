import Derived.Test.YtnphdbmacccblabMaStep
namespace Go.Proofs.Ytnphdbmacccblab
open Go.RowKit
abbrev AB := List (Lt × Bool)
def live : AB → List Lt
  | [] => []
  | (x, g) :: r => if g = true then live r else x :: live r
theorem live_append (a b : AB) : live (a ++ b) = live a ++ live b := by
  induction a with
  | nil => rfl
  | cons y r ih =>
    obtain ⟨x, g⟩ := y
    cases g <;> simp [live, ih]
theorem live_le (a : AB) : (live a).length ≤ a.length := by
  induction a with
  | nil => exact Nat.le_refl _
  | cons y r ih =>
    obtain ⟨x, g⟩ := y
    cases g
    · simp only [live, Bool.false_eq_true, if_false, List.length_cons]; omega
    · simp only [live, if_true, List.length_cons]; omega
theorem live_mem {a : AB} {x : Lt} (h : x ∈ live a) : ∃ g, (x, g) ∈ a := by
  induction a with
  | nil => simp [live] at h
  | cons y r ih =>
    obtain ⟨z, g⟩ := y
    cases g
    · simp only [live, Bool.false_eq_true, if_false, List.mem_cons] at h
      rcases h with rfl | h
      · exact ⟨false, List.mem_cons_self⟩
      · obtain ⟨g', h'⟩ := ih h
        exact ⟨g', List.mem_cons_of_mem _ h'⟩
    · simp only [live, if_true] at h
      obtain ⟨g', h'⟩ := ih h
      exact ⟨g', List.mem_cons_of_mem _ h'⟩
theorem live_take {A : AB} (q : Nat) (h : q < A.length) : live (A.take (q + 1)) = live (A.take q) ++ (if A[q].2 = true then [] else [A[q].1]) := by
  rw [List.take_succ_eq_append_getElem h, live_append]
  congr 1
/-- the place of the i-th that is in flight -/
def plc : AB → Nat → Option Nat
  | [], _ => none
  | (_, true) :: r, i => (plc r i).map (· + 1)
  | (_, false) :: _, 0 => some 0
  | (_, false) :: r, i + 1 => (plc r i).map (· + 1)
theorem plc_none {A : AB} {i : Nat} : plc A i = none ↔ (live A).length ≤ i := by
  induction A generalizing i with
  | nil => simp [plc, live]
  | cons y r ih =>
    obtain ⟨x, g⟩ := y
    cases g
    · cases i with
      | zero => simp [plc, live]
      | succ i => simp [plc, live, ih]
    · simp [plc, live, ih]
theorem plc_some {A : AB} {i k : Nat} (h : plc A i = some k) : ∃ x, A[k]? = some (x, false) ∧ (live A)[i]? = some x ∧ live (A.set k (x, true)) = (live A).eraseIdx i := by
  induction A generalizing i k with
  | nil => simp [plc] at h
  | cons y r ih =>
    obtain ⟨z, g⟩ := y
    cases g
    · cases i with
      | zero =>
        simp only [plc, Option.some.injEq] at h
        subst h
        exact ⟨z, rfl, by simp [live], by simp [live]⟩
      | succ i =>
        simp only [plc, Option.map_eq_some_iff] at h
        obtain ⟨k', h', rfl⟩ := h
        obtain ⟨x, e1, e2, e3⟩ := ih h'
        exact ⟨x, by simpa using e1, by simpa [live] using e2, by simp [live, e3]⟩
    · simp only [plc, Option.map_eq_some_iff] at h
      obtain ⟨k', h', rfl⟩ := h
      obtain ⟨x, e1, e2, e3⟩ := ih h'
      exact ⟨x, by simpa using e1, by simpa [live] using e2, by simp [live, e3]⟩
theorem plc_drop {A : AB} {q i : Nat} (h : q < A.length) : plc (A.drop q) i = if A[q].2 = true then (plc (A.drop (q + 1)) i).map (· + 1) else (match i with | 0 => some 0 | i' + 1 => (plc (A.drop (q + 1)) i').map (· + 1)) := by
  rw [List.drop_eq_getElem_cons h]
  obtain ⟨x, g⟩ := A[q]
  cases g
  · cases i <;> simp [plc]
  · simp [plc]
/-- turns of links -/
abbrev TN := List (Int × Int × Bool)
def onLk (t : Int × Int × Bool) (a b : Int) : Bool := (decide (t.1 = a) && decide (t.2.1 = b)) || (decide (t.1 = b) && decide (t.2.1 = a))
def cutF (T : TN) (a b : Int) : Bool := T.foldl (fun is t => if onLk t a b = true then t.2.2 else is) false
theorem cutF_take {T : TN} (a b : Int) (q : Nat) (h : q < T.length) : cutF (T.take (q + 1)) a b = if onLk T[q] a b = true then T[q].2.2 else cutF (T.take q) a b := by
  unfold cutF
  rw [List.take_succ_eq_append_getElem h, List.foldl_append]
  rfl
theorem cutF_snoc (T : TN) (t : Int × Int × Bool) (a b : Int) : cutF (T ++ [t]) a b = if onLk t a b = true then t.2.2 else cutF T a b := by
  unfold cutF
  rw [List.foldl_append]
  rfl
def blc (G : List Bool) : List Value := G.map Value.bool
theorem blc_len (G : List Bool) : (blc G).length = G.length * 1 := by simp [blc]
theorem blc_one (G : List Bool) : ∀ u ∈ blc G, u.oneCell' = true := by
  intro u hu
  simp only [blc, List.mem_map] at hu
  obtain ⟨x, _, rfl⟩ := hu
  rfl
def tnc (T : TN) : List Value := T.flatMap fun t => [.int .i64 t.1, .int .i64 t.2.1, .bool t.2.2]
theorem tnc_len (T : TN) : (tnc T).length = T.length * 3 := by
  induction T with
  | nil => rfl
  | cons a r ih =>
    unfold tnc at *
    simp only [List.flatMap_cons, List.length_append, List.length_cons, List.length_nil, ih]
    omega
theorem tnc_append (a b : TN) : tnc (a ++ b) = tnc a ++ tnc b := List.flatMap_append
theorem tnc_one (T : TN) : ∀ u ∈ tnc T, u.oneCell' = true := by
  intro u hu
  simp only [tnc, List.mem_flatMap] at hu
  obtain ⟨x, _, hu⟩ := hu
  simp at hu
  rcases hu with rfl | rfl | rfl <;> rfl
theorem tnc_at (L : TN) (q : Nat) (h : q < L.length) : (tnc L)[q * 3]? = some (.int .i64 L[q].1) ∧ (tnc L)[q * 3 + 1]? = some (.int .i64 L[q].2.1) ∧ (tnc L)[q * 3 + 2]? = some (.bool L[q].2.2) := by
  induction L generalizing q with
  | nil => simp at h
  | cons a r ih =>
    cases q with
    | zero => exact ⟨rfl, rfl, rfl⟩
    | succ q =>
      have h' : q < r.length := by simpa using h
      obtain ⟨e1, e2, e3⟩ := ih q h'
      unfold tnc at *
      simp only [List.flatMap_cons, List.getElem_cons_succ]
      rw [show (q + 1) * 3 = q * 3 + 3 by omega, show q * 3 + 3 + 1 = (q * 3 + 1) + 3 by omega, show q * 3 + 3 + 2 = (q * 3 + 2) + 3 by omega]
      exact ⟨e1, e2, e3⟩
/-- two rows beside one another: letters, and whether they are gone -/
structure PrX (w : World) (S : Nat → Prop) (vA vG : Value) (A : AB) : Prop where
  rA : w.ownsRow 0 53 4 vA A.length (ltc (A.map (·.1)))
  rG : w.ownsRow 0 4 1 vG A.length (blc (A.map (·.2)))
  sA : ∀ k, vA.ownBlock = some k → S k
  sG : ∀ k, vG.ownBlock = some k → S k
theorem own_blk {w : World} {base e sz n : Nat} {v : Value} {xs : List Value} (h : w.ownsRow base e sz v n xs) {k : Nat} (hk : v.ownBlock = some k) : ∃ cur, w.heap[k]? = some (.cells cur e (0, 0)) := by
  rcases h.2 with ⟨rfl, _⟩ | ⟨g, cap, cur, rfl, _, hg, _⟩
  · simp [Value.ownBlock] at hk
  · simp only [Value.ownBlock, Option.some.injEq] at hk
    subst hk
    exact ⟨cur, hg⟩
theorem own_ty {w : World} {base e sz n k : Nat} {v : Value} {xs : List Value} {c : Array Value} {t : TypeId} {f : Nat × Nat} (h : w.ownsRow base e sz v n xs) (hb : w.heap[k]? = some (.cells c t f)) (ht : t ≠ e) : v.ownBlock ≠ some k := by
  intro hk
  obtain ⟨cur, hc⟩ := own_blk h hk
  rw [hb] at hc
  simp only [Option.some.injEq, Obj.cells.injEq] at hc
  exact ht hc.2.1
theorem PrX.kp {w w' : World} {S T : Nat → Prop} {vA vG : Value} {A : AB} (h : PrX w S vA vG A) (hk : Kp w w' T) (hd : ∀ k, S k → ¬ T k) : PrX w' S vA vG A :=
  ⟨own_kp h.rA hk (fun k e => hd _ (h.sA k e)), own_kp h.rG hk (fun k e => hd _ (h.sG k e)), h.sA, h.sG⟩
theorem PrX.lt {w : World} {S : Nat → Prop} {g cap : Nat} {vG : Value} {A : AB} (h : PrX w S (.slice (some ⟨g, 0, none⟩) A.length cap) vG A) (q : Nat) (hq : q < A.length) : w.cell? ⟨g, q * 4, none⟩ = some (.int .i64 A[q].1.id) ∧ w.cell? ⟨g, q * 4 + 1, none⟩ = some (.int .i64 A[q].1.fr) ∧ w.cell? ⟨g, q * 4 + 2, none⟩ = some (.int .i64 A[q].1.td) ∧ w.cell? ⟨g, q * 4 + 3, none⟩ = some (.string A[q].1.tx) := by
  obtain ⟨e1, e2, e3, e4⟩ := ltc_at (A.map (·.1)) q (by simpa using hq)
  simp only [List.getElem_map] at e1 e2 e3 e4
  exact ⟨(h.rA.cellAt (q * 4) (by omega)).trans e1, (h.rA.cellAt (q * 4 + 1) (by omega)).trans e2, (h.rA.cellAt (q * 4 + 2) (by omega)).trans e3, (h.rA.cellAt (q * 4 + 3) (by omega)).trans e4⟩
theorem PrX.gn {w : World} {S : Nat → Prop} {g cap : Nat} {vA : Value} {A : AB} (h : PrX w S vA (.slice (some ⟨g, 0, none⟩) A.length cap) A) (q : Nat) (hq : q < A.length) : w.cell? ⟨g, q, none⟩ = some (.bool A[q].2) := by
  refine (h.rG.cellAt q (by omega)).trans ?_
  simp [blc, hq]
end Go.Proofs.Ytnphdbmacccblab
