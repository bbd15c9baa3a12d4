import Derived.Test.YtljmjncgpgipcaaGCaBase
import Derived.Test.YtljmjncgpgipcaaGKbMap
import Derived.WalkKit
import Derived.Shelf.Small.Strs
import Derived.Shelf.LaysM
import Derived.Shelf.Strings.Search1
import Derived.Shelf.Bits.Mul64
import Derived.Test.YtljmjncgpgipcaaProg
import Derived.WalkSpells
import Derived.WalkLawsBesides
import Derived.Laws.OwnMore
import Derived.Laws.CopyOwn
import Derived.Below
import Derived.Deep.RegionHeld3
import Derived.Deep.QuietTactic
import Derived.BigQuiet
import Derived.Deep.DeepCutAuto
import Derived.Deep.WholeRow
import Derived.Maps.AppendAt
namespace Go.Proofs.Ytljmjncgpgipcaa.Cn
open Go.RowKit
/-- pairs, as cells -/
def prV (p : Pr) : Array Value := #[.string p.k, .string p.v]
def prs (l : List Pr) : List Value := l.flatMap fun p => (prV p).toList
theorem prs_append (a b : List Pr) : prs (a ++ b) = prs a ++ prs b := List.flatMap_append
theorem prs_one (p : Pr) : prs [p] = (prV p).toList := by unfold prs; rw [List.flatMap_cons, List.flatMap_nil, List.append_nil]
theorem prs_len (L : List Pr) : (prs L).length = L.length * 2 := by
  induction L with
  | nil => rfl
  | cons a r ih =>
    unfold prs at *
    rw [List.flatMap_cons, List.length_append, ih]
    simp only [List.length_cons, prV, List.length_nil]
    omega
theorem prs_oneCell (L : List Pr) : ∀ u ∈ prs L, u.oneCell' = true := by
  intro u hu
  unfold prs at hu
  obtain ⟨m, _, hm⟩ := List.mem_flatMap.1 hu
  simp [prV] at hm
  rcases hm with rfl | rfl <;> rfl
theorem prs_at (L : List Pr) (q : Nat) (h : q < L.length) (j : Nat) (hj : j < 2) : (prs L)[q * 2 + j]? = (prV L[q])[j]? := by
  induction L generalizing q with
  | nil => simp at h
  | cons a r ih =>
    cases q with
    | zero =>
      unfold prs
      rw [List.flatMap_cons, Nat.zero_mul, Nat.zero_add, List.getElem?_append_left (by simpa [prV] using hj)]
      simp
    | succ q =>
      have h' : q < r.length := by simpa using h
      have := ih q h'
      unfold prs at *
      rw [List.flatMap_cons, show (q + 1) * 2 + j = (prV a).toList.length + (q * 2 + j) by simp [prV]; omega, List.getElem?_append_right (by omega), Nat.add_sub_cancel_left]
      exact this
/-- where the lists of an exporter lie -/
structure Zz where
  rv : Value
  zs : List Value
  tp : Value
  tm : Value
  rd : Value
  lp : Value
  lm : Value
/-- an exporter, as cells -/
def exA (v : Ex) (Z : Zz) : Array Value := #[.int .i64 v.gw, Z.rv, .int .i64 v.now, .int .i64 v.told.jb, .int .i64 v.told.vr, Z.tp, Z.tm, .int .i64 (v.part : Int), .int .i64 (v.left : Int), Z.rd, .int .i64 v.wf, .int .i64 v.wj, .int .i64 v.wp, .int .i64 v.wv, .int .i64 v.wl, .int .i64 v.at_, .int .i64 v.last.jb, .int .i64 v.last.vr, Z.lp, Z.lm]
/-- its lists -/
structure Ow (w : World) (v : Ex) (Z : Zz) : Prop where
  rows : w.ownsRow 0 47 1 Z.rv v.rows.length Z.zs
  row : ∀ p (h : p < v.rows.length), ∃ u, Z.zs[p]? = some u ∧ w.ownsRow 0 3 1 u v.rows[p].length (ints v.rows[p])
  tp : w.ownsRow 0 86 2 Z.tp v.told.ps.length (prs v.told.ps)
  tm : w.ownsRow 0 3 1 Z.tm v.told.ms.length (ints v.told.ms)
  rd : w.ownsRow 0 86 2 Z.rd v.rd.length (prs v.rd)
  lp : w.ownsRow 0 86 2 Z.lp v.last.ps.length (prs v.last.ps)
  lm : w.ownsRow 0 3 1 Z.lm v.last.ms.length (ints v.last.ms)
  d1 : ∀ k, Z.tp.ownBlock = some k → Z.rd.ownBlock ≠ some k ∧ Z.lp.ownBlock ≠ some k
  d2 : ∀ k, Z.rd.ownBlock = some k → Z.lp.ownBlock ≠ some k
  d3 : ∀ k, Z.tm.ownBlock = some k → Z.lm.ownBlock ≠ some k ∧ ∀ u ∈ Z.zs, u.ownBlock ≠ some k
structure ExAt (w : World) (X : Nat) (v : Ex) (Z : Zz) : Prop where
  blk : w.heap[X]? = some (.cells (exA v Z) 75)
  ow : Ow w v Z
/-- the blocks that its calls write -/
def Fp (X : Nat) (Z : Zz) : Nat → Prop := fun k => k = X ∨ Z.tp.ownBlock = some k ∨ Z.tm.ownBlock = some k ∨ Z.rd.ownBlock = some k
/-- all its blocks -/
def Ap (X : Nat) (Z : Zz) : Nat → Prop := fun k => Fp X Z k ∨ Z.rv.ownBlock = some k ∨ Z.lp.ownBlock = some k ∨ Z.lm.ownBlock = some k ∨ ∃ u ∈ Z.zs, u.ownBlock = some k
section
variable {w w' : World} {X : Nat} {v v' : Ex} {Z Z' : Zz} {S : Nat → Prop}
theorem Ow.kp (h : Ow w v Z) (hk : Kp w w' S) (hS : ∀ k, (Z.tp.ownBlock = some k ∨ Z.tm.ownBlock = some k ∨ Z.rd.ownBlock = some k ∨ Z.rv.ownBlock = some k ∨ Z.lp.ownBlock = some k ∨ Z.lm.ownBlock = some k ∨ ∃ u ∈ Z.zs, u.ownBlock = some k) → ¬ S k) : Ow w' v Z :=
  ⟨own_kp h.rows hk (fun k e => hS k (by simp [e])), fun p hp => by
    obtain ⟨u, hu, ho⟩ := h.row p hp
    exact ⟨u, hu, own_kp ho hk (fun k e => hS k (Or.inr (Or.inr (Or.inr (Or.inr (Or.inr (Or.inr ⟨u, List.mem_of_getElem? hu, e⟩)))))))⟩, own_kp h.tp hk (fun k e => hS k (by simp [e])), own_kp h.tm hk (fun k e => hS k (by simp [e])), own_kp h.rd hk (fun k e => hS k (by simp [e])), own_kp h.lp hk (fun k e => hS k (by simp [e])), own_kp h.lm hk (fun k e => hS k (by simp [e])), h.d1, h.d2, h.d3⟩
theorem Ow.kp0 (h : Ow w v Z) (hk : Kp w w' non) : Ow w' v Z := h.kp hk (fun _ _ f => f)
/-- what lies in a block of another kind -/
theorem Ow.kind (h : Ow w v Z) {k : Nat} (hk : Z.tp.ownBlock = some k ∨ Z.tm.ownBlock = some k ∨ Z.rd.ownBlock = some k ∨ Z.rv.ownBlock = some k ∨ Z.lp.ownBlock = some k ∨ Z.lm.ownBlock = some k ∨ ∃ u ∈ Z.zs, u.ownBlock = some k) : ∃ cur t, w.heap[k]? = some (.cells cur t (0, 0)) ∧ (t = 86 ∨ t = 3 ∨ t = 47) := by
  rcases hk with e | e | e | e | e | e | ⟨u, hu, e⟩
  · obtain ⟨c, hc⟩ := own_typ h.tp e; exact ⟨c, _, hc, Or.inl rfl⟩
  · obtain ⟨c, hc⟩ := own_typ h.tm e; exact ⟨c, _, hc, Or.inr (Or.inl rfl)⟩
  · obtain ⟨c, hc⟩ := own_typ h.rd e; exact ⟨c, _, hc, Or.inl rfl⟩
  · obtain ⟨c, hc⟩ := own_typ h.rows e; exact ⟨c, _, hc, Or.inr (Or.inr rfl)⟩
  · obtain ⟨c, hc⟩ := own_typ h.lp e; exact ⟨c, _, hc, Or.inl rfl⟩
  · obtain ⟨c, hc⟩ := own_typ h.lm e; exact ⟨c, _, hc, Or.inr (Or.inl rfl)⟩
  · obtain ⟨p, hp, rfl⟩ := List.getElem_of_mem hu
    have hl : Z.zs.length = v.rows.length * 1 := h.rows.1
    obtain ⟨u', hu', ho⟩ := h.row p (by omega)
    rw [List.getElem?_eq_getElem hp] at hu'
    injection hu' with hu'
    rw [hu'] at e
    obtain ⟨c, hc⟩ := own_typ ho e
    exact ⟨c, _, hc, Or.inr (Or.inl rfl)⟩
theorem Ow.notX (h : Ow w v Z) {C : Array Value} {fr : Nat × Nat} (hX : w.heap[X]? = some (.cells C 75 fr)) {k : Nat} (hk : Z.tp.ownBlock = some k ∨ Z.tm.ownBlock = some k ∨ Z.rd.ownBlock = some k ∨ Z.rv.ownBlock = some k ∨ Z.lp.ownBlock = some k ∨ Z.lm.ownBlock = some k ∨ ∃ u ∈ Z.zs, u.ownBlock = some k) : k ≠ X := fun e => by
  obtain ⟨c, t, hc, ht⟩ := h.kind hk
  rw [e, hX] at hc
  simp at hc
  rcases ht with q | q | q <;> rw [q] at hc <;> simp at hc
/-- the block X is written -/
theorem Ow.setX (h : Ow w v Z) {C : Array Value} {fr : Nat × Nat} (hX : w.heap[X]? = some (.cells C 75 fr)) (hk : Kp w w' (fun k => k = X)) : Ow w' v Z := h.kp hk (fun _ hk' e => h.notX hX hk' e)
theorem ExAt.kp (h : ExAt w X v Z) (hk : Kp w w' S) (hS : ∀ k, Ap X Z k → ¬ S k) : ExAt w' X v Z :=
  ⟨(hk.block _ (blk_lt h.blk) (hS _ (Or.inl (Or.inl rfl)))).trans h.blk, h.ow.kp hk (fun k hk' => hS k (by
    rcases hk' with e | e | e | e | e | e | e
    · exact Or.inl (Or.inr (Or.inl e))
    · exact Or.inl (Or.inr (Or.inr (Or.inl e)))
    · exact Or.inl (Or.inr (Or.inr (Or.inr e)))
    · exact Or.inr (Or.inl e)
    · exact Or.inr (Or.inr (Or.inl e))
    · exact Or.inr (Or.inr (Or.inr (Or.inl e)))
    · exact Or.inr (Or.inr (Or.inr (Or.inr e)))))⟩
theorem ExAt.kp0 (h : ExAt w X v Z) (hk : Kp w w' non) : ExAt w' X v Z := h.kp hk (fun _ _ f => f)
theorem Ap.kind (h : ExAt w X v Z) {k : Nat} (hk : Ap X Z k) : ∃ cur t, w.heap[k]? = some (.cells cur t (0, 0)) ∧ (t = 86 ∨ t = 3 ∨ t = 47 ∨ t = 75) := by
  rcases hk with (e | e | e | e) | e | e | e | e
  · exact ⟨_, _, e ▸ h.blk, Or.inr (Or.inr (Or.inr rfl))⟩
  all_goals
    obtain ⟨c, t, hc, ht⟩ := h.ow.kind (k := k) (by simp [e])
    exact ⟨c, t, hc, by rcases ht with q | q | q <;> simp [q]⟩
/-- a block of another kind is none of its -/
theorem ExAt.not (h : ExAt w X v Z) {k : Nat} {C : Array Value} {t : TypeId} {fr : Nat × Nat} (hk : w.heap[k]? = some (.cells C t fr)) (ht : t ≠ 86 ∧ t ≠ 3 ∧ t ≠ 47 ∧ t ≠ 75) : ¬ Ap X Z k := fun e => by
  obtain ⟨c, t', hc, q⟩ := Ap.kind h e
  rw [hk] at hc
  simp at hc
  have e2 := hc.2.1
  rcases q with q | q | q | q
  · exact ht.1 (e2.trans q)
  · exact ht.2.1 (e2.trans q)
  · exact ht.2.2.1 (e2.trans q)
  · exact ht.2.2.2 (e2.trans q)
theorem ExAt.lt (h : ExAt w X v Z) {k : Nat} (hk : Ap X Z k) : k < w.heap.size := by
  obtain ⟨c, t, hc, _⟩ := Ap.kind h hk
  exact blk_lt hc
theorem ExAt.fz (h : ExAt w X v Z) (i : Nat) : w.frozen? ⟨X, i, none⟩ = false := fz_row h.blk i
theorem ex_cells (h : w.heap[X]? = some (.cells (exA v Z) 75)) : w.cell? ⟨X, 0, none⟩ = some (.int .i64 v.gw) ∧ w.cell? ⟨X, 1, none⟩ = some Z.rv ∧ w.cell? ⟨X, 2, none⟩ = some (.int .i64 v.now) ∧ w.cell? ⟨X, 3, none⟩ = some (.int .i64 v.told.jb) ∧ w.cell? ⟨X, 4, none⟩ = some (.int .i64 v.told.vr) ∧ w.cell? ⟨X, 5, none⟩ = some Z.tp ∧ w.cell? ⟨X, 6, none⟩ = some Z.tm ∧ w.cell? ⟨X, 7, none⟩ = some (.int .i64 (v.part : Int)) ∧ w.cell? ⟨X, 8, none⟩ = some (.int .i64 (v.left : Int)) ∧ w.cell? ⟨X, 9, none⟩ = some Z.rd ∧ w.cell? ⟨X, 15, none⟩ = some (.int .i64 v.at_) ∧ w.cell? ⟨X, 16, none⟩ = some (.int .i64 v.last.jb) := by
  simp only [cell_row h]
  exact ⟨rfl, rfl, rfl, rfl, rfl, rfl, rfl, rfl, rfl, rfl, rfl, rfl⟩
end
/-- what a call leaves: the exporter is v', nothing but its own blocks is written, it has no more old blocks than before -/
structure Lv (w w' : World) (X : Nat) (Z : Zz) (v' : Ex) (Z' : Zz) : Prop where
  at_ : ExAt w' X v' Z'
  kp : Kp w w' (Fp X Z)
  gf : ∀ k, Fp X Z' k → Fp X Z k ∨ w.heap.size ≤ k
  gr : ∀ k, Ap X Z' k → Ap X Z k ∨ w.heap.size ≤ k
theorem Fp.ap {X : Nat} {Z : Zz} {k : Nat} (h : Fp X Z k) : Ap X Z k := Or.inl h
/-- messages that are handed out -/
def Out (w w' : World) (u : Value) (L : List Mg) : Prop := w'.ownsRow w.heap.size 36 11 u L.length (mgs L)
theorem Lv.trans {w w1 w2 : World} {X : Nat} {Z Z1 Z2 : Zz} {v1 v2 : Ex} (h : Lv w w1 X Z v1 Z1) (h' : Lv w1 w2 X Z1 v2 Z2) : Lv w w2 X Z v2 Z2 :=
  ⟨h'.at_, h.kp.trans h'.kp h.gf, fun k hk => by
    have s := h.kp.size
    rcases h'.gf k hk with e | e
    · exact h.gf k e
    · exact Or.inr (by omega), fun k hk => by
    have s := h.kp.size
    rcases h'.gr k hk with e | e
    · exact h.gr k e
    · exact Or.inr (by omega)⟩
theorem Lv.refl {w : World} {X : Nat} {Z : Zz} {v : Ex} (h : ExAt w X v Z) : Lv w w X Z v Z := ⟨h, Kp.refl w _, fun _ e => Or.inl e, fun _ e => Or.inl e⟩
/-- nothing of its own was touched -/
theorem Lv.same {w w' : World} {X : Nat} {Z : Zz} {v : Ex} (h : ExAt w X v Z) (hk : Kp w w' non) : Lv w w' X Z v Z := ⟨h.kp0 hk, hk.mono (fun _ f => f.elim), fun _ e => Or.inl e, fun _ e => Or.inl e⟩
end Go.Proofs.Ytljmjncgpgipcaa.Cn
namespace Go.Proofs.Ytljmjncgpgipcaa
/-- a node: its zone, its partitions -/
structure ND where
  z : Int
  ps : List Int
instance : Inhabited ND := ⟨⟨0, []⟩⟩
def flat (ns : List ND) : List Int := ns.flatMap fun n => n.ps
theorem flat_append (a b : List ND) : flat (a ++ b) = flat a ++ flat b := List.flatMap_append
theorem flat_one (n : ND) : flat [n] = n.ps := by simp [flat]
def cntI (k : Int) : List Int → Nat
  | [] => 0
  | x :: r => (if x = k then 1 else 0) + cntI k r
theorem cntI_append (k : Int) (a b : List Int) : cntI k (a ++ b) = cntI k a + cntI k b := by
  induction a with
  | nil => simp [cntI]
  | cons x r ih => simp only [List.cons_append, cntI, ih]; omega
theorem cntI_mem {k : Int} {l : List Int} : 0 < cntI k l ↔ k ∈ l := by
  induction l with
  | nil => simp [cntI]
  | cons x r ih =>
    simp only [cntI, List.mem_cons]
    by_cases e : x = k
    · rw [if_pos e]
      constructor
      · intro _
        exact Or.inl e.symm
      · intro _
        omega
    · rw [if_neg e, Nat.zero_add, ih]
      constructor
      · exact Or.inr
      · rintro (h | h)
        · exact absurd h.symm e
        · exact h
theorem cntI_zero {k : Int} {l : List Int} : cntI k l = 0 ↔ k ∉ l := by
  rw [← cntI_mem]
  omega
theorem cntI_perm {k : Int} {a b : List Int} (h : a.Perm b) : cntI k a = cntI k b := by
  induction h with
  | nil => rfl
  | cons x _ ih => simp only [cntI, ih]
  | swap x y l => simp only [cntI]; omega
  | trans _ _ i j => exact i.trans j
/-- all of 0 to p - 1 stand in a list of p: then it has nothing else, and nothing twice -/
theorem all_once : ∀ (p : Nat) (l : List Int), l.length = p → (∀ i : Nat, i < p → (i : Int) ∈ l) → (∀ x ∈ l, 0 ≤ x ∧ x < (p : Int)) ∧ ∀ k, cntI k l ≤ 1 := by
  intro p
  induction p with
  | zero =>
    intro l hl _
    obtain rfl := List.length_eq_zero_iff.1 hl
    exact ⟨fun x hx => by simp at hx, fun k => by simp [cntI]⟩
  | succ p ih =>
    intro l hl hm
    have hp : (p : Int) ∈ l := hm p (by omega)
    have pe := List.perm_cons_erase hp
    have le : (l.erase (p : Int)).length = p := by
      have := pe.length_eq
      simp at this
      omega
    have hm' : ∀ i : Nat, i < p → (i : Int) ∈ l.erase (p : Int) := fun i hi => by
      have := pe.mem_iff.1 (hm i (by omega))
      rcases List.mem_cons.1 this with h | h
      · omega
      · exact h
    obtain ⟨r1, r2⟩ := ih _ le hm'
    refine ⟨fun x hx => ?_, fun k => ?_⟩
    · rcases List.mem_cons.1 (pe.mem_iff.1 hx) with h | h
      · omega
      · have := r1 x h
        omega
    · rw [cntI_perm pe]
      simp only [cntI]
      by_cases e : (p : Int) = k
      · rw [if_pos e, cntI_zero.2 (fun h => by have := r1 k h; omega)]
        omega
      · rw [if_neg e]
        have := r2 k
        omega
theorem few_in : ∀ (p : Nat) (l : List Int), (∀ x ∈ l, 0 ≤ x ∧ x < (p : Int)) → (∀ k, cntI k l ≤ 1) → l.length ≤ p := by
  intro p
  induction p with
  | zero =>
    intro l h _
    cases l with
    | nil => exact Nat.le_refl _
    | cons x r => have := h x (by simp); omega
  | succ p ih =>
    intro l h1 h2
    by_cases hp : (p : Int) ∈ l
    · have pe := List.perm_cons_erase hp
      have le : l.length = (l.erase (p : Int)).length + 1 := by
        have := pe.length_eq
        simpa using this
      have k2 : ∀ k, cntI k (l.erase (p : Int)) ≤ 1 := fun k => by
        have := h2 k
        rw [cntI_perm pe] at this
        simp only [cntI] at this
        omega
      have np : (p : Int) ∉ l.erase (p : Int) := by
        have := h2 (p : Int)
        rw [cntI_perm pe] at this
        simp only [cntI, if_true] at this
        exact cntI_zero.1 (by omega)
      have k1 : ∀ x ∈ l.erase (p : Int), 0 ≤ x ∧ x < (p : Int) := fun x hx => by
        have := h1 x (List.mem_of_mem_erase hx)
        have ne : x ≠ (p : Int) := fun e => np (e ▸ hx)
        omega
      have := ih _ k1 k2
      omega
    · have := ih l (fun x hx => by
        have := h1 x hx
        have ne : x ≠ (p : Int) := fun e => hp (e ▸ hx)
        omega) h2
      omega
theorem once_all : ∀ (p : Nat) (l : List Int), l.length = p → (∀ x ∈ l, 0 ≤ x ∧ x < (p : Int)) → (∀ k, cntI k l ≤ 1) → ∀ i : Nat, i < p → cntI (i : Int) l = 1 := by
  intro p l hl h1 h2 i hi
  have : 0 < cntI (i : Int) l := by
    apply Classical.byContradiction
    intro hn
    have hz : cntI (i : Int) l = 0 := by omega
    -- i :: l has p + 1 of p
    have := few_in p ((i : Int) :: l) (fun x hx => by
      rcases List.mem_cons.1 hx with e | e
      · omega
      · exact h1 x e) (fun k => by
      simp only [cntI]
      by_cases e : (i : Int) = k
      · subst e
        rw [if_pos rfl, hz]
        omega
      · rw [if_neg e]
        have := h2 k
        omega)
    simp at this
    omega
  have := h2 (i : Int)
  omega
def Rising (l : List Int) : Prop := ∀ j (h : j + 1 < l.length), l[j] < l[j + 1]
/-- the document's dealt -/
structure Dealt (ns : List ND) : Prop where
  p1 : 1 ≤ (flat ns).length
  p2 : (flat ns).length ≤ 64
  once : ∀ i : Nat, i < (flat ns).length → cntI (i : Int) (flat ns) = 1
  rise : ∀ n ∈ ns, Rising n.ps
/-- the node that has a partition in its list; -1: none has -/
def ownF (k : Int) : Nat → List ND → Int
  | _, [] => -1
  | i, n :: r => if k ∈ n.ps then (i : Int) else ownF k (i + 1) r
theorem ownF_in {k : Int} {i : Nat} {n : ND} {r : List ND} (h : k ∈ n.ps) : ownF k i (n :: r) = (i : Int) := by simp [ownF, h]
theorem ownF_out {k : Int} {i : Nat} {n : ND} {r : List ND} (h : k ∉ n.ps) : ownF k i (n :: r) = ownF k (i + 1) r := by simp [ownF, h]
theorem flat_cons (n : ND) (r : List ND) : flat (n :: r) = n.ps ++ flat r := by simp [flat]
theorem ownF_none {k : Int} {i : Nat} {ns : List ND} : ownF k i ns = -1 ↔ k ∉ flat ns := by
  induction ns generalizing i with
  | nil => simp [ownF, flat]
  | cons n r ih =>
    rw [flat_cons, List.mem_append]
    by_cases e : k ∈ n.ps
    · rw [ownF_in e]
      constructor
      · intro h
        omega
      · intro h
        exact absurd (Or.inl e) h
    · rw [ownF_out e, ih]
      constructor
      · rintro h (h' | h')
        · exact e h'
        · exact h h'
      · intro h h'
        exact h (Or.inr h')
theorem ownF_append (k : Int) (i : Nat) (ns : List ND) (n : ND) : ownF k i (ns ++ [n]) = if ownF k i ns = -1 then (if k ∈ n.ps then ((i + ns.length : Nat) : Int) else -1) else ownF k i ns := by
  induction ns generalizing i with
  | nil => simp [ownF]
  | cons m r ih =>
    rw [List.cons_append]
    by_cases e : k ∈ m.ps
    · rw [ownF_in e, ownF_in e, if_neg (by omega)]
    · rw [ownF_out e, ownF_out e, ih, show i + 1 + r.length = i + (m :: r).length by simp; omega]
theorem ownF_range (k : Int) (i : Nat) (ns : List ND) : ownF k i ns = -1 ∨ ((i : Int) ≤ ownF k i ns ∧ ownF k i ns < ((i + ns.length : Nat) : Int)) := by
  induction ns generalizing i with
  | nil => exact Or.inl rfl
  | cons n r ih =>
    by_cases e : k ∈ n.ps
    · rw [ownF_in e]
      exact Or.inr ⟨Int.le_refl _, by simp; omega⟩
    · rw [ownF_out e]
      rcases ih (i + 1) with h | h
      · exact Or.inl h
      · refine Or.inr ⟨by omega, ?_⟩
        have := h.2
        simp at this ⊢
        omega
/-- nodes up to i, and j partitions of the node i -/
def preN (ns : List ND) (i j : Nat) : List ND := ns.take i ++ [⟨0, (ns[i]?.getD default).ps.take j⟩]
/-- so far all is well -/
structure Fine (ns : List ND) (i j : Nat) : Prop where
  rng : ∀ x ∈ flat (preN ns i j), 0 ≤ x ∧ x < ((flat ns).length : Int)
  one : ∀ k, cntI k (flat (preN ns i j)) ≤ 1
  ris : ∀ q (h : q < ns.length), q < i → Rising ns[q].ps
  now : Rising ((ns[i]?.getD default).ps.take j)
def lastP (ns : List ND) (i j : Nat) : Int := if j = 0 then -1 else (ns[i]?.getD default).ps[j - 1]?.getD 0
theorem Fine.start (ns : List ND) : Fine ns 0 0 := by
  refine ⟨fun x hx => ?_, fun k => ?_, fun q _ h => by omega, fun j h => ?_⟩
  · simp [preN, flat] at hx
  · simp [preN, flat, cntI]
  · simp at h
theorem preN_next {ns : List ND} {i : Nat} (hi : i < ns.length) : flat (preN ns i ns[i].ps.length) = flat (preN ns (i + 1) 0) := by
  unfold preN
  rw [List.getElem?_eq_getElem hi, Option.getD_some, List.take_length, flat_append, flat_append, flat_one, flat_one, List.take_succ_eq_append_getElem hi, flat_append, flat_one]
  simp
theorem Fine.next {ns : List ND} {i : Nat} (hi : i < ns.length) (h : Fine ns i ns[i].ps.length) : Fine ns (i + 1) 0 := by
  have e := preN_next hi
  refine ⟨fun x hx => h.rng x (by rw [e]; exact hx), fun k => by rw [← e]; exact h.one k, fun q hq hqi => ?_, fun j hj => ?_⟩
  · by_cases hq' : q < i
    · exact h.ris q hq hq'
    · obtain rfl : q = i := by omega
      have := h.now
      rw [List.getElem?_eq_getElem hi, Option.getD_some, List.take_length] at this
      exact this
  · simp at hj
theorem preN_step {ns : List ND} {i j : Nat} (hi : i < ns.length) (hj : j < ns[i].ps.length) : flat (preN ns i (j + 1)) = flat (preN ns i j) ++ [ns[i].ps[j]] := by
  unfold preN
  rw [List.getElem?_eq_getElem hi, Option.getD_some, flat_append, flat_append, flat_one, flat_one, List.take_succ_eq_append_getElem hj, List.append_assoc]
theorem Fine.step {ns : List ND} {i j : Nat} (h : Fine ns i j) (hi : i < ns.length) (hj : j < ns[i].ps.length) (h1 : lastP ns i j < ns[i].ps[j]) (h2 : ns[i].ps[j] < ((flat ns).length : Int)) (h3 : ownF ns[i].ps[j] 0 (preN ns i j) = -1) : Fine ns i (j + 1) := by
  have hge : 0 ≤ ns[i].ps[j] := by
    unfold lastP at h1
    by_cases j0 : j = 0
    · rw [if_pos j0] at h1
      omega
    · rw [if_neg j0, List.getElem?_eq_getElem hi, Option.getD_some, List.getElem?_eq_getElem (by omega), Option.getD_some] at h1
      have hm : ns[i].ps[j - 1] ∈ flat (preN ns i j) := by
        unfold preN
        rw [List.getElem?_eq_getElem hi, Option.getD_some, flat_append, flat_one]
        refine List.mem_append_right _ ?_
        rw [List.mem_take_iff_getElem]
        exact ⟨j - 1, by omega, rfl⟩
      have := (h.rng _ hm).1
      omega
  have e := preN_step hi hj
  refine ⟨fun x hx => ?_, fun k => ?_, h.ris, ?_⟩
  · rw [e] at hx
    rcases List.mem_append.1 hx with hx | hx
    · exact h.rng x hx
    · simp at hx
      subst hx
      exact ⟨hge, h2⟩
  · rw [e, cntI_append]
    have k1 := h.one k
    simp only [cntI]
    by_cases ek : ns[i].ps[j] = k
    · rw [if_pos ek, ← ek, cntI_zero.2 (ownF_none.1 h3)]
      omega
    · rw [if_neg ek]
      omega
  · have hnow := h.now
    rw [List.getElem?_eq_getElem hi, Option.getD_some] at hnow ⊢
    intro q hq
    have hl : (ns[i].ps.take (j + 1)).length = j + 1 := by rw [List.length_take]; omega
    rw [hl] at hq
    rw [List.getElem_take, List.getElem_take]
    by_cases hqj : q + 1 < j
    · have := hnow q (by rw [List.length_take]; omega)
      rw [List.getElem_take, List.getElem_take] at this
      exact this
    · have hq1 : q + 1 = j := by omega
      subst hq1
      unfold lastP at h1
      rw [if_neg (by omega), List.getElem?_eq_getElem hi, Option.getD_some, Nat.add_sub_cancel, List.getElem?_eq_getElem (by omega), Option.getD_some] at h1
      exact h1
theorem flat_pre_all (ns : List ND) : flat (preN ns ns.length 0) = flat ns := by
  unfold preN
  rw [flat_append, flat_one, List.take_length]
  simp
/-- all went well: then each is dealt once -/
theorem Fine.dealt {ns : List ND} (h : Fine ns ns.length 0) (p1 : 1 ≤ (flat ns).length) (p2 : (flat ns).length ≤ 64) : Dealt ns := by
  refine ⟨p1, p2, ?_, fun n hn => ?_⟩
  · exact once_all _ _ rfl (fun x hx => h.rng x (by rw [flat_pre_all]; exact hx)) (fun k => by have := h.one k; rw [flat_pre_all] at this; exact this)
  · obtain ⟨q, hq, rfl⟩ := List.getElem_of_mem hn
    exact h.ris q hq hq
theorem Dealt.all {ns : List ND} (h : Dealt ns) : (∀ x ∈ flat ns, 0 ≤ x ∧ x < ((flat ns).length : Int)) ∧ ∀ k, cntI k (flat ns) ≤ 1 :=
  all_once _ _ rfl (fun i hi => cntI_mem.1 (by rw [h.once i hi]; omega))
theorem mem_flat {ns : List ND} {i j : Nat} (hi : i < ns.length) (hj : j < ns[i].ps.length) : ns[i].ps[j] ∈ flat ns := by
  unfold flat
  exact List.mem_flatMap.2 ⟨ns[i], List.getElem_mem hi, List.getElem_mem hj⟩
theorem flat_split {ns : List ND} {i : Nat} (hi : i < ns.length) (j : Nat) : ∃ r, flat ns = flat (preN ns i j) ++ (ns[i].ps.drop j ++ r) := by
  refine ⟨flat (ns.drop (i + 1)), ?_⟩
  unfold preN
  rw [List.getElem?_eq_getElem hi, Option.getD_some, flat_append, flat_one, List.append_assoc, ← List.append_assoc (ns[i].ps.take j), List.take_append_drop]
  have : ns = ns.take i ++ ([ns[i]] ++ ns.drop (i + 1)) := by
    rw [← List.append_assoc, ← List.take_succ_eq_append_getElem hi, List.take_append_drop]
  conv => lhs; rw [this, flat_append, flat_append, flat_one]
/-- one went ill: then they are not dealt -/
theorem not_dealt {ns : List ND} {i j : Nat} (hi : i < ns.length) (hj : j < ns[i].ps.length) (hb : ns[i].ps[j] ≤ lastP ns i j ∨ ((flat ns).length : Int) ≤ ns[i].ps[j] ∨ ownF ns[i].ps[j] 0 (preN ns i j) ≠ -1) : ¬ Dealt ns := by
  intro h
  obtain ⟨a1, a2⟩ := h.all
  have hm := a1 _ (mem_flat hi hj)
  rcases hb with hb | hb | hb
  · unfold lastP at hb
    by_cases j0 : j = 0
    · rw [if_pos j0] at hb
      omega
    · rw [if_neg j0, List.getElem?_eq_getElem hi, Option.getD_some, List.getElem?_eq_getElem (by omega), Option.getD_some] at hb
      have := h.rise ns[i] (List.getElem_mem hi) (j - 1) (by omega)
      have e : j - 1 + 1 = j := by omega
      simp only [e] at this
      omega
  · omega
  · have hin : ns[i].ps[j] ∈ flat (preN ns i j) := by
      apply Classical.byContradiction
      intro hn
      exact hb (ownF_none.2 hn)
    obtain ⟨r, hr⟩ := flat_split hi j
    have c := a2 ns[i].ps[j]
    rw [hr, cntI_append, cntI_append] at c
    have c1 := cntI_mem.2 hin
    have c2 : 0 < cntI ns[i].ps[j] (ns[i].ps.drop j) := cntI_mem.2 (by
      rw [List.mem_drop_iff_getElem]
      exact ⟨0, by omega, by simp⟩)
    omega
end Go.Proofs.Ytljmjncgpgipcaa
namespace Go.Proofs
open Go.Shelf Go.RowKit
def Try.lays137_ren : Go.Shelf.Ren := ⟨fun | 137 => 54 | 217 => 56 | 266 => 59 | n => n, fun | 9 => 9 | 5 => 5 | 3 => 3 | n => n, fun | n => n⟩
theorem Try.lays137 : Go.Proofs.Lays.n137 Try.prog Try.lays137_ren := {
  mixed := by kernel_rfl
  f137 := Try.func54.trans (congrArg some (by kernel_rfl))
  f217 := Try.func56.trans (congrArg some (by kernel_rfl))
  f266 := Try.func59.trans (congrArg some (by kernel_rfl))
  t3 := Try.underlying3
  a3 := Try.isAgg3
  z3 := Try.sizeOf3
  v3 := Try.zeroValue3
  t5 := Try.underlying5
  a5 := Try.isAgg5
  z5 := Try.sizeOf5
  v5 := Try.zeroValue5
  t9 := Try.underlying9
  a9 := Try.isAgg9
  z9 := Try.sizeOf9
  v9 := Try.zeroValue9 }
open Go.RowKit in
theorem Try.strings_IndexByte (s : ByteArray) (c : Int) (w : World) :
    Calls Try.prog 54 #[.string s, .int .u8 c] w fun e w' => e = .returned (.int .i64 (Lib.indexByte s.data.toList c.toNat.toUInt8)) ∧ w' = w := Any.strings_IndexByte Try.lays137 s c w
def Try.lays264_ren : Go.Shelf.Ren := ⟨fun | 264 => 58 | n => n, fun | 53 => 122 | 46 => 114 | n => n, fun | n => n⟩
theorem Try.lays264 : Go.Proofs.Lays.n264 Try.prog Try.lays264_ren := {
  mixed := by kernel_rfl
  f264 := Try.func58.trans (congrArg some (by kernel_rfl))
  t46 := Try.underlying114
  a46 := Try.isAgg114
  z46 := Try.sizeOf114
  v46 := Try.zeroValue114
  t53 := Try.underlying122
  a53 := Try.isAgg122
  z53 := Try.sizeOf122
  v53 := Try.zeroValue122 }
open Go.RowKit Go.Lib in
theorem Try.bits_Mul64 (x y : Nat) (hx : x < 18446744073709551616) (hy : y < 18446744073709551616) (w : World) :
    Calls Try.prog 58 #[.int .u64 x, .int .u64 y] w fun e w' => e = .returned (.tuple #[.int .u64 ((x * y / 18446744073709551616 : Nat) : Int), .int .u64 ((x * y % 18446744073709551616 : Nat) : Int)]) ∧ w' = w := Any.bits_Mul64 Try.lays264 x y hx hy w
def Try.lays212_ren : Go.Shelf.Ren := ⟨fun | 212 => 55 | 263 => 57 | 264 => 58 | n => n, fun | 46 => 114 | 51 => 119 | 146 => 120 | 53 => 122 | 148 => 123 | n => n, fun | n => n⟩
theorem Try.lays212 : Go.Proofs.Lays.n212 Try.prog Try.lays212_ren := {
  mixed := by kernel_rfl
  f212 := Try.func55.trans (congrArg some (by kernel_rfl))
  f263 := Try.func57.trans (congrArg some (by kernel_rfl))
  f264 := Try.func58.trans (congrArg some (by kernel_rfl))
  t46 := Try.underlying114
  a46 := Try.isAgg114
  z46 := Try.sizeOf114
  v46 := Try.zeroValue114
  t51 := Try.underlying119
  a51 := Try.isAgg119
  z51 := Try.sizeOf119
  v51 := Try.zeroValue119
  t53 := Try.underlying122
  a53 := Try.isAgg122
  z53 := Try.sizeOf122
  v53 := Try.zeroValue122
  t146 := Try.underlying120
  a146 := Try.isAgg120
  z146 := Try.sizeOf120
  v146 := Try.zeroValue120
  t148 := Try.underlying123
  a148 := Try.isAgg123
  z148 := Try.sizeOf123
  v148 := Try.zeroValue123 }
open Go.RowKit Go.Lib in
theorem Try.bits_Mul (x y : Nat) (hx : x < 18446744073709551616) (hy : y < 18446744073709551616) (w : World) :
    Calls Try.prog 55 #[.int .u64 x, .int .u64 y] w fun e w' => e = .returned (.tuple #[.int .u64 ((x * y / 18446744073709551616 : Nat) : Int), .int .u64 ((x * y % 18446744073709551616 : Nat) : Int)]) ∧ w' = w := Any.bits_Mul Try.lays212 x y hx hy w
def Try.lays217_ren : Go.Shelf.Ren := ⟨fun | 217 => 56 | 266 => 59 | n => n, fun | 9 => 9 | 5 => 5 | 3 => 3 | n => n, fun | n => n⟩
theorem Try.lays217 : Go.Proofs.Lays.n217 Try.prog Try.lays217_ren := {
  mixed := by kernel_rfl
  f217 := Try.func56.trans (congrArg some (by kernel_rfl))
  f266 := Try.func59.trans (congrArg some (by kernel_rfl))
  t3 := Try.underlying3
  a3 := Try.isAgg3
  z3 := Try.sizeOf3
  v3 := Try.zeroValue3
  t5 := Try.underlying5
  a5 := Try.isAgg5
  z5 := Try.sizeOf5
  v5 := Try.zeroValue5
  t9 := Try.underlying9
  a9 := Try.isAgg9
  z9 := Try.sizeOf9
  v9 := Try.zeroValue9 }
open Go.RowKit Go.Lib in
theorem Try.stringslite_IndexByte (s : ByteArray) (c : Int) (w : World) :
    Calls Try.prog 56 #[.string s, .int .u8 c] w fun e w' => e = .returned (.int .i64 (Lib.indexByte s.data.toList c.toNat.toUInt8)) ∧ w' = w := Any.stringslite_IndexByte Try.lays217 s c w
end Go.Proofs
namespace Go.Proofs.Ytljmjncgpgipcaa
open Go.RowKit
theorem hide {p : Prop} (h : p) : Hid p := h
theorem i64_in {x : Int} (h0 : -9223372036854775808 ≤ x) (h1 : x < 9223372036854775808) : IntKind.i64.wrap x = x := by
  simp [IntKind.wrap, IntKind.signed, IntKind.bits]; omega
theorem wrap_in {x : Int} (h0 : -9223372036854775808 ≤ x) (h1 : x < 9223372036854775808) : wrap64 x = x := by unfold wrap64; omega
theorem blk_lt {w : World} {b : Nat} {o : Obj} (h : w.heap[b]? = some o) : b < w.heap.size := (Array.getElem?_eq_some_iff.1 h).1
theorem heap_last (w : World) (o : Obj) : (w.alloc o).heap[w.heap.size]? = some o := by
  unfold World.alloc
  exact Array.getElem?_push_size
theorem ret_bool {a b : Bool} (h : a = b) : (Ending.returned (.bool a)) = .returned (.bool b) := by rw [h]
/-- partitions, as they lie there -/
structure PsAt (N : Nat) (w : World) (ao : Option Addr) (b o : Nat) (L : List Int) : Prop where
  at0 : 0 < L.length → ao = some ⟨b, o, none⟩
  lt : 0 < L.length → b < N
  c : ∀ (q : Nat) (h : q < L.length), w.cell? ⟨b, o + q, none⟩ = some (.int .i64 L[q])
  len : L.length ≤ 17592186043904
def Pv (N : Nat) (w : World) (v : Value) (L : List Int) : Prop := ∃ ao b o cap, v = .slice ao L.length cap ∧ PsAt N w ao b o L
/-- nodes, as they lie there -/
structure NsAt (N : Nat) (w : World) (ao : Option Addr) (b o : Nat) (pv : Nat → Value) (ns : List ND) : Prop where
  at0 : 0 < ns.length → ao = some ⟨b, o, none⟩
  lt : 0 < ns.length → b < N
  cz : ∀ (q : Nat) (h : q < ns.length), w.cell? ⟨b, o + q * 2, none⟩ = some (.int .i64 ns[q].z)
  cp : ∀ (q : Nat) (_ : q < ns.length), w.cell? ⟨b, o + q * 2 + 1, none⟩ = some (pv q)
  ps : ∀ (q : Nat) (h : q < ns.length), Pv N w (pv q) ns[q].ps
  len : ns.length ≤ 4398046510976
  nl : ∀ (q : Nat) (h : q < ns.length) (c : Nat), pv q = .slice none ns[q].ps.length c → c = 0
theorem PsAt.below {N : Nat} {w w' : World} {ao : Option Addr} {b o : Nat} {L : List Int} (h : PsAt N w ao b o L) (hb : Below N w w') : PsAt N w' ao b o L :=
  ⟨h.at0, h.lt, fun q hq => (hb.cell (h.lt (by omega))).trans (h.c q hq), h.len⟩
theorem Pv.below {N : Nat} {w w' : World} {v : Value} {L : List Int} (h : Pv N w v L) (hb : Below N w w') : Pv N w' v L := by
  obtain ⟨ao, b, o, cap, e, hp⟩ := h
  exact ⟨ao, b, o, cap, e, hp.below hb⟩
theorem NsAt.below {N : Nat} {w w' : World} {ao : Option Addr} {b o : Nat} {pv : Nat → Value} {ns : List ND} (h : NsAt N w ao b o pv ns) (hb : Below N w w') : NsAt N w' ao b o pv ns :=
  ⟨h.at0, h.lt, fun q hq => (hb.cell (h.lt (by omega))).trans (h.cz q hq), fun q hq => (hb.cell (h.lt (by omega))).trans (h.cp q hq), fun q hq => (h.ps q hq).below hb, h.len, h.nl⟩
theorem PsAt.more {N N' : Nat} {w : World} {ao : Option Addr} {b o : Nat} {L : List Int} (h : PsAt N w ao b o L) (hN : N ≤ N') : PsAt N' w ao b o L :=
  ⟨h.at0, fun q => Nat.lt_of_lt_of_le (h.lt q) hN, h.c, h.len⟩
theorem Pv.more {N N' : Nat} {w : World} {v : Value} {L : List Int} (h : Pv N w v L) (hN : N ≤ N') : Pv N' w v L := by
  obtain ⟨ao, b, o, cap, e, hp⟩ := h
  exact ⟨ao, b, o, cap, e, hp.more hN⟩
theorem NsAt.more {N N' : Nat} {w : World} {ao : Option Addr} {b o : Nat} {pv : Nat → Value} {ns : List ND} (h : NsAt N w ao b o pv ns) (hN : N ≤ N') : NsAt N' w ao b o pv ns :=
  ⟨h.at0, fun q => Nat.lt_of_lt_of_le (h.lt q) hN, h.cz, h.cp, fun q hq => (h.ps q hq).more hN, h.len, h.nl⟩
/-- a zone that may be -/
def zOk (n : ND) : Bool := decide (0 ≤ n.z) && decide (n.z ≤ 7)
def nfP (ns : List ND) : Bool := decide (1 ≤ ns.length) && decide (ns.length ≤ 16) && ns.all zOk
set_option linter.unusedVariables false in
theorem all_take {α : Type} {f : α → Bool} {l : List α} {q : Nat} (h : q < l.length) (hq : (l.take q).all f = true) (hf : f l[q] = true) : (l.take (q + 1)).all f = true := by
  rw [List.take_succ_eq_append_getElem h, List.all_append, hq]
  simp [hf]
set_option linter.unusedVariables false in
theorem all_no {α : Type} {f : α → Bool} {l : List α} {q : Nat} (h : q < l.length) (hf : f l[q] = false) : l.all f = false := List.all_eq_false.2 ⟨l[q], List.getElem_mem h, by rw [hf]; simp⟩
set_option maxHeartbeats 8000000 in
set_option maxRecDepth 100000 in
set_option linter.unusedSimpArgs false in
set_option linter.unusedVariables false in
theorem nodesFit_any (N : Nat) (w : World) (ao : Option Addr) (b o cap : Nat) (pv : Nat → Value) (ns : List ND) (h : NsAt N w ao b o pv ns) (hN : N ≤ w.heap.size) :
    Calls Try.prog 41 #[.slice ao ns.length cap] w fun e w' => e = .returned (.bool (nfP ns)) ∧ Below w.heap.size w w' := by
  have hmx : ns.length ≤ 9223372036854775807 := by have := h.len; omega
  by_cases h1 : ns.length < 1
  · have hr : nfP ns = false := by unfold nfP; rw [decide_eq_false (by omega)]; rfl
    have h1' : (ns.length : Int) < 1 := by omega
    rw [hr]
    clear hr h
    go_enter Try.func41, Try.ntmps41
    go_wp2_with fail
    go_ret
    exact ⟨rfl, Below.refl _ _⟩
  by_cases h2 : 16 < ns.length
  · have hr : nfP ns = false := by unfold nfP; rw [decide_eq_false (by omega : ¬ ns.length ≤ 16), Bool.and_false]; rfl
    have h1' : ¬ (ns.length : Int) < 1 := by omega
    have h2' : (16 : Int) < (ns.length : Int) := by omega
    rw [hr]
    clear hr h
    go_enter Try.func41, Try.ntmps41
    go_wp2_with fail
    go_ret
    exact ⟨rfl, Below.refl _ _⟩
  have hr : nfP ns = ns.all zOk := by unfold nfP; rw [decide_eq_true (by omega), decide_eq_true (by omega)]; rfl
  rw [hr]
  have h1' : ¬ (ns.length : Int) < 1 := by omega
  have h2' : ¬ (16 : Int) < (ns.length : Int) := by omega
  have HN := hide h
  clear hr h
  obtain ⟨R, hR⟩ : ∃ R, R = ns.all zOk := ⟨_, rfl⟩
  rw [← hR]
  have HR := hide hR
  clear hR
  go_enter Try.func41, Try.ntmps41
  go_wp2_with fail
  go_loopw [15] (fun vi wr => ∃ (q : Nat), q ≤ ns.length ∧ vi = .int .i64 (q : Int) ∧ Hid ((ns.take q).all zOk = true) ∧ Below w.heap.size w wr) (fun vi _ => ns.length - (intOf vi).toNat)
  case atStart => exact ⟨0, Nat.zero_le _, rfl, rfl, Below.refl _ _⟩
  case round =>
    obtain ⟨q, hq, rfl, hA, hB⟩ := hrel
    have HB := hide hB
    clear hB
    by_cases hql : q < ns.length
    case pos =>
      have hao := HN.out.at0 (by omega)
      subst hao
      have hqi : (q : Int) < (ns.length : Int) := by omega
      have NW := HN.out.below (HB.out.mono hN)
      have e0 := NW.cz q hql
      have e1 := NW.cp q hql
      have HT := hide (all_take hql hA.out)
      have HF := hide (all_no (f := zOk) hql)
      obtain ⟨pa, pb, po, pc, hpv, _⟩ := NW.ps q hql
      rw [hpv] at e1
      clear NW hpv
      have hz : Hid (zOk ns[q] = (decide (0 ≤ ns[q].z) && decide (ns[q].z ≤ 7))) := rfl
      generalize ns[q].z = z at *
      generalize ns[q].ps.length = pl at *
      by_cases z0 : z < 0
      · have HZ := hide (HF.out (by rw [hz.out, decide_eq_false (by omega)]; rfl))
        have BZ := hide (HB.out.alloc HB.out.size (.cells #[.int .i64 z, .slice pa pl pc] 79))
        go_wp2_with fail
        go_ret
        exact ⟨by rw [HR.out, HZ.out]; rfl, BZ.out⟩
      · by_cases z1 : 7 < z
        · have HZ := hide (HF.out (by rw [hz.out, decide_eq_false (by omega : ¬ z ≤ 7), Bool.and_false]))
          have BZ := hide (HB.out.alloc HB.out.size (.cells #[.int .i64 z, .slice pa pl pc] 79))
          go_wp2_with fail
          go_ret
          exact ⟨by rw [HR.out, HZ.out]; rfl, BZ.out⟩
        · have HZ := hide (HT.out (by rw [hz.out, decide_eq_true (by omega), decide_eq_true (by omega)]; rfl))
          have BZ := hide (HB.out.alloc HB.out.size (.cells #[.int .i64 z, .slice pa pl pc] 79))
          go_wp2_with fail
          go_roundw
          case rel => exact ⟨q + 1, by omega, by go_num, HZ.out, BZ.out⟩
          case measure => simp [intOf]; omega
    case neg =>
      obtain rfl : q = ns.length := by omega
      have hA' := hA.out
      rw [List.take_length] at hA'
      have HA := hide hA'
      clear hA' hA
      go_wp2_with fail
      go_ret
      exact ⟨by rw [HR.out, HA.out]; rfl, HB.out⟩
end Go.Proofs.Ytljmjncgpgipcaa
