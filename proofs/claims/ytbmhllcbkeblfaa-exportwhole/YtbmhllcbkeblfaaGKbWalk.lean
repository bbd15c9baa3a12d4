import Derived.Test.YtbmhllcbkeblfaaGEwPure
import Derived.Maps.RangeWalk
import Derived.Test.YtbmhllcbkeblfaaGCaBase
import Derived.WalkKit
import Derived.Shelf.Small.Strs
import Derived.Shelf.LaysM
import Derived.Shelf.Strings.Search1
import Derived.Shelf.Bits.Mul64
import Derived.Test.YtbmhllcbkeblfaaProg
namespace Go.Proofs.Ytbmhllcbkeblfaa.Cn
open Go.RowKit Go.MapKept Go.Maps
variable {kt : TypeId} {κ : Type} {T : KeyT kt κ}
/-- 'range m' at the operation -/
theorem wpList_rangeM (w : World) {ops : Array Oper} {rest : List Oper} {o : Oper} {a : Act} {Q : Exit → Act → World → Prop} (hg : o.guard = none) (m : Operand) (t e : TypeId) (hop : o.op = Op.range t m) (ht : Try.prog.underlying t = some (.map kt e)) (M : Nat) (L : List (κ × Value)) (hm : a.eval m = .map (some M)) (h : Mp T w M L)
    (hK : ∀ w', Rg T w' M w.heap.size L L → Below w.heap.size w w' → w'.heap.size = w.heap.size + 1 → wpList Try.prog ops Q rest (a.put o.dst (.pointer (some ⟨w.heap.size, 0, none⟩))) w') :
    wpList Try.prog ops Q (o :: rest) a w := by
  refine wpList_plain hg fun K' hK' => ?_
  obtain ⟨w', hrun, r1, r2, r3⟩ := h.range ht
  unfold Oper.wp
  simp [execOp, hop, hm, hrun, Result.andThen]
  exact hK' _ _ (hK w' r1 r2 r3)
/-- the step at the operation -/
theorem wpList_nextM (w : World) {ops : Array Oper} {rest : List Oper} {o : Oper} {a : Act} {Q : Exit → Act → World → Prop} (hg : o.guard = none) (it : Operand) (hop : o.op = Op.next it false) (M r : Nat) (L R : List (κ × Value)) (hit : a.eval it = .pointer (some ⟨r, 0, none⟩)) (h : Rg T w M r L R)
    (hDone : R = [] → wpList Try.prog ops Q rest (a.put o.dst (.tuple #[.bool false])) w)
    (hMore : ∀ (p : κ × Value) (R' : List (κ × Value)) (w' : World), R.Perm (p :: R') → p ∈ L → Rg T w' M r L R' → Kp w w' (fun b => b = r) → w'.heap.size = w.heap.size → (Instr.entry (.pointer (some ⟨r, 0, none⟩))).run Try.prog w' = .ok (.tuple #[T.enc p.1, p.2]) w' → wpList Try.prog ops Q rest (a.put o.dst (.tuple #[.bool true, T.enc p.1, p.2])) w') :
    wpList Try.prog ops Q (o :: rest) a w := by
  refine wpList_plain hg fun K' hK' => ?_
  unfold Oper.wp
  rcases h.next o.type with ⟨h0, hrun⟩ | ⟨p, R', X, hp, hL, hrun, hr, hk, hs, he⟩
  · simp [execOp, hop, hit, hrun, Result.andThen]
    exact hK' _ _ (hDone h0)
  · simp [execOp, hop, hit, hrun, Result.andThen]
    exact hK' _ _ (hMore p R' X hp hL hr hk hs he)
end Go.Proofs.Ytbmhllcbkeblfaa.Cn
namespace Go.Proofs.Ytbmhllcbkeblfaa.Cn
open Go.RowKit
/-- ints, as cells -/
def ints (L : List Int) : List Value := L.map fun n : Int => .int .i64 n
theorem ints_len (L : List Int) : (ints L).length = L.length := by simp [ints]
theorem ints_at (L : List Int) (q : Nat) : (ints L)[q]? = (L[q]?).map fun n : Int => .int .i64 n := by simp [ints]
theorem ints_append (a b : List Int) : ints (a ++ b) = ints a ++ ints b := by simp [ints]
theorem ints_one (L : List Int) : ∀ u ∈ ints L, u.oneCell' = true := by
  intro u hu
  obtain ⟨n, _, rfl⟩ := List.mem_map.1 hu
  rfl
theorem int_infos : (Try.prog.info? 3).map (fun i => (i.zero, i.size, i.bytes)) = some (some (.int .i64 0), 1, 8) := by kernel_rfl
/-- append(list, k) -/
theorem wpList_apI {w : World} {ops : Array Oper} {rest : List Oper} {o : Oper} {a : Act} {Q : Exit → Act → World → Prop} (hgd : o.guard = none) (x y : Operand) (ho : o.op = .call { callee := .builtin .append, args := #[x, y], argTypes := #[47, 47] }) (base : Nat) (v : Value) (L : List Int) (hx : a.eval x = v) (hv : w.ownsRow base 3 1 v L.length (ints L)) (g : Nat) (m : Int) (hy : a.eval y = .slice (some ⟨g, 0, none⟩) 1 1) (hg : w.heap[g]? = some (.cells #[.int .i64 m] 3)) (hl : L.length ≤ 1000000000000) (hb : base ≤ w.heap.size)
    (h : ∀ v' w', w'.ownsRow base 3 1 v' (L.length + 1) (ints (L ++ [m])) → w.grownBy w' v.ownBlock → wpList Try.prog ops Q rest (a.put o.dst v') w') : wpList Try.prog ops Q (o :: rest) a w := by
  obtain ⟨i0, hi, hz0, hz1, hz2⟩ := mg_parts int_infos
  refine wpList_append_own_at _ hgd _ _ 47 ho base 3 i0 _ 1 8 Try.underlying47 hi hz0 hz1 hz2 rfl (by decide) _ _ _ hx hv ⟨g, 0, none⟩ 1 1 (ints [m]) hy rfl ?_ (ints_one _) (by unfold maxLen; omega) (by omega) hb ?_
  · intro j u hj
    rw [Addr.add_mid, Nat.zero_add, cell_row hg]
    simpa [ints] using hj
  · intro v' w' h1 h2 _ _
    rw [← ints_append] at h1
    exact h v' w' h1 h2
theorem info_parts {t : TypeId} {z : Value} {n m : Nat} (h : (Try.prog.info? t).map (fun i => (i.zero, i.size, i.bytes)) = some (some z, n, m)) : ∃ i, Try.prog.info? t = some i ∧ i.zero = some z ∧ i.size = n ∧ i.bytes = m := by
  cases e : Try.prog.info? t with
  | none => rw [e] at h; simp at h
  | some i =>
    rw [e] at h
    simp only [Option.map_some, Option.some.injEq, Prod.mk.injEq] at h
    exact ⟨i, rfl, h.1, h.2.1, h.2.2⟩
theorem own_base {w : World} {base base' e sz n : Nat} {v : Value} {xs : List Value} (h : w.ownsRow base e sz v n xs) (hb : base' ≤ base) : w.ownsRow base' e sz v n xs := by
  refine ⟨h.1, ?_⟩
  rcases h.2 with ⟨hv, hz⟩ | ⟨g, cap, cur, hv, h1, h2⟩
  · exact .inl ⟨hv, hz⟩
  · exact .inr ⟨g, cap, cur, hv, Nat.le_trans hb h1, h2⟩
theorem own_ge {X : World} {base e sz n g : Nat} {v : Value} {xs : List Value} (h : X.ownsRow base e sz v n xs) (hg : v.ownBlock = some g) : base ≤ g := by
  rcases h.2 with ⟨rfl, _⟩ | ⟨g', cap, cur, rfl, hb, hg', hr⟩
  · simp [Value.ownBlock] at hg
  · simp [Value.ownBlock] at hg
    subst hg
    exact hb
theorem own_typ {X : World} {base e sz n g : Nat} {v : Value} {xs : List Value} (h : X.ownsRow base e sz v n xs) (hg : v.ownBlock = some g) : ∃ cur, X.heap[g]? = some (.cells cur e (0, 0)) := by
  rcases h.2 with ⟨rfl, _⟩ | ⟨g', cap, cur, rfl, hb, hg', hr⟩
  · simp [Value.ownBlock] at hg
  · simp [Value.ownBlock] at hg
    subst hg
    exact ⟨cur, hg'⟩
theorem own_lt {X : World} {base e sz n g : Nat} {v : Value} {xs : List Value} (h : X.ownsRow base e sz v n xs) (hg : v.ownBlock = some g) : g < X.heap.size := by
  obtain ⟨cur, hc⟩ := own_typ h hg
  exact blk_lt hc
theorem own_re {X : World} {base base' e sz n : Nat} {v : Value} {xs : List Value} (h : X.ownsRow base e sz v n xs) (hg : ∀ g, v.ownBlock = some g → base' ≤ g) : X.ownsRow base' e sz v n xs := by
  refine ⟨h.1, ?_⟩
  rcases h.2 with ⟨hv, hz⟩ | ⟨g, cap, cur, rfl, h1, h2⟩
  · exact .inl ⟨hv, hz⟩
  · exact .inr ⟨g, cap, cur, rfl, hg g rfl, h2⟩
/-- a cell of a row -/
theorem own_at {X : World} {base e sz n : Nat} {v : Value} {xs : List Value} (h : X.ownsRow base e sz v n xs) {j : Nat} {u : Value} (hj : xs[j]? = some u) : ∃ g cap, v = .slice (some ⟨g, 0, none⟩) n cap ∧ X.cell? ⟨g, j, none⟩ = some u ∧ X.frozen? ⟨g, j, none⟩ = false := by
  have hl := (List.getElem?_eq_some_iff.1 hj).1
  rcases h.2 with ⟨_, hz⟩ | ⟨g, cap, cur, rfl, h1, h2, h3, h4, h5, h6⟩
  · have := h.1
    rw [hz] at this
    omega
  · refine ⟨g, cap, rfl, ?_, ?_⟩
    · rw [cell_row h2]
      rw [← h6, List.getElem?_take] at hj
      split at hj
      · simpa using hj
      · simp at hj
    · exact fz_row h2 j
theorem own_setZ {w : World} {base e sz n g cap : Nat} {xs : List Value} (h : w.ownsRow base e sz (.slice (some ⟨g, 0, none⟩) n cap) n xs) (k : Nat) (u : Value) : (w.setCell ⟨g, k, none⟩ u).ownsRow base e sz (.slice (some ⟨g, 0, none⟩) n cap) n (xs.set k u) := by
  refine ⟨by rw [List.length_set]; exact h.1, ?_⟩
  rcases h.2 with ⟨hv, _⟩ | ⟨g', cap', cur, hv, h1, h2, h3, h4, h5, h6⟩
  · cases hv
  · injection hv with e1 e2 e3
    injection e1 with e1
    injection e1 with e1
    subst e1 e3
    refine .inr ⟨g, cap, cur.setIfInBounds k u, rfl, h1, heap_setCell _ _ _ _ _ _ _ h2, h3, h4, by simpa using h5, ?_⟩
    rw [Array.toList_setIfInBounds, List.take_set, h6]
theorem own_fz {w : World} {base e sz n g cap : Nat} {xs : List Value} (h : w.ownsRow base e sz (.slice (some ⟨g, 0, none⟩) n cap) n xs) (k : Nat) : w.frozen? ⟨g, k, none⟩ = false := by
  rcases h.2 with ⟨hv, _⟩ | ⟨g', cap', cur, hv, h1, h2, h3⟩
  · cases hv
  · injection hv with e1 e2 e3
    injection e1 with e1
    injection e1 with e1
    subst e1
    exact fz_row h2 k
theorem own_below {w w' : World} {base e sz n : Nat} {v : Value} {xs : List Value} (h : w.ownsRow base e sz v n xs) (hb : Below w.heap.size w w') : w'.ownsRow base e sz v n xs := own_kp h (Kp.of_below hb non) (fun _ _ f => f)
theorem set_row {w : World} {b : Nat} {A : Array Value} {t : TypeId} (h : w.heap[b]? = some (.cells A t)) (i : Nat) (v : Value) : (w.setCell ⟨b, i, none⟩ v).heap[b]? = some (.cells (A.setIfInBounds i v) t) := heap_setCell _ _ _ _ _ _ _ h
/-- answers so far -/
theorem Kp.row {w w' : World} {S : Nat → Prop} {b : Nat} (h : Kp w w' S) (hb : S b ∨ w.heap.size ≤ b) (A : Array Value) : Kp w (w'.setRow b A) S :=
  h.trans (T := fun k => k = b) ⟨rfl, rfl, rfl, by simp [World.setRow], fun k _ hk => setRow_other _ _ _ _ hk⟩ (fun k hk => by subst hk; exact hb)
theorem exec_bl {ρ : Operand → Value} {o : Oper} {w : World} (ty : TypeId) (parts : Array (Nat × Operand)) (ho : o.op = .build ty parts) (A : Array Value) (hb : Try.prog.built ty (parts.map fun (i, x) => (i, ρ x)).toList = some A) : (execOp ρ o).run Try.prog w = .ok (.value (.agg A)) w := by
  unfold execOp
  simp only [ho, Sem.run_bind, Sem.run_pure]
  have := run_build w ty _ A hb
  rw [this]
  rfl
theorem exec_ldR {ρ : Operand → Value} {o : Oper} {w : World} {b : Nat} {A : Array Value} (ty : TypeId) (x : Operand) (ho : o.op = .load ty x) (hx : ρ x = .pointer (some ⟨b, 0, none⟩)) (t : TypeId) (hO : w.heap[b]? = some (.cells A t)) {fs} (hu : Try.prog.underlying ty = some (.struct fs)) (hi : (Try.prog.info? ty).map (·.size) = some A.size) : (execOp ρ o).run Try.prog w = .ok (.value (.agg A)) w := by
  have hl : (Instr.loadAt ty (.pointer (some ⟨b, 0, none⟩))).run Try.prog w = .ok (.agg A) w := by
    simp only [Instr.loadAt, Instr.sureAddr, Sem.run_bind, Sem.run_pure, Result.andThen]
    exact run_loadVar_row _ _ t ty A (0, 0) _ hO hu rfl hi
  unfold execOp
  simp only [ho, hx, Sem.run_bind, hl, Result.andThen_ok, Sem.run_pure]
end Go.Proofs.Ytbmhllcbkeblfaa.Cn
namespace Go.Proofs.Ytbmhllcbkeblfaa.Cn
open Go.RowKit
/-- pairs, as cells -/
def prV (p : Pr) : Array Value := #[.string p.k, .string p.v]
def prs (l : List Pr) : List Value := l.flatMap fun p => (prV p).toList
theorem prs_append (a b : List Pr) : prs (a ++ b) = prs a ++ prs b := List.flatMap_append
theorem prs_one (p : Pr) : prs [p] = (prV p).toList := by unfold prs; rw [List.flatMap_cons, List.flatMap_nil, List.append_nil]
theorem prs_len (L : List Pr) : (prs L).length = L.length * 2 := by
  induction L with
  | nil => rfl
  | cons a r ih =>
    unfold prs at *
    rw [List.flatMap_cons, List.length_append, ih]
    simp only [List.length_cons, prV, List.length_nil]
    omega
theorem prs_oneCell (L : List Pr) : ∀ u ∈ prs L, u.oneCell' = true := by
  intro u hu
  unfold prs at hu
  obtain ⟨m, _, hm⟩ := List.mem_flatMap.1 hu
  simp [prV] at hm
  rcases hm with rfl | rfl <;> rfl
theorem prs_at (L : List Pr) (q : Nat) (h : q < L.length) (j : Nat) (hj : j < 2) : (prs L)[q * 2 + j]? = (prV L[q])[j]? := by
  induction L generalizing q with
  | nil => simp at h
  | cons a r ih =>
    cases q with
    | zero =>
      unfold prs
      rw [List.flatMap_cons, Nat.zero_mul, Nat.zero_add, List.getElem?_append_left (by simpa [prV] using hj)]
      simp
    | succ q =>
      have h' : q < r.length := by simpa using h
      have := ih q h'
      unfold prs at *
      rw [List.flatMap_cons, show (q + 1) * 2 + j = (prV a).toList.length + (q * 2 + j) by simp [prV]; omega, List.getElem?_append_right (by omega), Nat.add_sub_cancel_left]
      exact this
/-- where the lists of an exporter lie -/
structure Zz where
  rv : Value
  zs : List Value
  tp : Value
  tm : Value
  rd : Value
  lp : Value
  lm : Value
/-- an exporter, as cells -/
def exA (v : Ex) (Z : Zz) : Array Value := #[.int .i64 v.gw, Z.rv, .int .i64 v.now, .int .i64 v.told.jb, .int .i64 v.told.vr, Z.tp, Z.tm, .int .i64 (v.part : Int), .int .i64 (v.left : Int), Z.rd, .int .i64 v.wf, .int .i64 v.wj, .int .i64 v.wp, .int .i64 v.wv, .int .i64 v.wl, .int .i64 v.at_, .int .i64 v.last.jb, .int .i64 v.last.vr, Z.lp, Z.lm]
/-- its lists -/
structure Ow (w : World) (v : Ex) (Z : Zz) : Prop where
  rows : w.ownsRow 0 47 1 Z.rv v.rows.length Z.zs
  row : ∀ p (h : p < v.rows.length), ∃ u, Z.zs[p]? = some u ∧ w.ownsRow 0 3 1 u v.rows[p].length (ints v.rows[p])
  tp : w.ownsRow 0 86 2 Z.tp v.told.ps.length (prs v.told.ps)
  tm : w.ownsRow 0 3 1 Z.tm v.told.ms.length (ints v.told.ms)
  rd : w.ownsRow 0 86 2 Z.rd v.rd.length (prs v.rd)
  lp : w.ownsRow 0 86 2 Z.lp v.last.ps.length (prs v.last.ps)
  lm : w.ownsRow 0 3 1 Z.lm v.last.ms.length (ints v.last.ms)
  d1 : ∀ k, Z.tp.ownBlock = some k → Z.rd.ownBlock ≠ some k ∧ Z.lp.ownBlock ≠ some k
  d2 : ∀ k, Z.rd.ownBlock = some k → Z.lp.ownBlock ≠ some k
  d3 : ∀ k, Z.tm.ownBlock = some k → Z.lm.ownBlock ≠ some k ∧ ∀ u ∈ Z.zs, u.ownBlock ≠ some k
structure ExAt (w : World) (X : Nat) (v : Ex) (Z : Zz) : Prop where
  blk : w.heap[X]? = some (.cells (exA v Z) 75)
  ow : Ow w v Z
/-- the blocks that its calls write -/
def Fp (X : Nat) (Z : Zz) : Nat → Prop := fun k => k = X ∨ Z.tp.ownBlock = some k ∨ Z.tm.ownBlock = some k ∨ Z.rd.ownBlock = some k
/-- all its blocks -/
def Ap (X : Nat) (Z : Zz) : Nat → Prop := fun k => Fp X Z k ∨ Z.rv.ownBlock = some k ∨ Z.lp.ownBlock = some k ∨ Z.lm.ownBlock = some k ∨ ∃ u ∈ Z.zs, u.ownBlock = some k
section
variable {w w' : World} {X : Nat} {v v' : Ex} {Z Z' : Zz} {S : Nat → Prop}
theorem Ow.kp (h : Ow w v Z) (hk : Kp w w' S) (hS : ∀ k, (Z.tp.ownBlock = some k ∨ Z.tm.ownBlock = some k ∨ Z.rd.ownBlock = some k ∨ Z.rv.ownBlock = some k ∨ Z.lp.ownBlock = some k ∨ Z.lm.ownBlock = some k ∨ ∃ u ∈ Z.zs, u.ownBlock = some k) → ¬ S k) : Ow w' v Z :=
  ⟨own_kp h.rows hk (fun k e => hS k (by simp [e])), fun p hp => by
    obtain ⟨u, hu, ho⟩ := h.row p hp
    exact ⟨u, hu, own_kp ho hk (fun k e => hS k (Or.inr (Or.inr (Or.inr (Or.inr (Or.inr (Or.inr ⟨u, List.mem_of_getElem? hu, e⟩)))))))⟩, own_kp h.tp hk (fun k e => hS k (by simp [e])), own_kp h.tm hk (fun k e => hS k (by simp [e])), own_kp h.rd hk (fun k e => hS k (by simp [e])), own_kp h.lp hk (fun k e => hS k (by simp [e])), own_kp h.lm hk (fun k e => hS k (by simp [e])), h.d1, h.d2, h.d3⟩
theorem Ow.kp0 (h : Ow w v Z) (hk : Kp w w' non) : Ow w' v Z := h.kp hk (fun _ _ f => f)
/-- what lies in a block of another kind -/
theorem Ow.kind (h : Ow w v Z) {k : Nat} (hk : Z.tp.ownBlock = some k ∨ Z.tm.ownBlock = some k ∨ Z.rd.ownBlock = some k ∨ Z.rv.ownBlock = some k ∨ Z.lp.ownBlock = some k ∨ Z.lm.ownBlock = some k ∨ ∃ u ∈ Z.zs, u.ownBlock = some k) : ∃ cur t, w.heap[k]? = some (.cells cur t (0, 0)) ∧ (t = 86 ∨ t = 3 ∨ t = 47) := by
  rcases hk with e | e | e | e | e | e | ⟨u, hu, e⟩
  · obtain ⟨c, hc⟩ := own_typ h.tp e; exact ⟨c, _, hc, Or.inl rfl⟩
  · obtain ⟨c, hc⟩ := own_typ h.tm e; exact ⟨c, _, hc, Or.inr (Or.inl rfl)⟩
  · obtain ⟨c, hc⟩ := own_typ h.rd e; exact ⟨c, _, hc, Or.inl rfl⟩
  · obtain ⟨c, hc⟩ := own_typ h.rows e; exact ⟨c, _, hc, Or.inr (Or.inr rfl)⟩
  · obtain ⟨c, hc⟩ := own_typ h.lp e; exact ⟨c, _, hc, Or.inl rfl⟩
  · obtain ⟨c, hc⟩ := own_typ h.lm e; exact ⟨c, _, hc, Or.inr (Or.inl rfl)⟩
  · obtain ⟨p, hp, rfl⟩ := List.getElem_of_mem hu
    have hl : Z.zs.length = v.rows.length * 1 := h.rows.1
    obtain ⟨u', hu', ho⟩ := h.row p (by omega)
    rw [List.getElem?_eq_getElem hp] at hu'
    injection hu' with hu'
    rw [hu'] at e
    obtain ⟨c, hc⟩ := own_typ ho e
    exact ⟨c, _, hc, Or.inr (Or.inl rfl)⟩
theorem Ow.notX (h : Ow w v Z) {C : Array Value} {fr : Nat × Nat} (hX : w.heap[X]? = some (.cells C 75 fr)) {k : Nat} (hk : Z.tp.ownBlock = some k ∨ Z.tm.ownBlock = some k ∨ Z.rd.ownBlock = some k ∨ Z.rv.ownBlock = some k ∨ Z.lp.ownBlock = some k ∨ Z.lm.ownBlock = some k ∨ ∃ u ∈ Z.zs, u.ownBlock = some k) : k ≠ X := fun e => by
  obtain ⟨c, t, hc, ht⟩ := h.kind hk
  rw [e, hX] at hc
  simp at hc
  rcases ht with q | q | q <;> rw [q] at hc <;> simp at hc
/-- the block X is written -/
theorem Ow.setX (h : Ow w v Z) {C : Array Value} {fr : Nat × Nat} (hX : w.heap[X]? = some (.cells C 75 fr)) (hk : Kp w w' (fun k => k = X)) : Ow w' v Z := h.kp hk (fun _ hk' e => h.notX hX hk' e)
theorem ExAt.kp (h : ExAt w X v Z) (hk : Kp w w' S) (hS : ∀ k, Ap X Z k → ¬ S k) : ExAt w' X v Z :=
  ⟨(hk.block _ (blk_lt h.blk) (hS _ (Or.inl (Or.inl rfl)))).trans h.blk, h.ow.kp hk (fun k hk' => hS k (by
    rcases hk' with e | e | e | e | e | e | e
    · exact Or.inl (Or.inr (Or.inl e))
    · exact Or.inl (Or.inr (Or.inr (Or.inl e)))
    · exact Or.inl (Or.inr (Or.inr (Or.inr e)))
    · exact Or.inr (Or.inl e)
    · exact Or.inr (Or.inr (Or.inl e))
    · exact Or.inr (Or.inr (Or.inr (Or.inl e)))
    · exact Or.inr (Or.inr (Or.inr (Or.inr e)))))⟩
theorem ExAt.kp0 (h : ExAt w X v Z) (hk : Kp w w' non) : ExAt w' X v Z := h.kp hk (fun _ _ f => f)
theorem Ap.kind (h : ExAt w X v Z) {k : Nat} (hk : Ap X Z k) : ∃ cur t, w.heap[k]? = some (.cells cur t (0, 0)) ∧ (t = 86 ∨ t = 3 ∨ t = 47 ∨ t = 75) := by
  rcases hk with (e | e | e | e) | e | e | e | e
  · exact ⟨_, _, e ▸ h.blk, Or.inr (Or.inr (Or.inr rfl))⟩
  all_goals
    obtain ⟨c, t, hc, ht⟩ := h.ow.kind (k := k) (by simp [e])
    exact ⟨c, t, hc, by rcases ht with q | q | q <;> simp [q]⟩
/-- a block of another kind is none of its -/
theorem ExAt.not (h : ExAt w X v Z) {k : Nat} {C : Array Value} {t : TypeId} {fr : Nat × Nat} (hk : w.heap[k]? = some (.cells C t fr)) (ht : t ≠ 86 ∧ t ≠ 3 ∧ t ≠ 47 ∧ t ≠ 75) : ¬ Ap X Z k := fun e => by
  obtain ⟨c, t', hc, q⟩ := Ap.kind h e
  rw [hk] at hc
  simp at hc
  have e2 := hc.2.1
  rcases q with q | q | q | q
  · exact ht.1 (e2.trans q)
  · exact ht.2.1 (e2.trans q)
  · exact ht.2.2.1 (e2.trans q)
  · exact ht.2.2.2 (e2.trans q)
theorem ExAt.lt (h : ExAt w X v Z) {k : Nat} (hk : Ap X Z k) : k < w.heap.size := by
  obtain ⟨c, t, hc, _⟩ := Ap.kind h hk
  exact blk_lt hc
theorem ExAt.fz (h : ExAt w X v Z) (i : Nat) : w.frozen? ⟨X, i, none⟩ = false := fz_row h.blk i
theorem ex_cells (h : w.heap[X]? = some (.cells (exA v Z) 75)) : w.cell? ⟨X, 0, none⟩ = some (.int .i64 v.gw) ∧ w.cell? ⟨X, 1, none⟩ = some Z.rv ∧ w.cell? ⟨X, 2, none⟩ = some (.int .i64 v.now) ∧ w.cell? ⟨X, 3, none⟩ = some (.int .i64 v.told.jb) ∧ w.cell? ⟨X, 4, none⟩ = some (.int .i64 v.told.vr) ∧ w.cell? ⟨X, 5, none⟩ = some Z.tp ∧ w.cell? ⟨X, 6, none⟩ = some Z.tm ∧ w.cell? ⟨X, 7, none⟩ = some (.int .i64 (v.part : Int)) ∧ w.cell? ⟨X, 8, none⟩ = some (.int .i64 (v.left : Int)) ∧ w.cell? ⟨X, 9, none⟩ = some Z.rd ∧ w.cell? ⟨X, 15, none⟩ = some (.int .i64 v.at_) ∧ w.cell? ⟨X, 16, none⟩ = some (.int .i64 v.last.jb) := by
  simp only [cell_row h]
  exact ⟨rfl, rfl, rfl, rfl, rfl, rfl, rfl, rfl, rfl, rfl, rfl, rfl⟩
end
/-- what a call leaves: the exporter is v', nothing but its own blocks is written, it has no more old blocks than before -/
structure Lv (w w' : World) (X : Nat) (Z : Zz) (v' : Ex) (Z' : Zz) : Prop where
  at_ : ExAt w' X v' Z'
  kp : Kp w w' (Fp X Z)
  gf : ∀ k, Fp X Z' k → Fp X Z k ∨ w.heap.size ≤ k
  gr : ∀ k, Ap X Z' k → Ap X Z k ∨ w.heap.size ≤ k
theorem Fp.ap {X : Nat} {Z : Zz} {k : Nat} (h : Fp X Z k) : Ap X Z k := Or.inl h
/-- messages that are handed out -/
def Out (w w' : World) (u : Value) (L : List Mg) : Prop := w'.ownsRow w.heap.size 36 11 u L.length (mgs L)
theorem Lv.trans {w w1 w2 : World} {X : Nat} {Z Z1 Z2 : Zz} {v1 v2 : Ex} (h : Lv w w1 X Z v1 Z1) (h' : Lv w1 w2 X Z1 v2 Z2) : Lv w w2 X Z v2 Z2 :=
  ⟨h'.at_, h.kp.trans h'.kp h.gf, fun k hk => by
    have s := h.kp.size
    rcases h'.gf k hk with e | e
    · exact h.gf k e
    · exact Or.inr (by omega), fun k hk => by
    have s := h.kp.size
    rcases h'.gr k hk with e | e
    · exact h.gr k e
    · exact Or.inr (by omega)⟩
theorem Lv.refl {w : World} {X : Nat} {Z : Zz} {v : Ex} (h : ExAt w X v Z) : Lv w w X Z v Z := ⟨h, Kp.refl w _, fun _ e => Or.inl e, fun _ e => Or.inl e⟩
/-- nothing of its own was touched -/
theorem Lv.same {w w' : World} {X : Nat} {Z : Zz} {v : Ex} (h : ExAt w X v Z) (hk : Kp w w' non) : Lv w w' X Z v Z := ⟨h.kp0 hk, hk.mono (fun _ f => f.elim), fun _ e => Or.inl e, fun _ e => Or.inl e⟩
end Go.Proofs.Ytbmhllcbkeblfaa.Cn
namespace Go.Proofs.Ytbmhllcbkeblfaa
/-- a node: its zone, its partitions -/
structure ND where
  z : Int
  ps : List Int
instance : Inhabited ND := ⟨⟨0, []⟩⟩
def flat (ns : List ND) : List Int := ns.flatMap fun n => n.ps
theorem flat_append (a b : List ND) : flat (a ++ b) = flat a ++ flat b := List.flatMap_append
theorem flat_one (n : ND) : flat [n] = n.ps := by simp [flat]
def cntI (k : Int) : List Int → Nat
  | [] => 0
  | x :: r => (if x = k then 1 else 0) + cntI k r
theorem cntI_append (k : Int) (a b : List Int) : cntI k (a ++ b) = cntI k a + cntI k b := by
  induction a with
  | nil => simp [cntI]
  | cons x r ih => simp only [List.cons_append, cntI, ih]; omega
theorem cntI_mem {k : Int} {l : List Int} : 0 < cntI k l ↔ k ∈ l := by
  induction l with
  | nil => simp [cntI]
  | cons x r ih =>
    simp only [cntI, List.mem_cons]
    by_cases e : x = k
    · rw [if_pos e]
      constructor
      · intro _
        exact Or.inl e.symm
      · intro _
        omega
    · rw [if_neg e, Nat.zero_add, ih]
      constructor
      · exact Or.inr
      · rintro (h | h)
        · exact absurd h.symm e
        · exact h
theorem cntI_zero {k : Int} {l : List Int} : cntI k l = 0 ↔ k ∉ l := by
  rw [← cntI_mem]
  omega
theorem cntI_perm {k : Int} {a b : List Int} (h : a.Perm b) : cntI k a = cntI k b := by
  induction h with
  | nil => rfl
  | cons x _ ih => simp only [cntI, ih]
  | swap x y l => simp only [cntI]; omega
  | trans _ _ i j => exact i.trans j
/-- all of 0 to p - 1 stand in a list of p: then it has nothing else, and nothing twice -/
theorem all_once : ∀ (p : Nat) (l : List Int), l.length = p → (∀ i : Nat, i < p → (i : Int) ∈ l) → (∀ x ∈ l, 0 ≤ x ∧ x < (p : Int)) ∧ ∀ k, cntI k l ≤ 1 := by
  intro p
  induction p with
  | zero =>
    intro l hl _
    obtain rfl := List.length_eq_zero_iff.1 hl
    exact ⟨fun x hx => by simp at hx, fun k => by simp [cntI]⟩
  | succ p ih =>
    intro l hl hm
    have hp : (p : Int) ∈ l := hm p (by omega)
    have pe := List.perm_cons_erase hp
    have le : (l.erase (p : Int)).length = p := by
      have := pe.length_eq
      simp at this
      omega
    have hm' : ∀ i : Nat, i < p → (i : Int) ∈ l.erase (p : Int) := fun i hi => by
      have := pe.mem_iff.1 (hm i (by omega))
      rcases List.mem_cons.1 this with h | h
      · omega
      · exact h
    obtain ⟨r1, r2⟩ := ih _ le hm'
    refine ⟨fun x hx => ?_, fun k => ?_⟩
    · rcases List.mem_cons.1 (pe.mem_iff.1 hx) with h | h
      · omega
      · have := r1 x h
        omega
    · rw [cntI_perm pe]
      simp only [cntI]
      by_cases e : (p : Int) = k
      · rw [if_pos e, cntI_zero.2 (fun h => by have := r1 k h; omega)]
        omega
      · rw [if_neg e]
        have := r2 k
        omega
theorem few_in : ∀ (p : Nat) (l : List Int), (∀ x ∈ l, 0 ≤ x ∧ x < (p : Int)) → (∀ k, cntI k l ≤ 1) → l.length ≤ p := by
  intro p
  induction p with
  | zero =>
    intro l h _
    cases l with
    | nil => exact Nat.le_refl _
    | cons x r => have := h x (by simp); omega
  | succ p ih =>
    intro l h1 h2
    by_cases hp : (p : Int) ∈ l
    · have pe := List.perm_cons_erase hp
      have le : l.length = (l.erase (p : Int)).length + 1 := by
        have := pe.length_eq
        simpa using this
      have k2 : ∀ k, cntI k (l.erase (p : Int)) ≤ 1 := fun k => by
        have := h2 k
        rw [cntI_perm pe] at this
        simp only [cntI] at this
        omega
      have np : (p : Int) ∉ l.erase (p : Int) := by
        have := h2 (p : Int)
        rw [cntI_perm pe] at this
        simp only [cntI, if_true] at this
        exact cntI_zero.1 (by omega)
      have k1 : ∀ x ∈ l.erase (p : Int), 0 ≤ x ∧ x < (p : Int) := fun x hx => by
        have := h1 x (List.mem_of_mem_erase hx)
        have ne : x ≠ (p : Int) := fun e => np (e ▸ hx)
        omega
      have := ih _ k1 k2
      omega
    · have := ih l (fun x hx => by
        have := h1 x hx
        have ne : x ≠ (p : Int) := fun e => hp (e ▸ hx)
        omega) h2
      omega
theorem once_all : ∀ (p : Nat) (l : List Int), l.length = p → (∀ x ∈ l, 0 ≤ x ∧ x < (p : Int)) → (∀ k, cntI k l ≤ 1) → ∀ i : Nat, i < p → cntI (i : Int) l = 1 := by
  intro p l hl h1 h2 i hi
  have : 0 < cntI (i : Int) l := by
    apply Classical.byContradiction
    intro hn
    have hz : cntI (i : Int) l = 0 := by omega
    -- i :: l has p + 1 of p
    have := few_in p ((i : Int) :: l) (fun x hx => by
      rcases List.mem_cons.1 hx with e | e
      · omega
      · exact h1 x e) (fun k => by
      simp only [cntI]
      by_cases e : (i : Int) = k
      · subst e
        rw [if_pos rfl, hz]
        omega
      · rw [if_neg e]
        have := h2 k
        omega)
    simp at this
    omega
  have := h2 (i : Int)
  omega
def Rising (l : List Int) : Prop := ∀ j (h : j + 1 < l.length), l[j] < l[j + 1]
/-- the document's dealt -/
structure Dealt (ns : List ND) : Prop where
  p1 : 1 ≤ (flat ns).length
  p2 : (flat ns).length ≤ 64
  once : ∀ i : Nat, i < (flat ns).length → cntI (i : Int) (flat ns) = 1
  rise : ∀ n ∈ ns, Rising n.ps
/-- the node that has a partition in its list; -1: none has -/
def ownF (k : Int) : Nat → List ND → Int
  | _, [] => -1
  | i, n :: r => if k ∈ n.ps then (i : Int) else ownF k (i + 1) r
theorem ownF_in {k : Int} {i : Nat} {n : ND} {r : List ND} (h : k ∈ n.ps) : ownF k i (n :: r) = (i : Int) := by simp [ownF, h]
theorem ownF_out {k : Int} {i : Nat} {n : ND} {r : List ND} (h : k ∉ n.ps) : ownF k i (n :: r) = ownF k (i + 1) r := by simp [ownF, h]
theorem flat_cons (n : ND) (r : List ND) : flat (n :: r) = n.ps ++ flat r := by simp [flat]
theorem ownF_none {k : Int} {i : Nat} {ns : List ND} : ownF k i ns = -1 ↔ k ∉ flat ns := by
  induction ns generalizing i with
  | nil => simp [ownF, flat]
  | cons n r ih =>
    rw [flat_cons, List.mem_append]
    by_cases e : k ∈ n.ps
    · rw [ownF_in e]
      constructor
      · intro h
        omega
      · intro h
        exact absurd (Or.inl e) h
    · rw [ownF_out e, ih]
      constructor
      · rintro h (h' | h')
        · exact e h'
        · exact h h'
      · intro h h'
        exact h (Or.inr h')
theorem ownF_append (k : Int) (i : Nat) (ns : List ND) (n : ND) : ownF k i (ns ++ [n]) = if ownF k i ns = -1 then (if k ∈ n.ps then ((i + ns.length : Nat) : Int) else -1) else ownF k i ns := by
  induction ns generalizing i with
  | nil => simp [ownF]
  | cons m r ih =>
    rw [List.cons_append]
    by_cases e : k ∈ m.ps
    · rw [ownF_in e, ownF_in e, if_neg (by omega)]
    · rw [ownF_out e, ownF_out e, ih, show i + 1 + r.length = i + (m :: r).length by simp; omega]
theorem ownF_range (k : Int) (i : Nat) (ns : List ND) : ownF k i ns = -1 ∨ ((i : Int) ≤ ownF k i ns ∧ ownF k i ns < ((i + ns.length : Nat) : Int)) := by
  induction ns generalizing i with
  | nil => exact Or.inl rfl
  | cons n r ih =>
    by_cases e : k ∈ n.ps
    · rw [ownF_in e]
      exact Or.inr ⟨Int.le_refl _, by simp; omega⟩
    · rw [ownF_out e]
      rcases ih (i + 1) with h | h
      · exact Or.inl h
      · refine Or.inr ⟨by omega, ?_⟩
        have := h.2
        simp at this ⊢
        omega
/-- nodes up to i, and j partitions of the node i -/
def preN (ns : List ND) (i j : Nat) : List ND := ns.take i ++ [⟨0, (ns[i]?.getD default).ps.take j⟩]
/-- so far all is well -/
structure Fine (ns : List ND) (i j : Nat) : Prop where
  rng : ∀ x ∈ flat (preN ns i j), 0 ≤ x ∧ x < ((flat ns).length : Int)
  one : ∀ k, cntI k (flat (preN ns i j)) ≤ 1
  ris : ∀ q (h : q < ns.length), q < i → Rising ns[q].ps
  now : Rising ((ns[i]?.getD default).ps.take j)
def lastP (ns : List ND) (i j : Nat) : Int := if j = 0 then -1 else (ns[i]?.getD default).ps[j - 1]?.getD 0
theorem Fine.start (ns : List ND) : Fine ns 0 0 := by
  refine ⟨fun x hx => ?_, fun k => ?_, fun q _ h => by omega, fun j h => ?_⟩
  · simp [preN, flat] at hx
  · simp [preN, flat, cntI]
  · simp at h
theorem preN_next {ns : List ND} {i : Nat} (hi : i < ns.length) : flat (preN ns i ns[i].ps.length) = flat (preN ns (i + 1) 0) := by
  unfold preN
  rw [List.getElem?_eq_getElem hi, Option.getD_some, List.take_length, flat_append, flat_append, flat_one, flat_one, List.take_succ_eq_append_getElem hi, flat_append, flat_one]
  simp
theorem Fine.next {ns : List ND} {i : Nat} (hi : i < ns.length) (h : Fine ns i ns[i].ps.length) : Fine ns (i + 1) 0 := by
  have e := preN_next hi
  refine ⟨fun x hx => h.rng x (by rw [e]; exact hx), fun k => by rw [← e]; exact h.one k, fun q hq hqi => ?_, fun j hj => ?_⟩
  · by_cases hq' : q < i
    · exact h.ris q hq hq'
    · obtain rfl : q = i := by omega
      have := h.now
      rw [List.getElem?_eq_getElem hi, Option.getD_some, List.take_length] at this
      exact this
  · simp at hj
theorem preN_step {ns : List ND} {i j : Nat} (hi : i < ns.length) (hj : j < ns[i].ps.length) : flat (preN ns i (j + 1)) = flat (preN ns i j) ++ [ns[i].ps[j]] := by
  unfold preN
  rw [List.getElem?_eq_getElem hi, Option.getD_some, flat_append, flat_append, flat_one, flat_one, List.take_succ_eq_append_getElem hj, List.append_assoc]
theorem Fine.step {ns : List ND} {i j : Nat} (h : Fine ns i j) (hi : i < ns.length) (hj : j < ns[i].ps.length) (h1 : lastP ns i j < ns[i].ps[j]) (h2 : ns[i].ps[j] < ((flat ns).length : Int)) (h3 : ownF ns[i].ps[j] 0 (preN ns i j) = -1) : Fine ns i (j + 1) := by
  have hge : 0 ≤ ns[i].ps[j] := by
    unfold lastP at h1
    by_cases j0 : j = 0
    · rw [if_pos j0] at h1
      omega
    · rw [if_neg j0, List.getElem?_eq_getElem hi, Option.getD_some, List.getElem?_eq_getElem (by omega), Option.getD_some] at h1
      have hm : ns[i].ps[j - 1] ∈ flat (preN ns i j) := by
        unfold preN
        rw [List.getElem?_eq_getElem hi, Option.getD_some, flat_append, flat_one]
        refine List.mem_append_right _ ?_
        rw [List.mem_take_iff_getElem]
        exact ⟨j - 1, by omega, rfl⟩
      have := (h.rng _ hm).1
      omega
  have e := preN_step hi hj
  refine ⟨fun x hx => ?_, fun k => ?_, h.ris, ?_⟩
  · rw [e] at hx
    rcases List.mem_append.1 hx with hx | hx
    · exact h.rng x hx
    · simp at hx
      subst hx
      exact ⟨hge, h2⟩
  · rw [e, cntI_append]
    have k1 := h.one k
    simp only [cntI]
    by_cases ek : ns[i].ps[j] = k
    · rw [if_pos ek, ← ek, cntI_zero.2 (ownF_none.1 h3)]
      omega
    · rw [if_neg ek]
      omega
  · have hnow := h.now
    rw [List.getElem?_eq_getElem hi, Option.getD_some] at hnow ⊢
    intro q hq
    have hl : (ns[i].ps.take (j + 1)).length = j + 1 := by rw [List.length_take]; omega
    rw [hl] at hq
    rw [List.getElem_take, List.getElem_take]
    by_cases hqj : q + 1 < j
    · have := hnow q (by rw [List.length_take]; omega)
      rw [List.getElem_take, List.getElem_take] at this
      exact this
    · have hq1 : q + 1 = j := by omega
      subst hq1
      unfold lastP at h1
      rw [if_neg (by omega), List.getElem?_eq_getElem hi, Option.getD_some, Nat.add_sub_cancel, List.getElem?_eq_getElem (by omega), Option.getD_some] at h1
      exact h1
theorem flat_pre_all (ns : List ND) : flat (preN ns ns.length 0) = flat ns := by
  unfold preN
  rw [flat_append, flat_one, List.take_length]
  simp
/-- all went well: then each is dealt once -/
theorem Fine.dealt {ns : List ND} (h : Fine ns ns.length 0) (p1 : 1 ≤ (flat ns).length) (p2 : (flat ns).length ≤ 64) : Dealt ns := by
  refine ⟨p1, p2, ?_, fun n hn => ?_⟩
  · exact once_all _ _ rfl (fun x hx => h.rng x (by rw [flat_pre_all]; exact hx)) (fun k => by have := h.one k; rw [flat_pre_all] at this; exact this)
  · obtain ⟨q, hq, rfl⟩ := List.getElem_of_mem hn
    exact h.ris q hq hq
theorem Dealt.all {ns : List ND} (h : Dealt ns) : (∀ x ∈ flat ns, 0 ≤ x ∧ x < ((flat ns).length : Int)) ∧ ∀ k, cntI k (flat ns) ≤ 1 :=
  all_once _ _ rfl (fun i hi => cntI_mem.1 (by rw [h.once i hi]; omega))
theorem mem_flat {ns : List ND} {i j : Nat} (hi : i < ns.length) (hj : j < ns[i].ps.length) : ns[i].ps[j] ∈ flat ns := by
  unfold flat
  exact List.mem_flatMap.2 ⟨ns[i], List.getElem_mem hi, List.getElem_mem hj⟩
theorem flat_split {ns : List ND} {i : Nat} (hi : i < ns.length) (j : Nat) : ∃ r, flat ns = flat (preN ns i j) ++ (ns[i].ps.drop j ++ r) := by
  refine ⟨flat (ns.drop (i + 1)), ?_⟩
  unfold preN
  rw [List.getElem?_eq_getElem hi, Option.getD_some, flat_append, flat_one, List.append_assoc, ← List.append_assoc (ns[i].ps.take j), List.take_append_drop]
  have : ns = ns.take i ++ ([ns[i]] ++ ns.drop (i + 1)) := by
    rw [← List.append_assoc, ← List.take_succ_eq_append_getElem hi, List.take_append_drop]
  conv => lhs; rw [this, flat_append, flat_append, flat_one]
/-- one went ill: then they are not dealt -/
theorem not_dealt {ns : List ND} {i j : Nat} (hi : i < ns.length) (hj : j < ns[i].ps.length) (hb : ns[i].ps[j] ≤ lastP ns i j ∨ ((flat ns).length : Int) ≤ ns[i].ps[j] ∨ ownF ns[i].ps[j] 0 (preN ns i j) ≠ -1) : ¬ Dealt ns := by
  intro h
  obtain ⟨a1, a2⟩ := h.all
  have hm := a1 _ (mem_flat hi hj)
  rcases hb with hb | hb | hb
  · unfold lastP at hb
    by_cases j0 : j = 0
    · rw [if_pos j0] at hb
      omega
    · rw [if_neg j0, List.getElem?_eq_getElem hi, Option.getD_some, List.getElem?_eq_getElem (by omega), Option.getD_some] at hb
      have := h.rise ns[i] (List.getElem_mem hi) (j - 1) (by omega)
      have e : j - 1 + 1 = j := by omega
      simp only [e] at this
      omega
  · omega
  · have hin : ns[i].ps[j] ∈ flat (preN ns i j) := by
      apply Classical.byContradiction
      intro hn
      exact hb (ownF_none.2 hn)
    obtain ⟨r, hr⟩ := flat_split hi j
    have c := a2 ns[i].ps[j]
    rw [hr, cntI_append, cntI_append] at c
    have c1 := cntI_mem.2 hin
    have c2 : 0 < cntI ns[i].ps[j] (ns[i].ps.drop j) := cntI_mem.2 (by
      rw [List.mem_drop_iff_getElem]
      exact ⟨0, by omega, by simp⟩)
    omega
end Go.Proofs.Ytbmhllcbkeblfaa
namespace Go.Proofs
open Go.Shelf Go.RowKit
def Try.lays137_ren : Go.Shelf.Ren := ⟨fun | 137 => 54 | 217 => 56 | 266 => 59 | n => n, fun | 9 => 9 | 5 => 5 | 3 => 3 | n => n, fun | n => n⟩
theorem Try.lays137 : Go.Proofs.Lays.n137 Try.prog Try.lays137_ren := {
  mixed := by kernel_rfl
  f137 := Try.func54.trans (congrArg some (by kernel_rfl))
  f217 := Try.func56.trans (congrArg some (by kernel_rfl))
  f266 := Try.func59.trans (congrArg some (by kernel_rfl))
  t3 := Try.underlying3
  a3 := Try.isAgg3
  z3 := Try.sizeOf3
  v3 := Try.zeroValue3
  t5 := Try.underlying5
  a5 := Try.isAgg5
  z5 := Try.sizeOf5
  v5 := Try.zeroValue5
  t9 := Try.underlying9
  a9 := Try.isAgg9
  z9 := Try.sizeOf9
  v9 := Try.zeroValue9 }
open Go.RowKit in
theorem Try.strings_IndexByte (s : ByteArray) (c : Int) (w : World) :
    Calls Try.prog 54 #[.string s, .int .u8 c] w fun e w' => e = .returned (.int .i64 (Lib.indexByte s.data.toList c.toNat.toUInt8)) ∧ w' = w := Any.strings_IndexByte Try.lays137 s c w
def Try.lays264_ren : Go.Shelf.Ren := ⟨fun | 264 => 58 | n => n, fun | 53 => 122 | 46 => 114 | n => n, fun | n => n⟩
theorem Try.lays264 : Go.Proofs.Lays.n264 Try.prog Try.lays264_ren := {
  mixed := by kernel_rfl
  f264 := Try.func58.trans (congrArg some (by kernel_rfl))
  t46 := Try.underlying114
  a46 := Try.isAgg114
  z46 := Try.sizeOf114
  v46 := Try.zeroValue114
  t53 := Try.underlying122
  a53 := Try.isAgg122
  z53 := Try.sizeOf122
  v53 := Try.zeroValue122 }
open Go.RowKit Go.Lib in
theorem Try.bits_Mul64 (x y : Nat) (hx : x < 18446744073709551616) (hy : y < 18446744073709551616) (w : World) :
    Calls Try.prog 58 #[.int .u64 x, .int .u64 y] w fun e w' => e = .returned (.tuple #[.int .u64 ((x * y / 18446744073709551616 : Nat) : Int), .int .u64 ((x * y % 18446744073709551616 : Nat) : Int)]) ∧ w' = w := Any.bits_Mul64 Try.lays264 x y hx hy w
def Try.lays212_ren : Go.Shelf.Ren := ⟨fun | 212 => 55 | 263 => 57 | 264 => 58 | n => n, fun | 46 => 114 | 51 => 119 | 146 => 120 | 53 => 122 | 148 => 123 | n => n, fun | n => n⟩
theorem Try.lays212 : Go.Proofs.Lays.n212 Try.prog Try.lays212_ren := {
  mixed := by kernel_rfl
  f212 := Try.func55.trans (congrArg some (by kernel_rfl))
  f263 := Try.func57.trans (congrArg some (by kernel_rfl))
  f264 := Try.func58.trans (congrArg some (by kernel_rfl))
  t46 := Try.underlying114
  a46 := Try.isAgg114
  z46 := Try.sizeOf114
  v46 := Try.zeroValue114
  t51 := Try.underlying119
  a51 := Try.isAgg119
  z51 := Try.sizeOf119
  v51 := Try.zeroValue119
  t53 := Try.underlying122
  a53 := Try.isAgg122
  z53 := Try.sizeOf122
  v53 := Try.zeroValue122
  t146 := Try.underlying120
  a146 := Try.isAgg120
  z146 := Try.sizeOf120
  v146 := Try.zeroValue120
  t148 := Try.underlying123
  a148 := Try.isAgg123
  z148 := Try.sizeOf123
  v148 := Try.zeroValue123 }
open Go.RowKit Go.Lib in
theorem Try.bits_Mul (x y : Nat) (hx : x < 18446744073709551616) (hy : y < 18446744073709551616) (w : World) :
    Calls Try.prog 55 #[.int .u64 x, .int .u64 y] w fun e w' => e = .returned (.tuple #[.int .u64 ((x * y / 18446744073709551616 : Nat) : Int), .int .u64 ((x * y % 18446744073709551616 : Nat) : Int)]) ∧ w' = w := Any.bits_Mul Try.lays212 x y hx hy w
def Try.lays217_ren : Go.Shelf.Ren := ⟨fun | 217 => 56 | 266 => 59 | n => n, fun | 9 => 9 | 5 => 5 | 3 => 3 | n => n, fun | n => n⟩
theorem Try.lays217 : Go.Proofs.Lays.n217 Try.prog Try.lays217_ren := {
  mixed := by kernel_rfl
  f217 := Try.func56.trans (congrArg some (by kernel_rfl))
  f266 := Try.func59.trans (congrArg some (by kernel_rfl))
  t3 := Try.underlying3
  a3 := Try.isAgg3
  z3 := Try.sizeOf3
  v3 := Try.zeroValue3
  t5 := Try.underlying5
  a5 := Try.isAgg5
  z5 := Try.sizeOf5
  v5 := Try.zeroValue5
  t9 := Try.underlying9
  a9 := Try.isAgg9
  z9 := Try.sizeOf9
  v9 := Try.zeroValue9 }
open Go.RowKit Go.Lib in
theorem Try.stringslite_IndexByte (s : ByteArray) (c : Int) (w : World) :
    Calls Try.prog 56 #[.string s, .int .u8 c] w fun e w' => e = .returned (.int .i64 (Lib.indexByte s.data.toList c.toNat.toUInt8)) ∧ w' = w := Any.stringslite_IndexByte Try.lays217 s c w
end Go.Proofs
