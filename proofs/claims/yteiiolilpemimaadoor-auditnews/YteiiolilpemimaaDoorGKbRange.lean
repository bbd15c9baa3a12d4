import Derived.Test.YteiiolilpemimaaDoorGCaBase
import Derived.Maps.Range
import Derived.Maps.RangeWalk
namespace Go.Proofs.YteiiolilpemimaaDoor.Cn
open Go.RowKit Go.MapKept Go.Maps
open Go.ChangeMaps (setBlock heap_setBlock_same heap_setBlock_other modify_eq_set set_perm)
variable {kt : TypeId} {κ : Type}
/-- a range over a map under way: 'rest' is still to come -/
def Rg (T : KeyT kt κ) (w : World) (M r : Nat) (L rest : List (κ × Value)) : Prop :=
  ∃ es clock since seen c0, w.heap[M]? = some (.map es clock) ∧ Raw T es clock L ∧ w.heap[r]? = some (.mapIter (some M) since seen c0) ∧ (∀ x ∈ es.toList, x.born < since) ∧ since ≤ c0 ∧ since ≤ clock ∧ (((leftOf es seen).toList.map fun x => (x.key, x.val)).Perm (enL T rest)) ∧ (∀ p ∈ rest, p ∈ L)
section
variable {T : KeyT kt κ} {L rest : List (κ × Value)} {w w' : World} {M r : Nat}
theorem Rg.mp (h : Rg T w M r L rest) : Mp T w M L := by
  obtain ⟨es, clock, since, seen, c0, h1, h2, _⟩ := h
  exact ⟨es, clock, h1, h2⟩
theorem Rg.ne (h : Rg T w M r L rest) : r ≠ M := by
  obtain ⟨es, clock, since, seen, c0, h1, h2, h3, _⟩ := h
  rintro rfl
  rw [h1] at h3
  simp at h3
theorem Rg.lt (h : Rg T w M r L rest) : r < w.heap.size := by
  obtain ⟨es, clock, since, seen, c0, h1, h2, h3, _⟩ := h
  exact blk_lt h3
theorem Rg.kp {S : Nat → Prop} (h : Rg T w M r L rest) (hk : Kp w w' S) (hM : ¬ S M) (hr : ¬ S r) : Rg T w' M r L rest := by
  have l1 := h.mp.lt
  have l2 := h.lt
  obtain ⟨es, clock, since, seen, c0, h1, h2, h3, h4⟩ := h
  exact ⟨es, clock, since, seen, c0, (hk.block _ l1 hM).trans h1, h2, (hk.block _ l2 hr).trans h3, h4⟩
theorem Rg.perm (h : Rg T w M r L rest) {rest' : List (κ × Value)} (hp : rest.Perm rest') : Rg T w M r L rest' := by
  obtain ⟨es, clock, since, seen, c0, h1, h2, h3, h4, h5, h6, h7, h8⟩ := h
  exact ⟨es, clock, since, seen, c0, h1, h2, h3, h4, h5, h6, h7.trans (hp.map _), fun p q => h8 p (hp.mem_iff.2 q)⟩
def rgLeft (w : World) (M r : Nat) : Nat := w.rangeLeft M r
theorem Rg.left (h : Rg T w M r L rest) : w.rangeLeft M r = rest.length := by
  obtain ⟨es, clock, since, seen, c0, h1, h2, h3, h4, h5, h6, h7, h8⟩ := h
  unfold World.rangeLeft
  rw [h1, h3]
  have := h7.length_eq
  simpa [enL] using this
/-- 'range m' -/
theorem Mp.range {t e : TypeId} (h : Mp T w M L) (ht : Tryd.prog.underlying t = some (.map kt e)) :
    ∃ X, (Instr.range t (.map (some M))).run Tryd.prog w = .ok (.pointer (some ⟨w.heap.size, 0, none⟩)) X ∧ Rg T X M w.heap.size L L ∧ Below w.heap.size w X ∧ X.heap.size = w.heap.size + 1 := by
  have hlt := h.lt
  obtain ⟨es, clock, hb, hr⟩ := h
  refine ⟨_, run_range_map w t kt e M es clock ht hb, ⟨es, clock, clock, #[], clock, ((MapKept.heap_alloc w _).2 M hlt).trans hb, hr, (MapKept.heap_alloc w _).1, ((stamped_iff es clock).1 hr.st).1, Nat.le_refl _, Nat.le_refl _, ?_, fun _ q => q⟩, (Below.refl _ w).alloc (Nat.le_refl _) _, by simp⟩
  have : leftOf es #[] = es := by simp [leftOf]
  rw [this]
  exact hr.pm
theorem flt_push (l : List MapEntry) (seen : Array Nat) (e : MapEntry) (hn : (l.map (·.born)).Nodup) (he : e ∈ l.filter fun x => !seen.contains x.born) : (l.filter fun x => !seen.contains x.born).Perm (e :: l.filter fun x => !(seen.push e.born).contains x.born) := by
  induction l with
  | nil => simp at he
  | cons a r ih =>
    rw [List.map_cons, List.nodup_cons] at hn
    have hs := (List.mem_filter.1 he).2
    by_cases ea : a.born = e.born
    · have hae : a = e := by
        have hm := (List.mem_filter.1 he).1
        rcases List.mem_cons.1 hm with h | h
        · exact h.symm
        · exact absurd (List.mem_map.2 ⟨e, h, ea.symm⟩) hn.1
      subst hae
      have h2 : (seen.push a.born).contains a.born = true := by rw [contains_push]; simp
      have : (r.filter fun x => !seen.contains x.born) = r.filter fun x => !(seen.push a.born).contains x.born := by
        refine List.filter_congr (fun x hx => ?_)
        rw [contains_push]
        have : (x.born == a.born) = false := by
          rw [beq_eq_false_iff_ne]
          exact fun e2 => hn.1 (List.mem_map.2 ⟨x, hx, e2⟩)
        rw [this, Bool.or_false]
      simp only [List.filter_cons, hs, h2, if_true, Bool.not_true, Bool.false_eq_true, if_false]
      rw [this]
    · have hm : e ∈ r.filter fun x => !seen.contains x.born := by
        obtain ⟨h1, h2⟩ := List.mem_filter.1 he
        rcases List.mem_cons.1 h1 with h | h
        · exact absurd (by rw [h]) ea
        · exact List.mem_filter.2 ⟨h, h2⟩
      have hq : (seen.push e.born).contains a.born = seen.contains a.born := by
        rw [contains_push]
        have : (a.born == e.born) = false := by rw [beq_eq_false_iff_ne]; exact ea
        rw [this, Bool.or_false]
      have i1 := ih hn.2 hm
      cases hc : seen.contains a.born
      · simp only [List.filter_cons, hq, hc, Bool.not_false, if_true]
        exact (List.Perm.cons _ i1).trans (List.Perm.swap _ _ _)
      · simp only [List.filter_cons, hq, hc, Bool.not_true, Bool.false_eq_true, if_false]
        exact i1
theorem left_push {es : Array MapEntry} {seen : Array Nat} {e : MapEntry} (hn : (es.toList.map (·.born)).Nodup) (he : e ∈ (leftOf es seen).toList) : (leftOf es seen).toList.Perm (e :: (leftOf es (seen.push e.born)).toList) := by
  have e1 : ∀ s : Array Nat, (leftOf es s).toList = es.toList.filter fun x => !s.contains x.born := fun s => by
    unfold leftOf
    rw [← Array.toList_filter]
  rw [e1] at he ⊢
  rw [e1]
  exact flt_push _ _ _ hn he
/-- the step -/
theorem Rg.next (h : Rg T w M r L rest) (ty : TypeId) :
    (rest = [] ∧ (Instr.next (.pointer (some ⟨r, 0, none⟩)) false ty).run Tryd.prog w = .ok (.tuple #[.bool false]) w) ∨
    ∃ p rest' X, rest.Perm (p :: rest') ∧ p ∈ L ∧ (Instr.next (.pointer (some ⟨r, 0, none⟩)) false ty).run Tryd.prog w = .ok (.tuple #[.bool true, T.enc p.1, p.2]) X ∧ Rg T X M r L rest' ∧ Kp w X (fun b => b = r) ∧ X.heap.size = w.heap.size ∧ (Instr.entry (.pointer (some ⟨r, 0, none⟩))).run Tryd.prog X = .ok (.tuple #[T.enc p.1, p.2]) X := by
  have hne := h.ne
  obtain ⟨es, clock, since, seen, c0, hb, hr, hi, hold, hsc, hsk, hpm, hsb⟩ := h
  rcases run_next_at (P := Tryd.prog) w ty r M since c0 seen es clock hi hb hold hsc with ⟨h0, hrun⟩ | ⟨e, he, w1, hal, hrun⟩
  · left
    refine ⟨?_, hrun⟩
    have := hpm.length_eq
    simp only [List.length_map, Array.length_toList, h0, enL] at this
    exact List.length_eq_zero_iff.1 this.symm
  · right
    have hmem := (mem_left he).1
    have hin : (e.key, e.val) ∈ enL T rest := hpm.mem_iff.1 (List.mem_map.2 ⟨e, he, rfl⟩)
    obtain ⟨p, hp, ep⟩ := List.mem_map.1 hin
    simp only [Prod.mk.injEq] at ep
    obtain ⟨q1, q2⟩ := ep
    obtain ⟨l1, l2, hl⟩ := List.append_of_mem hp
    have hperm : rest.Perm (p :: (l1 ++ l2)) := by rw [hl]; exact List.perm_middle
    have hnd := ((stamped_iff es clock).1 hr.st).2.1
    have hi1 : w1.heap[r]? = some (.mapIter (some M) since seen c0) := by rcases hal with rfl | rfl <;> exact hi
    have hb1 : w1.heap[M]? = some (.map es clock) := by rcases hal with rfl | rfl <;> exact hb
    have k1 : Kp w w1 non := by rcases hal with rfl | rfl; exact Kp.refl _ _; exact (Kp.refl w _).drew
    have hb' : (setBlock w1 r (.mapIter (some M) since (seen.push e.born) clock)).heap[M]? = some (.map es clock) := (setB_kp.block M (blk_lt hb1) (fun e => hne e.symm)).trans hb1
    have hn : ((leftOf es (seen.push e.born)).toList.map fun x => (x.key, x.val)).Perm (enL T (l1 ++ l2)) := by
      have a1 := (left_push hnd he).map (fun x : MapEntry => (x.key, x.val))
      have a2 : (enL T rest).Perm ((e.key, e.val) :: enL T (l1 ++ l2)) := by
        have := hperm.map (fun p : κ × Value => (T.enc p.1, p.2))
        rw [List.map_cons, q1, q2] at this
        exact this
      exact (a1.symm.trans (hpm.trans a2)).cons_inv
    refine ⟨p, l1 ++ l2, _, hperm, hsb p hp, by rw [q1, q2]; exact hrun, ⟨es, clock, since, seen.push e.born, clock, hb', hr, setB_at hi1, hold, hsk, hsk, hn, fun q hq => hsb q (hperm.mem_iff.2 (List.mem_cons_of_mem _ hq))⟩, (k1.mono (T := fun b => b = r) (fun _ f => f.elim)).trans setB_kp (fun k e => Or.inl e), ?_, ?_⟩
    · rcases hal with rfl | rfl <;> simp [setBlock]
    · rw [q1, q2]
      exact run_entry_at _ r M since seen es clock e (setB_at hi1) hb' hmem hnd
noncomputable def neK (K v : Value) : Bool := @decide (K ≠ v) (Classical.propDecidable _)
theorem neK_t {K v : Value} (h : K ≠ v) : neK K v = true := by unfold neK; simpa using h
theorem neK_f {K v : Value} (h : K = v) : neK K v = false := by unfold neK; simpa using h
theorem erase_flt {K : Value} : ∀ (l : List MapEntry) (j : Nat) (e0 : MapEntry), l[j]? = some e0 → e0.key = K → l.Pairwise (fun x y => x.key ≠ y.key) → l.eraseIdx j = l.filter fun x => neK K x.key
  | [], j, e0, h2, _, _ => by simp at h2
  | a :: r, 0, e0, h2, h3, hpw => by
    obtain ⟨w1, w2⟩ := List.pairwise_cons.1 hpw
    simp only [List.getElem?_cons_zero, Option.some.injEq] at h2
    subst h2
    rw [List.eraseIdx_cons_zero, List.filter_cons]
    simp only [neK_f h3.symm, Bool.false_eq_true, if_false]
    exact (List.filter_eq_self.2 (fun x hx => neK_t (by rw [← h3]; exact w1 x hx))).symm
  | a :: r, j + 1, e0, h2, h3, hpw => by
    obtain ⟨w1, w2⟩ := List.pairwise_cons.1 hpw
    rw [List.getElem?_cons_succ] at h2
    have hne : neK K a.key = true := neK_t (fun e => w1 e0 (List.mem_of_getElem? h2) (by rw [← e, h3]))
    rw [List.eraseIdx_cons_succ, List.filter_cons]
    simp only [hne, if_true]
    rw [erase_flt r j e0 h2 h3 w2]
theorem flt_map (l : List MapEntry) (K : Value) (p : MapEntry → Bool) : ((l.filter fun x => neK K x.key).filter p).map (fun x => (x.key, x.val)) = ((l.filter p).map fun x => (x.key, x.val)).filter fun q => neK K q.1 := by
  induction l with
  | nil => rfl
  | cons a r ih =>
    cases h1 : neK K a.key <;> cases h2 : p a <;> simp only [List.filter_cons, List.map_cons, h1, h2, ih, Bool.false_eq_true, if_false, if_true]
theorem enL_flt [DecidableEq κ] (T : KeyT kt κ) (rest : List (κ × Value)) (k : κ) : enL T (dele rest k) = (enL T rest).filter fun q => neK (T.enc k) q.1 := by
  unfold enL dele
  induction rest with
  | nil => rfl
  | cons a r ih =>
    by_cases ex : a.1 = k
    · have h1 : neK (T.enc k) (T.enc a.1) = false := neK_f (by rw [ex])
      rw [ex] at h1
      simp [ex, h1]
      simpa using ih
    · have h1 : neK (T.enc k) (T.enc a.1) = true := neK_t (fun e => ex (T.inj _ _ e).symm)
      simp [ex, h1]
      simpa using ih
/-- 'delete(m, k)' in the round -/
theorem Rg.del [DecidableEq κ] {t e ty : TypeId} (h : Rg T w M r L rest) (ht : Tryd.prog.underlying t = some (.map kt e)) {k : κ} (hk : T.ok k) :
    ∃ X, (Builtin.delete_ #[t, kt] ty #[.map (some M), T.enc k]).run Tryd.prog w = .ok (.tuple #[]) X ∧ Rg T X M r (dele L k) (dele rest k) ∧ Kp w X (fun b => b = M) ∧ X.heap.size = w.heap.size := by
  have hne := h.ne
  obtain ⟨es, clock, since, seen, c0, hb, hr, hi, hold, hsc, hsk, hpm, hsb⟩ := h
  obtain ⟨kl, hkey⟩ := T.key k hk
  have oks : ∀ p ∈ dele L k, T.ok p.1 := fun p hp => hr.ks p (List.mem_filter.1 hp).1
  have sub : ∀ p ∈ dele rest k, p ∈ dele L k := fun p hp => List.mem_filter.2 ⟨hsb p (List.mem_filter.1 hp).1, (List.mem_filter.1 hp).2⟩
  have hall : ∀ q : Value × Value, q ∈ enL T (dele L k) → q.1 ≠ T.enc k := fun q hq => enL_dele T L k q hq
  have e1 : ∀ (a : Array MapEntry) (s : Array Nat), (leftOf a s).toList = a.toList.filter fun x => !s.contains x.born := fun a s => by
    unfold leftOf
    rw [← Array.toList_filter]
  rcases T.law.find w hkey es.toList hr.keys with ⟨h1, h2⟩ | ⟨j, e0, h1, h2, h3⟩
  · have hL : ∀ p ∈ L, p.1 ≠ k := fun p hp ep => by
      obtain ⟨x, hx, ex, _⟩ := hr.mem' hp
      exact h2 x hx (by rw [ex, ep])
    have hn : dele L k = L := filter_ne_all hL
    have hn2 : dele rest k = rest := filter_ne_all (fun p hp => hL p (hsb p hp))
    rw [hn, hn2]
    refine ⟨setBlock w M (.map es clock), ?_, ⟨es, clock, since, seen, c0, setB_at hb, hr, (setB_kp.block _ (blk_lt hi) hne).trans hi, hold, hsc, hsk, hpm, hsb⟩, setB_kp, by simp [setBlock]⟩
    simp [Builtin.delete_, run_underlying ht, MapKept.run_getObj_map hb, T.law.check w _ hkey, h1, MapKept.run_setObj_map _ hb, Result.andThen, setBlock]
  · have hjl : j < es.toList.length := (List.getElem?_eq_some_iff.1 h2).1
    have hjs : j < es.size := by simpa using hjl
    have hsub : (es.eraseIdxIfInBounds j).toList = es.toList.eraseIdx j := by
      unfold Array.eraseIdxIfInBounds
      rw [dif_pos hjs]
      simp
    have hx : e0 ∈ es.toList := List.mem_of_getElem? h2
    obtain ⟨p, hp, ep, ev⟩ := hr.mem hx
    have pk : p.1 = k := T.inj _ _ (ep.symm.trans h3)
    have hfil := erase_flt es.toList j e0 h2 h3 ((stamped_iff es clock).1 hr.st).2.2
    have hperm1 : (kvs (es.eraseIdxIfInBounds j)).Perm (enL T (dele L k)) := by
      unfold kvs
      rw [hsub, Go.ChangeMaps.map_eraseIdx]
      have a1 : (es.toList.map fun x => (x.key, x.val)).Perm ((e0.key, e0.val) :: (es.toList.map fun x => (x.key, x.val)).eraseIdx j) := perm_at (by simp [h2])
      have a2 : (enL T L).Perm ((e0.key, e0.val) :: enL T (dele L k)) := by
        have := (perm_split hr.nd hp).map (fun p : κ × Value => (T.enc p.1, p.2))
        rw [List.map_cons, ← ep, ← ev, pk] at this
        exact this
      exact (a1.symm.trans (hr.pm.trans a2)).cons_inv
    refine ⟨setBlock w M (.map (es.eraseIdxIfInBounds j) clock), ?_, ⟨es.eraseIdxIfInBounds j, clock, since, seen, c0, setB_at hb, ⟨stamped_erase hr.st j, Nat.le_trans (MapFrom.size_erase es j) hr.sz, oks, hperm1⟩, (setB_kp.block _ (blk_lt hi) hne).trans hi, fun x hx' => ?_, hsc, hsk, ?_, sub⟩, setB_kp, by simp [setBlock]⟩
    · simp [Builtin.delete_, run_underlying ht, MapKept.run_getObj_map hb, T.law.check w _ hkey, h1, MapKept.run_setObj_map _ hb, Result.andThen, setBlock]
    · rw [hsub] at hx'
      exact hold x ((List.eraseIdx_sublist _ _).subset hx')
    · have a3 : ((leftOf (es.eraseIdxIfInBounds j) seen).toList.map fun x => (x.key, x.val)) = ((leftOf es seen).toList.map fun x => (x.key, x.val)).filter fun q => neK (T.enc k) q.1 := by
        rw [e1, e1, hsub, hfil]
        exact flt_map es.toList (T.enc k) (fun x => !seen.contains x.born)
      have a4 := enL_flt T rest k
      rw [a3, a4]
      exact hpm.filter _
end
end Go.Proofs.YteiiolilpemimaaDoor.Cn
namespace Go.Proofs.YteiiolilpemimaaDoor.Cn
open Go.RowKit Go.MapKept Go.Maps
variable {kt : TypeId} {κ : Type} {T : KeyT kt κ}
/-- 'range m' at the operation -/
theorem wpList_rangeM (w : World) {ops : Array Oper} {rest : List Oper} {o : Oper} {a : Act} {Q : Exit → Act → World → Prop} (hg : o.guard = none) (m : Operand) (t e : TypeId) (hop : o.op = Op.range t m) (ht : Tryd.prog.underlying t = some (.map kt e)) (M : Nat) (L : List (κ × Value)) (hm : a.eval m = .map (some M)) (h : Mp T w M L)
    (hK : ∀ w', Rg T w' M w.heap.size L L → Below w.heap.size w w' → w'.heap.size = w.heap.size + 1 → wpList Tryd.prog ops Q rest (a.put o.dst (.pointer (some ⟨w.heap.size, 0, none⟩))) w') :
    wpList Tryd.prog ops Q (o :: rest) a w := by
  refine wpList_plain hg fun K' hK' => ?_
  obtain ⟨w', hrun, r1, r2, r3⟩ := h.range ht
  unfold Oper.wp
  simp [execOp, hop, hm, hrun, Result.andThen]
  exact hK' _ _ (hK w' r1 r2 r3)
/-- the step at the operation -/
theorem wpList_nextM (w : World) {ops : Array Oper} {rest : List Oper} {o : Oper} {a : Act} {Q : Exit → Act → World → Prop} (hg : o.guard = none) (it : Operand) (hop : o.op = Op.next it false) (M r : Nat) (L R : List (κ × Value)) (hit : a.eval it = .pointer (some ⟨r, 0, none⟩)) (h : Rg T w M r L R)
    (hDone : R = [] → wpList Tryd.prog ops Q rest (a.put o.dst (.tuple #[.bool false])) w)
    (hMore : ∀ (p : κ × Value) (R' : List (κ × Value)) (w' : World), R.Perm (p :: R') → p ∈ L → Rg T w' M r L R' → Kp w w' (fun b => b = r) → w'.heap.size = w.heap.size → (Instr.entry (.pointer (some ⟨r, 0, none⟩))).run Tryd.prog w' = .ok (.tuple #[T.enc p.1, p.2]) w' → wpList Tryd.prog ops Q rest (a.put o.dst (.tuple #[.bool true, T.enc p.1, p.2])) w') :
    wpList Tryd.prog ops Q (o :: rest) a w := by
  refine wpList_plain hg fun K' hK' => ?_
  unfold Oper.wp
  rcases h.next o.type with ⟨h0, hrun⟩ | ⟨p, R', X, hp, hL, hrun, hr, hk, hs, he⟩
  · simp [execOp, hop, hit, hrun, Result.andThen]
    exact hK' _ _ (hDone h0)
  · simp [execOp, hop, hit, hrun, Result.andThen]
    exact hK' _ _ (hMore p R' X hp hL hr hk hs he)
end Go.Proofs.YteiiolilpemimaaDoor.Cn
namespace Go.Proofs.YteiiolilpemimaaDoor.Cn
open Go.RowKit Go.ChangeShapes Go.WideShapes Go.MapKept Go.Maps
open Go.WideMaps (KeyLaw)
open Go.ChangeMaps (setBlock)
/-- a slot: its partition, its replica -/
abbrev Sl := Nat × Nat
def slV (s : Sl) : Array Value := #[.int .i64 (s.1 : Int), .int .i64 (s.2 : Int)]
theorem laidOutM : laidOutB Tryd.prog = true := by kernel_rfl
theorem rowSl : (85 : TypeId) < Tryd.prog.types.size := of_decide_eq_true (by kernel_rfl)
theorem wideSl : (match Tryd.prog.underlying 85 with | some (.array _ _) | some (.struct _) => true | _ => false) = true := by kernel_rfl
set_option maxRecDepth 100000 in
theorem lawSl : KeyLaw Tryd.prog 85 := deep_law_laid laidOutM (m := 2) (by omega) rowSl (by kernel_rfl) wideSl
theorem cellsIM : Tryd.prog.cellsOf 3 = 1 := by kernel_rfl
theorem cellsSlM : Tryd.prog.cellsOf 85 = 2 := by kernel_rfl
theorem wfZ {n : Int} (h0 : -9223372036854775808 ≤ n) (h1 : n < 9223372036854775808) : (Lit.int .i64 n).wf = true := by
  have e1 : IntKind.i64.min = -9223372036854775808 := by decide
  have e2 : IntKind.i64.max = 9223372036854775807 := by decide
  simp [Lit.wf, e1, e2]
  omega
def slOk (s : Sl) : Prop := s.1 < 64 ∧ s.2 < 16
theorem kl_sl (d : Nat) (s : Sl) (h : slOk s) : Tryd.prog.keyLits (d + 2) 85 [.int .i64 (s.1 : Int), .int .i64 (s.2 : Int)] = some [.int .i64 (s.1 : Int), .int .i64 (s.2 : Int)] := by
  obtain ⟨a1, a2⟩ := h
  have ha := wfZ (n := (s.1 : Int)) (by omega) (by omega)
  have hb := wfZ (n := (s.2 : Int)) (by omega) (by omega)
  simp [Program.keyLits, Tryd.underlying85, Tryd.underlying3, cellsIM, cellsSlM, ha, hb]
theorem key_sl (s : Sl) (h : slOk s) : ∃ kl, keyOf Tryd.prog 85 (.agg (slV s)) = some kl := by
  refine ⟨.string (keyBytes [.int .i64 (s.1 : Int), .int .i64 (s.2 : Int)]), ?_⟩
  have e1 : Tryd.prog.types.size + 1 = (Tryd.prog.types.size - 1) + 2 := by have := (show (85 : Nat) < Tryd.prog.types.size from rowSl); omega
  have e2 : Tryd.prog.keyType 85 = true := by kernel_rfl
  have e3 : (Value.agg (slV s)).formed Tryd.prog 85 = true := by simp [slV, Value.formed, Tryd.underlying85, cellsSlM]
  unfold keyOf
  rw [Tryd.underlying85]
  simp only [e2, e3, Bool.and_self, if_true]
  rw [e1, show (Value.agg (slV s)).cells.toList = [.int .i64 (s.1 : Int), .int .i64 (s.2 : Int)] from rfl, kl_sl _ s h]
  rfl
def ST : KeyT 85 Sl where
  enc := fun s => .agg (slV s)
  ok := slOk
  law := Keyed.of_law lawSl
  key := key_sl
  inj := fun a b h => by
    simp [slV] at h
    exact Prod.ext (by omega) (by omega)
/-- what a node told of a slot: its sum, its number of pairs -/
abbrev Ct2 := ByteArray × Int
def ctV (c : Ct2) : Array Value := #[.string c.1, .int .i64 c.2]
abbrev Tl := List (Sl × Ct2)
def tlV (L : Tl) : List (Sl × Value) := L.map fun p => (p.1, Value.agg (ctV p.2))
def ctZ : Ct2 := (⟨#[]⟩, 0)
theorem zeroC (u : World) : (zeroValue 116).run Tryd.prog u = .ok (.agg (ctV ctZ)) u := by kernel_rfl
def tlk (L : Tl) (s : Sl) : Option Ct2 := (L.find? (fun p => p.1 = s)).map (·.2)
theorem look_tl (L : Tl) (s : Sl) : look (tlV L) s = (tlk L s).map fun c => Value.agg (ctV c) := by
  unfold look tlV tlk
  induction L with
  | nil => rfl
  | cons a r ih =>
    simp only [List.map_cons, List.find?_cons]
    by_cases e : a.1 = s
    · simp [e]
    · simp only [e, decide_false]
      exact ih
theorem dele_tl (L : Tl) (s : Sl) : dele (tlV L) s = tlV (dele L s) := by
  unfold dele tlV
  induction L with
  | nil => rfl
  | cons a r ih =>
    simp only [List.map_cons, List.filter_cons]
    by_cases e : a.1 = s
    · simp only [e, ne_eq, not_true_eq_false, decide_false, Bool.false_eq_true, if_false]
      exact ih
    · simp only [e, ne_eq, not_false_eq_true, decide_true, if_true, List.map_cons]
      rw [ih]
theorem putt_tl (L : Tl) (s : Sl) (c : Ct2) : putt (tlV L) s (.agg (ctV c)) = tlV (putt L s c) := by
  unfold putt
  rw [dele_tl]
  unfold tlV
  rw [List.map_append]
  rfl
/-- what was told, in memory -/
def Mt (w : World) (M : Nat) (L : Tl) : Prop := Mp ST w M (tlV L)
section
variable {w w' : World} {M : Nat} {L : Tl}
theorem Mt.lt (h : Mt w M L) : M < w.heap.size := Mp.lt h
theorem Mt.kp {S : Nat → Prop} (h : Mt w M L) (hk : Kp w w' S) (hM : ¬ S M) : Mt w' M L := Mp.kp h hk hM
theorem Mt.made (w : World) : Mt (w.alloc (.map #[] 0)) w.heap.size [] := Mp.made ST w
theorem Mt.ok (h : Mt w M L) : ∀ p ∈ L, slOk p.1 := fun p hp => Mp.ok h (p.1, Value.agg (ctV p.2)) (List.mem_map.2 ⟨p, hp, rfl⟩)
theorem Mt.nd (h : Mt w M L) : (L.map (·.1)).Nodup := by
  have := Mp.nd h
  unfold tlV at this
  rw [List.map_map] at this
  exact this
theorem Mt.kind (h : Mt w M L) {c : Array Value} {t : TypeId} {f : Nat × Nat} : w.heap[M]? ≠ some (.cells c t f) := Mp.kind h
theorem Mt.put (h : Mt w M L) {s : Sl} (hs : slOk s) (c : Ct2) (hl : L.length < maxLen) :
    ∃ X, (Instr.mapUpdate 67 (.map (some M)) (.agg (slV s)) (.agg (ctV c))).run Tryd.prog w = .ok () X ∧ Mt X M (putt L s c) ∧ Kp w X (fun b => b = M) := by
  obtain ⟨X, a, b, c'⟩ := Mp.put h Tryd.underlying67 (k := s) hs (.agg (ctV c)) (by unfold tlV; rw [List.length_map]; exact hl)
  rw [putt_tl] at b
  exact ⟨X, a, b, c'⟩
theorem Mt.clear (h : Mt w M L) (ty : TypeId) : ∃ X, (Builtin.clear_ #[67] ty #[.map (some M)]).run Tryd.prog w = .ok (.tuple #[]) X ∧ Mt X M [] ∧ Kp w X (fun b => b = M) := by
  obtain ⟨es, clock, hb, hr⟩ := h
  refine ⟨setBlock w M (.map #[] clock), ?_, ⟨#[], clock, setB_at hb, stamped_empty clock, by simp, by simp [tlV], List.Perm.refl _⟩, setB_kp⟩
  simp [Builtin.clear_, run_underlying Tryd.underlying67, MapKept.run_getObj_map hb, MapKept.run_setObj_map _ hb, Result.andThen, setBlock]
end
/-- no two slots are told twice: at most 1024 -/
def slN (s : Sl) : Nat := s.1 * 16 + s.2
theorem nodup_len {n : Nat} : ∀ (l : List Nat), l.Nodup → (∀ x ∈ l, x < n) → l.length ≤ n := by
  induction n with
  | zero =>
    intro l _ h
    cases l with
    | nil => simp
    | cons a r => exact absurd (h a (by simp)) (by omega)
  | succ n ih =>
    intro l hd h
    have h1 := ih (l.filter (· ≠ n)) (List.Nodup.sublist List.filter_sublist hd) (fun x hx => by
      obtain ⟨a, b⟩ := List.mem_filter.1 hx
      have := h x a
      simp at b
      omega)
    have h2 : l.length ≤ (l.filter (· ≠ n)).length + 1 := by
      clear ih h1 h
      induction l with
      | nil => simp
      | cons a r ih =>
        rw [List.nodup_cons] at hd
        by_cases e : a = n
        · subst e
          have : r.filter (· ≠ a) = r := List.filter_eq_self.2 (fun x hx => by
            simp
            exact fun q => hd.1 (q ▸ hx))
          rw [List.filter_cons_of_neg (by simp), this]
          simp
        · rw [List.filter_cons_of_pos (by simpa using e)]
          simp only [List.length_cons]
          have := ih hd.2
          omega
    omega
theorem Mt.len {w : World} {M : Nat} {L : Tl} (h : Mt w M L) : L.length ≤ 1024 := by
  have hn := h.nd
  have ho := h.ok
  have : (L.map fun p => slN p.1).length ≤ 1024 := by
    refine nodup_len _ ?_ ?_
    · have e : (L.map fun p => slN p.1) = (L.map (·.1)).map slN := by rw [List.map_map]; rfl
      rw [e]
      refine List.pairwise_map.2 ?_
      refine List.Pairwise.imp_of_mem (fun {a b} ha hb hab => ?_) hn
      obtain ⟨p, hp, rfl⟩ := List.mem_map.1 ha
      obtain ⟨q, hq, rfl⟩ := List.mem_map.1 hb
      obtain ⟨a1, a2⟩ := ho p hp
      obtain ⟨b1, b2⟩ := ho q hq
      intro e
      unfold slN at e
      exact hab (Prod.ext (by omega) (by omega))
    · intro x hx
      obtain ⟨p, hp, rfl⟩ := List.mem_map.1 hx
      obtain ⟨a1, a2⟩ := ho p hp
      unfold slN
      omega
  rwa [List.length_map] at this
end Go.Proofs.YteiiolilpemimaaDoor.Cn
namespace Go.Proofs.YteiiolilpemimaaDoor.Cn
open Go.RowKit
/-- ints, as cells -/
def ints (L : List Int) : List Value := L.map fun n : Int => .int .i64 n
theorem ints_len (L : List Int) : (ints L).length = L.length := by simp [ints]
theorem ints_at (L : List Int) (q : Nat) : (ints L)[q]? = (L[q]?).map fun n : Int => .int .i64 n := by simp [ints]
theorem ints_append (a b : List Int) : ints (a ++ b) = ints a ++ ints b := by simp [ints]
theorem ints_one (L : List Int) : ∀ u ∈ ints L, u.oneCell' = true := by
  intro u hu
  obtain ⟨n, _, rfl⟩ := List.mem_map.1 hu
  rfl
theorem int_infos : (Tryd.prog.info? 3).map (fun i => (i.zero, i.size, i.bytes)) = some (some (.int .i64 0), 1, 8) := by kernel_rfl
/-- append(list, k) -/
theorem wpList_apI {w : World} {ops : Array Oper} {rest : List Oper} {o : Oper} {a : Act} {Q : Exit → Act → World → Prop} (hgd : o.guard = none) (x y : Operand) (ho : o.op = .call { callee := .builtin .append, args := #[x, y], argTypes := #[26, 26] }) (base : Nat) (v : Value) (L : List Int) (hx : a.eval x = v) (hv : w.ownsRow base 3 1 v L.length (ints L)) (g : Nat) (m : Int) (hy : a.eval y = .slice (some ⟨g, 0, none⟩) 1 1) (hg : w.heap[g]? = some (.cells #[.int .i64 m] 3)) (hl : L.length ≤ 1000000000000) (hb : base ≤ w.heap.size)
    (h : ∀ v' w', w'.ownsRow base 3 1 v' (L.length + 1) (ints (L ++ [m])) → w.grownBy w' v.ownBlock → wpList Tryd.prog ops Q rest (a.put o.dst v') w') : wpList Tryd.prog ops Q (o :: rest) a w := by
  obtain ⟨i0, hi, hz0, hz1, hz2⟩ := mg_parts int_infos
  refine wpList_append_own_at _ hgd _ _ 26 ho base 3 i0 _ 1 8 Tryd.underlying26 hi hz0 hz1 hz2 rfl (by decide) _ _ _ hx hv ⟨g, 0, none⟩ 1 1 (ints [m]) hy rfl ?_ (ints_one _) (by unfold maxLen; omega) (by omega) hb ?_
  · intro j u hj
    rw [Addr.add_mid, Nat.zero_add, cell_row hg]
    simpa [ints] using hj
  · intro v' w' h1 h2 _ _
    rw [← ints_append] at h1
    exact h v' w' h1 h2
theorem info_parts {t : TypeId} {z : Value} {n m : Nat} (h : (Tryd.prog.info? t).map (fun i => (i.zero, i.size, i.bytes)) = some (some z, n, m)) : ∃ i, Tryd.prog.info? t = some i ∧ i.zero = some z ∧ i.size = n ∧ i.bytes = m := by
  cases e : Tryd.prog.info? t with
  | none => rw [e] at h; simp at h
  | some i =>
    rw [e] at h
    simp only [Option.map_some, Option.some.injEq, Prod.mk.injEq] at h
    exact ⟨i, rfl, h.1, h.2.1, h.2.2⟩
theorem own_base {w : World} {base base' e sz n : Nat} {v : Value} {xs : List Value} (h : w.ownsRow base e sz v n xs) (hb : base' ≤ base) : w.ownsRow base' e sz v n xs := by
  refine ⟨h.1, ?_⟩
  rcases h.2 with ⟨hv, hz⟩ | ⟨g, cap, cur, hv, h1, h2⟩
  · exact .inl ⟨hv, hz⟩
  · exact .inr ⟨g, cap, cur, hv, Nat.le_trans hb h1, h2⟩
theorem own_ge {X : World} {base e sz n g : Nat} {v : Value} {xs : List Value} (h : X.ownsRow base e sz v n xs) (hg : v.ownBlock = some g) : base ≤ g := by
  rcases h.2 with ⟨rfl, _⟩ | ⟨g', cap, cur, rfl, hb, hg', hr⟩
  · simp [Value.ownBlock] at hg
  · simp [Value.ownBlock] at hg
    subst hg
    exact hb
theorem own_typ {X : World} {base e sz n g : Nat} {v : Value} {xs : List Value} (h : X.ownsRow base e sz v n xs) (hg : v.ownBlock = some g) : ∃ cur, X.heap[g]? = some (.cells cur e (0, 0)) := by
  rcases h.2 with ⟨rfl, _⟩ | ⟨g', cap, cur, rfl, hb, hg', hr⟩
  · simp [Value.ownBlock] at hg
  · simp [Value.ownBlock] at hg
    subst hg
    exact ⟨cur, hg'⟩
theorem own_lt {X : World} {base e sz n g : Nat} {v : Value} {xs : List Value} (h : X.ownsRow base e sz v n xs) (hg : v.ownBlock = some g) : g < X.heap.size := by
  obtain ⟨cur, hc⟩ := own_typ h hg
  exact blk_lt hc
theorem own_re {X : World} {base base' e sz n : Nat} {v : Value} {xs : List Value} (h : X.ownsRow base e sz v n xs) (hg : ∀ g, v.ownBlock = some g → base' ≤ g) : X.ownsRow base' e sz v n xs := by
  refine ⟨h.1, ?_⟩
  rcases h.2 with ⟨hv, hz⟩ | ⟨g, cap, cur, rfl, h1, h2⟩
  · exact .inl ⟨hv, hz⟩
  · exact .inr ⟨g, cap, cur, rfl, hg g rfl, h2⟩
/-- a cell of a row -/
theorem own_at {X : World} {base e sz n : Nat} {v : Value} {xs : List Value} (h : X.ownsRow base e sz v n xs) {j : Nat} {u : Value} (hj : xs[j]? = some u) : ∃ g cap, v = .slice (some ⟨g, 0, none⟩) n cap ∧ X.cell? ⟨g, j, none⟩ = some u ∧ X.frozen? ⟨g, j, none⟩ = false := by
  have hl := (List.getElem?_eq_some_iff.1 hj).1
  rcases h.2 with ⟨_, hz⟩ | ⟨g, cap, cur, rfl, h1, h2, h3, h4, h5, h6⟩
  · have := h.1
    rw [hz] at this
    omega
  · refine ⟨g, cap, rfl, ?_, ?_⟩
    · rw [cell_row h2]
      rw [← h6, List.getElem?_take] at hj
      split at hj
      · simpa using hj
      · simp at hj
    · exact fz_row h2 j
theorem own_setZ {w : World} {base e sz n g cap : Nat} {xs : List Value} (h : w.ownsRow base e sz (.slice (some ⟨g, 0, none⟩) n cap) n xs) (k : Nat) (u : Value) : (w.setCell ⟨g, k, none⟩ u).ownsRow base e sz (.slice (some ⟨g, 0, none⟩) n cap) n (xs.set k u) := by
  refine ⟨by rw [List.length_set]; exact h.1, ?_⟩
  rcases h.2 with ⟨hv, _⟩ | ⟨g', cap', cur, hv, h1, h2, h3, h4, h5, h6⟩
  · cases hv
  · injection hv with e1 e2 e3
    injection e1 with e1
    injection e1 with e1
    subst e1 e3
    refine .inr ⟨g, cap, cur.setIfInBounds k u, rfl, h1, heap_setCell _ _ _ _ _ _ _ h2, h3, h4, by simpa using h5, ?_⟩
    rw [Array.toList_setIfInBounds, List.take_set, h6]
theorem own_fz {w : World} {base e sz n g cap : Nat} {xs : List Value} (h : w.ownsRow base e sz (.slice (some ⟨g, 0, none⟩) n cap) n xs) (k : Nat) : w.frozen? ⟨g, k, none⟩ = false := by
  rcases h.2 with ⟨hv, _⟩ | ⟨g', cap', cur, hv, h1, h2, h3⟩
  · cases hv
  · injection hv with e1 e2 e3
    injection e1 with e1
    injection e1 with e1
    subst e1
    exact fz_row h2 k
theorem own_below {w w' : World} {base e sz n : Nat} {v : Value} {xs : List Value} (h : w.ownsRow base e sz v n xs) (hb : Below w.heap.size w w') : w'.ownsRow base e sz v n xs := own_kp h (Kp.of_below hb non) (fun _ _ f => f)
theorem set_row {w : World} {b : Nat} {A : Array Value} {t : TypeId} (h : w.heap[b]? = some (.cells A t)) (i : Nat) (v : Value) : (w.setCell ⟨b, i, none⟩ v).heap[b]? = some (.cells (A.setIfInBounds i v) t) := heap_setCell _ _ _ _ _ _ _ h
/-- answers so far -/
theorem Kp.row {w w' : World} {S : Nat → Prop} {b : Nat} (h : Kp w w' S) (hb : S b ∨ w.heap.size ≤ b) (A : Array Value) : Kp w (w'.setRow b A) S :=
  h.trans (T := fun k => k = b) ⟨rfl, rfl, rfl, by simp [World.setRow], fun k _ hk => setRow_other _ _ _ _ hk⟩ (fun k hk => by subst hk; exact hb)
theorem exec_bl {ρ : Operand → Value} {o : Oper} {w : World} (ty : TypeId) (parts : Array (Nat × Operand)) (ho : o.op = .build ty parts) (A : Array Value) (hb : Tryd.prog.built ty (parts.map fun (i, x) => (i, ρ x)).toList = some A) : (execOp ρ o).run Tryd.prog w = .ok (.value (.agg A)) w := by
  unfold execOp
  simp only [ho, Sem.run_bind, Sem.run_pure]
  have := run_build w ty _ A hb
  rw [this]
  rfl
theorem exec_ldR {ρ : Operand → Value} {o : Oper} {w : World} {b : Nat} {A : Array Value} (ty : TypeId) (x : Operand) (ho : o.op = .load ty x) (hx : ρ x = .pointer (some ⟨b, 0, none⟩)) (t : TypeId) (hO : w.heap[b]? = some (.cells A t)) {fs} (hu : Tryd.prog.underlying ty = some (.struct fs)) (hi : (Tryd.prog.info? ty).map (·.size) = some A.size) : (execOp ρ o).run Tryd.prog w = .ok (.value (.agg A)) w := by
  have hl : (Instr.loadAt ty (.pointer (some ⟨b, 0, none⟩))).run Tryd.prog w = .ok (.agg A) w := by
    simp only [Instr.loadAt, Instr.sureAddr, Sem.run_bind, Sem.run_pure, Result.andThen]
    exact run_loadVar_row _ _ t ty A (0, 0) _ hO hu rfl hi
  unfold execOp
  simp only [ho, hx, Sem.run_bind, hl, Result.andThen_ok, Sem.run_pure]
end Go.Proofs.YteiiolilpemimaaDoor.Cn
namespace Go.Proofs.YteiiolilpemimaaDoor.Cn
open Go.RowKit
/-- a node, as the auditor sees it -/
structure Ho where
  sl : List Sl
  sv : Value
  stt : Int
  pl : Nat
  tm : Int
  ti : Int
def hoV (h : Ho) : Array Value := #[h.sv, .int .i64 h.stt, .int .i64 (h.pl : Int), .int .i64 h.tm, .int .i64 h.ti]
def hos (L : List Ho) : List Value := L.flatMap fun h => (hoV h).toList
theorem hos_append (a b : List Ho) : hos (a ++ b) = hos a ++ hos b := List.flatMap_append
theorem hos_len (L : List Ho) : (hos L).length = L.length * 5 := by
  induction L with
  | nil => rfl
  | cons a r ih =>
    unfold hos at *
    rw [List.flatMap_cons, List.length_append, ih]
    simp only [List.length_cons, hoV, List.length_nil]
    omega
theorem hos_at (L : List Ho) (q : Nat) (h : q < L.length) (j : Nat) (hj : j < 5) : (hos L)[q * 5 + j]? = (hoV L[q])[j]? := by
  induction L generalizing q with
  | nil => simp at h
  | cons a r ih =>
    cases q with
    | zero =>
      unfold hos
      rw [List.flatMap_cons, Nat.zero_mul, Nat.zero_add, List.getElem?_append_left (by simpa [hoV] using hj)]
      simp
    | succ q =>
      have h' : q < r.length := by simpa using h
      have := ih q h'
      unfold hos at *
      rw [List.flatMap_cons, show (q + 1) * 5 + j = (hoV a).toList.length + (q * 5 + j) by simp [hoV]; omega, List.getElem?_append_right (by omega), Nat.add_sub_cancel_left]
      exact this
theorem hos_set (L : List Ho) (q : Nat) (h : q < L.length) (j : Nat) (hj : j < 5) (u : Value) (k : Ho) (hk : hoV k = (hoV L[q]).set! j u) : (hos L).set (q * 5 + j) u = hos (L.set q k) := by
  induction L generalizing q with
  | nil => simp at h
  | cons a r ih =>
    cases q with
    | zero =>
      unfold hos
      rw [List.set_cons_zero, List.flatMap_cons, List.flatMap_cons, Nat.zero_mul, Nat.zero_add, List.set_append_left _ _ (by simpa [hoV] using hj), hk]
      simp
    | succ q =>
      have h' : q < r.length := by simpa using h
      have := ih q h' (by simpa using hk)
      unfold hos at *
      rw [List.set_cons_succ, List.flatMap_cons, List.flatMap_cons, show (q + 1) * 5 + j = (hoV a).toList.length + (q * 5 + j) by simp [hoV]; omega, List.set_append_right _ _ (by omega), Nat.add_sub_cancel_left, this]
def sls (L : List Sl) : List Value := L.flatMap fun s => [.int .i64 (s.1 : Int), .int .i64 (s.2 : Int)]
theorem sls_at (L : List Sl) (q : Nat) (h : q < L.length) : (sls L)[q * 2]? = some (.int .i64 (L[q].1 : Int)) ∧ (sls L)[q * 2 + 1]? = some (.int .i64 (L[q].2 : Int)) := by
  induction L generalizing q with
  | nil => simp at h
  | cons a r ih =>
    cases q with
    | zero => simp [sls]
    | succ q =>
      have := ih q (by simpa using h)
      rw [show (q + 1) * 2 = q * 2 + 1 + 1 by omega]
      simpa [sls] using this
/-- an auditor -/
structure Au where
  rs : Int
  lm : Int
  rp : Int
  hs : List Ho
  now : Int
  num : Int
  ver : Int
  told : Tl
  jb : Int
  jv : Int
  jo : Int
  dl : List Int
  ml : List Int
  dv : Value
  mv : Value
def auA (v : Au) (H hc M : Nat) : Array Value := #[.int .i64 v.rs, .int .i64 v.lm, .int .i64 v.rp, .slice (some ⟨H, 0, none⟩) v.hs.length hc, .int .i64 v.now, .int .i64 v.num, .int .i64 v.ver, .map (some M), .int .i64 v.jb, .int .i64 v.jv, .int .i64 v.jo, v.dv, v.mv]
/-- where it lies -/
structure AuAt (w : World) (A H hc M : Nat) (v : Au) : Prop where
  blk : w.heap[A]? = some (.cells (auA v H hc M) 70)
  row : w.ownsRow 0 76 5 (.slice (some ⟨H, 0, none⟩) v.hs.length hc) v.hs.length (hos v.hs)
  map : Mt w M v.told
  sl : ∀ h ∈ v.hs, w.ownsRow 0 85 2 h.sv h.sl.length (sls h.sl)
  df : w.ownsRow 0 3 1 v.dv v.dl.length (ints v.dl)
  ms : w.ownsRow 0 3 1 v.mv v.ml.length (ints v.ml)
/-- the blocks that its calls write -/
def AuS (A H M : Nat) : Nat → Prop := fun k => k = A ∨ k = H ∨ k = M
section
variable {w w' : World} {A H hc M : Nat} {v : Au} {S : Nat → Prop}
theorem AuAt.hrow (h : AuAt w A H hc M v) : ∃ cur, w.heap[H]? = some (.cells cur 76) := own_typ h.row rfl
theorem AuAt.nAH (h : AuAt w A H hc M v) : A ≠ H := fun e => by
  obtain ⟨cur, hc⟩ := h.hrow
  have := h.blk.symm.trans (e ▸ hc)
  simp at this
theorem AuAt.nAM (h : AuAt w A H hc M v) : A ≠ M := fun e => h.map.kind (e ▸ h.blk)
theorem AuAt.nHM (h : AuAt w A H hc M v) : H ≠ M := fun e => by
  obtain ⟨cur, hc⟩ := h.hrow
  exact h.map.kind (e ▸ hc)
/-- a block of another kind is none of these -/
theorem AuAt.not (h : AuAt w A H hc M v) {k : Nat} {C : Array Value} {t : TypeId} {fr : Nat × Nat} (hk : w.heap[k]? = some (.cells C t fr)) (h1 : t ≠ 70) (h2 : t ≠ 76) : ¬ AuS A H M k := by
  rintro (rfl | rfl | rfl)
  · have := h.blk.symm.trans hk
    simp at this
    exact h1 this.2.1.symm
  · obtain ⟨cur, hc⟩ := h.hrow
    have := hc.symm.trans hk
    simp at this
    exact h2 this.2.1.symm
  · exact h.map.kind hk
theorem own_off {w : World} {b e sz n : Nat} {u : Value} {xs : List Value} {A H hc M : Nat} {v : Au} (h : AuAt w A H hc M v) (ho : w.ownsRow b e sz u n xs) (h1 : e ≠ 70) (h2 : e ≠ 76) : ∀ k, u.ownBlock = some k → ¬ AuS A H M k := fun k hk => by
  obtain ⟨cur, hc⟩ := own_typ ho hk
  exact h.not hc h1 h2
/-- all is kept but what is none of its -/
theorem AuAt.kp (h : AuAt w A H hc M v) (hk : Kp w w' S) (hS : ∀ k, (AuS A H M k ∨ ∃ C t fr, w.heap[k]? = some (.cells C t fr) ∧ (t = 85 ∨ t = 3)) → ¬ S k) : AuAt w' A H hc M v :=
  ⟨(hk.block _ (blk_lt h.blk) (hS _ (Or.inl (Or.inl rfl)))).trans h.blk, own_kp h.row hk (fun k e => hS k (Or.inl (Or.inr (Or.inl (by simpa [Value.ownBlock] using e.symm))))), h.map.kp hk (hS _ (Or.inl (Or.inr (Or.inr rfl)))), fun q hq => own_kp (h.sl q hq) hk (fun k e => by
    obtain ⟨cur, hc⟩ := own_typ (h.sl q hq) e
    exact hS k (Or.inr ⟨_, _, _, hc, Or.inl rfl⟩)), own_kp h.df hk (fun k e => by
    obtain ⟨cur, hc⟩ := own_typ h.df e
    exact hS k (Or.inr ⟨_, _, _, hc, Or.inr rfl⟩)), own_kp h.ms hk (fun k e => by
    obtain ⟨cur, hc⟩ := own_typ h.ms e
    exact hS k (Or.inr ⟨_, _, _, hc, Or.inr rfl⟩))⟩
theorem AuAt.kp0 (h : AuAt w A H hc M v) (hk : Kp w w' non) : AuAt w' A H hc M v := h.kp hk (fun _ _ f => f)
theorem AuAt.cells (h : AuAt w A H hc M v) : w.cell? ⟨A, 0, none⟩ = some (.int .i64 v.rs) ∧ w.cell? ⟨A, 1, none⟩ = some (.int .i64 v.lm) ∧ w.cell? ⟨A, 2, none⟩ = some (.int .i64 v.rp) ∧ w.cell? ⟨A, 3, none⟩ = some (.slice (some ⟨H, 0, none⟩) v.hs.length hc) ∧ w.cell? ⟨A, 4, none⟩ = some (.int .i64 v.now) ∧ w.cell? ⟨A, 5, none⟩ = some (.int .i64 v.num) ∧ w.cell? ⟨A, 6, none⟩ = some (.int .i64 v.ver) ∧ w.cell? ⟨A, 7, none⟩ = some (.map (some M)) ∧ w.cell? ⟨A, 8, none⟩ = some (.int .i64 v.jb) := by
  simp only [cell_row h.blk]
  exact ⟨rfl, rfl, rfl, rfl, rfl, rfl, rfl, rfl, rfl⟩
theorem AuAt.fz (h : AuAt w A H hc M v) (i : Nat) : w.frozen? ⟨A, i, none⟩ = false := fz_row h.blk i
theorem AuAt.fzH (h : AuAt w A H hc M v) (i : Nat) : w.frozen? ⟨H, i, none⟩ = false := by
  obtain ⟨cur, hc⟩ := h.hrow
  exact fz_row hc i
theorem AuAt.hcell (h : AuAt w A H hc M v) (q : Nat) (hq : q < v.hs.length) (j : Nat) (hj : j < 5) : w.cell? ⟨H, q * 5 + j, none⟩ = (hoV v.hs[q])[j]? := by
  have e := hos_at v.hs q hq j hj
  have hlt : j < (hoV v.hs[q]).size := hj
  rw [Array.getElem?_eq_getElem hlt] at e ⊢
  obtain ⟨g, cap, hv, hc⟩ := own_at h.row e
  injection hv with hv
  injection hv with hv
  injection hv with hv
  subst hv
  exact hc.1
theorem AuAt.hcells (h : AuAt w A H hc M v) (q : Nat) (hq : q < v.hs.length) : w.cell? ⟨H, q * 5, none⟩ = some v.hs[q].sv ∧ w.cell? ⟨H, q * 5 + 1, none⟩ = some (.int .i64 v.hs[q].stt) ∧ w.cell? ⟨H, q * 5 + 2, none⟩ = some (.int .i64 (v.hs[q].pl : Int)) ∧ w.cell? ⟨H, q * 5 + 3, none⟩ = some (.int .i64 v.hs[q].tm) ∧ w.cell? ⟨H, q * 5 + 4, none⟩ = some (.int .i64 v.hs[q].ti) :=
  ⟨h.hcell q hq 0 (by omega), h.hcell q hq 1 (by omega), h.hcell q hq 2 (by omega), h.hcell q hq 3 (by omega), h.hcell q hq 4 (by omega)⟩
/-- a holder's row is read whole -/
theorem AuAt.range (h : AuAt w A H hc M v) (q : Nat) (hq : q < v.hs.length) : w.rangeAt H (q * 5) (hoV v.hs[q]).toList := fun j u hj => by
  have hl : j < 5 := by
    have := (List.getElem?_eq_some_iff.1 hj).1
    simpa [hoV] using this
  rw [h.hcell q hq j hl]
  simpa using hj
/-- a cell of a holder is written -/
theorem AuAt.setH (h : AuAt w A H hc M v) (q : Nat) (hq : q < v.hs.length) (j : Nat) (hj : j < 5) (u : Value) (k : Ho) (hk : hoV k = (hoV v.hs[q]).set! j u) (hs1 : k.sl = v.hs[q].sl) (hs2 : k.sv = v.hs[q].sv) :
    AuAt (w.setCell ⟨H, q * 5 + j, none⟩ u) A H hc M { v with hs := v.hs.set q k } ∧ Kp w (w.setCell ⟨H, q * 5 + j, none⟩ u) (fun b => b = H) := by
  have k1 : Kp w (w.setCell ⟨H, q * 5 + j, none⟩ u) (fun b => b = H) := (Kp.refl w (fun b => b = H)).set (Or.inl rfl) _ _
  have hl : (v.hs.set q k).length = v.hs.length := List.length_set
  refine ⟨⟨?_, ?_, h.map.kp k1 (fun e => h.nHM e.symm), fun x hx => ?_, own_kp h.df k1 (fun b e q' => ?_), own_kp h.ms k1 (fun b e q' => ?_)⟩, k1⟩
  · have e : auA { v with hs := v.hs.set q k } H hc M = auA v H hc M := by unfold auA; dsimp only; rw [hl]
    rw [e]
    exact (k1.block _ (blk_lt h.blk) h.nAH).trans h.blk
  · dsimp only
    rw [hl, ← hos_set v.hs q hq j hj u k hk]
    exact own_setZ h.row _ _
  · have hin : ∃ y ∈ v.hs, x.sl = y.sl ∧ x.sv = y.sv := by
      rcases List.mem_or_eq_of_mem_set hx with q' | q'
      · exact ⟨x, q', rfl, rfl⟩
      · exact ⟨_, List.getElem_mem hq, by rw [q']; exact hs1, by rw [q']; exact hs2⟩
    obtain ⟨y, hy, e1, e2⟩ := hin
    rw [e1, e2]
    exact own_kp (h.sl y hy) k1 (fun b e q' => own_off h (h.sl y hy) (by decide) (by decide) b e (Or.inr (Or.inl q')))
  · exact own_off h h.df (by decide) (by decide) b e (Or.inr (Or.inl q'))
  · exact own_off h h.ms (by decide) (by decide) b e (Or.inr (Or.inl q'))
/-- a field of its own is written -/
theorem AuAt.setA (h : AuAt w A H hc M v) (j : Nat) (u : Value) (v' : Au) (hv : auA v' H hc M = (auA v H hc M).set! j u) (e1 : v'.hs = v.hs) (e2 : v'.told = v.told) (h1 : w.ownsRow 0 3 1 v'.dv v'.dl.length (ints v'.dl)) (h2 : w.ownsRow 0 3 1 v'.mv v'.ml.length (ints v'.ml)) :
    AuAt (w.setCell ⟨A, j, none⟩ u) A H hc M v' ∧ Kp w (w.setCell ⟨A, j, none⟩ u) (fun b => b = A) := by
  have k1 : Kp w (w.setCell ⟨A, j, none⟩ u) (fun b => b = A) := (Kp.refl w (fun b => b = A)).set (Or.inl rfl) _ _
  refine ⟨⟨?_, ?_, ?_, fun x hx => ?_, own_kp h1 k1 (fun b e q' => ?_), own_kp h2 k1 (fun b e q' => ?_)⟩, k1⟩
  · rw [heap_setCell _ _ _ _ _ _ _ h.blk, hv]
    rfl
  · rw [e1]
    exact own_kp h.row k1 (fun b e q' => h.nAH (by
      have : H = b := by simpa [Value.ownBlock] using e
      exact q'.symm.trans this.symm))
  · rw [e2]
    exact h.map.kp k1 (fun e => h.nAM e.symm)
  · rw [e1] at hx
    exact own_kp (h.sl x hx) k1 (fun b e q' => own_off h (h.sl x hx) (by decide) (by decide) b e (Or.inl q'))
  · exact own_off h h1 (by decide) (by decide) b e (Or.inl q')
  · exact own_off h h2 (by decide) (by decide) b e (Or.inl q')
end
end Go.Proofs.YteiiolilpemimaaDoor.Cn
