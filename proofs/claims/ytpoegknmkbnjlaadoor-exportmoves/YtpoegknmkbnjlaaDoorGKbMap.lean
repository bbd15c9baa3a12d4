import Derived.Test.YtpoegknmkbnjlaaDoorGCaBase
import Derived.Maps.Range
import Derived.Maps.RangeWalk
namespace Go.Proofs.YtpoegknmkbnjlaaDoor.Cn
open Go.RowKit Go.MapKept Go.Maps
open Go.ChangeMaps (setBlock heap_setBlock_same heap_setBlock_other modify_eq_set set_perm)
/-- how keys of a kind lie there -/
structure KeyT (kt : TypeId) (κ : Type) where
  enc : κ → Value
  ok : κ → Prop
  law : Keyed Tryd.prog kt
  key : ∀ k, ok k → ∃ l, keyOf Tryd.prog kt (enc k) = some l
  inj : ∀ a b, enc a = enc b → a = b
variable {kt : TypeId} {κ : Type}
def enL (T : KeyT kt κ) (L : List (κ × Value)) : List (Value × Value) := L.map fun p => (T.enc p.1, p.2)
def kvs (es : Array MapEntry) : List (Value × Value) := es.toList.map fun x => (x.key, x.val)
/-- the entries of a map, in some order -/
structure Raw (T : KeyT kt κ) (es : Array MapEntry) (clock : Nat) (L : List (κ × Value)) : Prop where
  st : Stamped es clock
  sz : es.size ≤ maxLen
  ks : ∀ p ∈ L, T.ok p.1
  pm : (kvs es).Perm (enL T L)
def Mp (T : KeyT kt κ) (w : World) (M : Nat) (L : List (κ × Value)) : Prop := ∃ es clock, w.heap[M]? = some (.map es clock) ∧ Raw T es clock L
section
variable {T : KeyT kt κ} {es : Array MapEntry} {clock : Nat} {L : List (κ × Value)} {w w' : World} {M : Nat}
theorem Raw.mem (h : Raw T es clock L) {x : MapEntry} (hx : x ∈ es.toList) : ∃ p ∈ L, x.key = T.enc p.1 ∧ x.val = p.2 := by
  have : (x.key, x.val) ∈ enL T L := h.pm.mem_iff.1 (List.mem_map.2 ⟨x, hx, rfl⟩)
  obtain ⟨p, hp, e⟩ := List.mem_map.1 this
  simp only [Prod.mk.injEq] at e
  exact ⟨p, hp, e.1.symm, e.2.symm⟩
theorem Raw.mem' (h : Raw T es clock L) {p : κ × Value} (hp : p ∈ L) : ∃ x ∈ es.toList, x.key = T.enc p.1 ∧ x.val = p.2 := by
  have : (T.enc p.1, p.2) ∈ kvs es := h.pm.mem_iff.2 (List.mem_map.2 ⟨p, hp, rfl⟩)
  obtain ⟨x, hx, e⟩ := List.mem_map.1 this
  simp only [Prod.mk.injEq] at e
  exact ⟨x, hx, e.1, e.2⟩
theorem Raw.keys (h : Raw T es clock L) : ∀ x ∈ es.toList, ∃ l, keyOf Tryd.prog kt x.key = some l := fun x hx => by
  obtain ⟨p, hp, e, _⟩ := h.mem hx
  rw [e]
  exact T.key _ (h.ks p hp)
theorem Raw.nd (h : Raw T es clock L) : (L.map (·.1)).Nodup := by
  have h1 : ((kvs es).map (·.1)).Nodup := by
    have := ((stamped_iff es clock).1 h.st).2.2
    unfold kvs List.Nodup
    rw [List.map_map, List.pairwise_map]
    exact this
  have h2 : ((enL T L).map (·.1)).Nodup := (h.pm.map _).nodup_iff.1 h1
  unfold enL at h2
  rw [List.map_map] at h2
  have e : ((fun p : Value × Value => p.1) ∘ fun p : κ × Value => (T.enc p.1, p.2)) = T.enc ∘ (fun p : κ × Value => p.1) := rfl
  rw [e, ← List.map_map] at h2
  exact (List.pairwise_map.1 h2).imp (fun h e => h (by rw [e]))
theorem Mp.nd (h : Mp T w M L) : (L.map (·.1)).Nodup := by
  obtain ⟨es, clock, _, hr⟩ := h
  exact hr.nd
theorem Mp.lt (h : Mp T w M L) : M < w.heap.size := by
  obtain ⟨es, clock, hb, _⟩ := h
  exact blk_lt hb
theorem Mp.same (h : Mp T w M L) (e : w'.heap[M]? = w.heap[M]?) : Mp T w' M L := by
  obtain ⟨es, clock, hb, hr⟩ := h
  exact ⟨es, clock, e.trans hb, hr⟩
theorem Mp.kp {S : Nat → Prop} (h : Mp T w M L) (hk : Kp w w' S) (hM : ¬ S M) : Mp T w' M L := h.same (hk.block _ h.lt hM)
theorem Mp.kind (h : Mp T w M L) {c : Array Value} {t : TypeId} {f : Nat × Nat} : w.heap[M]? ≠ some (.cells c t f) := by
  obtain ⟨es, clock, hb, _⟩ := h
  rw [hb]
  simp
theorem Mp.made (T : KeyT kt κ) (w : World) : Mp T (w.alloc (.map #[] 0)) w.heap.size [] := ⟨#[], 0, heap_last _ _, stamped_empty 0, by simp, by simp, List.Perm.refl _⟩
theorem setB_at {X : World} {o o' : Obj} (h : X.heap[M]? = some o) : (setBlock X M o').heap[M]? = some o' := by
  simp [setBlock, (Array.getElem?_eq_some_iff.1 h).1]
theorem setB_kp {X : World} {o' : Obj} : Kp X (setBlock X M o') (fun k => k = M) := ⟨rfl, rfl, rfl, by simp [setBlock], fun i _ hi => by
  simp only [setBlock]
  rw [Array.getElem?_setIfInBounds_ne (fun e => hi e.symm)]⟩
theorem Mp.ok (h : Mp T w M L) : ∀ p ∈ L, T.ok p.1 := by
  obtain ⟨es, clock, hb, hr⟩ := h
  exact hr.ks
end
theorem perm_at {α : Type} {l : List α} {j : Nat} {x : α} (h : l[j]? = some x) : l.Perm (x :: l.eraseIdx j) := by
  induction l generalizing j with
  | nil => simp at h
  | cons a r ih =>
    cases j with
    | zero =>
      simp only [List.getElem?_cons_zero, Option.some.injEq] at h
      subst h
      exact List.Perm.refl _
    | succ j =>
      rw [List.getElem?_cons_succ] at h
      exact (List.Perm.cons a (ih h)).trans (List.Perm.swap _ _ _)
variable [DecidableEq κ]
def dele {α : Type} (L : List (κ × α)) (k : κ) : List (κ × α) := L.filter (fun p => p.1 ≠ k)
def putt {α : Type} (L : List (κ × α)) (k : κ) (v : α) : List (κ × α) := dele L k ++ [(k, v)]
section
variable {T : KeyT kt κ} {es : Array MapEntry} {clock : Nat} {L : List (κ × Value)} {w w' : World} {M : Nat}
theorem filter_ne_all {α : Type} {L : List (κ × α)} {k : κ} (h : ∀ p ∈ L, p.1 ≠ k) : dele L k = L := List.filter_eq_self.2 (by simpa using h)
theorem perm_split {α : Type} {L : List (κ × α)} (hn : (L.map (·.1)).Nodup) {p : κ × α} (hp : p ∈ L) : L.Perm (p :: dele L p.1) := by
  induction L with
  | nil => simp at hp
  | cons a r ih =>
    rw [List.map_cons, List.nodup_cons] at hn
    by_cases e : a.1 = p.1
    · have ea : a = p := by
        rcases List.mem_cons.1 hp with rfl | hp'
        · rfl
        · exact absurd (List.mem_map.2 ⟨p, hp', e.symm⟩) hn.1
      subst ea
      have : dele (a :: r) a.1 = r := by
        unfold dele
        rw [List.filter_cons_of_neg (by simp)]
        exact filter_ne_all (fun q hq eq => hn.1 (List.mem_map.2 ⟨q, hq, eq⟩))
      rw [this]
    · have hp' : p ∈ r := by
        rcases List.mem_cons.1 hp with rfl | hp'
        · exact absurd rfl e
        · exact hp'
      have : dele (a :: r) p.1 = a :: dele r p.1 := by
        unfold dele
        rw [List.filter_cons_of_pos (by simpa using e)]
      rw [this]
      exact (List.Perm.cons a (ih hn.2 hp')).trans (List.Perm.swap _ _ _)
/-- 'm[k] = v' -/
theorem Mp.put {t e : TypeId} (h : Mp T w M L) (ht : Tryd.prog.underlying t = some (.map kt e)) {k : κ} (hk : T.ok k) (v : Value) (hl : L.length < maxLen) :
    ∃ X, (Instr.mapUpdate t (.map (some M)) (T.enc k) v).run Tryd.prog w = .ok () X ∧ Mp T X M (putt L k v) ∧ Kp w X (fun b => b = M) := by
  obtain ⟨es, clock, hb, hr⟩ := h
  obtain ⟨kl, hkey⟩ := T.key k hk
  have hsz : es.size = L.length := by
    have := hr.pm.length_eq
    simpa [kvs, enL] using this
  have oks : ∀ p ∈ putt L k v, T.ok p.1 := fun p hp => by
    rcases List.mem_append.1 hp with hp | hp
    · exact hr.ks p (List.mem_filter.1 hp).1
    · rw [List.mem_singleton.1 hp]; exact hk
  rcases T.law.find w hkey es.toList hr.keys with ⟨h1, h2⟩ | ⟨j, e0, h1, h2, h3⟩
  · refine ⟨setBlock w M (.map (es.push ⟨T.enc k, v, clock⟩) (clock + 1)), ?_, ⟨_, _, setB_at hb, stamped_push hr.st h2, by simp; omega, oks, ?_⟩, setB_kp⟩
    · simp [Instr.mapUpdate, run_underlying ht, MapKept.run_getObj_map hb, T.law.check w false hkey, h1, MapKept.run_setObj_map _ hb, Result.andThen, setBlock]
    · have hn : dele L k = L := filter_ne_all (fun p hp ep => by
        obtain ⟨x, hx, ex, _⟩ := hr.mem' hp
        exact h2 x hx (by rw [ex, ep]))
      unfold putt
      rw [hn]
      have := hr.pm
      unfold kvs enL at *
      simp only [Array.toList_push, List.map_append, List.map_cons, List.map_nil]
      exact this.append_right _
  · have hj : es[j]? = some e0 := by simpa using h2
    have hjl : j < es.toList.length := (List.getElem?_eq_some_iff.1 h2).1
    have hlist : (es.modify j (fun e' => { e' with key := T.enc k, val := v })).toList = es.toList.set j { e0 with key := T.enc k, val := v } := by rw [Array.toList_modify, modify_eq_set _ _ _ _ h2]
    refine ⟨setBlock w M (.map (es.modify j (fun e' => { e' with key := T.enc k, val := v })) clock), ?_, ⟨_, _, setB_at hb, stamped_modify hr.st _ _ (fun _ _ => rfl) (fun e' _ he' => by rw [hj] at he'; cases he'; exact h3.symm), by simpa using hr.sz, oks, ?_⟩, setB_kp⟩
    · simp [Instr.mapUpdate, run_underlying ht, MapKept.run_getObj_map hb, T.law.check w false hkey, h1, hj, h3, T.law.stays w hkey, MapKept.run_setObj_map _ hb, Result.andThen, setBlock]
    · have hx : e0 ∈ es.toList := List.mem_of_getElem? h2
      obtain ⟨p, hp, ep, ev⟩ := hr.mem hx
      have pk : p.1 = k := T.inj _ _ (ep.symm.trans h3)
      unfold kvs
      rw [hlist, List.map_set]
      refine (set_perm _ _ (by simpa using hjl) _).trans ?_
      have e1 : ((es.toList.map fun x => (x.key, x.val)).eraseIdx j).Perm (enL T (dele L k)) := by
        have a1 : (es.toList.map fun x => (x.key, x.val)).Perm ((e0.key, e0.val) :: (es.toList.map fun x => (x.key, x.val)).eraseIdx j) := perm_at (by simp [h2])
        have a2 : (enL T L).Perm ((e0.key, e0.val) :: enL T (dele L k)) := by
          have := (perm_split hr.nd hp).map (fun p : κ × Value => (T.enc p.1, p.2))
          rw [List.map_cons, ← ep, ← ev, pk] at this
          exact this
        exact (a1.symm.trans (hr.pm.trans a2)).cons_inv
      unfold putt enL
      rw [List.map_append]
      exact (List.Perm.cons _ e1).trans (List.perm_append_singleton _ _).symm
end
end Go.Proofs.YtpoegknmkbnjlaaDoor.Cn
namespace Go.Proofs.YtpoegknmkbnjlaaDoor.Cn
open Go.RowKit Go.MapKept Go.Maps
open Go.ChangeMaps (setBlock heap_setBlock_same heap_setBlock_other modify_eq_set set_perm)
variable {kt : TypeId} {κ : Type}
/-- a range over a map under way: 'rest' is still to come -/
def Rg (T : KeyT kt κ) (w : World) (M r : Nat) (L rest : List (κ × Value)) : Prop :=
  ∃ es clock since seen c0, w.heap[M]? = some (.map es clock) ∧ Raw T es clock L ∧ w.heap[r]? = some (.mapIter (some M) since seen c0) ∧ (∀ x ∈ es.toList, x.born < since) ∧ since ≤ c0 ∧ since ≤ clock ∧ (((leftOf es seen).toList.map fun x => (x.key, x.val)).Perm (enL T rest)) ∧ (∀ p ∈ rest, p ∈ L)
section
variable {T : KeyT kt κ} {L rest : List (κ × Value)} {w w' : World} {M r : Nat}
theorem Rg.mp (h : Rg T w M r L rest) : Mp T w M L := by
  obtain ⟨es, clock, since, seen, c0, h1, h2, _⟩ := h
  exact ⟨es, clock, h1, h2⟩
theorem Rg.ne (h : Rg T w M r L rest) : r ≠ M := by
  obtain ⟨es, clock, since, seen, c0, h1, h2, h3, _⟩ := h
  rintro rfl
  rw [h1] at h3
  simp at h3
theorem Rg.lt (h : Rg T w M r L rest) : r < w.heap.size := by
  obtain ⟨es, clock, since, seen, c0, h1, h2, h3, _⟩ := h
  exact blk_lt h3
theorem Rg.kp {S : Nat → Prop} (h : Rg T w M r L rest) (hk : Kp w w' S) (hM : ¬ S M) (hr : ¬ S r) : Rg T w' M r L rest := by
  have l1 := h.mp.lt
  have l2 := h.lt
  obtain ⟨es, clock, since, seen, c0, h1, h2, h3, h4⟩ := h
  exact ⟨es, clock, since, seen, c0, (hk.block _ l1 hM).trans h1, h2, (hk.block _ l2 hr).trans h3, h4⟩
theorem Rg.left (h : Rg T w M r L rest) : w.rangeLeft M r = rest.length := by
  obtain ⟨es, clock, since, seen, c0, h1, h2, h3, h4, h5, h6, h7, h8⟩ := h
  unfold World.rangeLeft
  rw [h1, h3]
  have := h7.length_eq
  simpa [enL] using this
/-- 'range m' -/
theorem Mp.range {t e : TypeId} (h : Mp T w M L) (ht : Tryd.prog.underlying t = some (.map kt e)) :
    ∃ X, (Instr.range t (.map (some M))).run Tryd.prog w = .ok (.pointer (some ⟨w.heap.size, 0, none⟩)) X ∧ Rg T X M w.heap.size L L ∧ Below w.heap.size w X ∧ X.heap.size = w.heap.size + 1 := by
  have hlt := h.lt
  obtain ⟨es, clock, hb, hr⟩ := h
  refine ⟨_, run_range_map w t kt e M es clock ht hb, ⟨es, clock, clock, #[], clock, ((MapKept.heap_alloc w _).2 M hlt).trans hb, hr, (MapKept.heap_alloc w _).1, ((stamped_iff es clock).1 hr.st).1, Nat.le_refl _, Nat.le_refl _, ?_, fun _ q => q⟩, (Below.refl _ w).alloc (Nat.le_refl _) _, by simp⟩
  have : leftOf es #[] = es := by simp [leftOf]
  rw [this]
  exact hr.pm
theorem flt_push (l : List MapEntry) (seen : Array Nat) (e : MapEntry) (hn : (l.map (·.born)).Nodup) (he : e ∈ l.filter fun x => !seen.contains x.born) : (l.filter fun x => !seen.contains x.born).Perm (e :: l.filter fun x => !(seen.push e.born).contains x.born) := by
  induction l with
  | nil => simp at he
  | cons a r ih =>
    rw [List.map_cons, List.nodup_cons] at hn
    have hs := (List.mem_filter.1 he).2
    by_cases ea : a.born = e.born
    · have hae : a = e := by
        have hm := (List.mem_filter.1 he).1
        rcases List.mem_cons.1 hm with h | h
        · exact h.symm
        · exact absurd (List.mem_map.2 ⟨e, h, ea.symm⟩) hn.1
      subst hae
      have h2 : (seen.push a.born).contains a.born = true := by rw [contains_push]; simp
      have : (r.filter fun x => !seen.contains x.born) = r.filter fun x => !(seen.push a.born).contains x.born := by
        refine List.filter_congr (fun x hx => ?_)
        rw [contains_push]
        have : (x.born == a.born) = false := by
          rw [beq_eq_false_iff_ne]
          exact fun e2 => hn.1 (List.mem_map.2 ⟨x, hx, e2⟩)
        rw [this, Bool.or_false]
      simp only [List.filter_cons, hs, h2, if_true, Bool.not_true, Bool.false_eq_true, if_false]
      rw [this]
    · have hm : e ∈ r.filter fun x => !seen.contains x.born := by
        obtain ⟨h1, h2⟩ := List.mem_filter.1 he
        rcases List.mem_cons.1 h1 with h | h
        · exact absurd (by rw [h]) ea
        · exact List.mem_filter.2 ⟨h, h2⟩
      have hq : (seen.push e.born).contains a.born = seen.contains a.born := by
        rw [contains_push]
        have : (a.born == e.born) = false := by rw [beq_eq_false_iff_ne]; exact ea
        rw [this, Bool.or_false]
      have i1 := ih hn.2 hm
      cases hc : seen.contains a.born
      · simp only [List.filter_cons, hq, hc, Bool.not_false, if_true]
        exact (List.Perm.cons _ i1).trans (List.Perm.swap _ _ _)
      · simp only [List.filter_cons, hq, hc, Bool.not_true, Bool.false_eq_true, if_false]
        exact i1
theorem left_push {es : Array MapEntry} {seen : Array Nat} {e : MapEntry} (hn : (es.toList.map (·.born)).Nodup) (he : e ∈ (leftOf es seen).toList) : (leftOf es seen).toList.Perm (e :: (leftOf es (seen.push e.born)).toList) := by
  have e1 : ∀ s : Array Nat, (leftOf es s).toList = es.toList.filter fun x => !s.contains x.born := fun s => by
    unfold leftOf
    rw [← Array.toList_filter]
  rw [e1] at he ⊢
  rw [e1]
  exact flt_push _ _ _ hn he
/-- the step -/
theorem Rg.next (h : Rg T w M r L rest) (ty : TypeId) :
    (rest = [] ∧ (Instr.next (.pointer (some ⟨r, 0, none⟩)) false ty).run Tryd.prog w = .ok (.tuple #[.bool false]) w) ∨
    ∃ p rest' X, rest.Perm (p :: rest') ∧ p ∈ L ∧ (Instr.next (.pointer (some ⟨r, 0, none⟩)) false ty).run Tryd.prog w = .ok (.tuple #[.bool true, T.enc p.1, p.2]) X ∧ Rg T X M r L rest' ∧ Kp w X (fun b => b = r) ∧ X.heap.size = w.heap.size ∧ (Instr.entry (.pointer (some ⟨r, 0, none⟩))).run Tryd.prog X = .ok (.tuple #[T.enc p.1, p.2]) X := by
  have hne := h.ne
  obtain ⟨es, clock, since, seen, c0, hb, hr, hi, hold, hsc, hsk, hpm, hsb⟩ := h
  rcases run_next_at (P := Tryd.prog) w ty r M since c0 seen es clock hi hb hold hsc with ⟨h0, hrun⟩ | ⟨e, he, w1, hal, hrun⟩
  · left
    refine ⟨?_, hrun⟩
    have := hpm.length_eq
    simp only [List.length_map, Array.length_toList, h0, enL] at this
    exact List.length_eq_zero_iff.1 this.symm
  · right
    have hmem := (mem_left he).1
    have hin : (e.key, e.val) ∈ enL T rest := hpm.mem_iff.1 (List.mem_map.2 ⟨e, he, rfl⟩)
    obtain ⟨p, hp, ep⟩ := List.mem_map.1 hin
    simp only [Prod.mk.injEq] at ep
    obtain ⟨q1, q2⟩ := ep
    obtain ⟨l1, l2, hl⟩ := List.append_of_mem hp
    have hperm : rest.Perm (p :: (l1 ++ l2)) := by rw [hl]; exact List.perm_middle
    have hnd := ((stamped_iff es clock).1 hr.st).2.1
    have hi1 : w1.heap[r]? = some (.mapIter (some M) since seen c0) := by rcases hal with rfl | rfl <;> exact hi
    have hb1 : w1.heap[M]? = some (.map es clock) := by rcases hal with rfl | rfl <;> exact hb
    have k1 : Kp w w1 non := by rcases hal with rfl | rfl; exact Kp.refl _ _; exact (Kp.refl w _).drew
    have hb' : (setBlock w1 r (.mapIter (some M) since (seen.push e.born) clock)).heap[M]? = some (.map es clock) := (setB_kp.block M (blk_lt hb1) (fun e => hne e.symm)).trans hb1
    have hn : ((leftOf es (seen.push e.born)).toList.map fun x => (x.key, x.val)).Perm (enL T (l1 ++ l2)) := by
      have a1 := (left_push hnd he).map (fun x : MapEntry => (x.key, x.val))
      have a2 : (enL T rest).Perm ((e.key, e.val) :: enL T (l1 ++ l2)) := by
        have := hperm.map (fun p : κ × Value => (T.enc p.1, p.2))
        rw [List.map_cons, q1, q2] at this
        exact this
      exact (a1.symm.trans (hpm.trans a2)).cons_inv
    refine ⟨p, l1 ++ l2, _, hperm, hsb p hp, by rw [q1, q2]; exact hrun, ⟨es, clock, since, seen.push e.born, clock, hb', hr, setB_at hi1, hold, hsk, hsk, hn, fun q hq => hsb q (hperm.mem_iff.2 (List.mem_cons_of_mem _ hq))⟩, (k1.mono (T := fun b => b = r) (fun _ f => f.elim)).trans setB_kp (fun k e => Or.inl e), ?_, ?_⟩
    · rcases hal with rfl | rfl <;> simp [setBlock]
    · rw [q1, q2]
      exact run_entry_at _ r M since seen es clock e (setB_at hi1) hb' hmem hnd
end
end Go.Proofs.YtpoegknmkbnjlaaDoor.Cn
namespace Go.Proofs.YtpoegknmkbnjlaaDoor.Cn
open Go.RowKit Go.MapKept Go.Maps
variable {kt : TypeId} {κ : Type} {T : KeyT kt κ}
end Go.Proofs.YtpoegknmkbnjlaaDoor.Cn
namespace Go.Proofs.YtpoegknmkbnjlaaDoor.Cn
open Go.RowKit
/-- ints, as cells -/
def ints (L : List Int) : List Value := L.map fun n : Int => .int .i64 n
theorem ints_at (L : List Int) (q : Nat) : (ints L)[q]? = (L[q]?).map fun n : Int => .int .i64 n := by simp [ints]
theorem ints_append (a b : List Int) : ints (a ++ b) = ints a ++ ints b := by simp [ints]
theorem ints_one (L : List Int) : ∀ u ∈ ints L, u.oneCell' = true := by
  intro u hu
  obtain ⟨n, _, rfl⟩ := List.mem_map.1 hu
  rfl
theorem int_infos : (Tryd.prog.info? 3).map (fun i => (i.zero, i.size, i.bytes)) = some (some (.int .i64 0), 1, 8) := by kernel_rfl
theorem info_parts {t : TypeId} {z : Value} {n m : Nat} (h : (Tryd.prog.info? t).map (fun i => (i.zero, i.size, i.bytes)) = some (some z, n, m)) : ∃ i, Tryd.prog.info? t = some i ∧ i.zero = some z ∧ i.size = n ∧ i.bytes = m := by
  cases e : Tryd.prog.info? t with
  | none => rw [e] at h; simp at h
  | some i =>
    rw [e] at h
    simp only [Option.map_some, Option.some.injEq, Prod.mk.injEq] at h
    exact ⟨i, rfl, h.1, h.2.1, h.2.2⟩
theorem own_base {w : World} {base base' e sz n : Nat} {v : Value} {xs : List Value} (h : w.ownsRow base e sz v n xs) (hb : base' ≤ base) : w.ownsRow base' e sz v n xs := by
  refine ⟨h.1, ?_⟩
  rcases h.2 with ⟨hv, hz⟩ | ⟨g, cap, cur, hv, h1, h2⟩
  · exact .inl ⟨hv, hz⟩
  · exact .inr ⟨g, cap, cur, hv, Nat.le_trans hb h1, h2⟩
theorem own_ge {X : World} {base e sz n g : Nat} {v : Value} {xs : List Value} (h : X.ownsRow base e sz v n xs) (hg : v.ownBlock = some g) : base ≤ g := by
  rcases h.2 with ⟨rfl, _⟩ | ⟨g', cap, cur, rfl, hb, hg', hr⟩
  · simp [Value.ownBlock] at hg
  · simp [Value.ownBlock] at hg
    subst hg
    exact hb
theorem own_typ {X : World} {base e sz n g : Nat} {v : Value} {xs : List Value} (h : X.ownsRow base e sz v n xs) (hg : v.ownBlock = some g) : ∃ cur, X.heap[g]? = some (.cells cur e (0, 0)) := by
  rcases h.2 with ⟨rfl, _⟩ | ⟨g', cap, cur, rfl, hb, hg', hr⟩
  · simp [Value.ownBlock] at hg
  · simp [Value.ownBlock] at hg
    subst hg
    exact ⟨cur, hg'⟩
theorem own_lt {X : World} {base e sz n g : Nat} {v : Value} {xs : List Value} (h : X.ownsRow base e sz v n xs) (hg : v.ownBlock = some g) : g < X.heap.size := by
  obtain ⟨cur, hc⟩ := own_typ h hg
  exact blk_lt hc
/-- a cell of a row -/
theorem own_at {X : World} {base e sz n : Nat} {v : Value} {xs : List Value} (h : X.ownsRow base e sz v n xs) {j : Nat} {u : Value} (hj : xs[j]? = some u) : ∃ g cap, v = .slice (some ⟨g, 0, none⟩) n cap ∧ X.cell? ⟨g, j, none⟩ = some u ∧ X.frozen? ⟨g, j, none⟩ = false := by
  have hl := (List.getElem?_eq_some_iff.1 hj).1
  rcases h.2 with ⟨_, hz⟩ | ⟨g, cap, cur, rfl, h1, h2, h3, h4, h5, h6⟩
  · have := h.1
    rw [hz] at this
    omega
  · refine ⟨g, cap, rfl, ?_, ?_⟩
    · rw [cell_row h2]
      rw [← h6, List.getElem?_take] at hj
      split at hj
      · simpa using hj
      · simp at hj
    · exact fz_row h2 j
theorem own_setZ {w : World} {base e sz n g cap : Nat} {xs : List Value} (h : w.ownsRow base e sz (.slice (some ⟨g, 0, none⟩) n cap) n xs) (k : Nat) (u : Value) : (w.setCell ⟨g, k, none⟩ u).ownsRow base e sz (.slice (some ⟨g, 0, none⟩) n cap) n (xs.set k u) := by
  refine ⟨by rw [List.length_set]; exact h.1, ?_⟩
  rcases h.2 with ⟨hv, _⟩ | ⟨g', cap', cur, hv, h1, h2, h3, h4, h5, h6⟩
  · cases hv
  · injection hv with e1 e2 e3
    injection e1 with e1
    injection e1 with e1
    subst e1 e3
    refine .inr ⟨g, cap, cur.setIfInBounds k u, rfl, h1, heap_setCell _ _ _ _ _ _ _ h2, h3, h4, by simpa using h5, ?_⟩
    rw [Array.toList_setIfInBounds, List.take_set, h6]
theorem own_below {w w' : World} {base e sz n : Nat} {v : Value} {xs : List Value} (h : w.ownsRow base e sz v n xs) (hb : Below w.heap.size w w') : w'.ownsRow base e sz v n xs := own_kp h (Kp.of_below hb non) (fun _ _ f => f)
theorem set_row {w : World} {b : Nat} {A : Array Value} {t : TypeId} (h : w.heap[b]? = some (.cells A t)) (i : Nat) (v : Value) : (w.setCell ⟨b, i, none⟩ v).heap[b]? = some (.cells (A.setIfInBounds i v) t) := heap_setCell _ _ _ _ _ _ _ h
/-- answers so far -/
theorem Kp.row {w w' : World} {S : Nat → Prop} {b : Nat} (h : Kp w w' S) (hb : S b ∨ w.heap.size ≤ b) (A : Array Value) : Kp w (w'.setRow b A) S :=
  h.trans (T := fun k => k = b) ⟨rfl, rfl, rfl, by simp [World.setRow], fun k _ hk => setRow_other _ _ _ _ hk⟩ (fun k hk => by subst hk; exact hb)
theorem exec_ldR {ρ : Operand → Value} {o : Oper} {w : World} {b : Nat} {A : Array Value} (ty : TypeId) (x : Operand) (ho : o.op = .load ty x) (hx : ρ x = .pointer (some ⟨b, 0, none⟩)) (t : TypeId) (hO : w.heap[b]? = some (.cells A t)) {fs} (hu : Tryd.prog.underlying ty = some (.struct fs)) (hi : (Tryd.prog.info? ty).map (·.size) = some A.size) : (execOp ρ o).run Tryd.prog w = .ok (.value (.agg A)) w := by
  have hl : (Instr.loadAt ty (.pointer (some ⟨b, 0, none⟩))).run Tryd.prog w = .ok (.agg A) w := by
    simp only [Instr.loadAt, Instr.sureAddr, Sem.run_bind, Sem.run_pure, Result.andThen]
    exact run_loadVar_row _ _ t ty A (0, 0) _ hO hu rfl hi
  unfold execOp
  simp only [ho, hx, Sem.run_bind, hl, Result.andThen_ok, Sem.run_pure]
end Go.Proofs.YtpoegknmkbnjlaaDoor.Cn
namespace Go.Proofs.YtpoegknmkbnjlaaDoor.Cn
open Go.RowKit
/-- pairs, as cells -/
def prV (p : Pr) : Array Value := #[.string p.k, .string p.v]
def prs (l : List Pr) : List Value := l.flatMap fun p => (prV p).toList
theorem prs_append (a b : List Pr) : prs (a ++ b) = prs a ++ prs b := List.flatMap_append
theorem prs_one (p : Pr) : prs [p] = (prV p).toList := by unfold prs; rw [List.flatMap_cons, List.flatMap_nil, List.append_nil]
theorem prs_oneCell (L : List Pr) : ∀ u ∈ prs L, u.oneCell' = true := by
  intro u hu
  unfold prs at hu
  obtain ⟨m, _, hm⟩ := List.mem_flatMap.1 hu
  simp [prV] at hm
  rcases hm with rfl | rfl <;> rfl
theorem prs_at (L : List Pr) (q : Nat) (h : q < L.length) (j : Nat) (hj : j < 2) : (prs L)[q * 2 + j]? = (prV L[q])[j]? := by
  induction L generalizing q with
  | nil => simp at h
  | cons a r ih =>
    cases q with
    | zero =>
      unfold prs
      rw [List.flatMap_cons, Nat.zero_mul, Nat.zero_add, List.getElem?_append_left (by simpa [prV] using hj)]
      simp
    | succ q =>
      have h' : q < r.length := by simpa using h
      have := ih q h'
      unfold prs at *
      rw [List.flatMap_cons, show (q + 1) * 2 + j = (prV a).toList.length + (q * 2 + j) by simp [prV]; omega, List.getElem?_append_right (by omega), Nat.add_sub_cancel_left]
      exact this
/-- where the lists of an exporter lie -/
structure Zz where
  rv : Value
  zs : List Value
  tp : Value
  tm : Value
  rd : Value
  lp : Value
  lm : Value
/-- an exporter, as cells -/
def exA (v : Ex) (Z : Zz) : Array Value := #[.int .i64 v.gw, Z.rv, .int .i64 v.now, .int .i64 v.told.jb, .int .i64 v.told.vr, Z.tp, Z.tm, .int .i64 (v.part : Int), .int .i64 (v.left : Int), Z.rd, .int .i64 v.wf, .int .i64 v.wj, .int .i64 v.wp, .int .i64 v.wv, .int .i64 v.wl, .int .i64 v.at_, .int .i64 v.last.jb, .int .i64 v.last.vr, Z.lp, Z.lm]
/-- its lists -/
structure Ow (w : World) (v : Ex) (Z : Zz) : Prop where
  rows : w.ownsRow 0 48 1 Z.rv v.rows.length Z.zs
  row : ∀ p (h : p < v.rows.length), ∃ u, Z.zs[p]? = some u ∧ w.ownsRow 0 3 1 u v.rows[p].length (ints v.rows[p])
  tp : w.ownsRow 0 89 2 Z.tp v.told.ps.length (prs v.told.ps)
  tm : w.ownsRow 0 3 1 Z.tm v.told.ms.length (ints v.told.ms)
  rd : w.ownsRow 0 89 2 Z.rd v.rd.length (prs v.rd)
  lp : w.ownsRow 0 89 2 Z.lp v.last.ps.length (prs v.last.ps)
  lm : w.ownsRow 0 3 1 Z.lm v.last.ms.length (ints v.last.ms)
  d1 : ∀ k, Z.tp.ownBlock = some k → Z.rd.ownBlock ≠ some k ∧ Z.lp.ownBlock ≠ some k
  d2 : ∀ k, Z.rd.ownBlock = some k → Z.lp.ownBlock ≠ some k
  d3 : ∀ k, Z.tm.ownBlock = some k → Z.lm.ownBlock ≠ some k ∧ ∀ u ∈ Z.zs, u.ownBlock ≠ some k
structure ExAt (w : World) (X : Nat) (v : Ex) (Z : Zz) : Prop where
  blk : w.heap[X]? = some (.cells (exA v Z) 70)
  ow : Ow w v Z
/-- the blocks that its calls write -/
def Fp (X : Nat) (Z : Zz) : Nat → Prop := fun k => k = X ∨ Z.tp.ownBlock = some k ∨ Z.tm.ownBlock = some k ∨ Z.rd.ownBlock = some k
/-- all its blocks -/
def Ap (X : Nat) (Z : Zz) : Nat → Prop := fun k => Fp X Z k ∨ Z.rv.ownBlock = some k ∨ Z.lp.ownBlock = some k ∨ Z.lm.ownBlock = some k ∨ ∃ u ∈ Z.zs, u.ownBlock = some k
section
variable {w w' : World} {X : Nat} {v v' : Ex} {Z Z' : Zz} {S : Nat → Prop}
theorem Ow.kp (h : Ow w v Z) (hk : Kp w w' S) (hS : ∀ k, (Z.tp.ownBlock = some k ∨ Z.tm.ownBlock = some k ∨ Z.rd.ownBlock = some k ∨ Z.rv.ownBlock = some k ∨ Z.lp.ownBlock = some k ∨ Z.lm.ownBlock = some k ∨ ∃ u ∈ Z.zs, u.ownBlock = some k) → ¬ S k) : Ow w' v Z :=
  ⟨own_kp h.rows hk (fun k e => hS k (by simp [e])), fun p hp => by
    obtain ⟨u, hu, ho⟩ := h.row p hp
    exact ⟨u, hu, own_kp ho hk (fun k e => hS k (Or.inr (Or.inr (Or.inr (Or.inr (Or.inr (Or.inr ⟨u, List.mem_of_getElem? hu, e⟩)))))))⟩, own_kp h.tp hk (fun k e => hS k (by simp [e])), own_kp h.tm hk (fun k e => hS k (by simp [e])), own_kp h.rd hk (fun k e => hS k (by simp [e])), own_kp h.lp hk (fun k e => hS k (by simp [e])), own_kp h.lm hk (fun k e => hS k (by simp [e])), h.d1, h.d2, h.d3⟩
theorem Ow.kp0 (h : Ow w v Z) (hk : Kp w w' non) : Ow w' v Z := h.kp hk (fun _ _ f => f)
/-- what lies in a block of another kind -/
theorem Ow.kind (h : Ow w v Z) {k : Nat} (hk : Z.tp.ownBlock = some k ∨ Z.tm.ownBlock = some k ∨ Z.rd.ownBlock = some k ∨ Z.rv.ownBlock = some k ∨ Z.lp.ownBlock = some k ∨ Z.lm.ownBlock = some k ∨ ∃ u ∈ Z.zs, u.ownBlock = some k) : ∃ cur t, w.heap[k]? = some (.cells cur t (0, 0)) ∧ (t = 89 ∨ t = 3 ∨ t = 48) := by
  rcases hk with e | e | e | e | e | e | ⟨u, hu, e⟩
  · obtain ⟨c, hc⟩ := own_typ h.tp e; exact ⟨c, _, hc, Or.inl rfl⟩
  · obtain ⟨c, hc⟩ := own_typ h.tm e; exact ⟨c, _, hc, Or.inr (Or.inl rfl)⟩
  · obtain ⟨c, hc⟩ := own_typ h.rd e; exact ⟨c, _, hc, Or.inl rfl⟩
  · obtain ⟨c, hc⟩ := own_typ h.rows e; exact ⟨c, _, hc, Or.inr (Or.inr rfl)⟩
  · obtain ⟨c, hc⟩ := own_typ h.lp e; exact ⟨c, _, hc, Or.inl rfl⟩
  · obtain ⟨c, hc⟩ := own_typ h.lm e; exact ⟨c, _, hc, Or.inr (Or.inl rfl)⟩
  · obtain ⟨p, hp, rfl⟩ := List.getElem_of_mem hu
    have hl : Z.zs.length = v.rows.length * 1 := h.rows.1
    obtain ⟨u', hu', ho⟩ := h.row p (by omega)
    rw [List.getElem?_eq_getElem hp] at hu'
    injection hu' with hu'
    rw [hu'] at e
    obtain ⟨c, hc⟩ := own_typ ho e
    exact ⟨c, _, hc, Or.inr (Or.inl rfl)⟩
theorem Ow.notX (h : Ow w v Z) {C : Array Value} {fr : Nat × Nat} (hX : w.heap[X]? = some (.cells C 70 fr)) {k : Nat} (hk : Z.tp.ownBlock = some k ∨ Z.tm.ownBlock = some k ∨ Z.rd.ownBlock = some k ∨ Z.rv.ownBlock = some k ∨ Z.lp.ownBlock = some k ∨ Z.lm.ownBlock = some k ∨ ∃ u ∈ Z.zs, u.ownBlock = some k) : k ≠ X := fun e => by
  obtain ⟨c, t, hc, ht⟩ := h.kind hk
  rw [e, hX] at hc
  simp at hc
  rcases ht with q | q | q <;> rw [q] at hc <;> simp at hc
/-- the block X is written -/
theorem Ow.setX (h : Ow w v Z) {C : Array Value} {fr : Nat × Nat} (hX : w.heap[X]? = some (.cells C 70 fr)) (hk : Kp w w' (fun k => k = X)) : Ow w' v Z := h.kp hk (fun _ hk' e => h.notX hX hk' e)
theorem ExAt.kp (h : ExAt w X v Z) (hk : Kp w w' S) (hS : ∀ k, Ap X Z k → ¬ S k) : ExAt w' X v Z :=
  ⟨(hk.block _ (blk_lt h.blk) (hS _ (Or.inl (Or.inl rfl)))).trans h.blk, h.ow.kp hk (fun k hk' => hS k (by
    rcases hk' with e | e | e | e | e | e | e
    · exact Or.inl (Or.inr (Or.inl e))
    · exact Or.inl (Or.inr (Or.inr (Or.inl e)))
    · exact Or.inl (Or.inr (Or.inr (Or.inr e)))
    · exact Or.inr (Or.inl e)
    · exact Or.inr (Or.inr (Or.inl e))
    · exact Or.inr (Or.inr (Or.inr (Or.inl e)))
    · exact Or.inr (Or.inr (Or.inr (Or.inr e)))))⟩
theorem ExAt.kp0 (h : ExAt w X v Z) (hk : Kp w w' non) : ExAt w' X v Z := h.kp hk (fun _ _ f => f)
theorem Ap.kind (h : ExAt w X v Z) {k : Nat} (hk : Ap X Z k) : ∃ cur t, w.heap[k]? = some (.cells cur t (0, 0)) ∧ (t = 89 ∨ t = 3 ∨ t = 48 ∨ t = 70) := by
  rcases hk with (e | e | e | e) | e | e | e | e
  · exact ⟨_, _, e ▸ h.blk, Or.inr (Or.inr (Or.inr rfl))⟩
  all_goals
    obtain ⟨c, t, hc, ht⟩ := h.ow.kind (k := k) (by simp [e])
    exact ⟨c, t, hc, by rcases ht with q | q | q <;> simp [q]⟩
/-- a block of another kind is none of its -/
theorem ExAt.not (h : ExAt w X v Z) {k : Nat} {C : Array Value} {t : TypeId} {fr : Nat × Nat} (hk : w.heap[k]? = some (.cells C t fr)) (ht : t ≠ 89 ∧ t ≠ 3 ∧ t ≠ 48 ∧ t ≠ 70) : ¬ Ap X Z k := fun e => by
  obtain ⟨c, t', hc, q⟩ := Ap.kind h e
  rw [hk] at hc
  simp at hc
  have e2 := hc.2.1
  rcases q with q | q | q | q
  · exact ht.1 (e2.trans q)
  · exact ht.2.1 (e2.trans q)
  · exact ht.2.2.1 (e2.trans q)
  · exact ht.2.2.2 (e2.trans q)
theorem ExAt.lt (h : ExAt w X v Z) {k : Nat} (hk : Ap X Z k) : k < w.heap.size := by
  obtain ⟨c, t, hc, _⟩ := Ap.kind h hk
  exact blk_lt hc
theorem ex_cells (h : w.heap[X]? = some (.cells (exA v Z) 70)) : w.cell? ⟨X, 0, none⟩ = some (.int .i64 v.gw) ∧ w.cell? ⟨X, 1, none⟩ = some Z.rv ∧ w.cell? ⟨X, 2, none⟩ = some (.int .i64 v.now) ∧ w.cell? ⟨X, 3, none⟩ = some (.int .i64 v.told.jb) ∧ w.cell? ⟨X, 4, none⟩ = some (.int .i64 v.told.vr) ∧ w.cell? ⟨X, 5, none⟩ = some Z.tp ∧ w.cell? ⟨X, 6, none⟩ = some Z.tm ∧ w.cell? ⟨X, 7, none⟩ = some (.int .i64 (v.part : Int)) ∧ w.cell? ⟨X, 8, none⟩ = some (.int .i64 (v.left : Int)) ∧ w.cell? ⟨X, 9, none⟩ = some Z.rd ∧ w.cell? ⟨X, 15, none⟩ = some (.int .i64 v.at_) ∧ w.cell? ⟨X, 16, none⟩ = some (.int .i64 v.last.jb) := by
  simp only [cell_row h]
  exact ⟨rfl, rfl, rfl, rfl, rfl, rfl, rfl, rfl, rfl, rfl, rfl, rfl⟩
end
/-- what a call leaves: the exporter is v', nothing but its own blocks is written, it has no more old blocks than before -/
structure Lv (w w' : World) (X : Nat) (Z : Zz) (v' : Ex) (Z' : Zz) : Prop where
  at_ : ExAt w' X v' Z'
  kp : Kp w w' (Fp X Z)
  gf : ∀ k, Fp X Z' k → Fp X Z k ∨ w.heap.size ≤ k
  gr : ∀ k, Ap X Z' k → Ap X Z k ∨ w.heap.size ≤ k
theorem Fp.ap {X : Nat} {Z : Zz} {k : Nat} (h : Fp X Z k) : Ap X Z k := Or.inl h
/-- messages that are handed out -/
def Out (w w' : World) (u : Value) (L : List Mg) : Prop := w'.ownsRow w.heap.size 36 11 u L.length (mgs L)
theorem Lv.trans {w w1 w2 : World} {X : Nat} {Z Z1 Z2 : Zz} {v1 v2 : Ex} (h : Lv w w1 X Z v1 Z1) (h' : Lv w1 w2 X Z1 v2 Z2) : Lv w w2 X Z v2 Z2 :=
  ⟨h'.at_, h.kp.trans h'.kp h.gf, fun k hk => by
    have s := h.kp.size
    rcases h'.gf k hk with e | e
    · exact h.gf k e
    · exact Or.inr (by omega), fun k hk => by
    have s := h.kp.size
    rcases h'.gr k hk with e | e
    · exact h.gr k e
    · exact Or.inr (by omega)⟩
theorem Lv.refl {w : World} {X : Nat} {Z : Zz} {v : Ex} (h : ExAt w X v Z) : Lv w w X Z v Z := ⟨h, Kp.refl w _, fun _ e => Or.inl e, fun _ e => Or.inl e⟩
/-- nothing of its own was touched -/
theorem Lv.same {w w' : World} {X : Nat} {Z : Zz} {v : Ex} (h : ExAt w X v Z) (hk : Kp w w' non) : Lv w w' X Z v Z := ⟨h.kp0 hk, hk.mono (fun _ f => f.elim), fun _ e => Or.inl e, fun _ e => Or.inl e⟩
end Go.Proofs.YtpoegknmkbnjlaaDoor.Cn
namespace Go.Proofs.YtpoegknmkbnjlaaDoor.Cn
open Go.RowKit
/-- where the lists of the document's exporter lie -/
structure Zr where
  rv : Value
  zs : List Value
  rd : Value
  ofv : Value
  lo : Value
  lp : Value
  lm : Value
/-- it, as cells -/
def rxA (r : Rx) (Z : Zr) : Array Value := #[Z.rv, .int .i64 r.wt, .int .i64 r.now, .int .i64 r.job, .int .i64 r.ver, .bool r.on, .bool r.en, .int .i64 (r.part : Int), .int .i64 (r.left : Int), .int .i64 r.sent, Z.rd, Z.ofv, Z.lo, .int .i64 r.last.jb, .int .i64 r.last.vr, Z.lp, Z.lm]
/-- the blocks of its lists -/
def Lk (Z : Zr) (k : Nat) : Prop := Z.rd.ownBlock = some k ∨ Z.ofv.ownBlock = some k ∨ Z.lo.ownBlock = some k ∨ Z.rv.ownBlock = some k ∨ Z.lp.ownBlock = some k ∨ Z.lm.ownBlock = some k ∨ ∃ u ∈ Z.zs, u.ownBlock = some k
/-- its lists; while a job goes on, those that it writes are apart -/
structure Or_ (w : World) (r : Rx) (Z : Zr) : Prop where
  rows : w.ownsRow 0 48 1 Z.rv r.rows.length Z.zs
  row : ∀ p (h : p < r.rows.length), ∃ u, Z.zs[p]? = some u ∧ w.ownsRow 0 3 1 u r.rows[p].length (ints r.rows[p])
  rd : w.ownsRow 0 89 2 Z.rd r.rd.length (prs r.rd)
  ofv : w.ownsRow 0 3 1 Z.ofv r.of_.length (ints r.of_)
  lo : w.ownsRow 0 3 1 Z.lo r.lost.length (ints r.lost)
  lp : w.ownsRow 0 89 2 Z.lp r.last.ps.length (prs r.last.ps)
  lm : w.ownsRow 0 3 1 Z.lm r.last.ms.length (ints r.last.ms)
  d1 : r.on = true → ∀ k, Z.rd.ownBlock = some k → Z.lp.ownBlock ≠ some k
  d2 : r.on = true → ∀ k, Z.ofv.ownBlock = some k → Z.lo.ownBlock ≠ some k ∧ Z.lm.ownBlock ≠ some k ∧ ∀ u ∈ Z.zs, u.ownBlock ≠ some k
  d3 : r.on = true → ∀ k, Z.lo.ownBlock = some k → Z.lm.ownBlock ≠ some k ∧ ∀ u ∈ Z.zs, u.ownBlock ≠ some k
structure RxAt (w : World) (Y : Nat) (r : Rx) (Z : Zr) : Prop where
  blk : w.heap[Y]? = some (.cells (rxA r Z) 76)
  ow : Or_ w r Z
/-- the blocks that its calls write -/
def Fr (Y : Nat) (Z : Zr) : Nat → Prop := fun k => k = Y ∨ Z.rd.ownBlock = some k ∨ Z.ofv.ownBlock = some k ∨ Z.lo.ownBlock = some k
/-- all its blocks -/
def Ar (Y : Nat) (Z : Zr) : Nat → Prop := fun k => k = Y ∨ Lk Z k
theorem Fr.ar {Y : Nat} {Z : Zr} {k : Nat} (h : Fr Y Z k) : Ar Y Z k := by
  rcases h with e | e | e | e
  · exact Or.inl e
  · exact Or.inr (Or.inl e)
  · exact Or.inr (Or.inr (Or.inl e))
  · exact Or.inr (Or.inr (Or.inr (Or.inl e)))
section
variable {w w' : World} {Y : Nat} {r r' : Rx} {Z Z' : Zr} {S : Nat → Prop}
theorem Or_.kp (h : Or_ w r Z) (hk : Kp w w' S) (hS : ∀ k, Lk Z k → ¬ S k) : Or_ w' r Z :=
  ⟨own_kp h.rows hk (fun k e => hS k (Or.inr (Or.inr (Or.inr (Or.inl e))))), fun p hp => by
    obtain ⟨u, hu, ho⟩ := h.row p hp
    exact ⟨u, hu, own_kp ho hk (fun k e => hS k (Or.inr (Or.inr (Or.inr (Or.inr (Or.inr (Or.inr ⟨u, List.mem_of_getElem? hu, e⟩)))))))⟩, own_kp h.rd hk (fun k e => hS k (Or.inl e)), own_kp h.ofv hk (fun k e => hS k (Or.inr (Or.inl e))), own_kp h.lo hk (fun k e => hS k (Or.inr (Or.inr (Or.inl e)))), own_kp h.lp hk (fun k e => hS k (Or.inr (Or.inr (Or.inr (Or.inr (Or.inl e)))))), own_kp h.lm hk (fun k e => hS k (Or.inr (Or.inr (Or.inr (Or.inr (Or.inr (Or.inl e))))))), h.d1, h.d2, h.d3⟩
theorem Or_.kp0 (h : Or_ w r Z) (hk : Kp w w' non) : Or_ w' r Z := h.kp hk (fun _ _ f => f)
theorem Or_.kind (h : Or_ w r Z) {k : Nat} (hk : Lk Z k) : ∃ cur t, w.heap[k]? = some (.cells cur t (0, 0)) ∧ (t = 89 ∨ t = 3 ∨ t = 48) := by
  rcases hk with e | e | e | e | e | e | ⟨u, hu, e⟩
  · obtain ⟨c, hc⟩ := own_typ h.rd e; exact ⟨c, _, hc, Or.inl rfl⟩
  · obtain ⟨c, hc⟩ := own_typ h.ofv e; exact ⟨c, _, hc, Or.inr (Or.inl rfl)⟩
  · obtain ⟨c, hc⟩ := own_typ h.lo e; exact ⟨c, _, hc, Or.inr (Or.inl rfl)⟩
  · obtain ⟨c, hc⟩ := own_typ h.rows e; exact ⟨c, _, hc, Or.inr (Or.inr rfl)⟩
  · obtain ⟨c, hc⟩ := own_typ h.lp e; exact ⟨c, _, hc, Or.inl rfl⟩
  · obtain ⟨c, hc⟩ := own_typ h.lm e; exact ⟨c, _, hc, Or.inr (Or.inl rfl)⟩
  · obtain ⟨p, hp, rfl⟩ := List.getElem_of_mem hu
    have hl : Z.zs.length = r.rows.length * 1 := h.rows.1
    obtain ⟨u', hu', ho⟩ := h.row p (by omega)
    rw [List.getElem?_eq_getElem hp] at hu'
    injection hu' with hu'
    rw [hu'] at e
    obtain ⟨c, hc⟩ := own_typ ho e
    exact ⟨c, _, hc, Or.inr (Or.inl rfl)⟩
theorem Or_.notY (h : Or_ w r Z) {C : Array Value} {fr : Nat × Nat} (hY : w.heap[Y]? = some (.cells C 76 fr)) {k : Nat} (hk : Lk Z k) : k ≠ Y := fun e => by
  obtain ⟨c, t, hc, ht⟩ := h.kind hk
  rw [e, hY] at hc
  simp at hc
  rcases ht with q | q | q <;> rw [q] at hc <;> simp at hc
theorem Or_.setY (h : Or_ w r Z) {C : Array Value} {fr : Nat × Nat} (hY : w.heap[Y]? = some (.cells C 76 fr)) (hk : Kp w w' (fun k => k = Y)) : Or_ w' r Z := h.kp hk (fun _ hk' e => h.notY hY hk' e)
theorem RxAt.kp (h : RxAt w Y r Z) (hk : Kp w w' S) (hS : ∀ k, Ar Y Z k → ¬ S k) : RxAt w' Y r Z :=
  ⟨(hk.block _ (blk_lt h.blk) (hS _ (Or.inl rfl))).trans h.blk, h.ow.kp hk (fun k e => hS k (Or.inr e))⟩
theorem RxAt.kp0 (h : RxAt w Y r Z) (hk : Kp w w' non) : RxAt w' Y r Z := h.kp hk (fun _ _ f => f)
theorem Ar.kind (h : RxAt w Y r Z) {k : Nat} (hk : Ar Y Z k) : ∃ cur t, w.heap[k]? = some (.cells cur t (0, 0)) ∧ (t = 89 ∨ t = 3 ∨ t = 48 ∨ t = 76) := by
  rcases hk with e | e
  · exact ⟨_, _, e ▸ h.blk, Or.inr (Or.inr (Or.inr rfl))⟩
  · obtain ⟨c, t, hc, ht⟩ := h.ow.kind e
    exact ⟨c, t, hc, by rcases ht with q | q | q <;> simp [q]⟩
theorem RxAt.not (h : RxAt w Y r Z) {k : Nat} {C : Array Value} {t : TypeId} {fr : Nat × Nat} (hk : w.heap[k]? = some (.cells C t fr)) (ht : t ≠ 89 ∧ t ≠ 3 ∧ t ≠ 48 ∧ t ≠ 76) : ¬ Ar Y Z k := fun e => by
  obtain ⟨c, t', hc, q⟩ := Ar.kind h e
  rw [hk] at hc
  simp at hc
  have e2 := hc.2.1
  rcases q with q | q | q | q
  · exact ht.1 (e2.trans q)
  · exact ht.2.1 (e2.trans q)
  · exact ht.2.2.1 (e2.trans q)
  · exact ht.2.2.2 (e2.trans q)
theorem RxAt.lt (h : RxAt w Y r Z) {k : Nat} (hk : Ar Y Z k) : k < w.heap.size := by
  obtain ⟨c, t, hc, _⟩ := Ar.kind h hk
  exact blk_lt hc
theorem rx_cells (h : w.heap[Y]? = some (.cells (rxA r Z) 76)) : w.cell? ⟨Y, 0, none⟩ = some Z.rv ∧ w.cell? ⟨Y, 1, none⟩ = some (.int .i64 r.wt) ∧ w.cell? ⟨Y, 2, none⟩ = some (.int .i64 r.now) ∧ w.cell? ⟨Y, 3, none⟩ = some (.int .i64 r.job) ∧ w.cell? ⟨Y, 4, none⟩ = some (.int .i64 r.ver) ∧ w.cell? ⟨Y, 5, none⟩ = some (.bool r.on) ∧ w.cell? ⟨Y, 6, none⟩ = some (.bool r.en) ∧ w.cell? ⟨Y, 7, none⟩ = some (.int .i64 (r.part : Int)) ∧ w.cell? ⟨Y, 8, none⟩ = some (.int .i64 (r.left : Int)) ∧ w.cell? ⟨Y, 9, none⟩ = some (.int .i64 r.sent) ∧ w.cell? ⟨Y, 10, none⟩ = some Z.rd ∧ w.cell? ⟨Y, 11, none⟩ = some Z.ofv ∧ w.cell? ⟨Y, 12, none⟩ = some Z.lo := by
  simp only [cell_row h]
  exact ⟨rfl, rfl, rfl, rfl, rfl, rfl, rfl, rfl, rfl, rfl, rfl, rfl, rfl⟩
end
/-- what a call of the document's leaves -/
structure Lr (w w' : World) (Y : Nat) (Z : Zr) (r' : Rx) (Z' : Zr) : Prop where
  at_ : RxAt w' Y r' Z'
  kp : Kp w w' (Fr Y Z)
  gf : ∀ k, Fr Y Z' k → Fr Y Z k ∨ w.heap.size ≤ k
  gr : ∀ k, Ar Y Z' k → Ar Y Z k ∨ w.heap.size ≤ k
theorem Lr.trans {w w1 w2 : World} {Y : Nat} {Z Z1 Z2 : Zr} {r1 r2 : Rx} (h : Lr w w1 Y Z r1 Z1) (h' : Lr w1 w2 Y Z1 r2 Z2) : Lr w w2 Y Z r2 Z2 :=
  ⟨h'.at_, h.kp.trans h'.kp h.gf, fun k hk => by
    have s := h.kp.size
    rcases h'.gf k hk with e | e
    · exact h.gf k e
    · exact Or.inr (by omega), fun k hk => by
    have s := h.kp.size
    rcases h'.gr k hk with e | e
    · exact h.gr k e
    · exact Or.inr (by omega)⟩
theorem Lr.same {w w' : World} {Y : Nat} {Z : Zr} {r : Rx} (h : RxAt w Y r Z) (hk : Kp w w' non) : Lr w w' Y Z r Z := ⟨h.kp0 hk, hk.mono (fun _ f => f.elim), fun _ e => Or.inl e, fun _ e => Or.inl e⟩
/-- a cell of its own is written, its lists as they are -/
theorem Lr.set {w w' : World} {Y : Nat} {Z : Zr} {r r' : Rx} (h : RxAt w Y r Z) (o : Nat) (u : Value) (hw : w' = w.setCell ⟨Y, o, none⟩ u) (hA : (rxA r Z).setIfInBounds o u = rxA r' Z) (e1 : r'.rows = r.rows) (e2 : r'.rd = r.rd) (e3 : r'.of_ = r.of_) (e4 : r'.lost = r.lost) (e5 : r'.last = r.last) (e6 : r'.on = true → r.on = true) : Lr w w' Y Z r' Z := by
  have k : Kp w w' (fun k => k = Y) := by rw [hw]; exact (Kp.refl w (fun k => k = Y)).set (Or.inl rfl) _ _
  have o' := h.ow.setY h.blk k
  refine ⟨⟨by rw [hw, ← hA]; exact set_row h.blk o u, ⟨by rw [e1]; exact o'.rows, ?_, by rw [e2]; exact o'.rd, by rw [e3]; exact o'.ofv, by rw [e4]; exact o'.lo, by rw [e5]; exact o'.lp, by rw [e5]; exact o'.lm, fun q => o'.d1 (e6 q), fun q => o'.d2 (e6 q), fun q => o'.d3 (e6 q)⟩⟩, k.mono (fun _ e => Or.inl e), fun _ e => Or.inl e, fun _ e => Or.inl e⟩
  have hro := o'.row
  rw [← e1] at hro
  exact hro
end Go.Proofs.YtpoegknmkbnjlaaDoor.Cn
