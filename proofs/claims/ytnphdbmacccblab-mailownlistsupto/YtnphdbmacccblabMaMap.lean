import Derived.Test.YtnphdbmacccblabMaPlain
namespace Go.Proofs.Ytnphdbmacccblab
open Go.RowKit Go.ChangeShapes Go.WideShapes Go.MapKept Go.Maps
open Go.WideMaps (KeyLaw)
def lkV (a b : Int) : Value := .agg #[.int .i64 a, .int .i64 b]
theorem laidOutM : laidOutB Try.prog = true := by kernel_rfl
theorem rowLk : (84 : TypeId) < Try.prog.types.size := of_decide_eq_true (by kernel_rfl)
theorem wideLk : (match Try.prog.underlying 84 with | some (.array _ _) | some (.struct _) => true | _ => false) = true := by kernel_rfl
theorem lawLk : KeyLaw Try.prog 84 := deep_law_laid laidOutM (m := 2) (by omega) rowLk (by kernel_rfl) wideLk
theorem keyedLk : Keyed Try.prog 84 := Keyed.of_law lawLk
theorem zeroU (u : World) : (zeroValue 82).run Try.prog u = .ok (.agg #[]) u := by kernel_rfl
theorem cellsIM : Try.prog.cellsOf 3 = 1 := by kernel_rfl
theorem cellsLkM : Try.prog.cellsOf 84 = 2 := by kernel_rfl
theorem kl_lk (d : Nat) (a b : Int) (ha : (Lit.int .i64 a).wf = true) (hb : (Lit.int .i64 b).wf = true) : Try.prog.keyLits (d + 2) 84 [.int .i64 a, .int .i64 b] = some [.int .i64 a, .int .i64 b] := by
  simp [Program.keyLits, Try.underlying84, Try.underlying3, cellsIM, cellsLkM, ha, hb]
theorem key_lk (a b : Int) (ha : (Lit.int .i64 a).wf = true) (hb : (Lit.int .i64 b).wf = true) : ∃ kl, keyOf Try.prog 84 (lkV a b) = some kl := by
  refine ⟨.string (keyBytes [.int .i64 a, .int .i64 b]), ?_⟩
  have e1 : Try.prog.types.size + 1 = (Try.prog.types.size - 1) + 2 := by have := (show (84 : Nat) < Try.prog.types.size from rowLk); omega
  have e2 : Try.prog.keyType 84 = true := by kernel_rfl
  have e3 : (lkV a b).formed Try.prog 84 = true := by simp [lkV, Value.formed, Try.underlying84, cellsLkM]
  unfold keyOf
  rw [Try.underlying84]
  simp only [e2, e3, Bool.and_self, if_true]
  rw [e1, show (lkV a b).cells.toList = [.int .i64 a, .int .i64 b] from rfl, kl_lk _ a b ha hb]
  rfl
/-- the links that are cut -/
def LkAt (X : World) (M n : Nat) (C : Int → Int → Bool) : Prop := ∃ D : DataW Unit, X.ownsMap Try.prog 84 unitElem M n D ∧ ∀ a b kl, keyOf Try.prog 84 (lkV a b) = some kl → has D kl = C a b
theorem LkAt.same {X X' : World} {M n : Nat} {C : Int → Int → Bool} (h : LkAt X M n C) (hg : X'.heap[M]? = X.heap[M]?) : LkAt X' M n C := by
  obtain ⟨D, ⟨es, clock, hb, F1, hs, hD⟩, h2⟩ := h
  exact ⟨D, ⟨es, clock, hg.trans hb, F1, hs, hD⟩, h2⟩
theorem LkAt.made (X : World) : LkAt (X.alloc (.map #[] 0)) X.heap.size 0 (fun _ _ => false) := ⟨.map [], World.ownsMap_made X _ _ _, fun _ _ _ _ => rfl⟩
theorem LkAt.lt {X : World} {M n : Nat} {C : Int → Int → Bool} (h : LkAt X M n C) : M < X.heap.size := by
  obtain ⟨D, h1, h2⟩ := h
  exact h1.lt
theorem LkAt.mono {X : World} {M n m : Nat} {C : Int → Int → Bool} (h : LkAt X M n C) (hm : n ≤ m) : LkAt X M m C := by
  obtain ⟨D, h1, h2⟩ := h
  exact ⟨D, h1.mono hm, h2⟩
theorem LkAt.kind {X : World} {M n : Nat} {C : Int → Int → Bool} (h : LkAt X M n C) {c : Array Value} {t : TypeId} {f : Nat × Nat} : X.heap[M]? ≠ some (.cells c t f) := by
  obtain ⟨D, ⟨es, clock, hb, _⟩, _⟩ := h
  rw [hb]
  simp
theorem LkAt.look {X : World} {M n : Nat} {C : Int → Int → Bool} (h : LkAt X M n C) {a b : Int} (ha : (Lit.int .i64 a).wf = true) (hb : (Lit.int .i64 b).wf = true) : (Instr.lookup 49 (.map (some M)) (lkV a b) true).run Try.prog X = .ok (.tuple #[.agg #[], .bool (C a b)]) X := by
  obtain ⟨D, h1, h2⟩ := h
  obtain ⟨kl, hk⟩ := key_lk a b ha hb
  obtain ⟨v, ps, hrun, hv⟩ := h1.look_ok keyedLk Try.underlying49 (zeroU X) unitElem_mk hk
  obtain ⟨rfl, _⟩ := unitElem_inv hv
  rw [hrun, h2 a b kl hk]
def cutUp (C : Int → Int → Bool) (a b : Int) (v : Bool) : Int → Int → Bool := fun x y => if x = a ∧ y = b then v else C x y
theorem lk_inj {a b c d : Int} (h : lkV a b = lkV c d) : a = c ∧ b = d := by
  simp [lkV] at h
  exact h
theorem LkAt.put {X : World} {M n : Nat} {C : Int → Int → Bool} (h : LkAt X M n C) (hn : n < maxLen) {a b : Int} (ha : (Lit.int .i64 a).wf = true) (hb : (Lit.int .i64 b).wf = true) :
    ∃ X', (Instr.mapUpdate 49 (.map (some M)) (lkV a b) (.agg #[])).run Try.prog X = .ok () X' ∧ LkAt X' M (n + 1) (cutUp C a b true) ∧ X.grownBy X' (some M) := by
  obtain ⟨D, h1, h2⟩ := h
  obtain ⟨kl, hk⟩ := key_lk a b ha hb
  obtain ⟨X', hrun, ho, hg⟩ := h1.update keyedLk Try.underlying49 hn hk unitElem_mk
  refine ⟨X', hrun, ⟨_, ho, fun x y kl' hk' => ?_⟩, hg⟩
  unfold cutUp
  by_cases e : x = a ∧ y = b
  · obtain ⟨rfl, rfl⟩ := e
    rw [if_pos ⟨rfl, rfl⟩]
    obtain rfl : kl = kl' := Option.some.inj (hk.symm.trans hk')
    exact has_put_same h1.isMap (keyedLk.key hk) _
  · have hne : kl' ≠ kl := fun ek => e (lk_inj (lawLk.inj hk' (by rw [ek]; exact hk)))
    rw [if_neg e, has_put_other hne _]
    exact h2 x y kl' hk'
theorem LkAt.del {X : World} {M n : Nat} {C : Int → Int → Bool} (h : LkAt X M n C) {a b : Int} (ha : (Lit.int .i64 a).wf = true) (hb : (Lit.int .i64 b).wf = true) (ty : TypeId) :
    ∃ X', (Builtin.delete_ #[49, 84] ty #[.map (some M), lkV a b]).run Try.prog X = .ok (.tuple #[]) X' ∧ LkAt X' M n (cutUp C a b false) ∧ X.grownBy X' (some M) := by
  obtain ⟨D, h1, h2⟩ := h
  obtain ⟨kl, hk⟩ := key_lk a b ha hb
  obtain ⟨X', hrun, ho, hg⟩ := h1.drop keyedLk Try.underlying49 hk ty
  refine ⟨X', hrun, ⟨_, ho, fun x y kl' hk' => ?_⟩, hg.grown⟩
  unfold cutUp
  by_cases e : x = a ∧ y = b
  · obtain ⟨rfl, rfl⟩ := e
    rw [if_pos ⟨rfl, rfl⟩]
    obtain rfl : kl = kl' := Option.some.inj (hk.symm.trans hk')
    exact has_del_same
  · have hne : kl' ≠ kl := fun ek => e (lk_inj (lawLk.inj hk' (by rw [ek]; exact hk)))
    rw [if_neg e, has_del_other hne]
    exact h2 x y kl' hk'
end Go.Proofs.Ytnphdbmacccblab
