import Derived.Test.YtkfiaahgcljljaaTbPlain
import Derived.Maps.Own
import Derived.Maps.OwnSet
import Derived.Maps.Views
import Derived.WideKeyEntry
import Derived.DeepKeys4
namespace Go.Proofs.Ytkfiaahgcljljaa
open Go.RowKit Go.ChangeShapes Go.WideShapes Go.MapKept Go.Maps
open Go.ChangeMaps (setBlock)
open Go.WideElems (Fit entry_then_store)
open Go.WideMaps (KeyLaw)
def itV (a b : Int) : Value := .agg #[.int .i64 a, .int .i64 b]
theorem laidOutM : laidOutB Try.prog = true := by kernel_rfl
theorem rowIt : (25 : TypeId) < Try.prog.types.size := of_decide_eq_true (by kernel_rfl)
theorem wideIt : (match Try.prog.underlying 25 with | some (.array _ _) | some (.struct _) => true | _ => false) = true := by kernel_rfl
theorem lawIt : KeyLaw Try.prog 25 := deep_law_laid laidOutM (m := 2) (by omega) rowIt (by kernel_rfl) wideIt
theorem keyedIt : Keyed Try.prog 25 := Keyed.of_law lawIt
theorem zeroI (u : World) : (zeroValue 3).run Try.prog u = .ok (.int .i64 0) u := by kernel_rfl
theorem cellsIM : Try.prog.cellsOf 3 = 1 := by kernel_rfl
theorem cellsItM : Try.prog.cellsOf 25 = 2 := by kernel_rfl
theorem kl_it (d : Nat) (a b : Int) (ha : (Lit.int .i64 a).wf = true) (hb : (Lit.int .i64 b).wf = true) : Try.prog.keyLits (d + 2) 25 [.int .i64 a, .int .i64 b] = some [.int .i64 a, .int .i64 b] := by
  simp [Program.keyLits, Try.underlying25, Try.underlying3, cellsIM, cellsItM, ha, hb]
theorem key_it (a b : Int) (ha : (Lit.int .i64 a).wf = true) (hb : (Lit.int .i64 b).wf = true) : ∃ kl, keyOf Try.prog 25 (itV a b) = some kl := by
  refine ⟨.string (keyBytes [.int .i64 a, .int .i64 b]), ?_⟩
  have e1 : Try.prog.types.size + 1 = (Try.prog.types.size - 1) + 2 := by have := (show (25 : Nat) < Try.prog.types.size from rowIt); omega
  have e2 : Try.prog.keyType 25 = true := by kernel_rfl
  have e3 : (itV a b).formed Try.prog 25 = true := by simp [itV, Value.formed, Try.underlying25, cellsItM]
  unfold keyOf
  rw [Try.underlying25]
  simp only [e2, e3, Bool.and_self, if_true]
  rw [e1, show (itV a b).cells.toList = [.int .i64 a, .int .i64 b] from rfl, kl_it _ a b ha hb]
  rfl
/-- a map of counts -/
def MpAt (X : World) (M n : Nat) (F : Int → Int → Int) : Prop := ∃ D : DataW Unit, X.ownsMap Try.prog 25 (plainElem Try.prog 3) M n D ∧ ∀ a b kl, keyOf Try.prog 25 (itV a b) = some kl → D.atKey kl (.lit (.int .i64 0)) = .lit (.int .i64 (F a b))
theorem MpAt.kept {X X' : World} {M n : Nat} {F : Int → Int → Int} {row : Option Nat} (h : MpAt X M n F) (hg : X.grownBy X' row) (hne : some M ≠ row) : MpAt X' M n F := by
  obtain ⟨D, h1, h2⟩ := h
  exact ⟨D, h1.kept hg hne, h2⟩
theorem MpAt.same {X X' : World} {M n : Nat} {F : Int → Int → Int} (h : MpAt X M n F) (hg : X'.heap[M]? = X.heap[M]?) : MpAt X' M n F := by
  obtain ⟨D, ⟨es, clock, hb, F1, hs, hD⟩, h2⟩ := h
  exact ⟨D, ⟨es, clock, hg.trans hb, F1, hs, hD⟩, h2⟩
theorem MpAt.made (X : World) : MpAt (X.alloc (.map #[] 0)) X.heap.size 0 (fun _ _ => 0) := ⟨.map [], World.ownsMap_made X _ _ _, fun _ _ _ _ => rfl⟩
theorem MpAt.lt {X : World} {M n : Nat} {F : Int → Int → Int} (h : MpAt X M n F) : M < X.heap.size := by
  obtain ⟨D, h1, h2⟩ := h
  exact h1.lt
theorem MpAt.look {X : World} {M n : Nat} {F : Int → Int → Int} (h : MpAt X M n F) {a b : Int} (ha : (Lit.int .i64 a).wf = true) (hb : (Lit.int .i64 b).wf = true) : (Instr.lookup 67 (.map (some M)) (itV a b) false).run Try.prog X = .ok (.int .i64 (F a b)) X := by
  obtain ⟨D, h1, h2⟩ := h
  obtain ⟨kl, hk⟩ := key_it a b ha hb
  obtain ⟨c, hrun, hat, _⟩ := h1.lookup_int keyedIt Try.underlying67 Try.underlying3 (zeroI X) hk
  have := (h2 a b kl hk).symm.trans hat
  simp only [DataW.lit.injEq, Lit.int.injEq, true_and] at this
  rw [hrun, this]
def upd (F : Int → Int → Int) (a b v : Int) : Int → Int → Int := fun x y => if x = a ∧ y = b then v else F x y
theorem it_inj {a b c d : Int} (h : itV a b = itV c d) : a = c ∧ b = d := by
  simp [itV] at h
  exact h
theorem IsKey_of {kl : Lit} {a b : Int} (h : keyOf Try.prog 25 (itV a b) = some kl) : WideAt.IsKeyLit kl := keyedIt.key h
theorem MpAt.put {X : World} {M n : Nat} {F : Int → Int → Int} (h : MpAt X M n F) (hn : n < maxLen) {a b v : Int} (ha : (Lit.int .i64 a).wf = true) (hb : (Lit.int .i64 b).wf = true) (hv : (Lit.int .i64 v).wf = true) :
    ∃ X', (Instr.mapUpdate 67 (.map (some M)) (itV a b) (.int .i64 v)).run Try.prog X = .ok () X' ∧ MpAt X' M (n + 1) (upd F a b v) ∧ X.grownBy X' (some M) := by
  obtain ⟨D, h1, h2⟩ := h
  obtain ⟨kl, hk⟩ := key_it a b ha hb
  obtain ⟨X', hrun, ho, hg⟩ := h1.update keyedIt Try.underlying67 hn hk (plainElem_int Try.underlying3 hv)
  refine ⟨X', hrun, ⟨_, ho, fun x y kl' hk' => ?_⟩, hg⟩
  unfold upd
  by_cases e : x = a ∧ y = b
  · obtain ⟨rfl, rfl⟩ := e
    rw [if_pos ⟨rfl, rfl⟩]
    obtain rfl : kl = kl' := Option.some.inj (hk.symm.trans hk')
    exact atKey_put_same h1.isMap (IsKey_of hk) _ _
  · have hne : kl' ≠ kl := fun ek => e (it_inj (lawIt.inj hk' (by rw [ek]; exact hk)))
    rw [if_neg e, atKey_put_other hne _ _]
    exact h2 x y kl' hk'
theorem MpAt.del {X : World} {M n : Nat} {F : Int → Int → Int} (h : MpAt X M n F) {a b : Int} (ha : (Lit.int .i64 a).wf = true) (hb : (Lit.int .i64 b).wf = true) (ty : TypeId) :
    ∃ X', (Builtin.delete_ #[67, 25] ty #[.map (some M), itV a b]).run Try.prog X = .ok (.tuple #[]) X' ∧ MpAt X' M n (upd F a b 0) ∧ X.grownBy X' (some M) := by
  obtain ⟨D, h1, h2⟩ := h
  obtain ⟨kl, hk⟩ := key_it a b ha hb
  obtain ⟨X', hrun, ho, hg⟩ := h1.drop keyedIt Try.underlying67 hk ty
  refine ⟨X', hrun, ⟨_, ho, fun x y kl' hk' => ?_⟩, hg.grown⟩
  unfold upd
  by_cases e : x = a ∧ y = b
  · obtain ⟨rfl, rfl⟩ := e
    rw [if_pos ⟨rfl, rfl⟩]
    obtain rfl : kl = kl' := Option.some.inj (hk.symm.trans hk')
    exact atKey_del_same _
  · have hne : kl' ≠ kl := fun ek => e (it_inj (lawIt.inj hk' (by rw [ek]; exact hk)))
    rw [if_neg e, atKey_del_other hne _]
    exact h2 x y kl' hk'
set_option linter.unusedSimpArgs false in
/-- 'm[k] op= v' begins -/
theorem entry_shape {X : World} {M : Nat} {es : Array MapEntry} {clock : Nat} (hb : X.heap[M]? = some (.map es clock)) (Ft : Fit Try.prog 25 (plainElem (H := Unit) Try.prog 3) es clock) {key : Value} {kl : Lit} (hkey : keyOf Try.prog 25 key = some kl) :
    (∃ v0 st, (Instr.mapEntry 67 (.map (some M)) key).run Try.prog X = .ok (.tuple #[v0, goInt st]) (setBlock X M (.map es clock))) ∨
      ((∀ x ∈ es.toList, x.key ≠ key) ∧ (Instr.mapEntry 67 (.map (some M)) key).run Try.prog X = .ok (.tuple #[.int .i64 0, goInt clock]) (setBlock X M (.map (es.push ⟨key, .int .i64 0, clock⟩) (clock + 1))) ∧
        (Instr.mapUpdate 67 (.map (some M)) key (.int .i64 0)).run Try.prog X = .ok () (setBlock X M (.map (es.push ⟨key, .int .i64 0, clock⟩) (clock + 1)))) := by
  have ht := Try.underlying67
  rcases lawIt.find X hkey es.toList Ft.keys with ⟨h1, h2⟩ | ⟨j, e0, h1, h2, h3⟩
  · refine Or.inr ⟨h2, ?_, ?_⟩
    · simp [Instr.mapEntry, run_underlying ht, MapKept.run_getObj_map hb, lawIt.check X false hkey, h1, zeroI, MapKept.run_setObj_map _ hb, Result.andThen, setBlock]
    · simp [Instr.mapUpdate, run_underlying ht, MapKept.run_getObj_map hb, lawIt.check X false hkey, h1, MapKept.run_setObj_map _ hb, Result.andThen, setBlock]
  · refine Or.inl ⟨e0.val, e0.born, ?_⟩
    have hj : es[j]? = some e0 := by simpa using h2
    have hsame : es.modify j (fun e => { e with key := key }) = es := by
      apply Array.ext'
      rw [Array.toList_modify, ChangeMaps.modify_eq_set _ _ _ _ h2]
      have : ({ e0 with key := key } : MapEntry) = e0 := by rw [← h3]
      rw [this]
      exact WideElems.set_self _ _ _ h2
    simp [Instr.mapEntry, run_underlying ht, MapKept.run_getObj_map hb, lawIt.check X false hkey, h1, hj, h3, lawIt.stays X hkey, hsame, MapKept.run_setObj_map _ hb, Result.andThen, setBlock]
theorem setBlock_at {X : World} {M : Nat} {o o' : Obj} (h : X.heap[M]? = some o) : (setBlock X M o').heap[M]? = some o' := by
  simp [setBlock, (Array.getElem?_eq_some_iff.1 h).1]
theorem setBlock_grown {X : World} {M : Nat} {o' : Obj} : X.grownBy (setBlock X M o') (some M) := ⟨rfl, rfl, rfl, by simp [setBlock], fun i _ hi => by
  simp only [setBlock]
  rw [Array.getElem?_setIfInBounds_ne (fun e => hi (by rw [e]))]⟩
/-- 'm[k]++': the entry, then what is stored -/
theorem MpAt.entry {X : World} {M n : Nat} {F : Int → Int → Int} (h : MpAt X M n F) (hn : n < maxLen) {a b v : Int} (ha : (Lit.int .i64 a).wf = true) (hb : (Lit.int .i64 b).wf = true) (hv : (Lit.int .i64 v).wf = true) :
    ∃ v0 st X1, (Instr.mapEntry 67 (.map (some M)) (itV a b)).run Try.prog X = .ok (.tuple #[v0, goInt st]) X1 ∧ X.grownBy X1 (some M) ∧
      (∀ Y : World, Y.heap[M]? = X1.heap[M]? → (Instr.lookup 67 (.map (some M)) (itV a b) false).run Try.prog Y = .ok (.int .i64 (F a b)) Y) ∧
      (∀ Y : World, Y.heap[M]? = X1.heap[M]? → ∃ X2, (Instr.entryStore 67 (.map (some M)) (goInt st) (.int .i64 v)).run Try.prog Y = .ok () X2 ∧ MpAt X2 M (n + 1) (upd F a b v) ∧ Y.grownBy X2 (some M)) := by
  obtain ⟨kl, hk⟩ := key_it a b ha hb
  have hL := h.look ha hb
  obtain ⟨X', pr, pM, pg⟩ := h.put hn ha hb hv
  have h0 := h
  obtain ⟨D, ⟨es, clock, hbk, Ft, hs, hD⟩, h2⟩ := h
  obtain ⟨v0, st, es1, clock1, hrun, _, hstore⟩ := entry_then_store lawIt Try.underlying67 zeroI hbk Ft hk
  refine ⟨v0, st, _, hrun, setBlock_grown, fun Y hY => ?_, fun Y hY => ?_⟩
  · rw [setBlock_at hbk] at hY
    rcases entry_shape hbk Ft hk with ⟨w0, s0, hr⟩ | ⟨hno, hr, hu⟩
    · have e := hrun.symm.trans hr
      have e2 : (setBlock X M (.map es1 clock1)).heap[M]? = (setBlock X M (.map es clock)).heap[M]? := by
        simp only [Result.ok.injEq] at e
        rw [e.2]
      rw [setBlock_at hbk, setBlock_at hbk] at e2
      exact (h0.same (X' := Y) (hY.trans (e2.trans hbk.symm))).look ha hb
    · have e := hrun.symm.trans hr
      have e2 : (setBlock X M (.map es1 clock1)).heap[M]? = (setBlock X M (.map (es.push ⟨itV a b, .int .i64 0, clock⟩) (clock + 1))).heap[M]? := by
        simp only [Result.ok.injEq] at e
        rw [e.2]
      obtain ⟨X3, q1, q2, q3⟩ := h0.put hn (v := 0) ha hb (by decide)
      rw [hu] at q1
      simp only [Result.ok.injEq, true_and] at q1
      rw [setBlock_at hbk] at e2
      have q4 := (q2.same (X' := Y) (by rw [hY, e2, q1])).look ha hb
      rw [q4]
      have f0 : F a b = 0 := by
        have z := h2 a b kl hk
        rw [hD, WideElems.atKey_none lawIt Ft hk hno] at z
        simp only [DataW.lit.injEq, Lit.int.injEq, true_and] at z
        exact z.symm
      simp [upd, f0]
  · rw [setBlock_at hbk] at hY
    obtain ⟨es', clock', r1, r2⟩ := hstore Y (.int .i64 v) hY
    refine ⟨_, r1, ?_, setBlock_grown⟩
    have e := r2.symm.trans pr
    simp only [Result.ok.injEq, true_and] at e
    refine pM.same ?_
    rw [setBlock_at hY, ← e, setBlock_at hbk]
end Go.Proofs.Ytkfiaahgcljljaa
