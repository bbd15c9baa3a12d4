import Derived.Test.YtkfiaahgcljljaaRows
import Derived.Test.YtkfiaahgcljljaaTeLaw
import Derived.ProofKit
import Derived.OpenShut
import Derived.JoinedOf
import Derived.SizedLaws
import Derived.Lib.SmallJoins
import Derived.Deep.SlicePairs
import Derived.Deep.DeepHandedRow
namespace Go.Proofs.Ytkfiaahgcljljaa
open Go.ChangeShapes Go.WideShapes Go.ChangeAt Go.RowKit Go.Deep
open Go.Joins (open_agg3 open_agg2)
theorem cellsI : Try.prog.cellsOf 3 = 1 := by kernel_rfl
theorem cellsSh : Try.prog.cellsOf 23 = 3 := by kernel_rfl
theorem laidOutP : laidOutB Try.prog = true := by kernel_rfl
theorem add_plainT (b o j : Nat) : (⟨b, o, none⟩ : Addr).add j = ⟨b, o + j, none⟩ := Addr.add_mid b o j
theorem int_of {n : Int} (h : (Lit.int .i64 n).wf = true) : -9223372036854775808 ≤ n ∧ n < 9223372036854775808 := by
  simp [Lit.wf, IntKind.min, IntKind.max, IntKind.signed, IntKind.bits] at h
  omega
/-- a shape that is handed in -/
theorem open_shape {H : Type} {enc : TypeId × Value → H} {w : World} {r : Reach} {b0 base : Nat} {spare : Nat → Bool} {held : Bool} {v : Value} {d : DataW H} {p : List MemPlace} (hv : Value.okWide Try.prog w r b0 23 v) (h : DataW.Trod enc Try.prog w base spare held 23 v d p) :
    ∃ x y z : Int, v = .agg #[.int .i64 x, .int .i64 y, .int .i64 z] ∧ p = [] ∧ (Lit.int .i64 x).wf = true ∧ (Lit.int .i64 y).wf = true ∧ (Lit.int .i64 z).wf = true := by
  obtain ⟨a0, a1, a2, y0, y1, y2, n, rfl, rfl, rfl, t0, t1, t2⟩ := open_agg3 Try.underlying23 (by kernel_rfl) cellsSh hv h
  obtain ⟨c0, e0, rfl, w0⟩ := DataW.trod_int Try.underlying3 t0
  obtain ⟨c1, e1, rfl, w1⟩ := DataW.trod_int Try.underlying3 t1
  obtain ⟨c2, e2, rfl, w2⟩ := DataW.trod_int Try.underlying3 t2
  simp only [List.cons.injEq, and_true] at e0 e1 e2
  subst e0 e1 e2
  exact ⟨c0, c1, c2, rfl, rfl, w0, w1, w2⟩
theorem cellsIt : Try.prog.cellsOf 25 = 2 := by kernel_rfl
theorem cellsOp : Try.prog.cellsOf 43 = 5 := by kernel_rfl
theorem list5 {α : Type} {l : List α} (h : l.length = 5) : ∃ a0 a1 a2 a3 a4, l = [a0, a1, a2, a3, a4] := by
  match l, h with
  | [a0, a1, a2, a3, a4], _ => exact ⟨a0, a1, a2, a3, a4, rfl⟩
theorem list4 {α : Type} {l : List α} (h : l.length = 4) : ∃ a0 a1 a2 a3, l = [a0, a1, a2, a3] := by
  match l, h with
  | [a0, a1, a2, a3], _ => exact ⟨a0, a1, a2, a3, rfl⟩
theorem list2 {α : Type} {l : List α} (h : l.length = 2) : ∃ a0 a1, l = [a0, a1] := by
  match l, h with
  | [a0, a1], _ => exact ⟨a0, a1, rfl⟩
set_option maxRecDepth 100000 in
set_option maxHeartbeats 1000000 in
set_option linter.unusedSimpArgs false in
/-- one cells of an op -/
theorem open_op {H : Type} {enc : TypeId × Value → H} {w : World} {base fuel : Nat} {spare : Nat → Bool} {held : Bool} {cs : List Value} {x : DataW H × List MemPlace} (h : DataW.trod enc Try.prog w base spare held fuel 43 cs = some x) (hl : cs.length = 5) :
    ∃ y : TO, cs = [.int .i64 y.kind, .int .i64 y.pl, .int .i64 y.n, .int .i64 y.nd, .int .i64 y.fl] ∧ (Lit.int .i64 y.nd).wf = true ∧ (Lit.int .i64 y.fl).wf = true := by
  obtain ⟨c0, c1, c2, c3, c4, rfl⟩ := list5 hl
  obtain ⟨xs, n, _, hx, _, hxl, hq⟩ := DataW.trod_struct Try.underlying43 h
  obtain ⟨ya, yb, yc, yd, rfl⟩ := list4 hxl
  have ga := hq 0 _ rfl
  have gb := hq 1 _ rfl
  have gc := hq 2 _ rfl
  have gd := hq 3 _ rfl
  simp [cellsI, cellsIt] at ga gb gc gd
  obtain ⟨xs2, n2, _, hx2, _, hxl2, hq2⟩ := DataW.trod_struct Try.underlying25 gd
  obtain ⟨y0, y1, rfl⟩ := list2 hxl2
  have g0 := hq2 0 _ rfl
  have g1 := hq2 1 _ rfl
  simp [cellsI] at g0 g1
  obtain ⟨n0, f0, z0, w0⟩ := DataW.trod_int Try.underlying3 ga
  obtain ⟨n1, f1, z1, w1⟩ := DataW.trod_int Try.underlying3 gb
  obtain ⟨n2', f2, z2, w2⟩ := DataW.trod_int Try.underlying3 gc
  obtain ⟨n3, f3, z3, w3⟩ := DataW.trod_int Try.underlying3 g0
  obtain ⟨n4, f4, z4, w4⟩ := DataW.trod_int Try.underlying3 g1
  simp only [List.cons.injEq, and_true] at f0 f1 f2 f3 f4
  subst f0 f1 f2 f3 f4
  exact ⟨⟨n0, n1, n2', n3, n4⟩, rfl, w3, w4⟩
set_option maxRecDepth 100000 in
set_option linter.unusedVariables false in
/-- a script that is handed in -/
theorem open_ops {H : Type} {enc : TypeId × Value → H} {w : World} {base fuel : Nat} {spare : Nat → Bool} {held : Bool} {v : Value} {x : DataW H × List MemPlace} (h : DataW.trod enc Try.prog w base spare held fuel 38 [v] = some x) (hlt : ∀ q ∈ x.2, q.block < w.heap.size) :
    ∃ (ys : List TO) (ao : Option Addr) (b o cap : Nat), v = .slice ao ys.length cap ∧ OpsAt w ao b o ys ∧ (∀ (q : Nat) (h : q < ys.length), (Lit.int .i64 ys[q].nd).wf = true ∧ (Lit.int .i64 ys[q].fl).wf = true) ∧ (ys.length = 0 ∨ ∃ elems spare, x.1 = .slice elems spare ∧ ys.length = elems.length) := by
  rcases open_slice Try.underlying38 h with ⟨h0, _⟩ | ⟨a, len, cap, m, n, D, Pl, hv, hb, hl, hm, hmm, hx, hc⟩
  · simp only [List.cons.injEq, and_true] at h0
    exact ⟨[], none, 0, 0, 0, by rw [h0]; rfl, ⟨fun q => absurd q (by simp), fun q => absurd q (by simp), (fun q hq => absurd hq (by simp)), (fun q hq => absurd hq (by simp)), (fun q hq => absurd hq (by simp)), (fun q hq => absurd hq (by simp)), (fun q hq => absurd hq (by simp)), Nat.zero_le _⟩, (fun q hq => absurd hq (by simp)), Or.inl rfl⟩
  · simp only [List.cons.injEq, and_true] at hv
    have hlm : len ≤ m := by rw [hmm]; split <;> omega
    have each : ∀ i, i < len → ∃ y : TO, ((Lit.int .i64 y.nd).wf = true ∧ (Lit.int .i64 y.fl).wf = true) ∧ ∀ j u, [Value.int .i64 y.kind, .int .i64 y.pl, .int .i64 y.n, .int .i64 y.nd, .int .i64 y.fl][j]? = some u → w.cell? (a.add (i * 5 + j)) = some u := by
      intro i hi
      obtain ⟨cs', h1, h2⟩ := hc i (by omega)
      rw [cellsOp] at h1
      obtain ⟨_, hlen, hcell⟩ := World.cells?_some h1
      obtain ⟨y, hy, hw⟩ := open_op h2 hlen
      refine ⟨y, hw, fun j u hj => ?_⟩
      have hj5 : j < 5 := (List.getElem?_eq_some_iff.1 hj).1
      have e := hcell j hj5
      rw [add_add] at e
      rw [e, ← hj, hy]
    haveI : Inhabited TO := ⟨⟨0, 0, 0, 0, 0⟩⟩
    obtain ⟨q, hq⟩ := choose_lt each
    have hplen : ((List.range len).map q).length = len := by simp
    obtain ⟨b, off, spot⟩ := a
    have hspot : 0 < len → spot = none := fun h => by simpa [Addr.add] using World.cell?_spot ((hq 0 (by omega)).2 0 _ rfl)
    have cell : ∀ (i : Nat) (hi : i < ((List.range len).map q).length) (j : Nat) (u : Value), [Value.int .i64 ((List.range len).map q)[i].kind, .int .i64 ((List.range len).map q)[i].pl, .int .i64 ((List.range len).map q)[i].n, .int .i64 ((List.range len).map q)[i].nd, .int .i64 ((List.range len).map q)[i].fl][j]? = some u → w.cell? ⟨b, off + i * 5 + j, none⟩ = some u := by
      intro i hi j u hj
      have hi' : i < len := by rw [hplen] at hi; exact hi
      rw [List.getElem_map, List.getElem_range] at hj
      have e := (hq i hi').2 j u hj
      rw [hspot (by omega), add_plainT] at e
      rw [Nat.add_assoc]
      exact e
    refine ⟨(List.range len).map q, some ⟨b, off, spot⟩, b, off, cap, by rw [hv, hplen], ⟨fun z => ?_, fun z => ?_, fun i hi => cell i hi 0 _ rfl, fun i hi => cell i hi 1 _ rfl, fun i hi => cell i hi 2 _ rfl, fun i hi => cell i hi 3 _ rfl, fun i hi => cell i hi 4 _ rfl, ?_⟩, ?_, ?_⟩
    · rw [hplen] at z
      rw [hspot z]
    · have := cell 0 (by omega) 0 _ rfl
      exact World.block_lt_of_cell? w _ this
    · rw [hplen]
      have := hm
      have := hl
      unfold maxLen at *
      omega
    · intro i hi
      rw [List.getElem_map, List.getElem_range]
      exact (hq i (by rw [hplen] at hi; exact hi)).1
    · right
      exact ⟨_, _, by rw [hx], by simp⟩
end Go.Proofs.Ytkfiaahgcljljaa
