import Derived.Test.YtkfiaahgcljljaaTbOpen
import Derived.Test.YtkfiaahgcljljaaTdTries
namespace Go.Proofs.Ytkfiaahgcljljaa
open Go.ChangeShapes Go.WideShapes Go.ChangeAt Go.RowKit Go.Deep
open Go.Joins (open_agg3 open_agg2)
theorem listTwo {α : Type} {l : List α} (h : l.length = 2) : ∃ a0 a1, l = [a0, a1] := by
  match l, h with
  | [a0, a1], _ => exact ⟨a0, a1, rfl⟩
/-- an item that is handed in -/
theorem open_item {H : Type} {enc : TypeId × Value → H} {w : World} {r : Reach} {b0 base : Nat} {spare : Nat → Bool} {held : Bool} {v : Value} {d : DataW H} {p : List MemPlace} (hv : Value.okWide Try.prog w r b0 25 v) (h : DataW.Trod enc Try.prog w base spare held 25 v d p) :
    ∃ x y : Int, v = .agg #[.int .i64 x, .int .i64 y] ∧ p = [] ∧ (Lit.int .i64 x).wf = true ∧ (Lit.int .i64 y).wf = true := by
  obtain ⟨a0, a1, y0, y1, n, rfl, rfl, rfl, t0, t1⟩ := open_agg2 Try.underlying25 (by kernel_rfl) cellsItM hv h
  obtain ⟨c0, e0, rfl, w0⟩ := DataW.trod_int Try.underlying3 t0
  obtain ⟨c1, e1, rfl, w1⟩ := DataW.trod_int Try.underlying3 t1
  simp only [List.cons.injEq, and_true] at e0 e1
  subst e0 e1
  exact ⟨c0, c1, rfl, rfl, w0, w1⟩
set_option linter.unusedSimpArgs false in
/-- an item's cells -/
theorem open_it {H : Type} {enc : TypeId × Value → H} {w : World} {base fuel : Nat} {spare : Nat → Bool} {held : Bool} {cs : List Value} {x : DataW H × List MemPlace} (h : DataW.trod enc Try.prog w base spare held fuel 25 cs = some x) (hl : cs.length = 2) :
    ∃ y : Int × Int, cs = [.int .i64 y.1, .int .i64 y.2] ∧ (Lit.int .i64 y.1).wf = true ∧ (Lit.int .i64 y.2).wf = true := by
  obtain ⟨c0, c1, rfl⟩ := listTwo hl
  obtain ⟨xs, n, _, hx, _, hxl, hq⟩ := DataW.trod_struct Try.underlying25 h
  obtain ⟨ya, yb, rfl⟩ := listTwo hxl
  have ga := hq 0 _ rfl
  have gb := hq 1 _ rfl
  simp [cellsI] at ga gb
  obtain ⟨n0, f0, z0, w0⟩ := DataW.trod_int Try.underlying3 ga
  obtain ⟨n1, f1, z1, w1⟩ := DataW.trod_int Try.underlying3 gb
  simp only [List.cons.injEq, and_true] at f0 f1
  subst f0 f1
  exact ⟨(n0, n1), rfl, w0, w1⟩
set_option maxRecDepth 100000 in
set_option linter.unusedVariables false in
/-- items that are handed in -/
theorem open_items {H : Type} {enc : TypeId × Value → H} {w : World} {base fuel : Nat} {spare : Nat → Bool} {held : Bool} {v : Value} {x : DataW H × List MemPlace} (h : DataW.trod enc Try.prog w base spare held fuel 26 [v] = some x) (hlt : ∀ q ∈ x.2, q.block < w.heap.size) :
    ∃ (ys : List (Int × Int)) (ao : Option Addr) (b o cap : Nat), v = .slice ao ys.length cap ∧ Itms w ao b o ys := by
  rcases open_slice Try.underlying26 h with ⟨h0, _⟩ | ⟨a, len, cap, m, n, D, Pl, hv, hb, hl, hm, hmm, hx, hc⟩
  · simp only [List.cons.injEq, and_true] at h0
    exact ⟨[], none, 0, 0, 0, by rw [h0]; rfl, fun q => absurd q (by simp), fun q => absurd q (by simp), (fun q hq => absurd hq (by simp)), (fun q hq => absurd hq (by simp)), (fun q hq => absurd hq (by simp)), Nat.zero_le _⟩
  · simp only [List.cons.injEq, and_true] at hv
    have hlm : len ≤ m := by rw [hmm]; split <;> omega
    have each : ∀ i, i < len → ∃ y : Int × Int, ((Lit.int .i64 y.1).wf = true ∧ (Lit.int .i64 y.2).wf = true) ∧ ∀ j u, [Value.int .i64 y.1, .int .i64 y.2][j]? = some u → w.cell? (a.add (i * 2 + j)) = some u := by
      intro i hi
      obtain ⟨cs', h1, h2⟩ := hc i (by omega)
      rw [cellsItM] at h1
      obtain ⟨_, hlen, hcell⟩ := World.cells?_some h1
      obtain ⟨y, hy, hw⟩ := open_it h2 hlen
      refine ⟨y, hw, fun j u hj => ?_⟩
      have hj2 : j < 2 := (List.getElem?_eq_some_iff.1 hj).1
      have e := hcell j hj2
      rw [add_add] at e
      rw [e, ← hj, hy]
    haveI : Inhabited (Int × Int) := ⟨(0, 0)⟩
    obtain ⟨q, hq⟩ := choose_lt each
    have hplen : ((List.range len).map q).length = len := by simp
    obtain ⟨b, off, spot⟩ := a
    have hspot : 0 < len → spot = none := fun h => by simpa [Addr.add] using World.cell?_spot ((hq 0 (by omega)).2 0 _ rfl)
    have cell : ∀ (i : Nat) (hi : i < ((List.range len).map q).length) (j : Nat) (u : Value), [Value.int .i64 ((List.range len).map q)[i].1, .int .i64 ((List.range len).map q)[i].2][j]? = some u → w.cell? ⟨b, off + i * 2 + j, none⟩ = some u := by
      intro i hi j u hj
      have hi' : i < len := by rw [hplen] at hi; exact hi
      rw [List.getElem_map, List.getElem_range] at hj
      have e := (hq i hi').2 j u hj
      rw [hspot (by omega), add_plainT] at e
      rw [Nat.add_assoc]
      exact e
    refine ⟨(List.range len).map q, some ⟨b, off, spot⟩, b, off, cap, by rw [hv, hplen], fun z => ?_, fun z => ?_, fun i hi => cell i hi 0 _ rfl, fun i hi => cell i hi 1 _ rfl, fun i hi => ?_, ?_⟩
    · rw [hplen] at z
      rw [hspot z]
    · have := cell 0 (by omega) 0 _ rfl
      exact World.block_lt_of_cell? w _ this
    · have hi' : i < len := by rw [hplen] at hi; exact hi
      rw [List.getElem_map, List.getElem_range]
      exact (hq i hi').1
    · rw [hplen]
      have := hm
      have := hl
      unfold maxLen at *
      omega
end Go.Proofs.Ytkfiaahgcljljaa
