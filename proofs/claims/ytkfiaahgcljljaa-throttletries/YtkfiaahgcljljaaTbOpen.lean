import Derived.Test.YtkfiaahgcljljaaRows
import Derived.Test.YtkfiaahgcljljaaTbSplit
import Derived.ProofKit
import Derived.OpenShut
import Derived.JoinedOf
import Derived.SizedLaws
import Derived.Lib.SmallJoins
import Derived.Deep.SlicePairs
import Derived.Deep.DeepHandedRow
namespace Go.Proofs.Ytkfiaahgcljljaa
open Go.ChangeShapes Go.WideShapes Go.ChangeAt Go.RowKit Go.Deep
open Go.Joins (open_agg3 open_agg2)
theorem cellsI : Try.prog.cellsOf 3 = 1 := by kernel_rfl
theorem cellsSh : Try.prog.cellsOf 23 = 3 := by kernel_rfl
theorem laidOutP : laidOutB Try.prog = true := by kernel_rfl
theorem add_plainT (b o j : Nat) : (⟨b, o, none⟩ : Addr).add j = ⟨b, o + j, none⟩ := Addr.add_mid b o j
theorem int_of {n : Int} (h : (Lit.int .i64 n).wf = true) : -9223372036854775808 ≤ n ∧ n < 9223372036854775808 := by
  simp [Lit.wf, IntKind.min, IntKind.max, IntKind.signed, IntKind.bits] at h
  omega
/-- a shape that is handed in -/
theorem open_shape {H : Type} {enc : TypeId × Value → H} {w : World} {r : Reach} {b0 base : Nat} {spare : Nat → Bool} {held : Bool} {v : Value} {d : DataW H} {p : List MemPlace} (hv : Value.okWide Try.prog w r b0 23 v) (h : DataW.Trod enc Try.prog w base spare held 23 v d p) :
    ∃ x y z : Int, v = .agg #[.int .i64 x, .int .i64 y, .int .i64 z] ∧ p = [] ∧ (Lit.int .i64 x).wf = true ∧ (Lit.int .i64 y).wf = true ∧ (Lit.int .i64 z).wf = true := by
  obtain ⟨a0, a1, a2, y0, y1, y2, n, rfl, rfl, rfl, t0, t1, t2⟩ := open_agg3 Try.underlying23 (by kernel_rfl) cellsSh hv h
  obtain ⟨c0, e0, rfl, w0⟩ := DataW.trod_int Try.underlying3 t0
  obtain ⟨c1, e1, rfl, w1⟩ := DataW.trod_int Try.underlying3 t1
  obtain ⟨c2, e2, rfl, w2⟩ := DataW.trod_int Try.underlying3 t2
  simp only [List.cons.injEq, and_true] at e0 e1 e2
  subst e0 e1 e2
  exact ⟨c0, c1, c2, rfl, rfl, w0, w1, w2⟩
set_option maxRecDepth 100000 in
/-- numbers that are handed in -/
theorem open_nums {H : Type} {enc : TypeId × Value → H} {w : World} {base fuel : Nat} {v : Value} {x : DataW H × List MemPlace} (h : DataW.trod enc Try.prog w base (fun _ => true) true fuel 50 [v] = some x) (hlt : ∀ q ∈ x.2, q.block < w.heap.size) :
    ∃ (cs : List Int) (ao : Option Addr) (b o cap : Nat), v = .slice ao cs.length cap ∧ Nums w ao b o cs := by
  rcases open_ints Try.underlying50 Try.underlying3 cellsI h with ⟨h0, _⟩ | ⟨a, len, cap, zs, hv, hb, hl, hm, hz, hx, hcell, _⟩
  · simp only [List.cons.injEq, and_true] at h0
    exact ⟨[], none, 0, 0, 0, by rw [h0]; rfl, fun q => absurd q (by simp), fun q => absurd q (by simp), (fun j c hj => by simp at hj), Nat.zero_le _⟩
  · simp only [List.cons.injEq, and_true] at hv
    simp only [if_true] at hz
    have hplen : (zs.take len).length = len := by rw [List.length_take]; omega
    obtain ⟨b, off, spot⟩ := a
    have hspot : 0 < len → spot = none := fun h => by simpa [Addr.add] using World.cell?_spot (hcell 0 (by omega))
    refine ⟨zs.take len, some ⟨b, off, spot⟩, b, off, cap, by rw [hv, hplen], fun z => ?_, fun z => ?_, fun j c hj => ?_, ?_⟩
    · rw [hplen] at z
      rw [hspot z]
    · rw [hplen] at z
      refine hlt (.cell b off) ?_
      rw [hx]
      exact MemPlace.mem_row.2 ⟨0, by omega, by simp⟩
    · obtain ⟨hj', hc⟩ := List.getElem?_eq_some_iff.1 hj
      rw [hplen] at hj'
      have hj2 : j < zs.length := by omega
      have := hcell j hj2
      rw [hspot (by omega), add_plainT] at this
      rw [this, List.getD_eq_getElem?_getD, List.getElem?_eq_getElem hj2, Option.getD_some, ← hc, List.getElem_take]
    · rw [hplen]
      have := hm
      have := hl
      unfold maxLen at *
      omega
end Go.Proofs.Ytkfiaahgcljljaa
