import Derived.Test.YtaieeabolcldgaaDoorRows
import Derived.Test.YtaieeabolcldgaaDoorPjWalk
import Derived.ProofKit
import Derived.OpenShut
import Derived.SizedLaws
import Derived.SliceStrings
import Derived.Deep.SlicePairs
namespace Go.Proofs.YtaieeabolcldgaaDoor
open Go.ChangeShapes Go.WideShapes Go.ChangeAt Go.RowKit Go.Deep
theorem cellsNote : Tryd.prog.cellsOf 23 = 4 := by kernel_rfl
theorem cells3O : Tryd.prog.cellsOf 3 = 1 := by kernel_rfl
theorem i64_of {n : Int} (h : (Lit.int .i64 n).wf = true) : I64 n := by
  simp [Lit.wf, IntKind.min, IntKind.max, IntKind.signed, IntKind.bits] at h
  unfold I64
  omega
theorem bulk_pos {H : Type} (d : DataW H) : 1 ≤ Rows.uptoBulk d := by
  cases d with
  | lit l => cases l <;> simp only [Rows.uptoBulk] <;> omega
  | _ => simp only [Rows.uptoBulk] <;> omega
theorem bulk_len {H α : Type} (l : List α) (f : α → DataW H) : l.length ≤ Rows.uptoBulkAll (l.map f) := by
  induction l with
  | nil => simp
  | cons a r ih =>
    have := bulk_pos (f a)
    simp only [List.map_cons, List.length_cons, Rows.uptoBulkAll]
    omega
set_option maxRecDepth 100000 in
/-- notes that are handed in -/
theorem open_notes {H : Type} {enc : TypeId × Value → H} {w : World} {base fuel : Nat} {v : Value} {x : DataW H × List MemPlace} (h : DataW.trod enc Tryd.prog w base (fun _ => true) true fuel 32 [v] = some x) (hlt : ∀ q ∈ x.2, q.block < w.heap.size) :
    ∃ (ns : List NV) (ao : Option Addr) (b o cap : Nat), v = .slice ao ns.length cap ∧ (0 < ns.length → ao = some ⟨b, o, none⟩) ∧ (0 < ns.length → b < w.heap.size) ∧ ns.length ≤ cap ∧ LiesO b o w ns ∧ (∀ n ∈ ns, nI n) ∧ ns.length ≤ Rows.uptoBulk x.1 := by
  rcases open_slice Tryd.underlying32 h with ⟨h0, _⟩ | ⟨a, len, cap, m, n, D, Pl, hv, hb, hl, hm, hmm, hx, hc⟩
  · simp only [List.cons.injEq, and_true] at h0
    exact ⟨[], none, 0, 0, 0, by rw [h0]; rfl, fun q => absurd q (by simp), fun q => absurd q (by simp), Nat.le_refl _, fun i hi => absurd hi (by simp), (fun n hn => (by cases hn)), Nat.zero_le _⟩
  · simp only [List.cons.injEq, and_true] at hv
    simp only [if_true] at hmm
    have each : ∀ i, i < len → ∃ q : NV, nI q ∧ w.cell? (a.add (i * 4)) = some (.int .i64 q.1) ∧ w.cell? (a.add (i * 4 + 1)) = some (.int .i64 q.2.1) ∧ w.cell? (a.add (i * 4 + 2)) = some (.int .i64 q.2.2.1) ∧ w.cell? (a.add (i * 4 + 3)) = some (.int .i64 q.2.2.2) := by
      intro i hi
      obtain ⟨cs', h1, h2⟩ := hc i (by omega)
      rw [cellsNote] at h1
      obtain ⟨_, hlen, hcell⟩ := World.cells?_some h1
      obtain ⟨xs, k, hk, hxy, _, hxl, hf⟩ := DataW.trod_struct Tryd.underlying23 h2
      match xs, hxl, cs', hlen with
      | [y0, y1, y2, y3], _, [v0, v1, v2, v3], _ =>
        have g0 := hf 0 _ rfl
        have g1 := hf 1 _ rfl
        have g2 := hf 2 _ rfl
        have g3 := hf 3 _ rfl
        simp [cells3O] at g0 g1 g2 g3
        have e0 := hcell 0 (by omega)
        have e1 := hcell 1 (by omega)
        have e2 := hcell 2 (by omega)
        have e3 := hcell 3 (by omega)
        rw [add_add] at e0 e1 e2 e3
        obtain ⟨s0, f0, _, w0⟩ := DataW.trod_int Tryd.underlying3 g0
        obtain ⟨s1, f1, _, w1⟩ := DataW.trod_int Tryd.underlying3 g1
        obtain ⟨s2, f2, _, w2⟩ := DataW.trod_int Tryd.underlying3 g2
        obtain ⟨s3, f3, _, w3⟩ := DataW.trod_int Tryd.underlying3 g3
        simp only [List.cons.injEq, and_true] at f0 f1 f2 f3
        subst f0 f1 f2 f3
        exact ⟨(s0, s1, s2, s3), ⟨i64_of w0, i64_of w1, i64_of w2, i64_of w3⟩, by simpa using e0, by simpa using e1, by simpa using e2, by simpa using e3⟩
    obtain ⟨q, hq⟩ := choose_lt each
    have hplen : ((List.range len).map q).length = len := by simp
    obtain ⟨b, off, spot⟩ := a
    have hspot : 0 < len → spot = none := fun h => by simpa [Addr.add] using World.cell?_spot (hq 0 h).2.1
    refine ⟨(List.range len).map q, some ⟨b, off, spot⟩, b, off, cap, by rw [hv, hplen], fun z => ?_, fun z => ?_, by rw [hplen]; omega, fun i hi => ?_, fun n hn => ?_, ?_⟩
    · rw [hplen] at z
      rw [hspot z]
    · rw [hplen] at z
      refine hlt (.cell b off) ?_
      rw [hx, cellsNote]
      exact List.mem_append_left _ (MemPlace.mem_row.2 ⟨0, by omega, by simp⟩)
    · rw [hplen] at hi
      obtain ⟨_, c0, c1, c2, c3⟩ := hq i hi
      have hs := hspot (by omega)
      subst hs
      rw [add_plain] at c0 c1 c2 c3
      rw [List.getElem_map, List.getElem_range, show off + i * 4 + 1 = off + (i * 4 + 1) by omega, show off + i * 4 + 2 = off + (i * 4 + 2) by omega, show off + i * 4 + 3 = off + (i * 4 + 3) by omega]
      exact ⟨c0, c1, c2, c3⟩
    · obtain ⟨i, hi, rfl⟩ := List.mem_map.1 hn
      exact (hq i (List.mem_range.1 hi)).1
    · rw [hplen, hx]
      have := bulk_len (List.range len) D
      rw [List.length_range] at this
      simp only [Rows.uptoBulk]
      omega
end Go.Proofs.YtaieeabolcldgaaDoor
