import Derived.Test.YtpleakkhbfhdkaaGCgStep
import Derived.Test.YtpleakkhbfhdkaaGCgPI
import Derived.Test.YtpleakkhbfhdkaaRows
namespace Go.Proofs.Ytpleakkhbfhdkaa.Cn
open Go.ChangeShapes Go.WideShapes Go.ChangeAt Go.RowKit Go.Deep
theorem bulk_pos {H : Type} (d : DataW H) : 1 ≤ Rows.uptoBulk d := by
  cases d with
  | lit l => cases l <;> simp [Rows.uptoBulk]
  | _ => simp [Rows.uptoBulk]
theorem bulk_mem {H : Type} {d : DataW H} : ∀ {l : List (DataW H)}, d ∈ l → Rows.uptoBulk d ≤ Rows.uptoBulkAll l
  | [], h => by cases h
  | c :: r, h => by
    simp only [Rows.uptoBulkAll]
    rcases List.mem_cons.1 h with rfl | h
    · omega
    · have := bulk_mem h
      omega
theorem bulk_len {H : Type} : ∀ (l : List (DataW H)), l.length ≤ Rows.uptoBulkAll l
  | [] => Nat.zero_le _
  | c :: r => by
    have := bulk_len r
    have := bulk_pos c
    simp only [Rows.uptoBulkAll, List.length_cons]
    omega
theorem cellsEv : Try.prog.cellsOf 68 = 3 := by kernel_rfl
theorem list3 {α : Type} {l : List α} (h : l.length = 3) : ∃ a0 a1 a2, l = [a0, a1, a2] := by
  match l, h with
  | [a0, a1, a2], _ => exact ⟨a0, a1, a2, rfl⟩
set_option maxRecDepth 100000 in
set_option maxHeartbeats 1000000 in
/-- an event's cells -/
theorem open_ev {H : Type} {enc : TypeId × Value → H} {w : World} {base fuel : Nat} {spare : Nat → Bool} {held : Bool} {cs : List Value} {x : DataW H × List MemPlace} (h : DataW.trod enc Try.prog w base spare held fuel 68 cs = some x) (hl : cs.length = 3) :
    ∃ s : Ev, cs = (evV s).toList := by
  obtain ⟨c0, c1, c2, rfl⟩ := list3 hl
  obtain ⟨xs, n, _, hx, _, hxl, hq⟩ := DataW.trod_struct Try.underlying68 h
  obtain ⟨ya, yb, yc, rfl⟩ := list3 hxl
  have ga := hq 0 _ rfl
  have gb := hq 1 _ rfl
  have gc := hq 2 _ rfl
  simp [cellsI] at ga gb gc
  obtain ⟨n0, f0, z0, w0⟩ := DataW.trod_int Try.underlying3 ga
  obtain ⟨n1, f1, z1, w1⟩ := DataW.trod_int Try.underlying3 gb
  obtain ⟨n2, f2, z2, w2⟩ := DataW.trod_int Try.underlying3 gc
  simp only [List.cons.injEq, and_true] at f0 f1 f2
  subst f0 f1 f2
  exact ⟨⟨n0, n1, n2⟩, rfl⟩
set_option maxRecDepth 100000 in
/-- events that are handed in -/
theorem open_events {H : Type} {enc : TypeId × Value → H} {w : World} {base fuel : Nat} {v : Value} {x : DataW H × List MemPlace} (h : DataW.trod enc Try.prog w base (fun _ => true) true fuel 62 [v] = some x) (hlt : ∀ q ∈ x.2, q.block < w.heap.size) (hw : Rows.uptoBulk x.1 ≤ 1048576) :
    ∃ (ys : List Ev) (ao : Option Addr) (b o cap : Nat), v = .slice ao ys.length cap ∧ RwAt 3 evV w.heap.size w ao b o ys ∧ ys.length ≤ 1048576 := by
  haveI : Inhabited Ev := ⟨⟨0, 0, 0⟩⟩
  obtain ⟨ys, ao, b, o, cap, hv, hr⟩ := open_rows (k := 3) Try.underlying62 cellsEv (by omega) (fun _ => rfl) (fun h hl => open_ev h hl) h hlt
  refine ⟨ys, ao, b, o, cap, hv, hr, ?_⟩
  rcases open_slice Try.underlying62 h with ⟨h0, _⟩ | ⟨a, len, cap2, m, n, D, Pl, hv2, hb, hl, hm, hmm, hx, hc⟩
  · simp only [List.cons.injEq, and_true] at h0
    have e := hv.symm.trans h0
    simp only [Value.slice.injEq] at e
    omega
  · simp only [List.cons.injEq, and_true] at hv2
    have e := hv.symm.trans hv2
    simp only [Value.slice.injEq] at e
    rw [hx] at hw
    simp only [Rows.uptoBulk] at hw
    have := bulk_len ((List.range len).map D)
    simp only [List.length_map, List.length_range] at this
    omega
end Go.Proofs.Ytpleakkhbfhdkaa.Cn
