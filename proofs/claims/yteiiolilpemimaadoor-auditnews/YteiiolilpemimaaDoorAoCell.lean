import Derived.Test.YteiiolilpemimaaDoorGAoOpen
import Derived.Test.YteiiolilpemimaaDoorAfLaw
namespace Go.Proofs.YteiiolilpemimaaDoor.Cn
open Go.ChangeShapes Go.WideShapes Go.ChangeAt Go.RowKit Go.Deep
theorem cellsCe : Tryd.prog.cellsOf 45 = 5 := by kernel_rfl
theorem list5 {α : Type} {l : List α} (h : l.length = 5) : ∃ a0 a1 a2 a3 a4, l = [a0, a1, a2, a3, a4] := by
  match l, h with
  | [a0, a1, a2, a3, a4], _ => exact ⟨a0, a1, a2, a3, a4, rfl⟩
set_option maxRecDepth 100000 in
set_option maxHeartbeats 1000000 in
/-- a cell of the table -/
theorem open_ce {H : Type} {enc : TypeId × Value → H} {w : World} {base fuel : Nat} {spare : Nat → Bool} {held : Bool} {cs : List Value} {x : DataW H × List MemPlace} (h : DataW.trod enc Tryd.prog w base spare held fuel 45 cs = some x) (hl : cs.length = 5) :
    ∃ c : Ce, cs = (ceV c).toList := by
  obtain ⟨c0, c1, c2, c3, c4, rfl⟩ := list5 hl
  obtain ⟨xs2, n2, _, hx2, _, hxl2, hq2⟩ := DataW.trod_struct Tryd.underlying45 h
  obtain ⟨y0, y1, y2, y3, y4, rfl⟩ := list5 hxl2
  have g0 := hq2 0 _ rfl
  have g1 := hq2 1 _ rfl
  have g2 := hq2 2 _ rfl
  have g3 := hq2 3 _ rfl
  have g4 := hq2 4 _ rfl
  simp [cellsI, cellsS9, cellsErr] at g0 g1 g2 g3 g4
  obtain ⟨n0, f0, z0, w0⟩ := DataW.trod_int Tryd.underlying3 g0
  obtain ⟨n1, f1, z1, w1⟩ := DataW.trod_int Tryd.underlying3 g1
  obtain ⟨n2', f2, z2, w2⟩ := DataW.trod_int Tryd.underlying3 g2
  obtain ⟨n3, f3, z3, w3⟩ := DataW.trod_int Tryd.underlying28 g3
  obtain ⟨s4, f4, z4, w4⟩ := DataW.trod_string Tryd.underlying9 g4
  simp only [List.cons.injEq, and_true] at f0 f1 f2 f3 f4
  subst f0 f1 f2 f3 f4
  exact ⟨⟨n0, n1, n2', n3, s4⟩, rfl⟩
theorem open_cells {H : Type} {enc : TypeId × Value → H} {w : World} {base fuel : Nat} {v : Value} {x : DataW H × List MemPlace} (h : DataW.trod enc Tryd.prog w base (fun _ => true) true fuel 25 [v] = some x) (hlt : ∀ q ∈ x.2, q.block < w.heap.size) :
    ∃ (ys : List Ce) (ao : Option Addr) (b o cap : Nat), v = .slice ao ys.length cap ∧ RwAt 5 ceV w.heap.size w ao b o ys := by
  haveI : Inhabited Ce := ⟨⟨0, 0, 0, 0, ⟨#[]⟩⟩⟩
  exact open_rows (k := 5) Tryd.underlying25 cellsCe (by omega) (fun _ => rfl) (fun h hl => open_ce h hl) h hlt
theorem open_nums {H : Type} {enc : TypeId × Value → H} {w : World} {base fuel : Nat} {v : Value} {x : DataW H × List MemPlace} (h : DataW.trod enc Tryd.prog w base (fun _ => true) true fuel 26 [v] = some x) (hlt : ∀ q ∈ x.2, q.block < w.heap.size) :
    ∃ (ys : List Int) (ao : Option Addr) (b o cap : Nat), v = .slice ao ys.length cap ∧ RwAt 1 (fun n : Int => #[Value.int .i64 n]) w.heap.size w ao b o ys :=
  open_rows (k := 1) Tryd.underlying26 cellsI (by omega) (fun _ => rfl) (fun h hl => by
    obtain ⟨n, f, _, _⟩ := DataW.trod_int Tryd.underlying3 h
    exact ⟨n, f⟩) h hlt
end Go.Proofs.YteiiolilpemimaaDoor.Cn
