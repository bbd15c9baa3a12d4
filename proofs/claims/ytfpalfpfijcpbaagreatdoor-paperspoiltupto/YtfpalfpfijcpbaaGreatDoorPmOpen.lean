import Derived.Test.YtfpalfpfijcpbaaGreatDoorRows
import Derived.Test.YtfpalfpfijcpbaaGreatDoorPmBack
import Derived.Lib.SmallJoins
import Derived.ProofKit
import Derived.OpenShut
import Derived.SizedLaws
namespace Go.Proofs.YtfpalfpfijcpbaaGreatDoor
open Go.ChangeShapes Go.WideShapes Go.ChangeAt Go.RowKit
theorem cellsMeta : Tryz.prog.cellsOf 23 = 8 := by kernel_rfl
theorem cells9M : Tryz.prog.cellsOf 9 = 1 := by kernel_rfl
theorem cells3M : Tryz.prog.cellsOf 3 = 1 := by kernel_rfl
theorem i64_of {n : Int} (h : (Lit.int .i64 n).wf = true) : I64 n := by
  simp [Lit.wf, IntKind.min, IntKind.max, IntKind.signed, IntKind.bits] at h
  unfold I64
  omega
theorem list8 {α : Type} {l : List α} (h : l.length = 8) : ∃ a0 a1 a2 a3 a4 a5 a6 a7, l = [a0, a1, a2, a3, a4, a5, a6, a7] := by
  match l, h with
  | [a0, a1, a2, a3, a4, a5, a6, a7], _ => exact ⟨a0, a1, a2, a3, a4, a5, a6, a7, rfl⟩
theorem array8 {α : Type} {l : Array α} (h : l.size = 8) : ∃ a0 a1 a2 a3 a4 a5 a6 a7, l = #[a0, a1, a2, a3, a4, a5, a6, a7] := by
  obtain ⟨l⟩ := l
  obtain ⟨a0, a1, a2, a3, a4, a5, a6, a7, h⟩ := list8 (l := l) (by simpa using h)
  exact ⟨a0, a1, a2, a3, a4, a5, a6, a7, by rw [h]⟩
set_option maxRecDepth 100000 in
set_option maxHeartbeats 1000000 in
/-- a meta that is handed in -/
theorem open_meta {H : Type} {enc : TypeId × Value → H} {w : World} {r : Reach} {b0 base : Nat} {spare : Nat → Bool} {held : Bool} {v : Value} {d : DataW H} {p : List MemPlace} (hv : Value.okWide Tryz.prog w r b0 23 v) (h : DataW.Trod enc Tryz.prog w base spare held 23 v d p) :
    ∃ (st : ByteArray) (n1 n2 n3 n4 n5 n6 n7 : Int), v = .agg #[.string st, .int .i64 n1, .int .i64 n2, .int .i64 n3, .int .i64 n4, .int .i64 n5, .int .i64 n6, .int .i64 n7] ∧ p = [] ∧ st.size ≤ maxLen ∧ I64 n1 ∧ I64 n2 ∧ I64 n3 ∧ I64 n4 ∧ I64 n5 ∧ I64 n6 ∧ I64 n7 := by
  obtain ⟨cs, rfl, hsz⟩ := okWide_struct Tryz.underlying23 hv
  obtain ⟨c0, c1, c2, c3, c4, c5, c6, c7, rfl⟩ := array8 (hsz.trans cellsMeta)
  obtain ⟨fuel, hf⟩ := h
  obtain ⟨xs, n, _, hx, _, hxl, hq⟩ := DataW.trod_struct Tryz.underlying23 hf
  obtain ⟨y0, y1, y2, y3, y4, y5, y6, y7, rfl⟩ := list8 hxl
  have g0 := hq 0 _ rfl
  have g1 := hq 1 _ rfl
  have g2 := hq 2 _ rfl
  have g3 := hq 3 _ rfl
  have g4 := hq 4 _ rfl
  have g5 := hq 5 _ rfl
  have g6 := hq 6 _ rfl
  have g7 := hq 7 _ rfl
  simp [Value.cells, cells9M, cells3M] at g0 g1 g2 g3 g4 g5 g6 g7
  obtain ⟨st, f0, z0, w0⟩ := DataW.trod_string Tryz.underlying9 g0
  obtain ⟨n1, f1, z1, w1⟩ := DataW.trod_int Tryz.underlying3 g1
  obtain ⟨n2, f2, z2, w2⟩ := DataW.trod_int Tryz.underlying3 g2
  obtain ⟨n3, f3, z3, w3⟩ := DataW.trod_int Tryz.underlying3 g3
  obtain ⟨n4, f4, z4, w4⟩ := DataW.trod_int Tryz.underlying3 g4
  obtain ⟨n5, f5, z5, w5⟩ := DataW.trod_int Tryz.underlying3 g5
  obtain ⟨n6, f6, z6, w6⟩ := DataW.trod_int Tryz.underlying3 g6
  obtain ⟨n7, f7, z7, w7⟩ := DataW.trod_int Tryz.underlying3 g7
  simp only [List.cons.injEq, and_true] at f0 f1 f2 f3 f4 f5 f6 f7
  subst f0 f1 f2 f3 f4 f5 f6 f7
  simp only [Prod.mk.injEq] at hx
  refine ⟨st, n1, n2, n3, n4, n5, n6, n7, rfl, ?_, ?_, i64_of w1, i64_of w2, i64_of w3, i64_of w4, i64_of w5, i64_of w6, i64_of w7⟩
  · rw [hx.2, z0, z1, z2, z3, z4, z5, z6, z7]; rfl
  · exact w0
end Go.Proofs.YtfpalfpfijcpbaaGreatDoor
