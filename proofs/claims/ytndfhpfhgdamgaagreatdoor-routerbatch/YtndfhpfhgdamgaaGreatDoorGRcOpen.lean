import Derived.Test.YtndfhpfhgdamgaaGreatDoorRows
import Derived.Test.YtndfhpfhgdamgaaGreatDoorRbLaw
import Derived.ProofKit
import Derived.OpenShut
import Derived.JoinedOf
import Derived.SizedLaws
import Derived.Lib.SmallJoins
import Derived.Deep.SlicePairs
import Derived.Deep.DeepHandedRow
import Derived.Test.YtndfhpfhgdamgaaGreatDoorGCaBase
import Derived.Test.YtndfhpfhgdamgaaGreatDoorGRbBoth
import Derived.Lib.LaidTab
import Derived.Lib.LaidU8
import Derived.Shelf.Vars
namespace Go.Proofs.YtndfhpfhgdamgaaGreatDoor
open Go.ChangeShapes Go.WideShapes Go.ChangeAt Go.RowKit Go.Deep
theorem cellsI : Tryz.prog.cellsOf 3 = 1 := by kernel_rfl
theorem cellsS9 : Tryz.prog.cellsOf 9 = 1 := by kernel_rfl
theorem cellsNd : Tryz.prog.cellsOf 87 = 2 := by kernel_rfl
theorem cellsPl : Tryz.prog.cellsOf 25 = 1 := by kernel_rfl
theorem cellsNl : Tryz.prog.cellsOf 22 = 1 := by kernel_rfl
theorem cellsCl : Tryz.prog.cellsOf 24 = 23 := by kernel_rfl
theorem bytesI : Tryz.prog.bytesOf 3 = 8 := by kernel_rfl
theorem bytesNd : Tryz.prog.bytesOf 87 = 32 := by kernel_rfl
theorem laidOutP : laidOutB Tryz.prog = true := by kernel_rfl
theorem add_plainT (b o j : Nat) : (⟨b, o, none⟩ : Addr).add j = ⟨b, o + j, none⟩ := Addr.add_mid b o j
theorem all_mem {H : Type} {P : Program} {e : TypeId} {d : DataW H} {n : Nat} (hn : n ∈ d.weights P e) : ∀ {l : List (DataW H)}, d ∈ l → n ∈ DataW.weightsAll P e l
  | [], h => by cases h
  | c :: r, h => by
    simp only [DataW.weightsAll, List.mem_append]
    rcases List.mem_cons.1 h with rfl | h
    · exact Or.inl hn
    · exact Or.inr (all_mem hn h)
set_option maxRecDepth 100000 in
/-- a node's list that is handed in -/
theorem open_ps {H : Type} {enc : TypeId × Value → H} {w : World} {base fuel : Nat} {spare : Nat → Bool} {held : Bool} {v : Value} {x : DataW H × List MemPlace} (h : DataW.trod enc Tryz.prog w base spare held fuel 25 [v] = some x) (hw : ∀ n ∈ x.1.weights Tryz.prog 25, n ≤ reachBytes) :
    ∃ L : List Int, Pv w.heap.size w v L ∧ ∀ c, v = .slice none L.length c → c = 0 := by
  rcases open_slice1 Tryz.underlying25 cellsI h with ⟨h0, _⟩ | ⟨a, len, cap, m, n, V, D, Pl, hv, hb, hl, hm, hmm, hx, hc⟩
  · simp only [List.cons.injEq, and_true] at h0
    subst h0
    refine ⟨[], ⟨none, 0, 0, 0, rfl, ⟨fun q => absurd q (by simp), fun q => absurd q (by simp), (fun q hq => absurd hq (by simp)), Nat.zero_le _⟩⟩, fun c hc => ?_⟩
    injection hc with _ _ h3
    exact h3.symm
  · simp only [List.cons.injEq, and_true] at hv
    subst hv
    have hlm : len ≤ m := by rw [hmm]; split <;> omega
    have hwl : len * 8 ≤ reachBytes := by
      have := hw ((len + (m - len)) * 8) (by rw [hx]; simp [DataW.weights, Tryz.underlying25, bytesI])
      omega
    have each : ∀ i, i < len → ∃ y : Int, V i = .int .i64 y := fun i hi => by
      obtain ⟨y, f, _, _⟩ := DataW.trod_int Tryz.underlying3 (hc i (by omega)).2
      simp only [List.cons.injEq, and_true] at f
      exact ⟨y, f⟩
    obtain ⟨q, hq⟩ := choose_lt each
    have hplen : ((List.range len).map q).length = len := by simp
    obtain ⟨b, off, spot⟩ := a
    have hspot : 0 < len → spot = none := fun h => by simpa [Addr.add] using World.cell?_spot (hc 0 (by omega)).1
    have cell : ∀ (i : Nat) (hi : i < ((List.range len).map q).length), w.cell? ⟨b, off + i, none⟩ = some (.int .i64 ((List.range len).map q)[i]) := by
      intro i hi
      have hi' : i < len := by rw [hplen] at hi; exact hi
      have e := (hc i (by omega)).1
      rw [hspot (by omega), add_plainT, hq i hi'] at e
      rw [e, List.getElem_map, List.getElem_range]
    refine ⟨(List.range len).map q, ⟨some ⟨b, off, spot⟩, b, off, cap, by rw [hplen], ⟨fun z => ?_, fun z => ?_, cell, ?_⟩⟩, fun c hc => by cases hc⟩
    · rw [hplen] at z
      rw [hspot z]
    · exact World.block_lt_of_cell? w _ (cell 0 z)
    · rw [hplen]
      rw [show reachBytes = 140737488351232 from rfl] at hwl
      omega
set_option maxRecDepth 100000 in
/-- the nodes that are handed in -/
theorem open_nodes {H : Type} {enc : TypeId × Value → H} {w : World} {base fuel : Nat} {spare : Nat → Bool} {held : Bool} {v : Value} {x : DataW H × List MemPlace} (h : DataW.trod enc Tryz.prog w base spare held fuel 22 [v] = some x) (hw : ∀ n ∈ x.1.weights Tryz.prog 22, n ≤ reachBytes) :
    ∃ (ns : List ND) (ao : Option Addr) (b o cap : Nat) (pv : Nat → Value), v = .slice ao ns.length cap ∧ NsAt w.heap.size w ao b o pv ns := by
  rcases open_slice_pairs Tryz.underlying22 Tryz.underlying87 cellsNd rfl rfl cellsI cellsPl h with ⟨h0, _⟩ | ⟨a, len, cap, m, n, V0, V1, D0, D1, P0, P1, hv, hb, hl, hm, hmm, hx, hc⟩
  · simp only [List.cons.injEq, and_true] at h0
    subst h0
    exact ⟨[], none, 0, 0, 0, fun _ => .slice none 0 0, rfl, ⟨fun q => absurd q (by simp), fun q => absurd q (by simp), (fun q hq => absurd hq (by simp)), (fun q hq => absurd hq (by simp)), (fun q hq => absurd hq (by simp)), Nat.zero_le _, (fun q hq => absurd hq (by simp))⟩⟩
  · simp only [List.cons.injEq, and_true] at hv
    subst hv
    have hlm : len ≤ m := by rw [hmm]; split <;> omega
    have hwl : len * 32 ≤ reachBytes := by
      have := hw ((len + (m - len)) * 32) (by rw [hx]; simp [DataW.weights, Tryz.underlying22, bytesNd])
      omega
    have each : ∀ i, i < len → ∃ y : ND, V0 i = .int .i64 y.z ∧ Pv w.heap.size w (V1 i) y.ps ∧ ∀ c, V1 i = .slice none y.ps.length c → c = 0 := fun i hi => by
      obtain ⟨_, _, t0, t1⟩ := hc i (by omega)
      obtain ⟨y, f, _, _⟩ := DataW.trod_int Tryz.underlying3 t0
      simp only [List.cons.injEq, and_true] at f
      obtain ⟨L, hL, hn⟩ := open_ps t1 fun n hn => hw n (by
        rw [hx]
        simp only [DataW.weights, Tryz.underlying22]
        refine List.mem_cons_of_mem _ (List.mem_append_left _ (all_mem (d := DataW.agg [D0 i, D1 i]) ?_ (List.mem_map.2 ⟨i, List.mem_range.2 hi, rfl⟩)))
        simp only [DataW.weights, Tryz.underlying87]
        exact DataW.weights_mem_each (j := 1) rfl rfl n hn)
      exact ⟨⟨y, L⟩, f, hL, hn⟩
    obtain ⟨q, hq⟩ := choose_lt each
    have hplen : ((List.range len).map q).length = len := by simp
    obtain ⟨b, off, spot⟩ := a
    have hspot : 0 < len → spot = none := fun h => by simpa [Addr.add] using World.cell?_spot (hc 0 (by omega)).1
    have at0 : ∀ (i : Nat) (hi : i < ((List.range len).map q).length), i < len ∧ ((List.range len).map q)[i] = q i := fun i hi => ⟨by rw [hplen] at hi; exact hi, by rw [List.getElem_map, List.getElem_range]⟩
    have c0 : ∀ (i : Nat) (hi : i < ((List.range len).map q).length), w.cell? ⟨b, off + i * 2, none⟩ = some (.int .i64 ((List.range len).map q)[i].z) := by
      intro i hi
      obtain ⟨hi', e'⟩ := at0 i hi
      have e := (hc i (by omega)).1
      rw [hspot (by omega), add_plainT, (hq i hi').1] at e
      rw [e, e']
    have c1 : ∀ (i : Nat) (hi : i < ((List.range len).map q).length), w.cell? ⟨b, off + i * 2 + 1, none⟩ = some (V1 i) := by
      intro i hi
      obtain ⟨hi', e'⟩ := at0 i hi
      have e := (hc i (by omega)).2.1
      rw [hspot (by omega), add_plainT] at e
      rw [← Nat.add_assoc] at e
      exact e
    refine ⟨(List.range len).map q, some ⟨b, off, spot⟩, b, off, cap, V1, by rw [hplen], ⟨fun z => ?_, fun z => ?_, c0, c1, fun i hi => ?_, ?_, fun i hi c hcc => ?_⟩⟩
    · rw [hplen] at z
      rw [hspot z]
    · exact World.block_lt_of_cell? w _ (c0 0 z)
    · obtain ⟨hi', e'⟩ := at0 i hi
      rw [e']
      exact (hq i hi').2.1
    · rw [hplen]
      rw [show reachBytes = 140737488351232 from rfl] at hwl
      omega
    · obtain ⟨hi', e'⟩ := at0 i hi
      rw [e'] at hcc
      exact (hq i hi').2.2 c hcc
theorem list23 {α : Type} {l : List α} (h : l.length = 23) : ∃ a0 a1 a2 a3 a4 a5 a6 a7 a8 a9 a10 a11 a12 a13 a14 a15 a16 a17 a18 a19 a20 a21 a22, l = [a0, a1, a2, a3, a4, a5, a6, a7, a8, a9, a10, a11, a12, a13, a14, a15, a16, a17, a18, a19, a20, a21, a22] := by
  match l, h with
  | [a0, a1, a2, a3, a4, a5, a6, a7, a8, a9, a10, a11, a12, a13, a14, a15, a16, a17, a18, a19, a20, a21, a22], _ => exact ⟨a0, a1, a2, a3, a4, a5, a6, a7, a8, a9, a10, a11, a12, a13, a14, a15, a16, a17, a18, a19, a20, a21, a22, rfl⟩
theorem array23 {α : Type} {l : Array α} (h : l.size = 23) : ∃ a0 a1 a2 a3 a4 a5 a6 a7 a8 a9 a10 a11 a12 a13 a14 a15 a16 a17 a18 a19 a20 a21 a22, l = #[a0, a1, a2, a3, a4, a5, a6, a7, a8, a9, a10, a11, a12, a13, a14, a15, a16, a17, a18, a19, a20, a21, a22] := by
  obtain ⟨l⟩ := l
  obtain ⟨a0, a1, a2, a3, a4, a5, a6, a7, a8, a9, a10, a11, a12, a13, a14, a15, a16, a17, a18, a19, a20, a21, a22, h⟩ := list23 (l := l) (by simpa using h)
  exact ⟨a0, a1, a2, a3, a4, a5, a6, a7, a8, a9, a10, a11, a12, a13, a14, a15, a16, a17, a18, a19, a20, a21, a22, by rw [h]⟩
set_option maxRecDepth 100000 in
set_option maxHeartbeats 4000000 in
/-- a definition that is handed in -/
theorem open_cl {H : Type} {enc : TypeId × Value → H} {w : World} {r : Reach} {b0 base : Nat} {spare : Nat → Bool} {held : Bool} {v : Value} {d : DataW H} {p : List MemPlace} (hv : Value.okWide Tryz.prog w r b0 24 v) (h : DataW.Trod enc Tryz.prog w base spare held 24 v d p) (hw : ∀ n ∈ d.weights Tryz.prog 24, n ≤ reachBytes) :
    ∃ (st : ByteArray) (x : Nat → Int) (ns : List ND) (ao : Option Addr) (b o cap : Nat) (pv : Nat → Value), v = .agg (clA st x (.slice ao ns.length cap)) ∧ NsAt w.heap.size w ao b o pv ns ∧ st.size ≤ 9223372036854775807 := by
  obtain ⟨cs, rfl, hsz⟩ := okWide_struct Tryz.underlying24 hv
  obtain ⟨a0, a1, a2, a3, a4, a5, a6, a7, a8, a9, a10, a11, a12, a13, a14, a15, a16, a17, a18, a19, a20, a21, a22, rfl⟩ := array23 (hsz.trans cellsCl)
  obtain ⟨fuel, hf⟩ := h
  obtain ⟨xs, n, _, hx, _, hxl, hq⟩ := DataW.trod_struct Tryz.underlying24 hf
  obtain ⟨y0, y1, y2, y3, y4, y5, y6, y7, y8, y9, y10, y11, y12, y13, y14, y15, y16, y17, y18, y19, y20, y21, y22, rfl⟩ := list23 hxl
  have g0 := hq 0 _ rfl
  have g1 := hq 1 _ rfl
  have g2 := hq 2 _ rfl
  have g3 := hq 3 _ rfl
  have g4 := hq 4 _ rfl
  have g5 := hq 5 _ rfl
  have g6 := hq 6 _ rfl
  have g7 := hq 7 _ rfl
  have g8 := hq 8 _ rfl
  have g9 := hq 9 _ rfl
  have g10 := hq 10 _ rfl
  have g11 := hq 11 _ rfl
  have g12 := hq 12 _ rfl
  have g13 := hq 13 _ rfl
  have g14 := hq 14 _ rfl
  have g15 := hq 15 _ rfl
  have g16 := hq 16 _ rfl
  have g17 := hq 17 _ rfl
  have g18 := hq 18 _ rfl
  have g19 := hq 19 _ rfl
  have g20 := hq 20 _ rfl
  have g21 := hq 21 _ rfl
  have g22 := hq 22 _ rfl
  clear hq hf hv
  simp [Value.cells, cellsI, cellsS9, cellsNl] at g0 g1 g2 g3 g4 g5 g6 g7 g8 g9 g10 g11 g12 g13 g14 g15 g16 g17 g18 g19 g20 g21 g22
  obtain ⟨s0, f0, z0, w0⟩ := DataW.trod_string Tryz.underlying9 g0
  obtain ⟨n1, f1, z1, w1⟩ := DataW.trod_int Tryz.underlying3 g1
  obtain ⟨n2, f2, z2, w2⟩ := DataW.trod_int Tryz.underlying3 g2
  obtain ⟨n3, f3, z3, w3⟩ := DataW.trod_int Tryz.underlying3 g3
  obtain ⟨n4, f4, z4, w4⟩ := DataW.trod_int Tryz.underlying3 g4
  obtain ⟨n5, f5, z5, w5⟩ := DataW.trod_int Tryz.underlying3 g5
  obtain ⟨n6, f6, z6, w6⟩ := DataW.trod_int Tryz.underlying3 g6
  obtain ⟨n7, f7, z7, w7⟩ := DataW.trod_int Tryz.underlying3 g7
  obtain ⟨n8, f8, z8, w8⟩ := DataW.trod_int Tryz.underlying3 g8
  obtain ⟨n9, f9, z9, w9⟩ := DataW.trod_int Tryz.underlying3 g9
  obtain ⟨n10, f10, z10, w10⟩ := DataW.trod_int Tryz.underlying3 g10
  obtain ⟨n11, f11, z11, w11⟩ := DataW.trod_int Tryz.underlying3 g11
  obtain ⟨n12, f12, z12, w12⟩ := DataW.trod_int Tryz.underlying3 g12
  obtain ⟨n13, f13, z13, w13⟩ := DataW.trod_int Tryz.underlying3 g13
  obtain ⟨n14, f14, z14, w14⟩ := DataW.trod_int Tryz.underlying3 g14
  obtain ⟨n15, f15, z15, w15⟩ := DataW.trod_int Tryz.underlying3 g15
  obtain ⟨n16, f16, z16, w16⟩ := DataW.trod_int Tryz.underlying3 g16
  obtain ⟨n17, f17, z17, w17⟩ := DataW.trod_int Tryz.underlying3 g17
  obtain ⟨n18, f18, z18, w18⟩ := DataW.trod_int Tryz.underlying3 g18
  obtain ⟨n19, f19, z19, w19⟩ := DataW.trod_int Tryz.underlying3 g19
  obtain ⟨n20, f20, z20, w20⟩ := DataW.trod_int Tryz.underlying3 g20
  obtain ⟨n21, f21, z21, w21⟩ := DataW.trod_int Tryz.underlying3 g21
  simp only [List.cons.injEq, and_true] at f0 f1 f2 f3 f4 f5 f6 f7 f8 f9 f10 f11 f12 f13 f14 f15 f16 f17 f18 f19 f20 f21
  subst f0 f1 f2 f3 f4 f5 f6 f7 f8 f9 f10 f11 f12 f13 f14 f15 f16 f17 f18 f19 f20 f21
  simp only [Prod.mk.injEq] at hx
  obtain ⟨ns, ao, b, o, cap, pv, hv, hN⟩ := open_nodes g22 fun n hn => hw n (by
    rw [hx.1]
    simp only [DataW.weights, Tryz.underlying24]
    exact DataW.weights_mem_each (j := 22) rfl rfl n hn)
  subst hv
  refine ⟨s0, fun i => [n1, n2, n3, n4, n5, n6, n7, n8, n9, n10, n11, n12, n13, n14, n15, n16, n17, n18, n19, n20, n21][i]?.getD 0, ns, ao, b, o, cap, pv, rfl, hN, ?_⟩
  have := w0
  unfold maxLen at this
  omega
end Go.Proofs.YtndfhpfhgdamgaaGreatDoor
namespace Go.Proofs.YtndfhpfhgdamgaaGreatDoor.Cn
open Go.ChangeShapes Go.WideShapes Go.ChangeAt Go.RowKit Go.Deep
open Go.Joins (open_agg3 open_agg2)
theorem cellsI : Tryz.prog.cellsOf 3 = 1 := by kernel_rfl
theorem laidOutP : laidOutB Tryz.prog = true := by kernel_rfl
theorem int_of {n : Int} (h : (Lit.int .i64 n).wf = true) : -9223372036854775808 ≤ n ∧ n < 9223372036854775808 := by
  simp [Lit.wf, IntKind.min, IntKind.max, IntKind.signed, IntKind.bits] at h
  omega
end Go.Proofs.YtndfhpfhgdamgaaGreatDoor.Cn
namespace Go.Proofs.YtndfhpfhgdamgaaGreatDoor.Cn
open Go.ChangeShapes Go.WideShapes Go.ChangeAt Go.RowKit Go.Deep
theorem cellsMsg : Tryz.prog.cellsOf 58 = 11 := by kernel_rfl
theorem cellsErr : Tryz.prog.cellsOf 28 = 1 := by kernel_rfl
theorem cellsS9 : Tryz.prog.cellsOf 9 = 1 := by kernel_rfl
theorem list11 {α : Type} {l : List α} (h : l.length = 11) : ∃ a0 a1 a2 a3 a4 a5 a6 a7 a8 a9 a10, l = [a0, a1, a2, a3, a4, a5, a6, a7, a8, a9, a10] := by
  match l, h with
  | [a0, a1, a2, a3, a4, a5, a6, a7, a8, a9, a10], _ => exact ⟨a0, a1, a2, a3, a4, a5, a6, a7, a8, a9, a10, rfl⟩
theorem list14 {α : Type} {l : List α} (h : l.length = 14) : ∃ a0 a1 a2 a3 a4 a5 a6 a7 a8 a9 a10 a11 a12 a13, l = [a0, a1, a2, a3, a4, a5, a6, a7, a8, a9, a10, a11, a12, a13] := by
  match l, h with
  | [a0, a1, a2, a3, a4, a5, a6, a7, a8, a9, a10, a11, a12, a13], _ => exact ⟨a0, a1, a2, a3, a4, a5, a6, a7, a8, a9, a10, a11, a12, a13, rfl⟩
theorem list4 {α : Type} {l : List α} (h : l.length = 4) : ∃ a0 a1 a2 a3, l = [a0, a1, a2, a3] := by
  match l, h with
  | [a0, a1, a2, a3], _ => exact ⟨a0, a1, a2, a3, rfl⟩
set_option maxRecDepth 100000 in
set_option maxHeartbeats 1000000 in
/-- a message's cells -/
theorem open_mg {H : Type} {enc : TypeId × Value → H} {w : World} {base fuel : Nat} {spare : Nat → Bool} {held : Bool} {cs : List Value} {x : DataW H × List MemPlace} (h : DataW.trod enc Tryz.prog w base spare held fuel 58 cs = some x) (hl : cs.length = 11) :
    ∃ m : Mg, cs = (mgV m).toList := by
  obtain ⟨c0, c1, c2, c3, c4, c5, c6, c7, c8, c9, c10, rfl⟩ := list11 hl
  obtain ⟨xs2, n2, _, hx2, _, hxl2, hq2⟩ := DataW.trod_struct Tryz.underlying58 h
  obtain ⟨y0, y1, y2, y3, y4, y5, y6, y7, y8, y9, y10, rfl⟩ := list11 hxl2
  have g0 := hq2 0 _ rfl
  have g1 := hq2 1 _ rfl
  have g2 := hq2 2 _ rfl
  have g3 := hq2 3 _ rfl
  have g4 := hq2 4 _ rfl
  have g5 := hq2 5 _ rfl
  have g6 := hq2 6 _ rfl
  have g7 := hq2 7 _ rfl
  have g8 := hq2 8 _ rfl
  have g9 := hq2 9 _ rfl
  have g10 := hq2 10 _ rfl
  simp [cellsI, cellsS9, cellsErr] at g0 g1 g2 g3 g4 g5 g6 g7 g8 g9 g10
  obtain ⟨n0, f0, z0, w0⟩ := DataW.trod_int Tryz.underlying3 g0
  obtain ⟨n1, f1, z1, w1⟩ := DataW.trod_int Tryz.underlying3 g1
  obtain ⟨n2', f2, z2, w2⟩ := DataW.trod_int Tryz.underlying3 g2
  obtain ⟨n3, f3, z3, w3⟩ := DataW.trod_int Tryz.underlying3 g3
  obtain ⟨n4, f4, z4, w4⟩ := DataW.trod_int Tryz.underlying3 g4
  obtain ⟨n5, f5, z5, w5⟩ := DataW.trod_int Tryz.underlying3 g5
  obtain ⟨n6, f6, z6, w6⟩ := DataW.trod_int Tryz.underlying3 g6
  obtain ⟨n7, f7, z7, w7⟩ := DataW.trod_int Tryz.underlying3 g7
  obtain ⟨n8, f8, z8, w8⟩ := DataW.trod_int Tryz.underlying28 g8
  obtain ⟨s9, f9, z9, w9⟩ := DataW.trod_string Tryz.underlying9 g9
  obtain ⟨s10, f10, z10, w10⟩ := DataW.trod_string Tryz.underlying9 g10
  simp only [List.cons.injEq, and_true] at f0 f1 f2 f3 f4 f5 f6 f7 f8 f9 f10
  subst f0 f1 f2 f3 f4 f5 f6 f7 f8 f9 f10
  exact ⟨⟨n0, n1, n2', n3, n4, n5, n6, n7, n8, s9, s10⟩, rfl⟩
set_option maxRecDepth 100000 in
/-- rows that are handed in -/
theorem open_rows {H : Type} {α : Type} [Inhabited α] {enc : TypeId × Value → H} {w : World} {base fuel : Nat} {spare : Nat → Bool} {held : Bool} {v : Value} {x : DataW H × List MemPlace} {t e : TypeId} {k : Nat} {V : α → Array Value} (hu : Tryz.prog.underlying t = some (.slice e)) (hk : Tryz.prog.cellsOf e = k) (hk1 : 0 < k) (hV : ∀ s, (V s).size = k) (hone : ∀ {fuel : Nat} {cs : List Value} {x : DataW H × List MemPlace}, DataW.trod enc Tryz.prog w base spare held fuel e cs = some x → cs.length = k → ∃ s : α, cs = (V s).toList)
    (h : DataW.trod enc Tryz.prog w base spare held fuel t [v] = some x) (hlt : ∀ q ∈ x.2, q.block < w.heap.size) :
    ∃ (ys : List α) (ao : Option Addr) (b o cap : Nat), v = .slice ao ys.length cap ∧ RwAt k V w.heap.size w ao b o ys := by
  rcases open_slice hu h with ⟨h0, _⟩ | ⟨a, len, cap, m, n, D, Pl, hv, hb, hl, hm, hmm, hx, hc⟩
  · simp only [List.cons.injEq, and_true] at h0
    exact ⟨[], none, 0, 0, 0, by rw [h0]; rfl, fun z => absurd z (by simp), fun z => absurd z (by simp), (fun q hq => absurd hq (by simp)), Nat.zero_le _⟩
  · simp only [List.cons.injEq, and_true] at hv
    have hlm : len ≤ m := by rw [hmm]; split <;> omega
    have each : ∀ i, i < len → ∃ q : α, ∀ j u, (V q)[j]? = some u → w.cell? (a.add (i * k + j)) = some u := by
      intro i hi
      obtain ⟨cs', h1, h2⟩ := hc i (by omega)
      rw [hk] at h1
      obtain ⟨_, hlen, hcell⟩ := World.cells?_some h1
      obtain ⟨y, hy⟩ := hone h2 hlen
      refine ⟨y, fun j u hj => ?_⟩
      have hjk : j < k := by
        have := (Array.getElem?_eq_some_iff.1 hj).1
        rwa [hV] at this
      have e := hcell j hjk
      rw [add_add] at e
      rw [e, hy]
      simpa using hj
    obtain ⟨q, hq⟩ := choose_lt each
    have hplen : ((List.range len).map q).length = len := by simp
    obtain ⟨b, off, spot⟩ := a
    have hspot : 0 < len → spot = none := fun hp => by
      have hs : 0 < (V (q 0)).size := by rw [hV]; exact hk1
      have := hq 0 hp 0 _ (Array.getElem?_eq_getElem hs)
      simpa [Addr.add] using World.cell?_spot this
    refine ⟨(List.range len).map q, some ⟨b, off, spot⟩, b, off, cap, by rw [hv, hplen], fun z => ?_, fun z => ?_, fun i hi j u hj => ?_, ?_⟩
    · rw [hplen] at z
      rw [hspot z]
    · rw [hplen] at z
      refine hlt (.cell b off) ?_
      rw [hx]
      refine List.mem_append_left _ (MemPlace.mem_row.2 ⟨0, ?_, by simp⟩)
      rw [hk]
      exact Nat.mul_pos (by omega) hk1
    · rw [hplen] at hi
      rw [List.getElem_map, List.getElem_range] at hj
      have := hq i hi j u hj
      rw [hspot (by omega), Addr.add_mid] at this
      rw [Nat.add_assoc]
      exact this
    · rw [hplen]
      unfold maxLen at hm
      omega
theorem open_msgs {H : Type} {enc : TypeId × Value → H} {w : World} {base fuel : Nat} {v : Value} {x : DataW H × List MemPlace} (h : DataW.trod enc Tryz.prog w base (fun _ => true) true fuel 35 [v] = some x) (hlt : ∀ q ∈ x.2, q.block < w.heap.size) :
    ∃ (ys : List Mg) (ao : Option Addr) (b o cap : Nat), v = .slice ao ys.length cap ∧ RwAt 11 mgV w.heap.size w ao b o ys := by
  haveI : Inhabited Mg := ⟨mg0⟩
  exact open_rows (k := 11) Tryz.underlying35 cellsMsg (by omega) (fun _ => rfl) (fun h hl => open_mg h hl) h hlt
end Go.Proofs.YtndfhpfhgdamgaaGreatDoor.Cn
namespace Go.Proofs.YtndfhpfhgdamgaaGreatDoor.Cn
open Go.ChangeShapes Go.WideShapes Go.ChangeAt Go.RowKit Go.Deep
theorem bytesS9 : Tryz.prog.bytesOf 9 = 16 := by kernel_rfl
theorem cellsSl : Tryz.prog.cellsOf 56 = 1 := by kernel_rfl
theorem cellsRo : Tryz.prog.cellsOf 60 = 15 := by kernel_rfl
set_option maxRecDepth 100000 in
/-- texts that are handed in -/
theorem open_ks {H : Type} {enc : TypeId × Value → H} {w : World} {base fuel : Nat} {spare : Nat → Bool} {held : Bool} {v : Value} {x : DataW H × List MemPlace} (h : DataW.trod enc Tryz.prog w base spare held fuel 56 [v] = some x) (hw : ∀ n ∈ x.1.weights Tryz.prog 56, n ≤ reachBytes) (hz : 0 < w.heap.size) :
    ∃ (ks : List ByteArray) (ao : Option Addr) (b o cap : Nat), v = .slice ao ks.length cap ∧ KsAt w ao b o ks ∧ ks.length ≤ 8796093022200 ∧ b < w.heap.size := by
  rcases open_slice1 Tryz.underlying56 cellsS9 h with ⟨h0, _⟩ | ⟨a, len, cap, m, n, V, D, Pl, hv, hb, hl, hm, hmm, hx, hc⟩
  · simp only [List.cons.injEq, and_true] at h0
    subst h0
    exact ⟨[], none, 0, 0, 0, rfl, ⟨fun q => absurd q (by simp), (fun q hq => absurd hq (by simp)), Nat.zero_le _, (fun q hq => absurd hq (by simp))⟩, Nat.zero_le _, hz⟩
  · simp only [List.cons.injEq, and_true] at hv
    subst hv
    have hlm : len ≤ m := by rw [hmm]; split <;> omega
    have hwl : len * 16 ≤ reachBytes := by
      have := hw ((len + (m - len)) * 16) (by rw [hx]; simp [DataW.weights, Tryz.underlying56, bytesS9])
      omega
    rw [show reachBytes = 140737488351232 from rfl] at hwl
    have each : ∀ i, i < len → ∃ y : ByteArray, V i = .string y ∧ y.size ≤ 9223372036854775807 := fun i hi => by
      obtain ⟨y, f, _, w0⟩ := DataW.trod_string Tryz.underlying9 (hc i (by omega)).2
      simp only [List.cons.injEq, and_true] at f
      unfold maxLen at w0
      exact ⟨y, f, by omega⟩
    haveI : Inhabited ByteArray := ⟨⟨#[]⟩⟩
    obtain ⟨q, hq⟩ := choose_lt each
    have hplen : ((List.range len).map q).length = len := by simp
    obtain ⟨b, off, spot⟩ := a
    have hspot : 0 < len → spot = none := fun h => by simpa [Addr.add] using World.cell?_spot (hc 0 (by omega)).1
    have cell : ∀ (i : Nat) (hi : i < ((List.range len).map q).length), w.cell? ⟨b, off + i, none⟩ = some (.string ((List.range len).map q)[i]) := by
      intro i hi
      have hi' : i < len := by rw [hplen] at hi; exact hi
      have e := (hc i (by omega)).1
      rw [hspot (by omega), Addr.add_mid, (hq i hi').1] at e
      rw [e, List.getElem_map, List.getElem_range]
    have sz : ∀ k ∈ (List.range len).map q, k.size ≤ 9223372036854775807 := fun k hk => by
      obtain ⟨i, hi, rfl⟩ := List.mem_map.1 hk
      exact (hq i (List.mem_range.1 hi)).2
    by_cases hp : 0 < len
    · refine ⟨(List.range len).map q, some ⟨b, off, spot⟩, b, off, cap, by rw [hplen], ⟨fun z => by rw [hspot hp], cell, by rw [hplen]; omega, sz⟩, by rw [hplen]; omega, ?_⟩
      exact World.block_lt_of_cell? w _ (cell 0 (by rw [hplen]; exact hp))
    · refine ⟨(List.range len).map q, some ⟨b, off, spot⟩, 0, off, cap, by rw [hplen], ⟨fun z => absurd z (by rw [hplen]; exact hp), fun i hi => absurd hi (by rw [hplen]; omega), by rw [hplen]; omega, sz⟩, by rw [hplen]; omega, hz⟩
theorem list15 {α : Type} {l : List α} (h : l.length = 15) : ∃ a0 a1 a2 a3 a4 a5 a6 a7 a8 a9 a10 a11 a12 a13 a14, l = [a0, a1, a2, a3, a4, a5, a6, a7, a8, a9, a10, a11, a12, a13, a14] := by
  match l, h with
  | [a0, a1, a2, a3, a4, a5, a6, a7, a8, a9, a10, a11, a12, a13, a14], _ => exact ⟨a0, a1, a2, a3, a4, a5, a6, a7, a8, a9, a10, a11, a12, a13, a14, rfl⟩
theorem list5 {α : Type} {l : List α} (h : l.length = 5) : ∃ a0 a1 a2 a3 a4, l = [a0, a1, a2, a3, a4] := by
  match l, h with
  | [a0, a1, a2, a3, a4], _ => exact ⟨a0, a1, a2, a3, a4, rfl⟩
set_option maxRecDepth 100000 in
set_option maxHeartbeats 1000000 in
set_option linter.unusedSimpArgs false in
theorem mg_id {H : Type} {enc : TypeId × Value → H} {w : World} {base fuel : Nat} {spare : Nat → Bool} {held : Bool} {m : Mg} {x : DataW H × List MemPlace} (h : DataW.trod enc Tryz.prog w base spare held fuel 58 (mgV m).toList = some x) : tkOk m.id := by
  obtain ⟨xs2, n2, _, hx2, _, hxl2, hq2⟩ := DataW.trod_struct Tryz.underlying58 h
  obtain ⟨y0, y1, y2, y3, y4, y5, y6, y7, y8, y9, y10, rfl⟩ := list11 hxl2
  have g3 := hq2 3 _ rfl
  simp [mgV, cellsI, cellsS9, cellsErr] at g3
  obtain ⟨n3, f3, z3, w3⟩ := DataW.trod_int Tryz.underlying3 g3
  simp only [List.cons.injEq, and_true, Value.int.injEq, true_and] at f3
  subst f3
  exact int_of w3
set_option maxRecDepth 100000 in
set_option maxHeartbeats 1000000 in
/-- a step's cells -/
theorem open_op {H : Type} {enc : TypeId × Value → H} {w : World} {base fuel : Nat} {spare : Nat → Bool} {held : Bool} {cs : List Value} {x : DataW H × List MemPlace} (h : DataW.trod enc Tryz.prog w base spare held fuel 60 cs = some x) (hl : cs.length = 15) (hw : ∀ n ∈ x.1.weights Tryz.prog 60, n ≤ reachBytes) (hz : 0 < w.heap.size) :
    ∃ s : Op2, cs = (opV s).toList ∧ OpOk w s := by
  obtain ⟨c0, c1, c2, c3, c4, c5, c6, c7, c8, c9, c10, c11, c12, c13, c14, rfl⟩ := list15 hl
  obtain ⟨xs, n, _, hx, _, hxl, hq⟩ := DataW.trod_struct Tryz.underlying60 h
  obtain ⟨ya, yb, yc, yd, ye, rfl⟩ := list5 hxl
  have ga := hq 0 _ rfl
  have gb := hq 1 _ rfl
  have gc := hq 2 _ rfl
  have gd := hq 3 _ rfl
  have ge := hq 4 _ rfl
  simp [cellsMsg, cellsI, cellsS9, cellsSl] at ga gb gc gd ge
  obtain ⟨n0, f0, z0, w0⟩ := DataW.trod_int Tryz.underlying3 ga
  obtain ⟨n1, f1, z1, w1⟩ := DataW.trod_int Tryz.underlying3 gb
  obtain ⟨s2, f2, z2, w2⟩ := DataW.trod_string Tryz.underlying9 gc
  obtain ⟨ks, ia, lb, lo, lcap, f3, k1, k2, k3⟩ := open_ks gd (fun n hn => hw n (by
    rw [hx]
    simp only [DataW.weights, Tryz.underlying60]
    exact DataW.weights_mem_each (j := 3) rfl rfl n hn)) hz
  obtain ⟨m, hm⟩ := open_mg ge rfl
  rw [hm] at ge
  have hid := mg_id ge
  simp only [List.cons.injEq, and_true] at f0 f1 f2
  subst f0 f1 f2 f3
  refine ⟨⟨n0, n1, s2, .slice ia ks.length lcap, m⟩, ?_, ⟨ia, lb, lo, lcap, ks, rfl, k1, k2, k3⟩, ?_, ?_, hid⟩
  · simp only [mgV, List.cons.injEq] at hm
    obtain ⟨h0, h1, h2, h3, h4, h5, h6, h7, h8, h9, h10, _⟩ := hm
    subst h0 h1 h2 h3 h4 h5 h6 h7 h8 h9 h10
    rfl
  · unfold maxLen at w2
    show s2.size ≤ _
    omega
  · show tkOk n1
    exact int_of w1
set_option maxRecDepth 100000 in
/-- the script that is handed in -/
theorem open_ops {H : Type} {enc : TypeId × Value → H} {w : World} {base fuel : Nat} {spare : Nat → Bool} {held : Bool} {v : Value} {x : DataW H × List MemPlace} (h : DataW.trod enc Tryz.prog w base spare held fuel 51 [v] = some x) (hw : ∀ n ∈ x.1.weights Tryz.prog 51, n ≤ reachBytes) (hz : 0 < w.heap.size) :
    ∃ (ys : List Op2) (ao : Option Addr) (b o cap : Nat), v = .slice ao ys.length cap ∧ RwAt 15 opV w.heap.size w ao b o ys ∧ ∀ i (hi : i < ys.length), OpOk w ys[i] := by
  rcases open_slice Tryz.underlying51 h with ⟨h0, _⟩ | ⟨a, len, cap, m, n, D, Pl, hv, hb, hl, hm, hmm, hx, hc⟩
  · simp only [List.cons.injEq, and_true] at h0
    exact ⟨[], none, 0, 0, 0, by rw [h0]; rfl, ⟨fun z => absurd z (by simp), fun z => absurd z (by simp), (fun q hq => absurd hq (by simp)), Nat.zero_le _⟩, (fun q hq => absurd hq (by simp))⟩
  · simp only [List.cons.injEq, and_true] at hv
    have hlm : len ≤ m := by rw [hmm]; split <;> omega
    have each : ∀ i, i < len → ∃ q : Op2, (∀ j u, (opV q)[j]? = some u → w.cell? (a.add (i * 15 + j)) = some u) ∧ OpOk w q := by
      intro i hi
      obtain ⟨cs', h1, h2⟩ := hc i (by omega)
      rw [cellsRo] at h1
      obtain ⟨_, hlen, hcell⟩ := World.cells?_some h1
      obtain ⟨y, hy, hok⟩ := open_op h2 hlen (fun n hn => hw n (by
        rw [hx]
        simp only [DataW.weights, Tryz.underlying51]
        exact List.mem_cons_of_mem _ (List.mem_append_left _ (YtndfhpfhgdamgaaGreatDoor.all_mem hn (List.mem_map.2 ⟨i, List.mem_range.2 hi, rfl⟩))))) hz
      refine ⟨y, fun j u hj => ?_, hok⟩
      have hjk : j < 15 := by
        have := (Array.getElem?_eq_some_iff.1 hj).1
        exact this
      have e := hcell j hjk
      rw [add_add] at e
      rw [e, hy]
      simpa using hj
    haveI : Inhabited Op2 := ⟨⟨0, 0, ⟨#[]⟩, .slice none 0 0, mg0⟩⟩
    obtain ⟨q, hq⟩ := choose_lt each
    have hplen : ((List.range len).map q).length = len := by simp
    obtain ⟨b, off, spot⟩ := a
    have hspot : 0 < len → spot = none := fun hp => by
      have hs : 0 < (opV (q 0)).size := by show 0 < 15; omega
      have := (hq 0 hp).1 0 _ (Array.getElem?_eq_getElem hs)
      simpa [Addr.add] using World.cell?_spot this
    have cc : ∀ (i : Nat) (hi : i < ((List.range len).map q).length) (j : Nat) (u : Value), (opV ((List.range len).map q)[i])[j]? = some u → w.cell? ⟨b, off + i * 15 + j, none⟩ = some u := fun i hi j u hj => by
      rw [hplen] at hi
      rw [List.getElem_map, List.getElem_range] at hj
      have := (hq i hi).1 j u hj
      rw [hspot (by omega), Addr.add_mid] at this
      rw [Nat.add_assoc]
      exact this
    refine ⟨(List.range len).map q, some ⟨b, off, spot⟩, b, off, cap, by rw [hv, hplen], ⟨fun z => ?_, fun z => ?_, cc, ?_⟩, fun i hi => ?_⟩
    · rw [hplen] at z
      rw [hspot z]
    · exact World.block_lt_of_cell? w _ (cc 0 z 0 _ rfl)
    · rw [hplen]
      unfold maxLen at hm
      omega
    · rw [hplen] at hi
      rw [List.getElem_map, List.getElem_range]
      exact (hq i hi).2
end Go.Proofs.YtndfhpfhgdamgaaGreatDoor.Cn
namespace Go.Proofs.YtndfhpfhgdamgaaGreatDoor
open Go.RowKit Go.Lib
def laidD : List (String × DataW Unit) := [("granary/digest.sines", Rows.laid_granary_digest_sines), ("granary/digest.turns", Rows.laid_granary_digest_turns)]
theorem gName1 : Tryz.prog.globalNamed "granary/digest.sines" = some 0 := by kernel_rfl
theorem gName2 : Tryz.prog.globalNamed "granary/digest.turns" = some 1 := by kernel_rfl
theorem gType1 : (Tryz.prog.globals[0]?).map (·.type) = some 173 := by kernel_rfl
theorem gType2 : (Tryz.prog.globals[1]?).map (·.type) = some 176 := by kernel_rfl
theorem cells48 : Tryz.prog.cellsOf 125 = 1 := by kernel_rfl
theorem cells64 : Tryz.prog.cellsOf 173 = 64 := by kernel_rfl
theorem cells3 : Tryz.prog.cellsOf 3 = 1 := by kernel_rfl
theorem cells4 : Tryz.prog.cellsOf 175 = 4 := by kernel_rfl
theorem cells44 : Tryz.prog.cellsOf 176 = 16 := by kernel_rfl
theorem tab_of {W : World} {name : String} {d : DataW Unit} {k : IntKind} {zs : List Int} {g : Nat} {t e : TypeId} {n : Nat} (h : VarReads Tryz.prog W name d) (hd : d = tabData k zs)
    (hg : Tryz.prog.globalNamed name = some g) (hty : (Tryz.prog.globals[g]?).map (·.type) = some t) (ht : Tryz.prog.underlying t = some (.array n e)) (he : Tryz.prog.underlying e = some (.int k)) (hce : Tryz.prog.cellsOf e = 1) (hct : Tryz.prog.cellsOf t = n) : TabIs Tryz.prog W name k zs := by
  obtain ⟨g', t', cs, fuel, p, hg', ht', hvar, hdd⟩ := h
  obtain rfl := Option.some.inj (hg.symm.trans hg')
  obtain rfl := Option.some.inj (hty.symm.trans ht')
  subst hd
  unfold TabIs
  rw [hvar, ← cells_of_tab ht he hce hct hdd]
def turnRows : List (List Int) := [[7, 12, 17, 22], [5, 9, 14, 20], [4, 11, 16, 23], [6, 10, 15, 21]]
theorem turns_cells {W : World} {fuel : Nat} {cs : List Value} {p : List MemPlace} {sp : Nat → Bool} (h : DataW.trod (fun _ => ()) Tryz.prog W 0 sp false fuel 176 cs = some (.agg (turnRows.map fun r => tabData .i64 r), p)) :
    ∀ j, j < 16 → cs[j]? = some (.int .i64 (trn j : Int)) := by
  cases fuel with
  | zero => simp [DataW.trod] at h
  | succ fuel =>
    simp only [DataW.trod, Tryz.underlying176, cells4, cells44] at h
    split at h
    · obtain ⟨xs, hm, hx⟩ := Option.map_eq_some_iff.1 h
      have hxs : xs.map (·.1) = turnRows.map fun r => (tabData .i64 r : DataW Unit) := by
        have := congrArg Prod.fst hx
        simpa using this
      have row : ∀ i, i < 4 → ∀ r, turnRows[i]? = some r → (cs.drop (i * 4)).take 4 = r.map fun z => Value.int .i64 z := by
        intro i hi r hr
        obtain ⟨b, hb, hf⟩ := mapM_at hm i i (by simp [hi])
        have h2 : (xs.map (·.1))[i]? = some b.1 := by simp [hb]
        rw [hxs, List.getElem?_map, hr] at h2
        have h3 : b.1 = tabData .i64 r := (Option.some.inj h2).symm
        obtain ⟨b1, b2⟩ := b
        subst h3
        exact cells_of_tab Tryz.underlying175 Tryz.underlying3 cells3 cells4 hf
      intro j hj
      have hq := row (j / 4) (by omega)
      have hcell : cs[j]? = ((cs.drop (j / 4 * 4)).take 4)[j % 4]? := by
        rw [List.getElem?_take_of_lt (by omega), List.getElem?_drop]
        congr 1
        omega
      have key : ∃ r, turnRows[j / 4]? = some r ∧ (r.map fun z => Value.int .i64 z)[j % 4]? = some (.int .i64 (trn j : Int)) := by
        clear hq hcell
        rcases (show j = 0 ∨ j = 1 ∨ j = 2 ∨ j = 3 ∨ j = 4 ∨ j = 5 ∨ j = 6 ∨ j = 7 ∨ j = 8 ∨ j = 9 ∨ j = 10 ∨ j = 11 ∨ j = 12 ∨ j = 13 ∨ j = 14 ∨ j = 15 by omega) with rfl | rfl | rfl | rfl | rfl | rfl | rfl | rfl | rfl | rfl | rfl | rfl | rfl | rfl | rfl | rfl <;> exact ⟨_, rfl, rfl⟩
      obtain ⟨r, hr1, hr2⟩ := key
      rw [hcell, hq r hr1]
      exact hr2
    · cases h
theorem tabd_of {W : World} (h1 : VarReads Tryz.prog W "granary/digest.sines" Rows.laid_granary_digest_sines) (h2 : VarReads Tryz.prog W "granary/digest.turns" Rows.laid_granary_digest_turns) (hsh : W.ShapedOpen Tryz.prog) : TabD W := by
  obtain ⟨mx, hmx⟩ : ∃ m, W.cell? ⟨2, 0, none⟩ = some (.int .i64 m) := Go.Proofs.cell_of_shapedOpen_int (zero := #[.int .i64 0]) (t := 3) hsh (of_decide_eq_true (by kernel_rfl)) (by kernel_rfl) rfl (by kernel_rfl) (by kernel_rfl) Tryz.underlying3
  have t1 := tab_of (zs := SN) h1 rfl gName1 gType1 Tryz.underlying173 Tryz.underlying125 cells48 cells64
  have t2 : TabT 1 W := fun j hj => by
    obtain ⟨g', t', cs, fuel, p, hg', ht', hvar, hdd⟩ := h2
    obtain rfl := Option.some.inj (gName2.symm.trans hg')
    obtain rfl := Option.some.inj (gType2.symm.trans ht')
    have := turns_cells hdd j hj
    rw [World.var?_cell gName2 hvar j]
    simpa using this
  refine ⟨World.block_lt_of_cell? W _ hmx, fun j hj => ?_, t2⟩
  · rw [t1.cell gName1 j (by exact hj)]
    have : ∀ m : Fin 64, SN.getD m.1 0 = (sin m.1 : Int) := by decide +kernel
    rw [this ⟨j, hj⟩]
end Go.Proofs.YtndfhpfhgdamgaaGreatDoor
