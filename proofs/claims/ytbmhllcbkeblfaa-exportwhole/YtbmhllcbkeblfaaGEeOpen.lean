import Derived.Test.YtbmhllcbkeblfaaRows
import Derived.Test.YtbmhllcbkeblfaaGEpClus
import Derived.ProofKit
import Derived.OpenShut
import Derived.JoinedOf
import Derived.SizedLaws
import Derived.Lib.SmallJoins
import Derived.Deep.SlicePairs
import Derived.Deep.DeepHandedRow
import Derived.Test.YtbmhllcbkeblfaaGEwMem
namespace Go.Proofs.Ytbmhllcbkeblfaa
open Go.ChangeShapes Go.WideShapes Go.ChangeAt Go.RowKit Go.Deep
theorem cellsI : Try.prog.cellsOf 3 = 1 := by kernel_rfl
theorem cellsS9 : Try.prog.cellsOf 9 = 1 := by kernel_rfl
theorem cellsNd : Try.prog.cellsOf 79 = 2 := by kernel_rfl
theorem cellsPl : Try.prog.cellsOf 47 = 1 := by kernel_rfl
theorem cellsNl : Try.prog.cellsOf 22 = 1 := by kernel_rfl
theorem cellsCl : Try.prog.cellsOf 24 = 23 := by kernel_rfl
theorem bytesI : Try.prog.bytesOf 3 = 8 := by kernel_rfl
theorem bytesNd : Try.prog.bytesOf 79 = 32 := by kernel_rfl
theorem laidOutP : laidOutB Try.prog = true := by kernel_rfl
theorem add_plainT (b o j : Nat) : (⟨b, o, none⟩ : Addr).add j = ⟨b, o + j, none⟩ := Addr.add_mid b o j
theorem all_mem {H : Type} {P : Program} {e : TypeId} {d : DataW H} {n : Nat} (hn : n ∈ d.weights P e) : ∀ {l : List (DataW H)}, d ∈ l → n ∈ DataW.weightsAll P e l
  | [], h => by cases h
  | c :: r, h => by
    simp only [DataW.weightsAll, List.mem_append]
    rcases List.mem_cons.1 h with rfl | h
    · exact Or.inl hn
    · exact Or.inr (all_mem hn h)
set_option maxRecDepth 100000 in
/-- a node's list that is handed in -/
theorem open_ps {H : Type} {enc : TypeId × Value → H} {w : World} {base fuel : Nat} {spare : Nat → Bool} {held : Bool} {v : Value} {x : DataW H × List MemPlace} (h : DataW.trod enc Try.prog w base spare held fuel 47 [v] = some x) (hw : ∀ n ∈ x.1.weights Try.prog 47, n ≤ reachBytes) :
    ∃ L : List Int, Pv w.heap.size w v L ∧ ∀ c, v = .slice none L.length c → c = 0 := by
  rcases open_slice1 Try.underlying47 cellsI h with ⟨h0, _⟩ | ⟨a, len, cap, m, n, V, D, Pl, hv, hb, hl, hm, hmm, hx, hc⟩
  · simp only [List.cons.injEq, and_true] at h0
    subst h0
    refine ⟨[], ⟨none, 0, 0, 0, rfl, ⟨fun q => absurd q (by simp), fun q => absurd q (by simp), (fun q hq => absurd hq (by simp)), Nat.zero_le _⟩⟩, fun c hc => ?_⟩
    injection hc with _ _ h3
    exact h3.symm
  · simp only [List.cons.injEq, and_true] at hv
    subst hv
    have hlm : len ≤ m := by rw [hmm]; split <;> omega
    have hwl : len * 8 ≤ reachBytes := by
      have := hw ((len + (m - len)) * 8) (by rw [hx]; simp [DataW.weights, Try.underlying47, bytesI])
      omega
    have each : ∀ i, i < len → ∃ y : Int, V i = .int .i64 y := fun i hi => by
      obtain ⟨y, f, _, _⟩ := DataW.trod_int Try.underlying3 (hc i (by omega)).2
      simp only [List.cons.injEq, and_true] at f
      exact ⟨y, f⟩
    obtain ⟨q, hq⟩ := choose_lt each
    have hplen : ((List.range len).map q).length = len := by simp
    obtain ⟨b, off, spot⟩ := a
    have hspot : 0 < len → spot = none := fun h => by simpa [Addr.add] using World.cell?_spot (hc 0 (by omega)).1
    have cell : ∀ (i : Nat) (hi : i < ((List.range len).map q).length), w.cell? ⟨b, off + i, none⟩ = some (.int .i64 ((List.range len).map q)[i]) := by
      intro i hi
      have hi' : i < len := by rw [hplen] at hi; exact hi
      have e := (hc i (by omega)).1
      rw [hspot (by omega), add_plainT, hq i hi'] at e
      rw [e, List.getElem_map, List.getElem_range]
    refine ⟨(List.range len).map q, ⟨some ⟨b, off, spot⟩, b, off, cap, by rw [hplen], ⟨fun z => ?_, fun z => ?_, cell, ?_⟩⟩, fun c hc => by cases hc⟩
    · rw [hplen] at z
      rw [hspot z]
    · exact World.block_lt_of_cell? w _ (cell 0 z)
    · rw [hplen]
      rw [show reachBytes = 140737488351232 from rfl] at hwl
      omega
set_option maxRecDepth 100000 in
/-- the nodes that are handed in -/
theorem open_nodes {H : Type} {enc : TypeId × Value → H} {w : World} {base fuel : Nat} {spare : Nat → Bool} {held : Bool} {v : Value} {x : DataW H × List MemPlace} (h : DataW.trod enc Try.prog w base spare held fuel 22 [v] = some x) (hw : ∀ n ∈ x.1.weights Try.prog 22, n ≤ reachBytes) :
    ∃ (ns : List ND) (ao : Option Addr) (b o cap : Nat) (pv : Nat → Value), v = .slice ao ns.length cap ∧ NsAt w.heap.size w ao b o pv ns := by
  rcases open_slice_pairs Try.underlying22 Try.underlying79 cellsNd rfl rfl cellsI cellsPl h with ⟨h0, _⟩ | ⟨a, len, cap, m, n, V0, V1, D0, D1, P0, P1, hv, hb, hl, hm, hmm, hx, hc⟩
  · simp only [List.cons.injEq, and_true] at h0
    subst h0
    exact ⟨[], none, 0, 0, 0, fun _ => .slice none 0 0, rfl, ⟨fun q => absurd q (by simp), fun q => absurd q (by simp), (fun q hq => absurd hq (by simp)), (fun q hq => absurd hq (by simp)), (fun q hq => absurd hq (by simp)), Nat.zero_le _, (fun q hq => absurd hq (by simp))⟩⟩
  · simp only [List.cons.injEq, and_true] at hv
    subst hv
    have hlm : len ≤ m := by rw [hmm]; split <;> omega
    have hwl : len * 32 ≤ reachBytes := by
      have := hw ((len + (m - len)) * 32) (by rw [hx]; simp [DataW.weights, Try.underlying22, bytesNd])
      omega
    have each : ∀ i, i < len → ∃ y : ND, V0 i = .int .i64 y.z ∧ Pv w.heap.size w (V1 i) y.ps ∧ ∀ c, V1 i = .slice none y.ps.length c → c = 0 := fun i hi => by
      obtain ⟨_, _, t0, t1⟩ := hc i (by omega)
      obtain ⟨y, f, _, _⟩ := DataW.trod_int Try.underlying3 t0
      simp only [List.cons.injEq, and_true] at f
      obtain ⟨L, hL, hn⟩ := open_ps t1 fun n hn => hw n (by
        rw [hx]
        simp only [DataW.weights, Try.underlying22]
        refine List.mem_cons_of_mem _ (List.mem_append_left _ (all_mem (d := DataW.agg [D0 i, D1 i]) ?_ (List.mem_map.2 ⟨i, List.mem_range.2 hi, rfl⟩)))
        simp only [DataW.weights, Try.underlying79]
        exact DataW.weights_mem_each (j := 1) rfl rfl n hn)
      exact ⟨⟨y, L⟩, f, hL, hn⟩
    obtain ⟨q, hq⟩ := choose_lt each
    have hplen : ((List.range len).map q).length = len := by simp
    obtain ⟨b, off, spot⟩ := a
    have hspot : 0 < len → spot = none := fun h => by simpa [Addr.add] using World.cell?_spot (hc 0 (by omega)).1
    have at0 : ∀ (i : Nat) (hi : i < ((List.range len).map q).length), i < len ∧ ((List.range len).map q)[i] = q i := fun i hi => ⟨by rw [hplen] at hi; exact hi, by rw [List.getElem_map, List.getElem_range]⟩
    have c0 : ∀ (i : Nat) (hi : i < ((List.range len).map q).length), w.cell? ⟨b, off + i * 2, none⟩ = some (.int .i64 ((List.range len).map q)[i].z) := by
      intro i hi
      obtain ⟨hi', e'⟩ := at0 i hi
      have e := (hc i (by omega)).1
      rw [hspot (by omega), add_plainT, (hq i hi').1] at e
      rw [e, e']
    have c1 : ∀ (i : Nat) (hi : i < ((List.range len).map q).length), w.cell? ⟨b, off + i * 2 + 1, none⟩ = some (V1 i) := by
      intro i hi
      obtain ⟨hi', e'⟩ := at0 i hi
      have e := (hc i (by omega)).2.1
      rw [hspot (by omega), add_plainT] at e
      rw [← Nat.add_assoc] at e
      exact e
    refine ⟨(List.range len).map q, some ⟨b, off, spot⟩, b, off, cap, V1, by rw [hplen], ⟨fun z => ?_, fun z => ?_, c0, c1, fun i hi => ?_, ?_, fun i hi c hcc => ?_⟩⟩
    · rw [hplen] at z
      rw [hspot z]
    · exact World.block_lt_of_cell? w _ (c0 0 z)
    · obtain ⟨hi', e'⟩ := at0 i hi
      rw [e']
      exact (hq i hi').2.1
    · rw [hplen]
      rw [show reachBytes = 140737488351232 from rfl] at hwl
      omega
    · obtain ⟨hi', e'⟩ := at0 i hi
      rw [e'] at hcc
      exact (hq i hi').2.2 c hcc
theorem list23 {α : Type} {l : List α} (h : l.length = 23) : ∃ a0 a1 a2 a3 a4 a5 a6 a7 a8 a9 a10 a11 a12 a13 a14 a15 a16 a17 a18 a19 a20 a21 a22, l = [a0, a1, a2, a3, a4, a5, a6, a7, a8, a9, a10, a11, a12, a13, a14, a15, a16, a17, a18, a19, a20, a21, a22] := by
  match l, h with
  | [a0, a1, a2, a3, a4, a5, a6, a7, a8, a9, a10, a11, a12, a13, a14, a15, a16, a17, a18, a19, a20, a21, a22], _ => exact ⟨a0, a1, a2, a3, a4, a5, a6, a7, a8, a9, a10, a11, a12, a13, a14, a15, a16, a17, a18, a19, a20, a21, a22, rfl⟩
theorem array23 {α : Type} {l : Array α} (h : l.size = 23) : ∃ a0 a1 a2 a3 a4 a5 a6 a7 a8 a9 a10 a11 a12 a13 a14 a15 a16 a17 a18 a19 a20 a21 a22, l = #[a0, a1, a2, a3, a4, a5, a6, a7, a8, a9, a10, a11, a12, a13, a14, a15, a16, a17, a18, a19, a20, a21, a22] := by
  obtain ⟨l⟩ := l
  obtain ⟨a0, a1, a2, a3, a4, a5, a6, a7, a8, a9, a10, a11, a12, a13, a14, a15, a16, a17, a18, a19, a20, a21, a22, h⟩ := list23 (l := l) (by simpa using h)
  exact ⟨a0, a1, a2, a3, a4, a5, a6, a7, a8, a9, a10, a11, a12, a13, a14, a15, a16, a17, a18, a19, a20, a21, a22, by rw [h]⟩
set_option maxRecDepth 100000 in
set_option maxHeartbeats 4000000 in
/-- a definition that is handed in -/
theorem open_cl {H : Type} {enc : TypeId × Value → H} {w : World} {r : Reach} {b0 base : Nat} {spare : Nat → Bool} {held : Bool} {v : Value} {d : DataW H} {p : List MemPlace} (hv : Value.okWide Try.prog w r b0 24 v) (h : DataW.Trod enc Try.prog w base spare held 24 v d p) (hw : ∀ n ∈ d.weights Try.prog 24, n ≤ reachBytes) :
    ∃ (st : ByteArray) (x : Nat → Int) (ns : List ND) (ao : Option Addr) (b o cap : Nat) (pv : Nat → Value), v = .agg (clA st x (.slice ao ns.length cap)) ∧ NsAt w.heap.size w ao b o pv ns ∧ st.size ≤ 9223372036854775807 := by
  obtain ⟨cs, rfl, hsz⟩ := okWide_struct Try.underlying24 hv
  obtain ⟨a0, a1, a2, a3, a4, a5, a6, a7, a8, a9, a10, a11, a12, a13, a14, a15, a16, a17, a18, a19, a20, a21, a22, rfl⟩ := array23 (hsz.trans cellsCl)
  obtain ⟨fuel, hf⟩ := h
  obtain ⟨xs, n, _, hx, _, hxl, hq⟩ := DataW.trod_struct Try.underlying24 hf
  obtain ⟨y0, y1, y2, y3, y4, y5, y6, y7, y8, y9, y10, y11, y12, y13, y14, y15, y16, y17, y18, y19, y20, y21, y22, rfl⟩ := list23 hxl
  have g0 := hq 0 _ rfl
  have g1 := hq 1 _ rfl
  have g2 := hq 2 _ rfl
  have g3 := hq 3 _ rfl
  have g4 := hq 4 _ rfl
  have g5 := hq 5 _ rfl
  have g6 := hq 6 _ rfl
  have g7 := hq 7 _ rfl
  have g8 := hq 8 _ rfl
  have g9 := hq 9 _ rfl
  have g10 := hq 10 _ rfl
  have g11 := hq 11 _ rfl
  have g12 := hq 12 _ rfl
  have g13 := hq 13 _ rfl
  have g14 := hq 14 _ rfl
  have g15 := hq 15 _ rfl
  have g16 := hq 16 _ rfl
  have g17 := hq 17 _ rfl
  have g18 := hq 18 _ rfl
  have g19 := hq 19 _ rfl
  have g20 := hq 20 _ rfl
  have g21 := hq 21 _ rfl
  have g22 := hq 22 _ rfl
  clear hq hf hv
  simp [Value.cells, cellsI, cellsS9, cellsNl] at g0 g1 g2 g3 g4 g5 g6 g7 g8 g9 g10 g11 g12 g13 g14 g15 g16 g17 g18 g19 g20 g21 g22
  obtain ⟨s0, f0, z0, w0⟩ := DataW.trod_string Try.underlying9 g0
  obtain ⟨n1, f1, z1, w1⟩ := DataW.trod_int Try.underlying3 g1
  obtain ⟨n2, f2, z2, w2⟩ := DataW.trod_int Try.underlying3 g2
  obtain ⟨n3, f3, z3, w3⟩ := DataW.trod_int Try.underlying3 g3
  obtain ⟨n4, f4, z4, w4⟩ := DataW.trod_int Try.underlying3 g4
  obtain ⟨n5, f5, z5, w5⟩ := DataW.trod_int Try.underlying3 g5
  obtain ⟨n6, f6, z6, w6⟩ := DataW.trod_int Try.underlying3 g6
  obtain ⟨n7, f7, z7, w7⟩ := DataW.trod_int Try.underlying3 g7
  obtain ⟨n8, f8, z8, w8⟩ := DataW.trod_int Try.underlying3 g8
  obtain ⟨n9, f9, z9, w9⟩ := DataW.trod_int Try.underlying3 g9
  obtain ⟨n10, f10, z10, w10⟩ := DataW.trod_int Try.underlying3 g10
  obtain ⟨n11, f11, z11, w11⟩ := DataW.trod_int Try.underlying3 g11
  obtain ⟨n12, f12, z12, w12⟩ := DataW.trod_int Try.underlying3 g12
  obtain ⟨n13, f13, z13, w13⟩ := DataW.trod_int Try.underlying3 g13
  obtain ⟨n14, f14, z14, w14⟩ := DataW.trod_int Try.underlying3 g14
  obtain ⟨n15, f15, z15, w15⟩ := DataW.trod_int Try.underlying3 g15
  obtain ⟨n16, f16, z16, w16⟩ := DataW.trod_int Try.underlying3 g16
  obtain ⟨n17, f17, z17, w17⟩ := DataW.trod_int Try.underlying3 g17
  obtain ⟨n18, f18, z18, w18⟩ := DataW.trod_int Try.underlying3 g18
  obtain ⟨n19, f19, z19, w19⟩ := DataW.trod_int Try.underlying3 g19
  obtain ⟨n20, f20, z20, w20⟩ := DataW.trod_int Try.underlying3 g20
  obtain ⟨n21, f21, z21, w21⟩ := DataW.trod_int Try.underlying3 g21
  simp only [List.cons.injEq, and_true] at f0 f1 f2 f3 f4 f5 f6 f7 f8 f9 f10 f11 f12 f13 f14 f15 f16 f17 f18 f19 f20 f21
  subst f0 f1 f2 f3 f4 f5 f6 f7 f8 f9 f10 f11 f12 f13 f14 f15 f16 f17 f18 f19 f20 f21
  simp only [Prod.mk.injEq] at hx
  obtain ⟨ns, ao, b, o, cap, pv, hv, hN⟩ := open_nodes g22 fun n hn => hw n (by
    rw [hx.1]
    simp only [DataW.weights, Try.underlying24]
    exact DataW.weights_mem_each (j := 22) rfl rfl n hn)
  subst hv
  refine ⟨s0, fun i => [n1, n2, n3, n4, n5, n6, n7, n8, n9, n10, n11, n12, n13, n14, n15, n16, n17, n18, n19, n20, n21][i]?.getD 0, ns, ao, b, o, cap, pv, rfl, hN, ?_⟩
  have := w0
  unfold maxLen at this
  omega
end Go.Proofs.Ytbmhllcbkeblfaa
namespace Go.Proofs.Ytbmhllcbkeblfaa.Cn
open Go.ChangeShapes Go.WideShapes Go.ChangeAt Go.RowKit Go.Deep
theorem cellsW9 : Try.prog.cellsOf 9 = 1 := by kernel_rfl
theorem cellsWP : Try.prog.cellsOf 86 = 2 := by kernel_rfl
theorem cellsWL : Try.prog.cellsOf 46 = 1 := by kernel_rfl
theorem cellsWR : Try.prog.cellsOf 103 = 1 := by kernel_rfl
theorem cellsWA : Try.prog.cellsOf 61 = 4 := by kernel_rfl
theorem cellsWE : Try.prog.cellsOf 28 = 1 := by kernel_rfl
theorem cellsWI : Try.prog.cellsOf 3 = 1 := by kernel_rfl
theorem bytesWA : Try.prog.bytesOf 61 = 32 := by kernel_rfl
theorem all_memY {H : Type} {P : Program} {e : TypeId} {d : DataW H} {n : Nat} (hn : n ∈ d.weights P e) : ∀ {l : List (DataW H)}, d ∈ l → n ∈ DataW.weightsAll P e l
  | [], h => by cases h
  | c :: r, h => by
    simp only [DataW.weightsAll, List.mem_append]
    rcases List.mem_cons.1 h with rfl | h
    · exact Or.inl hn
    · exact Or.inr (all_memY hn h)
set_option maxRecDepth 100000 in
/-- rows that are handed in -/
theorem open_rowsG {H : Type} {α : Type} [Inhabited α] {enc : TypeId × Value → H} {w : World} {base fuel : Nat} {spare : Nat → Bool} {held : Bool} {v : Value} {x : DataW H × List MemPlace} {t e : TypeId} {k : Nat} {V : α → Array Value} {F : α → Prop} (hu : Try.prog.underlying t = some (.slice e)) (hk : Try.prog.cellsOf e = k) (hk1 : 0 < k) (hV : ∀ s, (V s).size = k) (hone : ∀ {fuel : Nat} {cs : List Value} {x : DataW H × List MemPlace}, DataW.trod enc Try.prog w base spare held fuel e cs = some x → cs.length = k → (∀ n ∈ x.1.weights Try.prog e, n ≤ reachBytes) → ∃ s : α, cs = (V s).toList ∧ F s)
    (h : DataW.trod enc Try.prog w base spare held fuel t [v] = some x) (hw : ∀ n ∈ x.1.weights Try.prog t, n ≤ reachBytes) :
    ∃ (ys : List α) (ao : Option Addr) (b o cap : Nat), v = .slice ao ys.length cap ∧ RwAt k V w.heap.size w ao b o ys ∧ ∀ s ∈ ys, F s := by
  rcases open_slice hu h with ⟨h0, _⟩ | ⟨a, len, cap, m, n, D, Pl, hv, hb, hl, hm, hmm, hx, hc⟩
  · simp only [List.cons.injEq, and_true] at h0
    exact ⟨[], none, 0, 0, 0, by rw [h0]; rfl, ⟨fun z => absurd z (by simp), fun z => absurd z (by simp), (fun q hq => absurd hq (by simp)), Nat.zero_le _⟩, fun q hq => absurd hq (by simp)⟩
  · simp only [List.cons.injEq, and_true] at hv
    have hlm : len ≤ m := by rw [hmm]; split <;> omega
    have each : ∀ i, i < len → ∃ q : α, F q ∧ ∀ j u, (V q)[j]? = some u → w.cell? (a.add (i * k + j)) = some u := by
      intro i hi
      obtain ⟨cs', h1, h2⟩ := hc i (by omega)
      rw [hk] at h1
      obtain ⟨_, hlen, hcell⟩ := World.cells?_some h1
      obtain ⟨y, hy, hF⟩ := hone h2 hlen (fun n' hn => hw n' (by
        rw [hx]
        simp only [DataW.weights, hu]
        exact List.mem_cons_of_mem _ (List.mem_append_left _ (all_memY hn (List.mem_map.2 ⟨i, List.mem_range.2 hi, rfl⟩)))))
      refine ⟨y, hF, fun j u hj => ?_⟩
      have hjk : j < k := by
        have := (Array.getElem?_eq_some_iff.1 hj).1
        rwa [hV] at this
      have e := hcell j hjk
      rw [add_add] at e
      rw [e, hy]
      simpa using hj
    obtain ⟨q, hq⟩ := choose_lt each
    have hplen : ((List.range len).map q).length = len := by simp
    obtain ⟨b, off, spot⟩ := a
    have hspot : 0 < len → spot = none := fun hp => by
      have hs : 0 < (V (q 0)).size := by rw [hV]; exact hk1
      have := (hq 0 hp).2 0 _ (Array.getElem?_eq_getElem hs)
      simpa [Addr.add] using World.cell?_spot this
    refine ⟨(List.range len).map q, some ⟨b, off, spot⟩, b, off, cap, by rw [hv, hplen], ⟨fun z => ?_, fun z => ?_, fun i hi j u hj => ?_, ?_⟩, fun s hs => ?_⟩
    · rw [hplen] at z
      rw [hspot z]
    · rw [hplen] at z
      have hs : 0 < (V (q 0)).size := by rw [hV]; exact hk1
      have := (hq 0 z).2 0 _ (Array.getElem?_eq_getElem hs)
      rw [hspot z, Addr.add_mid] at this
      exact World.block_lt_of_cell? w _ this
    · rw [hplen] at hi
      rw [List.getElem_map, List.getElem_range] at hj
      have := (hq i hi).2 j u hj
      rw [hspot (by omega), Addr.add_mid] at this
      rw [Nat.add_assoc]
      exact this
    · rw [hplen]
      unfold maxLen at hm
      omega
    · obtain ⟨i, hi, rfl⟩ := List.mem_map.1 hs
      exact (hq i (List.mem_range.1 hi)).1

def PrF (p : Pr) : Prop := p.k.size ≤ 281474976710656 ∧ p.v.size ≤ 281474976710656
theorem listW2 {α : Type} {l : List α} (h : l.length = 2) : ∃ a0 a1, l = [a0, a1] := by
  match l, h with
  | [a0, a1], _ => exact ⟨a0, a1, rfl⟩
theorem listW1 {α : Type} {l : List α} (h : l.length = 1) : ∃ a0, l = [a0] := by
  match l, h with
  | [a0], _ => exact ⟨a0, rfl⟩
theorem listW4 {α : Type} {l : List α} (h : l.length = 4) : ∃ a0 a1 a2 a3, l = [a0, a1, a2, a3] := by
  match l, h with
  | [a0, a1, a2, a3], _ => exact ⟨a0, a1, a2, a3, rfl⟩
set_option maxRecDepth 100000 in
set_option maxHeartbeats 1000000 in
theorem open_pr {H : Type} {enc : TypeId × Value → H} {w : World} {base fuel : Nat} {spare : Nat → Bool} {held : Bool} {cs : List Value} {x : DataW H × List MemPlace} (h : DataW.trod enc Try.prog w base spare held fuel 86 cs = some x) (hl : cs.length = 2) (hw : ∀ n ∈ x.1.weights Try.prog 86, n ≤ reachBytes) :
    ∃ p : Pr, cs = (prV p).toList ∧ PrF p := by
  obtain ⟨c0, c1, rfl⟩ := listW2 hl
  obtain ⟨xs, n, _, hx, _, hxl, hq⟩ := DataW.trod_struct Try.underlying86 h
  obtain ⟨y0, y1, rfl⟩ := listW2 hxl
  have g0 := hq 0 _ rfl
  have g1 := hq 1 _ rfl
  simp [cellsW9] at g0 g1
  obtain ⟨s0, f0, z0, w0⟩ := DataW.trod_string Try.underlying9 g0
  obtain ⟨s1, f1, z1, w1⟩ := DataW.trod_string Try.underlying9 g1
  simp only [List.cons.injEq, and_true] at f0 f1
  subst f0 f1
  have hm0 : s0.data.toList.length ∈ x.1.weights Try.prog 86 := by
    rw [hx]
    simp only [DataW.weights, Try.underlying86]
    exact DataW.weights_mem_each (j := 0) rfl (by rw [z0]; rfl) _ (by simp [DataW.weights])
  have hm1 : s1.data.toList.length ∈ x.1.weights Try.prog 86 := by
    rw [hx]
    simp only [DataW.weights, Try.underlying86]
    exact DataW.weights_mem_each (j := 1) rfl (by rw [z1]; rfl) _ (by simp [DataW.weights])
  have b0 := hw _ hm0
  have b1 := hw _ hm1
  have e0 : s0.data.toList.length = s0.size := by simp
  have e1 : s1.data.toList.length = s1.size := by simp
  unfold reachBytes at b0 b1
  refine ⟨⟨s0, s1⟩, rfl, ?_, ?_⟩
  · show s0.size ≤ _
    omega
  · show s1.size ≤ _
    omega
theorem open_prs {H : Type} {enc : TypeId × Value → H} {w : World} {base fuel : Nat} {spare : Nat → Bool} {held : Bool} {v : Value} {x : DataW H × List MemPlace} (h : DataW.trod enc Try.prog w base spare held fuel 46 [v] = some x) (hw : ∀ n ∈ x.1.weights Try.prog 46, n ≤ reachBytes) :
    ∃ L : List Pr, PrAt w.heap.size w v L ∧ ∀ p ∈ L, PrF p := by
  haveI : Inhabited Pr := ⟨⟨⟨#[]⟩, ⟨#[]⟩⟩⟩
  obtain ⟨ys, ao, b, o, cap, e, hr, hf⟩ := open_rowsG (k := 2) (F := PrF) Try.underlying46 cellsWP (by omega) (fun _ => rfl) (fun h hl hw => open_pr h hl hw) h hw
  exact ⟨ys, ⟨ao, b, o, cap, e, hr⟩, hf⟩
/-- a row of the table: its value, and what it holds -/
structure RwV where
  v : Value
  l : List Pr
def rwV (r : RwV) : Array Value := #[r.v]
set_option maxRecDepth 100000 in
theorem open_rw {H : Type} {enc : TypeId × Value → H} {w : World} {base fuel : Nat} {spare : Nat → Bool} {held : Bool} {cs : List Value} {x : DataW H × List MemPlace} (h : DataW.trod enc Try.prog w base spare held fuel 103 cs = some x) (hl : cs.length = 1) (hw : ∀ n ∈ x.1.weights Try.prog 103, n ≤ reachBytes) :
    ∃ r : RwV, cs = (rwV r).toList ∧ (PrAt w.heap.size w r.v r.l ∧ ∀ p ∈ r.l, PrF p) := by
  obtain ⟨c0, rfl⟩ := listW1 hl
  obtain ⟨xs, n, _, hx, _, hxl, hq⟩ := DataW.trod_struct Try.underlying103 h
  obtain ⟨y0, rfl⟩ := listW1 hxl
  have g0 := hq 0 _ rfl
  simp [cellsWL] at g0
  obtain ⟨L, h1, h2⟩ := open_prs g0 (fun n' hn' => hw n' (by
    rw [hx]
    simp only [DataW.weights, Try.underlying103]
    exact DataW.weights_mem_each (j := 0) rfl rfl n' hn'))
  exact ⟨⟨c0, L⟩, rfl, h1, h2⟩
/-- the table that is handed in -/
theorem open_tb {H : Type} {enc : TypeId × Value → H} {w : World} {base fuel : Nat} {v : Value} {x : DataW H × List MemPlace} (h : DataW.trod enc Try.prog w base (fun _ => true) true fuel 53 [v] = some x) (_hlt : ∀ q ∈ x.2, q.block < w.heap.size) (hw : ∀ n ∈ x.1.weights Try.prog 53, n ≤ reachBytes) :
    ∃ (tb : List (List Pr)) (ao : Option Addr) (b o cap : Nat) (pv : Nat → Value), v = .slice ao tb.length cap ∧ TbAt w.heap.size w ao b o pv tb ∧ ∀ r ∈ tb, ∀ p ∈ r, PrF p := by
  haveI : Inhabited RwV := ⟨⟨.slice none 0 0, []⟩⟩
  obtain ⟨ys, ao, b, o, cap, e, hr, hf⟩ := open_rowsG (k := 1) (F := fun r : RwV => PrAt w.heap.size w r.v r.l ∧ ∀ p ∈ r.l, PrF p) Try.underlying53 cellsWR (by omega) (fun _ => rfl) (fun h hl hw => open_rw h hl hw) h hw
  have hl : (ys.map (·.l)).length = ys.length := by simp
  refine ⟨ys.map (·.l), ao, b, o, cap, fun q => ((ys[q]?).map (·.v)).getD (.slice none 0 0), by rw [hl]; exact e, ⟨fun z => hr.at0 (by rw [hl] at z; exact z), fun z => hr.lt (by rw [hl] at z; exact z), fun q hq => ?_, fun q hq => ?_, by rw [hl]; exact hr.len⟩, fun r hr' => ?_⟩
  · rw [hl] at hq
    have z := hr.c q hq 0 _ rfl
    rw [Nat.mul_one, Nat.add_zero] at z
    rw [z, List.getElem?_eq_getElem hq]
    rfl
  · have hq2 : q < ys.length := by rw [hl] at hq; exact hq
    show PrAt w.heap.size w (((ys[q]?).map (·.v)).getD _) (ys.map (·.l))[q]
    rw [List.getElem?_eq_getElem hq2, List.getElem_map]
    exact (hf _ (List.getElem_mem hq2)).1
  · obtain ⟨y, hy, rfl⟩ := List.mem_map.1 hr'
    exact (hf y hy).2
set_option maxRecDepth 100000 in
theorem open_act {H : Type} {enc : TypeId × Value → H} {w : World} {base fuel : Nat} {spare : Nat → Bool} {held : Bool} {cs : List Value} {x : DataW H × List MemPlace} (h : DataW.trod enc Try.prog w base spare held fuel 61 cs = some x) (hl : cs.length = 4) (_hw : ∀ n ∈ x.1.weights Try.prog 61, n ≤ reachBytes) :
    ∃ a : ActP, cs = (actA a).toList ∧ True := by
  obtain ⟨c0, c1, c2, c3, rfl⟩ := listW4 hl
  obtain ⟨xs, n, _, hx, _, hxl, hq⟩ := DataW.trod_struct Try.underlying61 h
  obtain ⟨ya, yb, yc, yd, rfl⟩ := listW4 hxl
  have ga := hq 0 _ rfl
  have gb := hq 1 _ rfl
  have gc := hq 2 _ rfl
  have gd := hq 3 _ rfl
  simp [cellsWE, cellsWI] at ga gb gc gd
  obtain ⟨n0, f0, z0, w0⟩ := DataW.trod_int Try.underlying3 ga
  obtain ⟨n1, f1, z1, w1⟩ := DataW.trod_int Try.underlying3 gb
  obtain ⟨n2, f2, z2, w2⟩ := DataW.trod_int Try.underlying3 gc
  obtain ⟨n3, f3, z3, w3⟩ := DataW.trod_int Try.underlying28 gd
  simp only [List.cons.injEq, and_true] at f0 f1 f2 f3
  subst f0 f1 f2 f3
  exact ⟨⟨n0, n1, n2, n3⟩, rfl, trivial⟩
theorem open_acts {H : Type} {enc : TypeId × Value → H} {w : World} {base fuel : Nat} {v : Value} {x : DataW H × List MemPlace} (h : DataW.trod enc Try.prog w base (fun _ => true) true fuel 54 [v] = some x) (_hlt : ∀ q ∈ x.2, q.block < w.heap.size) (hw : ∀ n ∈ x.1.weights Try.prog 54, n ≤ reachBytes) :
    ∃ (ys : List ActP) (ao : Option Addr) (b o cap : Nat), v = .slice ao ys.length cap ∧ RwAt 4 actA w.heap.size w ao b o ys ∧ ys.length ≤ 100000000000000 := by
  haveI : Inhabited ActP := ⟨⟨0, 0, 0, 0⟩⟩
  obtain ⟨ys, ao, b, o, cap, e, hr, hf⟩ := open_rowsG (k := 4) (F := fun _ : ActP => True) Try.underlying54 cellsWA (by omega) (fun _ => rfl) (fun h hl hw => open_act h hl hw) h hw
  refine ⟨ys, ao, b, o, cap, e, hr, ?_⟩
  rcases open_slice Try.underlying54 h with ⟨h0, _⟩ | ⟨a, len, cap', m, n, D, Pl, hv, hb, hl, hm, hmm, hx, hc⟩
  · simp only [List.cons.injEq, and_true] at h0
    rw [h0] at e
    injection e with _ e2 _
    omega
  · simp only [List.cons.injEq, and_true] at hv
    rw [hv] at e
    injection e with _ e2 _
    have hwl : len * 32 ≤ reachBytes := by
      have := hw ((len + (m - len)) * 32) (by rw [hx]; simp [DataW.weights, Try.underlying54, bytesWA])
      omega
    rw [show reachBytes = 140737488351232 from rfl] at hwl
    omega
end Go.Proofs.Ytbmhllcbkeblfaa.Cn
