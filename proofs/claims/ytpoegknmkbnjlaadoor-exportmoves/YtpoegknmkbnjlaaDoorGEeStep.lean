import Derived.Test.YtpoegknmkbnjlaaDoorGEtOver
import Derived.Test.YtpoegknmkbnjlaaDoorGEtSame
import Derived.Test.YtpoegknmkbnjlaaDoorGErTake
import Derived.Test.YtpoegknmkbnjlaaDoorGEtPure
import Derived.Test.YtpoegknmkbnjlaaDoorGEtPl2
import Derived.Test.YtpoegknmkbnjlaaDoorRows
import Derived.ProofKit
import Derived.OpenShut
import Derived.JoinedOf
import Derived.SizedLaws
import Derived.Lib.SmallJoins
import Derived.Deep.SlicePairs
import Derived.Deep.DeepHandedRow
namespace Go.Proofs.YtpoegknmkbnjlaaDoor.Cn
open Go.ChangeShapes Go.WideShapes Go.ChangeAt Go.RowKit Go.Deep
theorem cellsMsg : Tryd.prog.cellsOf 36 = 11 := by kernel_rfl
theorem cellsErr : Tryd.prog.cellsOf 34 = 1 := by kernel_rfl
theorem cellsS9 : Tryd.prog.cellsOf 9 = 1 := by kernel_rfl
theorem cellsSp : Tryd.prog.cellsOf 38 = 14 := by kernel_rfl
theorem list11 {α : Type} {l : List α} (h : l.length = 11) : ∃ a0 a1 a2 a3 a4 a5 a6 a7 a8 a9 a10, l = [a0, a1, a2, a3, a4, a5, a6, a7, a8, a9, a10] := by
  match l, h with
  | [a0, a1, a2, a3, a4, a5, a6, a7, a8, a9, a10], _ => exact ⟨a0, a1, a2, a3, a4, a5, a6, a7, a8, a9, a10, rfl⟩
theorem list14 {α : Type} {l : List α} (h : l.length = 14) : ∃ a0 a1 a2 a3 a4 a5 a6 a7 a8 a9 a10 a11 a12 a13, l = [a0, a1, a2, a3, a4, a5, a6, a7, a8, a9, a10, a11, a12, a13] := by
  match l, h with
  | [a0, a1, a2, a3, a4, a5, a6, a7, a8, a9, a10, a11, a12, a13], _ => exact ⟨a0, a1, a2, a3, a4, a5, a6, a7, a8, a9, a10, a11, a12, a13, rfl⟩
theorem list4 {α : Type} {l : List α} (h : l.length = 4) : ∃ a0 a1 a2 a3, l = [a0, a1, a2, a3] := by
  match l, h with
  | [a0, a1, a2, a3], _ => exact ⟨a0, a1, a2, a3, rfl⟩
set_option maxRecDepth 100000 in
set_option maxHeartbeats 1000000 in
/-- a message's cells -/
theorem open_mg {H : Type} {enc : TypeId × Value → H} {w : World} {base fuel : Nat} {spare : Nat → Bool} {held : Bool} {cs : List Value} {x : DataW H × List MemPlace} (h : DataW.trod enc Tryd.prog w base spare held fuel 36 cs = some x) (hl : cs.length = 11) (hw : ∀ n ∈ x.1.weights Tryd.prog 36, n ≤ reachBytes) :
    ∃ m : Mg, cs = (mgV m).toList ∧ MgFit m := by
  obtain ⟨c0, c1, c2, c3, c4, c5, c6, c7, c8, c9, c10, rfl⟩ := list11 hl
  obtain ⟨xs2, n2, _, hx2, _, hxl2, hq2⟩ := DataW.trod_struct Tryd.underlying36 h
  obtain ⟨y0, y1, y2, y3, y4, y5, y6, y7, y8, y9, y10, rfl⟩ := list11 hxl2
  have g0 := hq2 0 _ rfl
  have g1 := hq2 1 _ rfl
  have g2 := hq2 2 _ rfl
  have g3 := hq2 3 _ rfl
  have g4 := hq2 4 _ rfl
  have g5 := hq2 5 _ rfl
  have g6 := hq2 6 _ rfl
  have g7 := hq2 7 _ rfl
  have g8 := hq2 8 _ rfl
  have g9 := hq2 9 _ rfl
  have g10 := hq2 10 _ rfl
  simp [cellsI, cellsS9, cellsErr] at g0 g1 g2 g3 g4 g5 g6 g7 g8 g9 g10
  obtain ⟨n0, f0, z0, w0⟩ := DataW.trod_int Tryd.underlying3 g0
  obtain ⟨n1, f1, z1, w1⟩ := DataW.trod_int Tryd.underlying3 g1
  obtain ⟨n2', f2, z2, w2⟩ := DataW.trod_int Tryd.underlying3 g2
  obtain ⟨n3, f3, z3, w3⟩ := DataW.trod_int Tryd.underlying3 g3
  obtain ⟨n4, f4, z4, w4⟩ := DataW.trod_int Tryd.underlying3 g4
  obtain ⟨n5, f5, z5, w5⟩ := DataW.trod_int Tryd.underlying3 g5
  obtain ⟨n6, f6, z6, w6⟩ := DataW.trod_int Tryd.underlying3 g6
  obtain ⟨n7, f7, z7, w7⟩ := DataW.trod_int Tryd.underlying3 g7
  obtain ⟨n8, f8, z8, w8⟩ := DataW.trod_int Tryd.underlying34 g8
  obtain ⟨s9, f9, z9, w9⟩ := DataW.trod_string Tryd.underlying9 g9
  obtain ⟨s10, f10, z10, w10⟩ := DataW.trod_string Tryd.underlying9 g10
  simp only [List.cons.injEq, and_true] at f0 f1 f2 f3 f4 f5 f6 f7 f8 f9 f10
  subst f0 f1 f2 f3 f4 f5 f6 f7 f8 f9 f10
  have hm9 : s9.data.toList.length ∈ x.1.weights Tryd.prog 36 := by
    rw [hx2]
    simp only [DataW.weights, Tryd.underlying36]
    exact DataW.weights_mem_each (j := 9) rfl (by rw [z9]; rfl) _ (by simp [DataW.weights])
  have hm10 : s10.data.toList.length ∈ x.1.weights Tryd.prog 36 := by
    rw [hx2]
    simp only [DataW.weights, Tryd.underlying36]
    exact DataW.weights_mem_each (j := 10) rfl (by rw [z10]; rfl) _ (by simp [DataW.weights])
  have b9 := hw _ hm9
  have b10 := hw _ hm10
  have e9 : s9.data.toList.length = s9.size := by simp
  have e10 : s10.data.toList.length = s10.size := by simp
  unfold reachBytes at b9 b10
  refine ⟨⟨n0, n1, n2', n3, n4, n5, n6, n7, n8, s9, s10⟩, rfl, ?_, ?_⟩
  · show s9.size ≤ _
    omega
  · show s10.size ≤ _
    omega
set_option maxRecDepth 100000 in
set_option maxHeartbeats 1000000 in
/-- a step's cells -/
theorem open_sp {H : Type} {enc : TypeId × Value → H} {w : World} {base fuel : Nat} {spare : Nat → Bool} {held : Bool} {cs : List Value} {x : DataW H × List MemPlace} (h : DataW.trod enc Tryd.prog w base spare held fuel 38 cs = some x) (hl : cs.length = 14) (hw : ∀ n ∈ x.1.weights Tryd.prog 38, n ≤ reachBytes) :
    ∃ s : Sp, cs = (spV s).toList ∧ MgFit s.m := by
  obtain ⟨c0, c1, c2, c3, c4, c5, c6, c7, c8, c9, c10, c11, c12, c13, rfl⟩ := list14 hl
  obtain ⟨xs, n, _, hx, _, hxl, hq⟩ := DataW.trod_struct Tryd.underlying38 h
  obtain ⟨ya, yb, yc, yd, rfl⟩ := list4 hxl
  have ga := hq 0 _ rfl
  have gb := hq 1 _ rfl
  have gc := hq 2 _ rfl
  have gd := hq 3 _ rfl
  simp [cellsMsg, cellsI] at ga gb gc gd
  obtain ⟨n0, f0, z0, w0⟩ := DataW.trod_int Tryd.underlying3 ga
  obtain ⟨n1, f1, z1, w1⟩ := DataW.trod_int Tryd.underlying3 gb
  obtain ⟨n2, f2, z2, w2⟩ := DataW.trod_int Tryd.underlying3 gc
  obtain ⟨m, hm, hfit⟩ := open_mg gd rfl (fun n' hn' => hw n' (by
    rw [hx]
    simp only [DataW.weights, Tryd.underlying38]
    exact DataW.weights_mem_each (j := 3) rfl rfl n' hn'))
  simp only [List.cons.injEq, and_true] at f0 f1 f2
  subst f0 f1 f2
  refine ⟨⟨n0, n1, n2, m⟩, ?_, hfit⟩
  simp only [mgV, List.cons.injEq] at hm
  obtain ⟨h0, h1, h2, h3, h4, h5, h6, h7, h8, h9, h10, _⟩ := hm
  subst h0 h1 h2 h3 h4 h5 h6 h7 h8 h9 h10
  rfl
theorem all_memX {H : Type} {P : Program} {e : TypeId} {d : DataW H} {n : Nat} (hn : n ∈ d.weights P e) : ∀ {l : List (DataW H)}, d ∈ l → n ∈ DataW.weightsAll P e l
  | [], h => by cases h
  | c :: r, h => by
    simp only [DataW.weightsAll, List.mem_append]
    rcases List.mem_cons.1 h with rfl | h
    · exact Or.inl hn
    · exact Or.inr (all_memX hn h)
set_option maxRecDepth 100000 in
/-- rows that are handed in -/
theorem open_rowsF {H : Type} {α : Type} [Inhabited α] {enc : TypeId × Value → H} {w : World} {base fuel : Nat} {spare : Nat → Bool} {held : Bool} {v : Value} {x : DataW H × List MemPlace} {t e : TypeId} {k : Nat} {V : α → Array Value} {F : α → Prop} (hu : Tryd.prog.underlying t = some (.slice e)) (hk : Tryd.prog.cellsOf e = k) (hk1 : 0 < k) (hV : ∀ s, (V s).size = k) (hone : ∀ {fuel : Nat} {cs : List Value} {x : DataW H × List MemPlace}, DataW.trod enc Tryd.prog w base spare held fuel e cs = some x → cs.length = k → (∀ n ∈ x.1.weights Tryd.prog e, n ≤ reachBytes) → ∃ s : α, cs = (V s).toList ∧ F s)
    (h : DataW.trod enc Tryd.prog w base spare held fuel t [v] = some x) (hlt : ∀ q ∈ x.2, q.block < w.heap.size) (hw : ∀ n ∈ x.1.weights Tryd.prog t, n ≤ reachBytes) :
    ∃ (ys : List α) (ao : Option Addr) (b o cap : Nat), v = .slice ao ys.length cap ∧ RwAt k V w.heap.size w ao b o ys ∧ ∀ s ∈ ys, F s := by
  rcases open_slice hu h with ⟨h0, _⟩ | ⟨a, len, cap, m, n, D, Pl, hv, hb, hl, hm, hmm, hx, hc⟩
  · simp only [List.cons.injEq, and_true] at h0
    exact ⟨[], none, 0, 0, 0, by rw [h0]; rfl, ⟨fun z => absurd z (by simp), fun z => absurd z (by simp), (fun q hq => absurd hq (by simp)), Nat.zero_le _⟩, fun q hq => absurd hq (by simp)⟩
  · simp only [List.cons.injEq, and_true] at hv
    have hlm : len ≤ m := by rw [hmm]; split <;> omega
    have each : ∀ i, i < len → ∃ q : α, F q ∧ ∀ j u, (V q)[j]? = some u → w.cell? (a.add (i * k + j)) = some u := by
      intro i hi
      obtain ⟨cs', h1, h2⟩ := hc i (by omega)
      rw [hk] at h1
      obtain ⟨_, hlen, hcell⟩ := World.cells?_some h1
      obtain ⟨y, hy, hF⟩ := hone h2 hlen (fun n' hn => hw n' (by
        rw [hx]
        simp only [DataW.weights, hu]
        exact List.mem_cons_of_mem _ (List.mem_append_left _ (all_memX hn (List.mem_map.2 ⟨i, List.mem_range.2 hi, rfl⟩)))))
      refine ⟨y, hF, fun j u hj => ?_⟩
      have hjk : j < k := by
        have := (Array.getElem?_eq_some_iff.1 hj).1
        rwa [hV] at this
      have e := hcell j hjk
      rw [add_add] at e
      rw [e, hy]
      simpa using hj
    obtain ⟨q, hq⟩ := choose_lt each
    have hplen : ((List.range len).map q).length = len := by simp
    obtain ⟨b, off, spot⟩ := a
    have hspot : 0 < len → spot = none := fun hp => by
      have hs : 0 < (V (q 0)).size := by rw [hV]; exact hk1
      have := (hq 0 hp).2 0 _ (Array.getElem?_eq_getElem hs)
      simpa [Addr.add] using World.cell?_spot this
    refine ⟨(List.range len).map q, some ⟨b, off, spot⟩, b, off, cap, by rw [hv, hplen], ⟨fun z => ?_, fun z => ?_, fun i hi j u hj => ?_, ?_⟩, fun s hs => ?_⟩
    · rw [hplen] at z
      rw [hspot z]
    · rw [hplen] at z
      refine hlt (.cell b off) ?_
      rw [hx]
      refine List.mem_append_left _ (MemPlace.mem_row.2 ⟨0, ?_, by simp⟩)
      rw [hk]
      exact Nat.mul_pos (by omega) hk1
    · rw [hplen] at hi
      rw [List.getElem_map, List.getElem_range] at hj
      have := (hq i hi).2 j u hj
      rw [hspot (by omega), Addr.add_mid] at this
      rw [Nat.add_assoc]
      exact this
    · rw [hplen]
      unfold maxLen at hm
      omega
    · obtain ⟨i, hi, rfl⟩ := List.mem_map.1 hs
      exact (hq i (List.mem_range.1 hi)).1
theorem bytesSp : Tryd.prog.bytesOf 38 = 128 := by kernel_rfl
theorem open_ops {H : Type} {enc : TypeId × Value → H} {w : World} {base fuel : Nat} {v : Value} {x : DataW H × List MemPlace} (h : DataW.trod enc Tryd.prog w base (fun _ => true) true fuel 25 [v] = some x) (hlt : ∀ q ∈ x.2, q.block < w.heap.size) (hw : ∀ n ∈ x.1.weights Tryd.prog 25, n ≤ reachBytes) :
    ∃ (ys : List Sp) (ao : Option Addr) (b o cap : Nat), v = .slice ao ys.length cap ∧ RwAt 14 spV w.heap.size w ao b o ys ∧ (∀ s ∈ ys, MgFit s.m) ∧ ys.length ≤ 100000000000000 := by
  haveI : Inhabited Sp := ⟨⟨0, 0, 0, mg0⟩⟩
  obtain ⟨ys, ao, b, o, cap, e, hr, hf⟩ := open_rowsF (k := 14) (F := fun s : Sp => MgFit s.m) Tryd.underlying25 cellsSp (by omega) (fun _ => rfl) (fun h hl hw => open_sp h hl hw) h hlt hw
  refine ⟨ys, ao, b, o, cap, e, hr, hf, ?_⟩
  rcases open_slice Tryd.underlying25 h with ⟨h0, _⟩ | ⟨a, len, cap', m, n, D, Pl, hv, hb, hl, hm, hmm, hx, hc⟩
  · simp only [List.cons.injEq, and_true] at h0
    rw [h0] at e
    injection e with _ e2 _
    omega
  · simp only [List.cons.injEq, and_true] at hv
    rw [hv] at e
    injection e with _ e2 _
    have hwl : len * 128 ≤ reachBytes := by
      have := hw ((len + (m - len)) * 128) (by rw [hx]; simp [DataW.weights, Tryd.underlying25, bytesSp])
      omega
    rw [show reachBytes = 140737488351232 from rfl] at hwl
    omega
end Go.Proofs.YtpoegknmkbnjlaaDoor.Cn
namespace Go.Proofs.YtpoegknmkbnjlaaDoor.Cn
open Go.RowKit
/-- what the law keeps: the exporter, the definition, what lies below -/
structure Eg (w : World) (N : Nat) (st : ByteArray) (x : Nat → Int) (ao : Option Addr) (b o cap : Nat) (pv : Nat → Value) (ns : List ND) (R X i : Nat) (v : Ex) (Z : Zz) (wr : World) : Prop where
  ex : ExAt wr X v Z
  ok : Eok v R i
  rl : v.rows.length = ptN ns
  gw : v.gw = x 17
  ge : ∀ k, Ap X Z k → w.heap.size ≤ k
  sd : Stand N w.heap.size wr st x ao b o cap pv ns
  be : Below w.heap.size w wr
section
variable {w : World} {N : Nat} {st : ByteArray} {x : Nat → Int} {ao : Option Addr} {b o cap : Nat} {pv : Nat → Value} {ns : List ND} {R X i i' : Nat} {v v' : Ex} {Z Z' : Zz} {wr w' : World}
theorem Eg.next (h : Eg w N st x ao b o cap pv ns R X i v Z wr) (hN : N ≤ w.heap.size) (l : Lv wr w' X Z v' Z') (ok : Eok v' R i') (hr : v'.rows = v.rows ∧ v'.gw = v.gw) : Eg w N st x ao b o cap pv ns R X i' v' Z' w' := by
  have ge : ∀ k, Fp X Z k → w.heap.size ≤ k := fun k e => h.ge k (Or.inl e)
  have k := l.kp
  refine ⟨l.at_, ok, by rw [hr.1]; exact h.rl, by rw [hr.2]; exact h.gw, fun k' e => ?_, ⟨(k.block _ (blk_lt h.sd.cl) (fun e => ?_)).trans h.sd.cl, h.sd.nd.below ⟨k.os, k.tape, k.output, k.size, fun j hj => k.block j (Nat.lt_of_lt_of_le hj h.sd.le) (fun e => by have := ge _ e; omega)⟩, Nat.le_trans h.sd.le k.size⟩, h.be.trans ⟨k.os, k.tape, k.output, k.size, fun j hj => k.block j (Nat.lt_of_lt_of_le hj h.be.size) (fun e => by have := ge _ e; omega)⟩⟩
  · rcases l.gr k' e with q | q
    · exact h.ge k' q
    · have := h.be.size
      omega
  · exact h.ex.not h.sd.cl (by decide) (Or.inl e)
theorem Eg.same (h : Eg w N st x ao b o cap pv ns R X i v Z wr) (hN : N ≤ w.heap.size) (hk : Kp wr w' non) : Eg w N st x ao b o cap pv ns R X i v Z w' := h.next hN (Lv.same h.ex hk) h.ok ⟨rfl, rfl⟩
theorem Eg.more (h : Eg w N st x ao b o cap pv ns R X i v Z wr) (hi : i ≤ i') : Eg w N st x ao b o cap pv ns R X i' v Z wr := ⟨h.ex, h.ok.more hi, h.rl, h.gw, h.ge, h.sd, h.be⟩
end
end Go.Proofs.YtpoegknmkbnjlaaDoor.Cn
namespace Go.Proofs.YtpoegknmkbnjlaaDoor
open Go.ChangeShapes Go.WideShapes Go.ChangeAt Go.RowKit Go.Deep
theorem cellsI : Tryd.prog.cellsOf 3 = 1 := by kernel_rfl
theorem cellsS9 : Tryd.prog.cellsOf 9 = 1 := by kernel_rfl
theorem cellsNd : Tryd.prog.cellsOf 50 = 2 := by kernel_rfl
theorem cellsPl : Tryd.prog.cellsOf 48 = 1 := by kernel_rfl
theorem cellsNl : Tryd.prog.cellsOf 22 = 1 := by kernel_rfl
theorem cellsCl : Tryd.prog.cellsOf 24 = 23 := by kernel_rfl
theorem bytesI : Tryd.prog.bytesOf 3 = 8 := by kernel_rfl
theorem bytesNd : Tryd.prog.bytesOf 50 = 32 := by kernel_rfl
theorem laidOutP : laidOutB Tryd.prog = true := by kernel_rfl
theorem add_plainT (b o j : Nat) : (⟨b, o, none⟩ : Addr).add j = ⟨b, o + j, none⟩ := Addr.add_mid b o j
theorem all_mem {H : Type} {P : Program} {e : TypeId} {d : DataW H} {n : Nat} (hn : n ∈ d.weights P e) : ∀ {l : List (DataW H)}, d ∈ l → n ∈ DataW.weightsAll P e l
  | [], h => by cases h
  | c :: r, h => by
    simp only [DataW.weightsAll, List.mem_append]
    rcases List.mem_cons.1 h with rfl | h
    · exact Or.inl hn
    · exact Or.inr (all_mem hn h)
set_option maxRecDepth 100000 in
/-- a node's list that is handed in -/
theorem open_ps {H : Type} {enc : TypeId × Value → H} {w : World} {base fuel : Nat} {spare : Nat → Bool} {held : Bool} {v : Value} {x : DataW H × List MemPlace} (h : DataW.trod enc Tryd.prog w base spare held fuel 48 [v] = some x) (hw : ∀ n ∈ x.1.weights Tryd.prog 48, n ≤ reachBytes) :
    ∃ L : List Int, Pv w.heap.size w v L ∧ ∀ c, v = .slice none L.length c → c = 0 := by
  rcases open_slice1 Tryd.underlying48 cellsI h with ⟨h0, _⟩ | ⟨a, len, cap, m, n, V, D, Pl, hv, hb, hl, hm, hmm, hx, hc⟩
  · simp only [List.cons.injEq, and_true] at h0
    subst h0
    refine ⟨[], ⟨none, 0, 0, 0, rfl, ⟨fun q => absurd q (by simp), fun q => absurd q (by simp), (fun q hq => absurd hq (by simp)), Nat.zero_le _⟩⟩, fun c hc => ?_⟩
    injection hc with _ _ h3
    exact h3.symm
  · simp only [List.cons.injEq, and_true] at hv
    subst hv
    have hlm : len ≤ m := by rw [hmm]; split <;> omega
    have hwl : len * 8 ≤ reachBytes := by
      have := hw ((len + (m - len)) * 8) (by rw [hx]; simp [DataW.weights, Tryd.underlying48, bytesI])
      omega
    have each : ∀ i, i < len → ∃ y : Int, V i = .int .i64 y := fun i hi => by
      obtain ⟨y, f, _, _⟩ := DataW.trod_int Tryd.underlying3 (hc i (by omega)).2
      simp only [List.cons.injEq, and_true] at f
      exact ⟨y, f⟩
    obtain ⟨q, hq⟩ := choose_lt each
    have hplen : ((List.range len).map q).length = len := by simp
    obtain ⟨b, off, spot⟩ := a
    have hspot : 0 < len → spot = none := fun h => by simpa [Addr.add] using World.cell?_spot (hc 0 (by omega)).1
    have cell : ∀ (i : Nat) (hi : i < ((List.range len).map q).length), w.cell? ⟨b, off + i, none⟩ = some (.int .i64 ((List.range len).map q)[i]) := by
      intro i hi
      have hi' : i < len := by rw [hplen] at hi; exact hi
      have e := (hc i (by omega)).1
      rw [hspot (by omega), add_plainT, hq i hi'] at e
      rw [e, List.getElem_map, List.getElem_range]
    refine ⟨(List.range len).map q, ⟨some ⟨b, off, spot⟩, b, off, cap, by rw [hplen], ⟨fun z => ?_, fun z => ?_, cell, ?_⟩⟩, fun c hc => by cases hc⟩
    · rw [hplen] at z
      rw [hspot z]
    · exact World.block_lt_of_cell? w _ (cell 0 z)
    · rw [hplen]
      rw [show reachBytes = 140737488351232 from rfl] at hwl
      omega
set_option maxRecDepth 100000 in
/-- the nodes that are handed in -/
theorem open_nodes {H : Type} {enc : TypeId × Value → H} {w : World} {base fuel : Nat} {spare : Nat → Bool} {held : Bool} {v : Value} {x : DataW H × List MemPlace} (h : DataW.trod enc Tryd.prog w base spare held fuel 22 [v] = some x) (hw : ∀ n ∈ x.1.weights Tryd.prog 22, n ≤ reachBytes) :
    ∃ (ns : List ND) (ao : Option Addr) (b o cap : Nat) (pv : Nat → Value), v = .slice ao ns.length cap ∧ NsAt w.heap.size w ao b o pv ns := by
  rcases open_slice_pairs Tryd.underlying22 Tryd.underlying50 cellsNd rfl rfl cellsI cellsPl h with ⟨h0, _⟩ | ⟨a, len, cap, m, n, V0, V1, D0, D1, P0, P1, hv, hb, hl, hm, hmm, hx, hc⟩
  · simp only [List.cons.injEq, and_true] at h0
    subst h0
    exact ⟨[], none, 0, 0, 0, fun _ => .slice none 0 0, rfl, ⟨fun q => absurd q (by simp), fun q => absurd q (by simp), (fun q hq => absurd hq (by simp)), (fun q hq => absurd hq (by simp)), (fun q hq => absurd hq (by simp)), Nat.zero_le _, (fun q hq => absurd hq (by simp))⟩⟩
  · simp only [List.cons.injEq, and_true] at hv
    subst hv
    have hlm : len ≤ m := by rw [hmm]; split <;> omega
    have hwl : len * 32 ≤ reachBytes := by
      have := hw ((len + (m - len)) * 32) (by rw [hx]; simp [DataW.weights, Tryd.underlying22, bytesNd])
      omega
    have each : ∀ i, i < len → ∃ y : ND, V0 i = .int .i64 y.z ∧ Pv w.heap.size w (V1 i) y.ps ∧ ∀ c, V1 i = .slice none y.ps.length c → c = 0 := fun i hi => by
      obtain ⟨_, _, t0, t1⟩ := hc i (by omega)
      obtain ⟨y, f, _, _⟩ := DataW.trod_int Tryd.underlying3 t0
      simp only [List.cons.injEq, and_true] at f
      obtain ⟨L, hL, hn⟩ := open_ps t1 fun n hn => hw n (by
        rw [hx]
        simp only [DataW.weights, Tryd.underlying22]
        refine List.mem_cons_of_mem _ (List.mem_append_left _ (all_mem (d := DataW.agg [D0 i, D1 i]) ?_ (List.mem_map.2 ⟨i, List.mem_range.2 hi, rfl⟩)))
        simp only [DataW.weights, Tryd.underlying50]
        exact DataW.weights_mem_each (j := 1) rfl rfl n hn)
      exact ⟨⟨y, L⟩, f, hL, hn⟩
    obtain ⟨q, hq⟩ := choose_lt each
    have hplen : ((List.range len).map q).length = len := by simp
    obtain ⟨b, off, spot⟩ := a
    have hspot : 0 < len → spot = none := fun h => by simpa [Addr.add] using World.cell?_spot (hc 0 (by omega)).1
    have at0 : ∀ (i : Nat) (hi : i < ((List.range len).map q).length), i < len ∧ ((List.range len).map q)[i] = q i := fun i hi => ⟨by rw [hplen] at hi; exact hi, by rw [List.getElem_map, List.getElem_range]⟩
    have c0 : ∀ (i : Nat) (hi : i < ((List.range len).map q).length), w.cell? ⟨b, off + i * 2, none⟩ = some (.int .i64 ((List.range len).map q)[i].z) := by
      intro i hi
      obtain ⟨hi', e'⟩ := at0 i hi
      have e := (hc i (by omega)).1
      rw [hspot (by omega), add_plainT, (hq i hi').1] at e
      rw [e, e']
    have c1 : ∀ (i : Nat) (hi : i < ((List.range len).map q).length), w.cell? ⟨b, off + i * 2 + 1, none⟩ = some (V1 i) := by
      intro i hi
      obtain ⟨hi', e'⟩ := at0 i hi
      have e := (hc i (by omega)).2.1
      rw [hspot (by omega), add_plainT] at e
      rw [← Nat.add_assoc] at e
      exact e
    refine ⟨(List.range len).map q, some ⟨b, off, spot⟩, b, off, cap, V1, by rw [hplen], ⟨fun z => ?_, fun z => ?_, c0, c1, fun i hi => ?_, ?_, fun i hi c hcc => ?_⟩⟩
    · rw [hplen] at z
      rw [hspot z]
    · exact World.block_lt_of_cell? w _ (c0 0 z)
    · obtain ⟨hi', e'⟩ := at0 i hi
      rw [e']
      exact (hq i hi').2.1
    · rw [hplen]
      rw [show reachBytes = 140737488351232 from rfl] at hwl
      omega
    · obtain ⟨hi', e'⟩ := at0 i hi
      rw [e'] at hcc
      exact (hq i hi').2.2 c hcc
theorem list23 {α : Type} {l : List α} (h : l.length = 23) : ∃ a0 a1 a2 a3 a4 a5 a6 a7 a8 a9 a10 a11 a12 a13 a14 a15 a16 a17 a18 a19 a20 a21 a22, l = [a0, a1, a2, a3, a4, a5, a6, a7, a8, a9, a10, a11, a12, a13, a14, a15, a16, a17, a18, a19, a20, a21, a22] := by
  match l, h with
  | [a0, a1, a2, a3, a4, a5, a6, a7, a8, a9, a10, a11, a12, a13, a14, a15, a16, a17, a18, a19, a20, a21, a22], _ => exact ⟨a0, a1, a2, a3, a4, a5, a6, a7, a8, a9, a10, a11, a12, a13, a14, a15, a16, a17, a18, a19, a20, a21, a22, rfl⟩
theorem array23 {α : Type} {l : Array α} (h : l.size = 23) : ∃ a0 a1 a2 a3 a4 a5 a6 a7 a8 a9 a10 a11 a12 a13 a14 a15 a16 a17 a18 a19 a20 a21 a22, l = #[a0, a1, a2, a3, a4, a5, a6, a7, a8, a9, a10, a11, a12, a13, a14, a15, a16, a17, a18, a19, a20, a21, a22] := by
  obtain ⟨l⟩ := l
  obtain ⟨a0, a1, a2, a3, a4, a5, a6, a7, a8, a9, a10, a11, a12, a13, a14, a15, a16, a17, a18, a19, a20, a21, a22, h⟩ := list23 (l := l) (by simpa using h)
  exact ⟨a0, a1, a2, a3, a4, a5, a6, a7, a8, a9, a10, a11, a12, a13, a14, a15, a16, a17, a18, a19, a20, a21, a22, by rw [h]⟩
set_option maxRecDepth 100000 in
set_option maxHeartbeats 4000000 in
/-- a definition that is handed in -/
theorem open_cl {H : Type} {enc : TypeId × Value → H} {w : World} {r : Reach} {b0 base : Nat} {spare : Nat → Bool} {held : Bool} {v : Value} {d : DataW H} {p : List MemPlace} (hv : Value.okWide Tryd.prog w r b0 24 v) (h : DataW.Trod enc Tryd.prog w base spare held 24 v d p) (hw : ∀ n ∈ d.weights Tryd.prog 24, n ≤ reachBytes) :
    ∃ (st : ByteArray) (x : Nat → Int) (ns : List ND) (ao : Option Addr) (b o cap : Nat) (pv : Nat → Value), v = .agg (clA st x (.slice ao ns.length cap)) ∧ NsAt w.heap.size w ao b o pv ns ∧ st.size ≤ 9223372036854775807 := by
  obtain ⟨cs, rfl, hsz⟩ := okWide_struct Tryd.underlying24 hv
  obtain ⟨a0, a1, a2, a3, a4, a5, a6, a7, a8, a9, a10, a11, a12, a13, a14, a15, a16, a17, a18, a19, a20, a21, a22, rfl⟩ := array23 (hsz.trans cellsCl)
  obtain ⟨fuel, hf⟩ := h
  obtain ⟨xs, n, _, hx, _, hxl, hq⟩ := DataW.trod_struct Tryd.underlying24 hf
  obtain ⟨y0, y1, y2, y3, y4, y5, y6, y7, y8, y9, y10, y11, y12, y13, y14, y15, y16, y17, y18, y19, y20, y21, y22, rfl⟩ := list23 hxl
  have g0 := hq 0 _ rfl
  have g1 := hq 1 _ rfl
  have g2 := hq 2 _ rfl
  have g3 := hq 3 _ rfl
  have g4 := hq 4 _ rfl
  have g5 := hq 5 _ rfl
  have g6 := hq 6 _ rfl
  have g7 := hq 7 _ rfl
  have g8 := hq 8 _ rfl
  have g9 := hq 9 _ rfl
  have g10 := hq 10 _ rfl
  have g11 := hq 11 _ rfl
  have g12 := hq 12 _ rfl
  have g13 := hq 13 _ rfl
  have g14 := hq 14 _ rfl
  have g15 := hq 15 _ rfl
  have g16 := hq 16 _ rfl
  have g17 := hq 17 _ rfl
  have g18 := hq 18 _ rfl
  have g19 := hq 19 _ rfl
  have g20 := hq 20 _ rfl
  have g21 := hq 21 _ rfl
  have g22 := hq 22 _ rfl
  clear hq hf hv
  simp [Value.cells, cellsI, cellsS9, cellsNl] at g0 g1 g2 g3 g4 g5 g6 g7 g8 g9 g10 g11 g12 g13 g14 g15 g16 g17 g18 g19 g20 g21 g22
  obtain ⟨s0, f0, z0, w0⟩ := DataW.trod_string Tryd.underlying9 g0
  obtain ⟨n1, f1, z1, w1⟩ := DataW.trod_int Tryd.underlying3 g1
  obtain ⟨n2, f2, z2, w2⟩ := DataW.trod_int Tryd.underlying3 g2
  obtain ⟨n3, f3, z3, w3⟩ := DataW.trod_int Tryd.underlying3 g3
  obtain ⟨n4, f4, z4, w4⟩ := DataW.trod_int Tryd.underlying3 g4
  obtain ⟨n5, f5, z5, w5⟩ := DataW.trod_int Tryd.underlying3 g5
  obtain ⟨n6, f6, z6, w6⟩ := DataW.trod_int Tryd.underlying3 g6
  obtain ⟨n7, f7, z7, w7⟩ := DataW.trod_int Tryd.underlying3 g7
  obtain ⟨n8, f8, z8, w8⟩ := DataW.trod_int Tryd.underlying3 g8
  obtain ⟨n9, f9, z9, w9⟩ := DataW.trod_int Tryd.underlying3 g9
  obtain ⟨n10, f10, z10, w10⟩ := DataW.trod_int Tryd.underlying3 g10
  obtain ⟨n11, f11, z11, w11⟩ := DataW.trod_int Tryd.underlying3 g11
  obtain ⟨n12, f12, z12, w12⟩ := DataW.trod_int Tryd.underlying3 g12
  obtain ⟨n13, f13, z13, w13⟩ := DataW.trod_int Tryd.underlying3 g13
  obtain ⟨n14, f14, z14, w14⟩ := DataW.trod_int Tryd.underlying3 g14
  obtain ⟨n15, f15, z15, w15⟩ := DataW.trod_int Tryd.underlying3 g15
  obtain ⟨n16, f16, z16, w16⟩ := DataW.trod_int Tryd.underlying3 g16
  obtain ⟨n17, f17, z17, w17⟩ := DataW.trod_int Tryd.underlying3 g17
  obtain ⟨n18, f18, z18, w18⟩ := DataW.trod_int Tryd.underlying3 g18
  obtain ⟨n19, f19, z19, w19⟩ := DataW.trod_int Tryd.underlying3 g19
  obtain ⟨n20, f20, z20, w20⟩ := DataW.trod_int Tryd.underlying3 g20
  obtain ⟨n21, f21, z21, w21⟩ := DataW.trod_int Tryd.underlying3 g21
  simp only [List.cons.injEq, and_true] at f0 f1 f2 f3 f4 f5 f6 f7 f8 f9 f10 f11 f12 f13 f14 f15 f16 f17 f18 f19 f20 f21
  subst f0 f1 f2 f3 f4 f5 f6 f7 f8 f9 f10 f11 f12 f13 f14 f15 f16 f17 f18 f19 f20 f21
  simp only [Prod.mk.injEq] at hx
  obtain ⟨ns, ao, b, o, cap, pv, hv, hN⟩ := open_nodes g22 fun n hn => hw n (by
    rw [hx.1]
    simp only [DataW.weights, Tryd.underlying24]
    exact DataW.weights_mem_each (j := 22) rfl rfl n hn)
  subst hv
  refine ⟨s0, fun i => [n1, n2, n3, n4, n5, n6, n7, n8, n9, n10, n11, n12, n13, n14, n15, n16, n17, n18, n19, n20, n21][i]?.getD 0, ns, ao, b, o, cap, pv, rfl, hN, ?_⟩
  have := w0
  unfold maxLen at this
  omega
end Go.Proofs.YtpoegknmkbnjlaaDoor
