import Derived.Test.YtpmicmhkahgjcaaGCdRes
import Derived.Test.YtpmicmhkahgjcaaGCcTick
namespace Go.Proofs.Ytpmicmhkahgjcaa.Cn
open Go.ChangeShapes Go.WideShapes Go.ChangeAt Go.RowKit Go.Deep
theorem cellsMsg : Try.prog.cellsOf 44 = 11 := by kernel_rfl
theorem cellsErr : Try.prog.cellsOf 31 = 1 := by kernel_rfl
theorem cellsS9 : Try.prog.cellsOf 9 = 1 := by kernel_rfl
theorem cellsSp : Try.prog.cellsOf 59 = 14 := by kernel_rfl
theorem list11 {α : Type} {l : List α} (h : l.length = 11) : ∃ a0 a1 a2 a3 a4 a5 a6 a7 a8 a9 a10, l = [a0, a1, a2, a3, a4, a5, a6, a7, a8, a9, a10] := by
  match l, h with
  | [a0, a1, a2, a3, a4, a5, a6, a7, a8, a9, a10], _ => exact ⟨a0, a1, a2, a3, a4, a5, a6, a7, a8, a9, a10, rfl⟩
theorem list14 {α : Type} {l : List α} (h : l.length = 14) : ∃ a0 a1 a2 a3 a4 a5 a6 a7 a8 a9 a10 a11 a12 a13, l = [a0, a1, a2, a3, a4, a5, a6, a7, a8, a9, a10, a11, a12, a13] := by
  match l, h with
  | [a0, a1, a2, a3, a4, a5, a6, a7, a8, a9, a10, a11, a12, a13], _ => exact ⟨a0, a1, a2, a3, a4, a5, a6, a7, a8, a9, a10, a11, a12, a13, rfl⟩
theorem list4 {α : Type} {l : List α} (h : l.length = 4) : ∃ a0 a1 a2 a3, l = [a0, a1, a2, a3] := by
  match l, h with
  | [a0, a1, a2, a3], _ => exact ⟨a0, a1, a2, a3, rfl⟩
set_option maxRecDepth 100000 in
set_option maxHeartbeats 1000000 in
/-- a message's cells -/
theorem open_mg {H : Type} {enc : TypeId × Value → H} {w : World} {base fuel : Nat} {spare : Nat → Bool} {held : Bool} {cs : List Value} {x : DataW H × List MemPlace} (h : DataW.trod enc Try.prog w base spare held fuel 44 cs = some x) (hl : cs.length = 11) :
    ∃ m : Mg, cs = (mgV m).toList := by
  obtain ⟨c0, c1, c2, c3, c4, c5, c6, c7, c8, c9, c10, rfl⟩ := list11 hl
  obtain ⟨xs2, n2, _, hx2, _, hxl2, hq2⟩ := DataW.trod_struct Try.underlying44 h
  obtain ⟨y0, y1, y2, y3, y4, y5, y6, y7, y8, y9, y10, rfl⟩ := list11 hxl2
  have g0 := hq2 0 _ rfl
  have g1 := hq2 1 _ rfl
  have g2 := hq2 2 _ rfl
  have g3 := hq2 3 _ rfl
  have g4 := hq2 4 _ rfl
  have g5 := hq2 5 _ rfl
  have g6 := hq2 6 _ rfl
  have g7 := hq2 7 _ rfl
  have g8 := hq2 8 _ rfl
  have g9 := hq2 9 _ rfl
  have g10 := hq2 10 _ rfl
  simp [cellsI, cellsS9, cellsErr] at g0 g1 g2 g3 g4 g5 g6 g7 g8 g9 g10
  obtain ⟨n0, f0, z0, w0⟩ := DataW.trod_int Try.underlying3 g0
  obtain ⟨n1, f1, z1, w1⟩ := DataW.trod_int Try.underlying3 g1
  obtain ⟨n2', f2, z2, w2⟩ := DataW.trod_int Try.underlying3 g2
  obtain ⟨n3, f3, z3, w3⟩ := DataW.trod_int Try.underlying3 g3
  obtain ⟨n4, f4, z4, w4⟩ := DataW.trod_int Try.underlying3 g4
  obtain ⟨n5, f5, z5, w5⟩ := DataW.trod_int Try.underlying3 g5
  obtain ⟨n6, f6, z6, w6⟩ := DataW.trod_int Try.underlying3 g6
  obtain ⟨n7, f7, z7, w7⟩ := DataW.trod_int Try.underlying3 g7
  obtain ⟨n8, f8, z8, w8⟩ := DataW.trod_int Try.underlying31 g8
  obtain ⟨s9, f9, z9, w9⟩ := DataW.trod_string Try.underlying9 g9
  obtain ⟨s10, f10, z10, w10⟩ := DataW.trod_string Try.underlying9 g10
  simp only [List.cons.injEq, and_true] at f0 f1 f2 f3 f4 f5 f6 f7 f8 f9 f10
  subst f0 f1 f2 f3 f4 f5 f6 f7 f8 f9 f10
  exact ⟨⟨n0, n1, n2', n3, n4, n5, n6, n7, n8, s9, s10⟩, rfl⟩
set_option maxRecDepth 100000 in
set_option maxHeartbeats 1000000 in
/-- a step's cells -/
theorem open_sp {H : Type} {enc : TypeId × Value → H} {w : World} {base fuel : Nat} {spare : Nat → Bool} {held : Bool} {cs : List Value} {x : DataW H × List MemPlace} (h : DataW.trod enc Try.prog w base spare held fuel 59 cs = some x) (hl : cs.length = 14) :
    ∃ s : Sp, cs = (spV s).toList := by
  obtain ⟨c0, c1, c2, c3, c4, c5, c6, c7, c8, c9, c10, c11, c12, c13, rfl⟩ := list14 hl
  obtain ⟨xs, n, _, hx, _, hxl, hq⟩ := DataW.trod_struct Try.underlying59 h
  obtain ⟨ya, yb, yc, yd, rfl⟩ := list4 hxl
  have ga := hq 0 _ rfl
  have gb := hq 1 _ rfl
  have gc := hq 2 _ rfl
  have gd := hq 3 _ rfl
  simp [cellsMsg, cellsI] at ga gb gc gd
  obtain ⟨n0, f0, z0, w0⟩ := DataW.trod_int Try.underlying3 ga
  obtain ⟨n1, f1, z1, w1⟩ := DataW.trod_int Try.underlying3 gb
  obtain ⟨n2, f2, z2, w2⟩ := DataW.trod_int Try.underlying3 gc
  obtain ⟨m, hm⟩ := open_mg gd rfl
  simp only [List.cons.injEq, and_true] at f0 f1 f2
  subst f0 f1 f2
  refine ⟨⟨n0, n1, n2, m⟩, ?_⟩
  simp only [mgV, List.cons.injEq] at hm
  obtain ⟨h0, h1, h2, h3, h4, h5, h6, h7, h8, h9, h10, _⟩ := hm
  subst h0 h1 h2 h3 h4 h5 h6 h7 h8 h9 h10
  rfl
set_option maxRecDepth 100000 in
/-- rows that are handed in -/
theorem open_rows {H : Type} {α : Type} [Inhabited α] {enc : TypeId × Value → H} {w : World} {base fuel : Nat} {spare : Nat → Bool} {held : Bool} {v : Value} {x : DataW H × List MemPlace} {t e : TypeId} {k : Nat} {V : α → Array Value} (hu : Try.prog.underlying t = some (.slice e)) (hk : Try.prog.cellsOf e = k) (hk1 : 0 < k) (hV : ∀ s, (V s).size = k) (hone : ∀ {fuel : Nat} {cs : List Value} {x : DataW H × List MemPlace}, DataW.trod enc Try.prog w base spare held fuel e cs = some x → cs.length = k → ∃ s : α, cs = (V s).toList)
    (h : DataW.trod enc Try.prog w base spare held fuel t [v] = some x) (hlt : ∀ q ∈ x.2, q.block < w.heap.size) :
    ∃ (ys : List α) (ao : Option Addr) (b o cap : Nat), v = .slice ao ys.length cap ∧ RwAt k V w.heap.size w ao b o ys := by
  rcases open_slice hu h with ⟨h0, _⟩ | ⟨a, len, cap, m, n, D, Pl, hv, hb, hl, hm, hmm, hx, hc⟩
  · simp only [List.cons.injEq, and_true] at h0
    exact ⟨[], none, 0, 0, 0, by rw [h0]; rfl, fun z => absurd z (by simp), fun z => absurd z (by simp), (fun q hq => absurd hq (by simp)), Nat.zero_le _⟩
  · simp only [List.cons.injEq, and_true] at hv
    have hlm : len ≤ m := by rw [hmm]; split <;> omega
    have each : ∀ i, i < len → ∃ q : α, ∀ j u, (V q)[j]? = some u → w.cell? (a.add (i * k + j)) = some u := by
      intro i hi
      obtain ⟨cs', h1, h2⟩ := hc i (by omega)
      rw [hk] at h1
      obtain ⟨_, hlen, hcell⟩ := World.cells?_some h1
      obtain ⟨y, hy⟩ := hone h2 hlen
      refine ⟨y, fun j u hj => ?_⟩
      have hjk : j < k := by
        have := (Array.getElem?_eq_some_iff.1 hj).1
        rwa [hV] at this
      have e := hcell j hjk
      rw [add_add] at e
      rw [e, hy]
      simpa using hj
    obtain ⟨q, hq⟩ := choose_lt each
    have hplen : ((List.range len).map q).length = len := by simp
    obtain ⟨b, off, spot⟩ := a
    have hspot : 0 < len → spot = none := fun hp => by
      have hs : 0 < (V (q 0)).size := by rw [hV]; exact hk1
      have := hq 0 hp 0 _ (Array.getElem?_eq_getElem hs)
      simpa [Addr.add] using World.cell?_spot this
    refine ⟨(List.range len).map q, some ⟨b, off, spot⟩, b, off, cap, by rw [hv, hplen], fun z => ?_, fun z => ?_, fun i hi j u hj => ?_, ?_⟩
    · rw [hplen] at z
      rw [hspot z]
    · rw [hplen] at z
      refine hlt (.cell b off) ?_
      rw [hx]
      refine List.mem_append_left _ (MemPlace.mem_row.2 ⟨0, ?_, by simp⟩)
      rw [hk]
      exact Nat.mul_pos (by omega) hk1
    · rw [hplen] at hi
      rw [List.getElem_map, List.getElem_range] at hj
      have := hq i hi j u hj
      rw [hspot (by omega), Addr.add_mid] at this
      rw [Nat.add_assoc]
      exact this
    · rw [hplen]
      unfold maxLen at hm
      omega
theorem open_steps {H : Type} {enc : TypeId × Value → H} {w : World} {base fuel : Nat} {v : Value} {x : DataW H × List MemPlace} (h : DataW.trod enc Try.prog w base (fun _ => true) true fuel 57 [v] = some x) (hlt : ∀ q ∈ x.2, q.block < w.heap.size) :
    ∃ (ys : List Sp) (ao : Option Addr) (b o cap : Nat), v = .slice ao ys.length cap ∧ RwAt 14 spV w.heap.size w ao b o ys := by
  haveI : Inhabited Sp := ⟨⟨0, 0, 0, mg0⟩⟩
  exact open_rows (k := 14) Try.underlying57 cellsSp (by omega) (fun _ => rfl) (fun h hl => open_sp h hl) h hlt
theorem open_msgs {H : Type} {enc : TypeId × Value → H} {w : World} {base fuel : Nat} {v : Value} {x : DataW H × List MemPlace} (h : DataW.trod enc Try.prog w base (fun _ => true) true fuel 30 [v] = some x) (hlt : ∀ q ∈ x.2, q.block < w.heap.size) :
    ∃ (ys : List Mg) (ao : Option Addr) (b o cap : Nat), v = .slice ao ys.length cap ∧ RwAt 11 mgV w.heap.size w ao b o ys := by
  haveI : Inhabited Mg := ⟨mg0⟩
  exact open_rows (k := 11) Try.underlying30 cellsMsg (by omega) (fun _ => rfl) (fun h hl => open_mg h hl) h hlt
end Go.Proofs.Ytpmicmhkahgjcaa.Cn
