import Derived.Test.YtgdjfocnaapooaaDoorRows
import Derived.Test.YtgdjfocnaapooaaDoorGFoOpen
import Derived.Test.YtgdjfocnaapooaaDoorFvLaw
import Derived.ProofKit
import Derived.OpenShut
import Derived.SizedLaws
import Derived.Deep.SlicePairs
namespace Go.Proofs.YtgdjfocnaapooaaDoor
open Go.ChangeShapes Go.WideShapes Go.ChangeAt Go.RowKit Go.Deep
theorem cellsSt : Tryd.prog.cellsOf 49 = 12 := by kernel_rfl
theorem bulk_posS {H : Type} (d : DataW H) : 1 ≤ Rows.uptoBulk d := by
  cases d with
  | lit l => cases l <;> simp only [Rows.uptoBulk] <;> omega
  | _ => simp only [Rows.uptoBulk] <;> omega
theorem bulk_lenS {H α : Type} (l : List α) (f : α → DataW H) : l.length ≤ Rows.uptoBulkAll (l.map f) := by
  induction l with
  | nil => simp
  | cons a r ih =>
    have := bulk_posS (f a)
    simp only [List.map_cons, List.length_cons, Rows.uptoBulkAll]
    omega
theorem bulk_sum {H α : Type} (l : List α) (f : α → DataW H) (q : α → MM × ByteArray) (h : ∀ i ∈ l, (q i).2.size ≤ Rows.uptoBulk (f i)) : sumL (l.map q) ≤ Rows.uptoBulkAll (l.map f) := by
  induction l with
  | nil => exact Nat.le_refl _
  | cons a r ih =>
    have h1 := h a (List.mem_cons_self ..)
    have h2 := ih fun i hi => h i (List.mem_cons_of_mem _ hi)
    unfold sumL at *
    simp only [List.map_cons, List.sum_cons, Rows.uptoBulkAll]
    omega
theorem list12 {α : Type} {l : List α} (h : l.length = 12) : ∃ a0 a1 a2 a3 a4 a5 a6 a7 a8 a9 a10 a11, l = [a0, a1, a2, a3, a4, a5, a6, a7, a8, a9, a10, a11] := by
  match l, h with
  | [a0, a1, a2, a3, a4, a5, a6, a7, a8, a9, a10, a11], _ => exact ⟨a0, a1, a2, a3, a4, a5, a6, a7, a8, a9, a10, a11, rfl⟩
theorem list2 {α : Type} {l : List α} (h : l.length = 2) : ∃ a0 a1, l = [a0, a1] := by
  match l, h with
  | [a0, a1], _ => exact ⟨a0, a1, rfl⟩
set_option maxRecDepth 100000 in
set_option maxHeartbeats 1000000 in
/-- one strewn message's cells -/
theorem open_st {H : Type} {enc : TypeId × Value → H} {w : World} {base fuel : Nat} {spare : Nat → Bool} {held : Bool} {cs : List Value} {x : DataW H × List MemPlace} (h : DataW.trod enc Tryd.prog w base spare held fuel 49 cs = some x) (hl : cs.length = 12) :
    ∃ y : MM × ByteArray, cs = (stA y).toList ∧ y.2.size ≤ Rows.uptoBulk x.1 := by
  obtain ⟨c0, c1, c2, c3, c4, c5, c6, c7, c8, c9, c10, c11, rfl⟩ := list12 hl
  obtain ⟨xs, n, _, hx, _, hxl, hq⟩ := DataW.trod_struct Tryd.underlying49 h
  obtain ⟨ya, yb, rfl⟩ := list2 hxl
  have ga := hq 0 _ rfl
  have gb := hq 1 _ rfl
  simp [cellsMsg, cellsS9] at ga gb
  obtain ⟨s, fs, zs, _⟩ := DataW.trod_string Tryd.underlying9 gb
  obtain ⟨xs2, n2, _, hx2, _, hxl2, hq2⟩ := DataW.trod_struct Tryd.underlying27 ga
  obtain ⟨y0, y1, y2, y3, y4, y5, y6, y7, y8, y9, y10, rfl⟩ := list11 hxl2
  have g0 := hq2 0 _ rfl
  have g1 := hq2 1 _ rfl
  have g2 := hq2 2 _ rfl
  have g3 := hq2 3 _ rfl
  have g4 := hq2 4 _ rfl
  have g5 := hq2 5 _ rfl
  have g6 := hq2 6 _ rfl
  have g7 := hq2 7 _ rfl
  have g8 := hq2 8 _ rfl
  have g9 := hq2 9 _ rfl
  have g10 := hq2 10 _ rfl
  simp [cellsI, cellsS9, cellsErr] at g0 g1 g2 g3 g4 g5 g6 g7 g8 g9 g10
  obtain ⟨n0, f0, z0, w0⟩ := DataW.trod_int Tryd.underlying3 g0
  obtain ⟨n1, f1, z1, w1⟩ := DataW.trod_int Tryd.underlying3 g1
  obtain ⟨n2', f2, z2, w2⟩ := DataW.trod_int Tryd.underlying3 g2
  obtain ⟨n3, f3, z3, w3⟩ := DataW.trod_int Tryd.underlying3 g3
  obtain ⟨n4, f4, z4, w4⟩ := DataW.trod_int Tryd.underlying3 g4
  obtain ⟨n5, f5, z5, w5⟩ := DataW.trod_int Tryd.underlying3 g5
  obtain ⟨n6, f6, z6, w6⟩ := DataW.trod_int Tryd.underlying3 g6
  obtain ⟨n7, f7, z7, w7⟩ := DataW.trod_int Tryd.underlying3 g7
  obtain ⟨n8, f8, z8, w8⟩ := DataW.trod_int Tryd.underlying23 g8
  obtain ⟨s9, f9, z9, w9⟩ := DataW.trod_string Tryd.underlying9 g9
  obtain ⟨s10, f10, z10, w10⟩ := DataW.trod_string Tryd.underlying9 g10
  simp only [List.cons.injEq, and_true] at fs f0 f1 f2 f3 f4 f5 f6 f7 f8 f9 f10
  subst fs f0 f1 f2 f3 f4 f5 f6 f7 f8 f9 f10
  refine ⟨(⟨n0, n1, n2', n3, n4, n5, n6, n7, n8, s9, s10⟩, s), rfl, ?_⟩
  rw [hx]
  subst zs
  simp only [List.map_cons, List.map_nil, Rows.uptoBulk, Rows.uptoBulkAll]
  have := size_data s
  omega
set_option maxRecDepth 100000 in
/-- strewn messages that are handed in -/
theorem open_strewn {H : Type} {enc : TypeId × Value → H} {w : World} {base fuel : Nat} {spare : Nat → Bool} {held : Bool} {v : Value} {x : DataW H × List MemPlace} (h : DataW.trod enc Tryd.prog w base spare held fuel 46 [v] = some x) :
    ∃ (ys : List (MM × ByteArray)) (ao : Option Addr) (ad0 : Addr) (cap : Nat), v = .slice ao ys.length cap ∧ (ao = none → cap = 0 ∧ ys.length = 0) ∧ (∀ ad, ao = some ad → ad = ad0) ∧ (∀ j u, (yL ys)[j]? = some u → w.cell? (ad0.add j) = some u) ∧ ys.length ≤ Rows.uptoBulk x.1 ∧ sumL ys ≤ Rows.uptoBulk x.1 := by
  rcases open_slice Tryd.underlying46 h with ⟨h0, _⟩ | ⟨a, len, cap, m, n, D, Pl, hv, hb, hl, hm, hmm, hx, hc⟩
  · simp only [List.cons.injEq, and_true] at h0
    exact ⟨[], none, ⟨0, 0, none⟩, 0, by rw [h0]; rfl, fun _ => ⟨rfl, rfl⟩, (fun ad h => by cases h), (fun j u hj => by simp [yL] at hj), Nat.zero_le _, Nat.zero_le _⟩
  · simp only [List.cons.injEq, and_true] at hv
    have hlm : len ≤ m := by rw [hmm]; split <;> omega
    have each : ∀ i, i < len → ∃ q : MM × ByteArray, q.2.size ≤ Rows.uptoBulk (D i) ∧ ∀ j u, (stA q).toList[j]? = some u → w.cell? (a.add (i * 12 + j)) = some u := by
      intro i hi
      obtain ⟨cs', h1, h2⟩ := hc i (by omega)
      rw [cellsSt] at h1
      obtain ⟨_, hlen, hcell⟩ := World.cells?_some h1
      obtain ⟨y, hy, hyb⟩ := open_st h2 hlen
      refine ⟨y, hyb, fun j u hj => ?_⟩
      have hj12 : j < 12 := (List.getElem?_eq_some_iff.1 hj).1
      have e := hcell j hj12
      rw [add_add] at e
      rw [e, ← hj, hy]
    haveI : Inhabited (MM × ByteArray) := ⟨(stM, ⟨#[]⟩)⟩
    obtain ⟨q, hq⟩ := choose_lt each
    have hplen : ((List.range len).map q).length = len := by simp
    refine ⟨(List.range len).map q, some a, a, cap, by rw [hv, hplen], (fun h => by cases h), (fun ad h => (Option.some.inj h).symm), fun j u hj => ?_, ?_, ?_⟩
    · have hj2 : j < len * 12 := by
        have := (List.getElem?_eq_some_iff.1 hj).1
        rw [yL_len, hplen] at this
        exact this
      have hq1 : j / 12 < len := by omega
      have hjq : j = j / 12 * 12 + j % 12 := by omega
      rw [hjq, yL_at _ (j / 12) (by rw [hplen]; exact hq1) (j % 12) (Nat.mod_lt _ (by omega)), List.getElem_map, List.getElem_range] at hj
      rw [hjq]
      exact (hq _ hq1).2 _ _ hj
    · rw [hplen, hx]
      have := bulk_lenS (List.range len) D
      rw [List.length_range] at this
      simp only [Rows.uptoBulk]
      omega
    · rw [hx]
      have := bulk_sum (List.range len) D q fun i hi => (hq i (List.mem_range.1 hi)).1
      simp only [Rows.uptoBulk]
      omega
theorem bulk_lits {H : Type} (k : IntKind) (zs : List Int) : Rows.uptoBulkAll (lits (H := H) k zs) = zs.length := by
  induction zs with
  | nil => rfl
  | cons z zs ih =>
    have e : lits (H := H) k (z :: zs) = .lit (.int k z) :: lits k zs := rfl
    rw [e, Rows.uptoBulkAll, ih]
    simp only [Rows.uptoBulk, List.length_cons]
    omega
set_option maxRecDepth 100000 in
/-- numbers that are handed in -/
theorem open_cuts {H : Type} {enc : TypeId × Value → H} {w : World} {base fuel : Nat} {v : Value} {x : DataW H × List MemPlace} (h : DataW.trod enc Tryd.prog w base (fun _ => true) true fuel 47 [v] = some x) (hlt : ∀ q ∈ x.2, q.block < w.heap.size) :
    ∃ (cs : List Int) (ao : Option Addr) (b o cap : Nat), v = .slice ao cs.length cap ∧ (0 < cs.length → ao = some ⟨b, o, none⟩) ∧ (0 < cs.length → b < w.heap.size) ∧ (∀ (j : Nat) c, cs[j]? = some c → w.cell? ⟨b, o + j, none⟩ = some (.int .i64 c)) ∧ cs.length ≤ Rows.uptoBulk x.1 := by
  rcases open_ints Tryd.underlying47 Tryd.underlying3 cellsI h with ⟨h0, _⟩ | ⟨a, len, cap, zs, hv, hb, hl, hm, hz, hx, hcell, _⟩
  · simp only [List.cons.injEq, and_true] at h0
    exact ⟨[], none, 0, 0, 0, by rw [h0]; rfl, fun q => absurd q (by simp), fun q => absurd q (by simp), (fun j c hj => by simp at hj), Nat.zero_le _⟩
  · simp only [List.cons.injEq, and_true] at hv
    simp only [if_true] at hz
    have hplen : (zs.take len).length = len := by rw [List.length_take]; omega
    obtain ⟨b, off, spot⟩ := a
    have hspot : 0 < len → spot = none := fun h => by simpa [Addr.add] using World.cell?_spot (hcell 0 (by omega))
    refine ⟨zs.take len, some ⟨b, off, spot⟩, b, off, cap, by rw [hv, hplen], fun z => ?_, fun z => ?_, fun j c hj => ?_, ?_⟩
    · rw [hplen] at z
      rw [hspot z]
    · rw [hplen] at z
      refine hlt (.cell b off) ?_
      rw [hx]
      exact MemPlace.mem_row.2 ⟨0, by omega, by simp⟩
    · obtain ⟨hj', hc⟩ := List.getElem?_eq_some_iff.1 hj
      rw [hplen] at hj'
      have hj2 : j < zs.length := by omega
      have := hcell j hj2
      rw [hspot (by omega), add_plain] at this
      rw [this, List.getD_eq_getElem?_getD, List.getElem?_eq_getElem hj2, Option.getD_some, ← hc, List.getElem_take]
    · rw [hplen, hx]
      simp only [Rows.uptoBulk, bulk_lits]
      omega
end Go.Proofs.YtgdjfocnaapooaaDoor
