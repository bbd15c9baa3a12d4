import Derived.Test.YtnphdbmacccblaaMoOpen
import Derived.Test.YtnphdbmacccblaaMcAo
namespace Go.Proofs.Ytnphdbmacccblaa
open Go.ChangeShapes Go.WideShapes Go.ChangeAt Go.RowKit Go.Deep
theorem list1 {α : Type} {l : List α} (h : l.length = 1) : ∃ a0, l = [a0] := by
  match l, h with
  | [a0], _ => exact ⟨a0, rfl⟩
set_option maxRecDepth 100000 in
set_option linter.unusedVariables false in
/-- texts that are handed in -/
theorem open_texts {H : Type} {enc : TypeId × Value → H} {w : World} {base fuel : Nat} {spare : Nat → Bool} {held : Bool} {v : Value} {x : DataW H × List MemPlace} (h : DataW.trod enc Try.prog w base spare held fuel 22 [v] = some x) (hw : ∀ n ∈ x.1.weights Try.prog 22, n ≤ reachBytes) :
    ∃ (ys : List ByteArray) (ao : Option Addr) (b o cap : Nat), v = .slice ao ys.length cap ∧ TxAt w ao b o ys := by
  rcases open_slice Try.underlying22 h with ⟨h0, _⟩ | ⟨a, len, cap, m, n, D, Pl, hv, hb, hl, hm, hmm, hx, hc⟩
  · simp only [List.cons.injEq, and_true] at h0
    exact ⟨[], none, 0, 0, 0, by rw [h0]; rfl, ⟨fun q => absurd q (by simp), fun q => absurd q (by simp), (fun q hq => absurd hq (by simp)), (fun q hq => absurd hq (by simp)), Nat.zero_le _⟩⟩
  · simp only [List.cons.injEq, and_true] at hv
    have hlm : len ≤ m := by rw [hmm]; split <;> omega
    have hwl : len * 16 ≤ reachBytes := by
      have h1 := hw ((((List.range len).map D).length + ((List.range (m - len)).map (fun i => D (len + i))).length) * Try.prog.bytesOf 9) (by
        rw [hx]
        simp only [DataW.weights, Try.underlying22]
        exact List.mem_cons_self)
      rw [show Try.prog.bytesOf 9 = 16 from by kernel_rfl] at h1
      simp only [List.length_map, List.length_range] at h1
      omega
    have each : ∀ i, i < len → ∃ y : ByteArray, y.size ≤ 281474976710656 ∧ w.cell? (a.add i) = some (Value.string y) := by
      intro i hi
      obtain ⟨cs', h1, h2⟩ := hc i (by omega)
      rw [cellsS] at h1
      obtain ⟨_, hlen, hcell⟩ := World.cells?_some h1
      obtain ⟨c0, rfl⟩ := list1 hlen
      obtain ⟨y, e0, z0, w0⟩ := DataW.trod_string Try.underlying9 h2
      simp only [List.cons.injEq, and_true] at e0
      subst e0
      refine ⟨y, ?_, ?_⟩
      · have hm9 : y.data.toList.length ∈ (D i).weights Try.prog 9 := by
          rw [show D i = _ from congrArg Prod.fst z0]
          simp [DataW.weights]
        have := hw _ (by
          rw [hx]
          simp only [DataW.weights, Try.underlying22]
          exact List.mem_cons_of_mem _ (List.mem_append_left _ (all_mem hm9 (List.mem_map.2 ⟨i, List.mem_range.2 hi, rfl⟩))))
        have e : y.data.toList.length = y.size := by simp
        unfold reachBytes at this
        omega
      · have e := hcell 0 (by omega)
        rw [add_add] at e
        simpa using e
    haveI : Inhabited ByteArray := ⟨⟨#[]⟩⟩
    obtain ⟨q, hq⟩ := choose_lt each
    have hplen : ((List.range len).map q).length = len := by simp
    obtain ⟨b, off, spot⟩ := a
    have hspot : 0 < len → spot = none := fun h => by simpa [Addr.add] using World.cell?_spot (hq 0 (by omega)).2
    have cell : ∀ (i : Nat) (hi : i < ((List.range len).map q).length), w.cell? ⟨b, off + i, none⟩ = some (Value.string ((List.range len).map q)[i]) := by
      intro i hi
      have hi' : i < len := by rw [hplen] at hi; exact hi
      rw [List.getElem_map, List.getElem_range]
      have e := (hq i hi').2
      rw [hspot (by omega), add_plainT] at e
      exact e
    refine ⟨(List.range len).map q, some ⟨b, off, spot⟩, b, off, cap, by rw [hv, hplen], ⟨fun z => ?_, fun z => ?_, cell, ?_, ?_⟩⟩
    · rw [hplen] at z
      rw [hspot z]
    · have := cell 0 (by omega)
      exact World.block_lt_of_cell? w _ this
    · intro i hi
      rw [List.getElem_map, List.getElem_range]
      exact (hq i (by rw [hplen] at hi; exact hi)).1
    · rw [hplen]
      unfold reachBytes at hwl
      omega
set_option maxRecDepth 100000 in
set_option linter.unusedVariables false in
/-- numbers that are handed in -/
theorem open_nums {H : Type} {enc : TypeId × Value → H} {w : World} {base fuel : Nat} {spare : Nat → Bool} {held : Bool} {v : Value} {x : DataW H × List MemPlace} (h : DataW.trod enc Try.prog w base spare held fuel 23 [v] = some x) (hw : ∀ n ∈ x.1.weights Try.prog 23, n ≤ reachBytes) :
    ∃ (ys : List Int) (ao : Option Addr) (b o cap : Nat), v = .slice ao ys.length cap ∧ NmAt w ao b o ys := by
  rcases open_slice Try.underlying23 h with ⟨h0, _⟩ | ⟨a, len, cap, m, n, D, Pl, hv, hb, hl, hm, hmm, hx, hc⟩
  · simp only [List.cons.injEq, and_true] at h0
    exact ⟨[], none, 0, 0, 0, by rw [h0]; rfl, ⟨fun q => absurd q (by simp), fun q => absurd q (by simp), (fun q hq => absurd hq (by simp)), Nat.zero_le _⟩⟩
  · simp only [List.cons.injEq, and_true] at hv
    have hlm : len ≤ m := by rw [hmm]; split <;> omega
    have hwl : len * 8 ≤ reachBytes := by
      have h1 := hw ((((List.range len).map D).length + ((List.range (m - len)).map (fun i => D (len + i))).length) * Try.prog.bytesOf 3) (by
        rw [hx]
        simp only [DataW.weights, Try.underlying23]
        exact List.mem_cons_self)
      rw [show Try.prog.bytesOf 3 = 8 from by kernel_rfl] at h1
      simp only [List.length_map, List.length_range] at h1
      omega
    have each : ∀ i, i < len → ∃ y : Int, True ∧ w.cell? (a.add i) = some (Value.int .i64 y) := by
      intro i hi
      obtain ⟨cs', h1, h2⟩ := hc i (by omega)
      rw [cellsI] at h1
      obtain ⟨_, hlen, hcell⟩ := World.cells?_some h1
      obtain ⟨c0, rfl⟩ := list1 hlen
      obtain ⟨y, e0, z0, w0⟩ := DataW.trod_int Try.underlying3 h2
      simp only [List.cons.injEq, and_true] at e0
      subst e0
      refine ⟨y, trivial, ?_⟩
      have e := hcell 0 (by omega)
      rw [add_add] at e
      simpa using e
    haveI : Inhabited Int := ⟨0⟩
    obtain ⟨q, hq⟩ := choose_lt each
    have hplen : ((List.range len).map q).length = len := by simp
    obtain ⟨b, off, spot⟩ := a
    have hspot : 0 < len → spot = none := fun h => by simpa [Addr.add] using World.cell?_spot (hq 0 (by omega)).2
    have cell : ∀ (i : Nat) (hi : i < ((List.range len).map q).length), w.cell? ⟨b, off + i, none⟩ = some (Value.int .i64 ((List.range len).map q)[i]) := by
      intro i hi
      have hi' : i < len := by rw [hplen] at hi; exact hi
      rw [List.getElem_map, List.getElem_range]
      have e := (hq i hi').2
      rw [hspot (by omega), add_plainT] at e
      exact e
    refine ⟨(List.range len).map q, some ⟨b, off, spot⟩, b, off, cap, by rw [hv, hplen], ⟨fun z => ?_, fun z => ?_, cell, ?_⟩⟩
    · rw [hplen] at z
      rw [hspot z]
    · have := cell 0 (by omega)
      exact World.block_lt_of_cell? w _ this
    · rw [hplen]
      unfold reachBytes at hwl
      omega
end Go.Proofs.Ytnphdbmacccblaa
