import Derived.Test.YtioiphonajinmaaGreatDoorGGmMade
import Derived.Test.YtioiphonajinmaaGreatDoorGvLaw
namespace Go.Proofs.YtioiphonajinmaaGreatDoor
open Go.ChangeShapes Go.WideShapes Go.ChangeAt Go.RowKit Go.Deep
theorem cellsS : Tryz.prog.cellsOf 9 = 1 := by kernel_rfl
theorem bytesS : Tryz.prog.bytesOf 9 = 16 := by kernel_rfl
set_option maxRecDepth 100000 in
/-- keys that are handed in -/
theorem open_ks {H : Type} {enc : TypeId × Value → H} {w : World} {base fuel : Nat} {spare : Nat → Bool} {held : Bool} {v : Value} {x : DataW H × List MemPlace} (h : DataW.trod enc Tryz.prog w base spare held fuel 25 [v] = some x) (hw : ∀ n ∈ x.1.weights Tryz.prog 25, n ≤ reachBytes) :
    ∃ (L : List ByteArray) (ao : Option Addr) (b o cap : Nat), v = .slice ao L.length cap ∧ KsAt w.heap.size w ao b o L := by
  rcases open_slice1 Tryz.underlying25 cellsS h with ⟨h0, _⟩ | ⟨a, len, cap, m, n, V, D, Pl, hv, hb, hl, hm, hmm, hx, hc⟩
  · simp only [List.cons.injEq, and_true] at h0
    subst h0
    exact ⟨[], none, 0, 0, 0, rfl, ⟨fun q => absurd q (by simp), fun q => absurd q (by simp), (fun q hq => absurd hq (by simp)), Nat.zero_le _, (fun q hq => absurd hq (by simp))⟩⟩
  · simp only [List.cons.injEq, and_true] at hv
    subst hv
    have hlm : len ≤ m := by rw [hmm]; split <;> omega
    have hwl : len * 16 ≤ reachBytes := by
      have := hw ((len + (m - len)) * 16) (by rw [hx]; simp [DataW.weights, Tryz.underlying25, bytesS])
      omega
    have each : ∀ i, i < len → ∃ y : ByteArray, V i = .string y ∧ y.size ≤ 9223372036854775807 := fun i hi => by
      obtain ⟨y, f, _, hz⟩ := DataW.trod_string Tryz.underlying9 (hc i (by omega)).2
      simp only [List.cons.injEq, and_true] at f
      exact ⟨y, f, by have := hz; first | exact this | (unfold maxLen at this; omega)⟩
    obtain ⟨q, hq⟩ := choose_lt each
    have hplen : ((List.range len).map q).length = len := by simp
    obtain ⟨b, off, spot⟩ := a
    have hspot : 0 < len → spot = none := fun h => by simpa [Addr.add] using World.cell?_spot (hc 0 (by omega)).1
    have cell : ∀ (i : Nat) (hi : i < ((List.range len).map q).length), w.cell? ⟨b, off + i, none⟩ = some (.string ((List.range len).map q)[i]) := by
      intro i hi
      have hi' : i < len := by rw [hplen] at hi; exact hi
      have e := (hc i (by omega)).1
      rw [hspot (by omega), add_plainT, (hq i hi').1] at e
      rw [e, List.getElem_map, List.getElem_range]
    refine ⟨(List.range len).map q, some ⟨b, off, spot⟩, b, off, cap, by rw [hplen], ⟨fun z => ?_, fun z => ?_, cell, ?_, fun i hi => ?_⟩⟩
    · rw [hplen] at z
      rw [hspot z]
    · exact World.block_lt_of_cell? w _ (cell 0 z)
    · rw [hplen]
      rw [show reachBytes = 140737488351232 from rfl] at hwl
      omega
    · rw [List.getElem_map, List.getElem_range]
      exact (hq i (by rw [hplen] at hi; exact hi)).2
end Go.Proofs.YtioiphonajinmaaGreatDoor
