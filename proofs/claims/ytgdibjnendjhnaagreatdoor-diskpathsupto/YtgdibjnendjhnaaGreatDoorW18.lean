import Derived.Test.YtgdibjnendjhnaaGreatDoorW12
import Derived.Test.YtgdibjnendjhnaaGreatDoorW14
namespace Go.Proofs.YtgdibjnendjhnaaGreatDoor
open Go.RowKit
theorem new2' (w : World) (o1 o2 : Obj) : ((w.alloc o1).alloc o2).heap[w.heap.size + 1]? = some o2 := by have := heap_alloc_new (w.alloc o1) o2; rwa [World.size_alloc] at this
theorem lt_of_map {w : World} {m c : Nat} {es : Array MapEntry} (h : w.heap[m]? = some (.map es c)) : m < w.heap.size := by
  rcases Nat.lt_or_ge m w.heap.size with h' | h'
  · exact h'
  · rw [Array.getElem?_eq_none h'] at h; simp at h
set_option maxHeartbeats 2000000 in
set_option maxRecDepth 100000 in
theorem newState_ok (w : World) :
    Calls Tryz.prog 45 #[] w fun e w' => ∃ m n, e = .returned (.agg #[.map (some m), .map (some n)]) ∧ w.heap.size ≤ m ∧ w'.heap[m]? = some (.map #[] 0) ∧ Below w.heap.size w w' := by
  have hmm := @run_makeMap Tryz.prog
  go_enter Tryz.func45, Tryz.ntmps45
  go_wp2
  refine bodyPost_ret (v := .agg #[.map (some (w.heap.size + 1)), .map (some (w.heap.size + 1 + 1))]) (by simp [results, Tryz.results45, go_sem]) rfl ⟨_, _, rfl, by omega, ?_, ?_⟩
  · rw [Below.heap_alloc _ _ _ (by simp)]
    exact new2' w _ _
  · exact alloc_below (alloc_below (alloc_below (Below.refl _ _) _) _) _
set_option maxHeartbeats 2000000 in
set_option maxRecDepth 100000 in
theorem new_ok (w : World) (hg : ∃ k : Int, w.cell? ⟨0, 0, none⟩ = some (.int .i64 k)) (hpos : 0 < w.heap.size) :
    Calls Tryz.prog 10 #[.int .i64 0] w fun e w' => ∃ b m n p, e = .returned (.tuple #[.pointer (some ⟨b, 0, none⟩), .int .i64 0]) ∧ OwnW w' b m n p ∧ w.heap.size ≤ b ∧ w.heap.size ≤ m ∧ w.heap.size ≤ p ∧ p < w'.heap.size ∧ Below w.heap.size w w' := by
  have hmm := @run_makeMap Tryz.prog
  go_enter Tryz.func10, Tryz.ntmps10
  go_wp2_with fail
  refine Calls.mono (newState_ok _) ?_
  rintro e w1 ⟨m, n, rfl, hm1, hm2, hb1⟩
  go_wp2_with fail
  refine Calls.mono (newState_ok _) ?_
  rintro e w2 ⟨m', n', rfl, hm1', hm2', hb2⟩
  go_wp2
  go_ret2
  have hb12 : Below w.heap.size w w2 := hb1.trans (hb2.mono hb1.size)
  have hm3 : w2.heap[m]? = some (.map #[] 0) := by rw [hb2.block m (lt_of_map hm2)]; exact hm2
  have hmlt := lt_of_map hm3
  have hz := hb12.size
  refine ⟨w2.heap.size + 1, m, n, w2.heap.size, rfl, ?_, by omega, hm1, hz, by simp; omega, alloc_below (alloc_below hb12 _) _⟩
  refine { at0 := ?_, c1 := by simp, c2 := by simp, c4 := by simp, c7 := by simp, c8 := by simp, c9 := by simp, fz := fun j => by simp [go_sem], hp := ⟨0, ?_⟩, hmp := by omega, hbm := by omega, hbp := by omega }
  · refine { c5 := by simp, c10 := by simp, c11 := by simp, c14 := by simp, lt := by simp, hm := ⟨0, ?_⟩, g := ?_, pos := by simp }
    · rw [Below.heap_alloc _ _ _ (by simp; omega), Below.heap_alloc _ _ _ hmlt]; exact hm3
    · obtain ⟨k, hk⟩ := hg
      refine ⟨k, ?_⟩
      rw [(alloc_below (alloc_below hb12 _) _).cell (p := ⟨0, 0, none⟩) hpos]
      exact hk
  · rw [Below.heap_alloc _ _ _ (by simp)]
    exact heap_alloc_new w2 _
end Go.Proofs.YtgdibjnendjhnaaGreatDoor
