import Derived.Test.YtkfiaahgcljljaaTbTick
namespace Go.Proofs.Ytkfiaahgcljljaa
open Go.RowKit
set_option maxHeartbeats 4000000 in
set_option maxRecDepth 100000 in
set_option linter.unusedSimpArgs false in
set_option linter.unusedVariables false in
theorem newBucket_any (r p c : Int) (w : World) (hf : Fits r p c (c * p)) :
    Calls Try.prog 17 #[.int .i64 r, .int .i64 p, .int .i64 c] w fun e w' => e = .returned (.tuple #[.pointer (some ⟨w.heap.size, 0, none⟩), .int .i64 0]) ∧ BkAt w' w.heap.size r p c (c * p) ∧ Below w.heap.size w w' := by
  have h1 := hf.r1
  have h2 := hf.r2
  have h3 := hf.p1
  have h4 := hf.p2
  have h5 := hf.c1
  have h6 := hf.c2
  have h7 := hf.cp
  have ew := wrap_in (x := c * p) (by omega) (by omega)
  go_enter Try.func17, Try.ntmps17
  go_wp2_with (go_at_call 26; refine Calls.mono (within_any _ _ _ _) ?_; rintro e w1 ⟨rfl, rfl⟩)
  go_ret2
  exact ⟨rfl, heap_last w _, (Below.refl _ w).alloc (Nat.le_refl _) _⟩
set_option maxHeartbeats 4000000 in
set_option maxRecDepth 100000 in
set_option linter.unusedSimpArgs false in
set_option linter.unusedVariables false in
theorem newBucket_bad0 (r p c : Int) (w : World)  (h0 : ¬ 1 ≤ r) :
    Calls Try.prog 17 #[.int .i64 r, .int .i64 p, .int .i64 c] w fun e w' => e = .returned (.tuple #[.pointer none, .int .i64 1]) ∧ w = w' := by
  go_enter Try.func17, Try.ntmps17
  go_wp2_with (go_at_call 26; refine Calls.mono (within_any _ _ _ _) ?_; rintro e w1 ⟨rfl, rfl⟩)
  go_ret2
  exact ⟨rfl, rfl⟩
set_option maxHeartbeats 4000000 in
set_option maxRecDepth 100000 in
set_option linter.unusedSimpArgs false in
set_option linter.unusedVariables false in
theorem newBucket_bad1 (r p c : Int) (w : World) (h0 : 1 ≤ r) (h1 : ¬ r ≤ 65536) :
    Calls Try.prog 17 #[.int .i64 r, .int .i64 p, .int .i64 c] w fun e w' => e = .returned (.tuple #[.pointer none, .int .i64 1]) ∧ w = w' := by
  go_enter Try.func17, Try.ntmps17
  go_wp2_with (go_at_call 26; refine Calls.mono (within_any _ _ _ _) ?_; rintro e w1 ⟨rfl, rfl⟩)
  go_ret2
  exact ⟨rfl, rfl⟩
set_option maxHeartbeats 4000000 in
set_option maxRecDepth 100000 in
set_option linter.unusedSimpArgs false in
set_option linter.unusedVariables false in
theorem newBucket_bad2 (r p c : Int) (w : World) (h0 : 1 ≤ r) (h1 : r ≤ 65536) (h2 : ¬ 1 ≤ p) :
    Calls Try.prog 17 #[.int .i64 r, .int .i64 p, .int .i64 c] w fun e w' => e = .returned (.tuple #[.pointer none, .int .i64 1]) ∧ w = w' := by
  go_enter Try.func17, Try.ntmps17
  go_wp2_with (go_at_call 26; refine Calls.mono (within_any _ _ _ _) ?_; rintro e w1 ⟨rfl, rfl⟩)
  go_ret2
  exact ⟨rfl, rfl⟩
set_option maxHeartbeats 4000000 in
set_option maxRecDepth 100000 in
set_option linter.unusedSimpArgs false in
set_option linter.unusedVariables false in
theorem newBucket_bad3 (r p c : Int) (w : World) (h0 : 1 ≤ r) (h1 : r ≤ 65536) (h2 : 1 ≤ p) (h3 : ¬ p ≤ 1024) :
    Calls Try.prog 17 #[.int .i64 r, .int .i64 p, .int .i64 c] w fun e w' => e = .returned (.tuple #[.pointer none, .int .i64 1]) ∧ w = w' := by
  go_enter Try.func17, Try.ntmps17
  go_wp2_with (go_at_call 26; refine Calls.mono (within_any _ _ _ _) ?_; rintro e w1 ⟨rfl, rfl⟩)
  go_ret2
  exact ⟨rfl, rfl⟩
set_option maxHeartbeats 4000000 in
set_option maxRecDepth 100000 in
set_option linter.unusedSimpArgs false in
set_option linter.unusedVariables false in
theorem newBucket_bad4 (r p c : Int) (w : World) (h0 : 1 ≤ r) (h1 : r ≤ 65536) (h2 : 1 ≤ p) (h3 : p ≤ 1024) (h4 : ¬ 1 ≤ c) :
    Calls Try.prog 17 #[.int .i64 r, .int .i64 p, .int .i64 c] w fun e w' => e = .returned (.tuple #[.pointer none, .int .i64 1]) ∧ w = w' := by
  go_enter Try.func17, Try.ntmps17
  go_wp2_with (go_at_call 26; refine Calls.mono (within_any _ _ _ _) ?_; rintro e w1 ⟨rfl, rfl⟩)
  · go_ret2
    exact ⟨rfl, rfl⟩
  · rename_i hx
    simp at hx
    omega
set_option maxHeartbeats 4000000 in
set_option maxRecDepth 100000 in
set_option linter.unusedSimpArgs false in
set_option linter.unusedVariables false in
theorem newBucket_bad5 (r p c : Int) (w : World) (h0 : 1 ≤ r) (h1 : r ≤ 65536) (h2 : 1 ≤ p) (h3 : p ≤ 1024) (h4 : 1 ≤ c) (h5 : ¬ c ≤ 65536) :
    Calls Try.prog 17 #[.int .i64 r, .int .i64 p, .int .i64 c] w fun e w' => e = .returned (.tuple #[.pointer none, .int .i64 1]) ∧ w = w' := by
  go_enter Try.func17, Try.ntmps17
  go_wp2_with (go_at_call 26; refine Calls.mono (within_any _ _ _ _) ?_; rintro e w1 ⟨rfl, rfl⟩)
  · go_ret2
    exact ⟨rfl, rfl⟩
  · rename_i hx
    simp at hx
    omega
set_option maxHeartbeats 4000000 in
set_option maxRecDepth 100000 in
set_option linter.unusedSimpArgs false in
set_option linter.unusedVariables false in
theorem newBucket_bad (r p c : Int) (w : World) (h : ¬ (1 ≤ r ∧ r ≤ 65536 ∧ 1 ≤ p ∧ p ≤ 1024 ∧ 1 ≤ c ∧ c ≤ 65536)) :
    Calls Try.prog 17 #[.int .i64 r, .int .i64 p, .int .i64 c] w fun e w' => e = .returned (.tuple #[.pointer none, .int .i64 1]) ∧ w = w' := by
  by_cases h0 : 1 ≤ r
  case neg => exact newBucket_bad0 r p c w h0
  by_cases h1 : r ≤ 65536
  case neg => exact newBucket_bad1 r p c w h0 h1
  by_cases h2 : 1 ≤ p
  case neg => exact newBucket_bad2 r p c w h0 h1 h2
  by_cases h3 : p ≤ 1024
  case neg => exact newBucket_bad3 r p c w h0 h1 h2 h3
  by_cases h4 : 1 ≤ c
  case neg => exact newBucket_bad4 r p c w h0 h1 h2 h3 h4
  exact newBucket_bad5 r p c w h0 h1 h2 h3 h4 (fun h5 => h ⟨h0, h1, h2, h3, h4, h5⟩)
end Go.Proofs.Ytkfiaahgcljljaa
