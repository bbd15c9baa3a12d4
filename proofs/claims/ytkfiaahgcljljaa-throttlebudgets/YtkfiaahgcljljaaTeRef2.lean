import Derived.Test.YtkfiaahgcljljaaTeRef
namespace Go.Proofs.Ytkfiaahgcljljaa
open Go.RowKit
theorem wtN_top {s m : Int} (hm : 0 ≤ m) {j : Nat} (h : wtN s m j = m) (k : Nat) : wtN s m (j + k) = m := by
  induction k with
  | zero => exact h
  | succ k ih =>
    show min (2 * wtN s m (j + k)) m = m
    rw [ih]
    omega
set_option maxHeartbeats 8000000 in
set_option maxRecDepth 100000 in
set_option linter.unusedSimpArgs false in
set_option linter.unusedVariables false in
theorem pause_any (X : World) (base Q : Nat) (t s m : Int) (v : Value) (L : List (Int × Int)) (f : Nat) (h : RbAt X base Q t s m v L) (hf : BFits t s m) (hf1 : 1 ≤ f) (hf2 : f ≤ 64) :
    Calls Try.prog 41 #[.pointer (some ⟨Q, 0, none⟩), .int .i64 (f : Int)] X fun e X' => e = .returned (.int .i64 (wtN s m (f - 1))) ∧ X' = X := by
  have c1 := h.c1
  have c2 := h.c2
  have s1 := hf.s1
  have s2 := hf.s2
  have m2 := hf.m2
  go_enter Try.func41, Try.ntmps41
  go_wp2_with fail
  go_loopw [5, 6] (fun vp vi wr => ∃ (q : Nat) (p : Int), q ≤ f - 1 ∧ vi = .int .i64 ((q : Int) + 1) ∧ vp = .int .i64 p ∧ min p m = wtN s m q ∧ 1 ≤ p ∧ p ≤ 2048 ∧ wr = X) (fun _ vi _ => f + 1 - (intOf vi).toNat)
  case atStart => exact ⟨0, s, by omega, rfl, rfl, by simp only [wtN]; omega, by omega, by omega, rfl⟩
  case round =>
    obtain ⟨q, p, hq, rfl, rfl, hp, p1, p2, rfl⟩ := hrel
    have x2 : IntKind.i64.wrap (2 * p) = 2 * p := i64_in (by omega) (by omega)
    by_cases hqf : q < f - 1
    case pos =>
      have hqi : (q : Int) + 1 < (f : Int) := by omega
      by_cases hpm : p < m
      case pos =>
        go_wp2_with fail
        go_roundw
        case rel => exact ⟨q + 1, 2 * p, by omega, by go_num, rfl, by simp only [wtN]; omega, by omega, by omega, by first | rfl | trivial⟩
        case measure => simp [intOf]; omega
      case neg =>
        have hw : wtN s m (f - 1) = m := by
          have := wtN_top (s := s) (m := m) (by omega) (j := q) (by omega) (f - 1 - q)
          rw [show q + (f - 1 - q) = f - 1 by omega] at this
          exact this
        by_cases hpm2 : m < p
        · go_wp2_with fail
          go_ret
          exact ⟨by first | rfl | (rw [hw]; rfl), rfl⟩
        · have hpe : p = m := by omega
          go_wp2_with fail
          go_ret
          exact ⟨by first | rfl | (rw [hw, ← hpe]; rfl), rfl⟩
    case neg =>
      obtain rfl : q = f - 1 := by omega
      have hqi : ¬ ((f - 1 : Nat) : Int) + 1 < (f : Int) := by omega
      by_cases hpm2 : m < p
      · go_wp2_with fail
        go_ret
        exact ⟨by rw [show wtN s m (f - 1) = m by omega]; rfl, rfl⟩
      · go_wp2_with fail
        go_ret
        exact ⟨by rw [show wtN s m (f - 1) = p by omega]; rfl, rfl⟩
set_option maxHeartbeats 8000000 in
set_option maxRecDepth 100000 in
set_option linter.unusedSimpArgs false in
set_option linter.unusedVariables false in
theorem rbleft_nil (X : World) (a b : Int) : Calls Try.prog 36 #[.pointer none, .agg #[.int .i64 a, .int .i64 b]] X fun e X' => e = .returned (.int .i64 0) ∧ Below X.heap.size X X' := by
  go_enter Try.func36, Try.ntmps36
  go_wp2_with fail
  go_ret
  exact ⟨rfl, (Below.refl _ _).alloc (Nat.le_refl _) _⟩
set_option maxHeartbeats 8000000 in
set_option maxRecDepth 100000 in
set_option linter.unusedSimpArgs false in
set_option linter.unusedVariables false in
theorem rbnew_any (t s m : Int) (w : World) (hf : BFits t s m) :
    Calls Try.prog 33 #[.int .i64 t, .int .i64 s, .int .i64 m] w fun e w' => e = .returned (.tuple #[.pointer (some ⟨w.heap.size, 0, none⟩), .int .i64 0]) ∧ RbAt w' w.heap.size w.heap.size t s m (.slice none 0 0) [] ∧ Below w.heap.size w w' := by
  have h1 := hf.t1
  have h2 := hf.t2
  have h3 := hf.s1
  have h4 := hf.s2
  have h5 := hf.m2
  have h6 : ¬ 1024 < s := by omega
  go_enter Try.func33, Try.ntmps33
  go_wp2_with fail
  go_ret2
  exact ⟨rfl, ⟨heap_last w _, World.ownsRow_nil _ _ _ _⟩, (Below.refl _ w).alloc (Nat.le_refl _) _⟩
set_option maxHeartbeats 8000000 in
set_option maxRecDepth 100000 in
set_option linter.unusedSimpArgs false in
set_option linter.unusedVariables false in
theorem rbnew_bad0 (t s m : Int) (w : World)  (h0 : t < 1) :
    Calls Try.prog 33 #[.int .i64 t, .int .i64 s, .int .i64 m] w fun e w' => e = .returned (.tuple #[.pointer none, .int .i64 1]) ∧ w = w' := by
  go_enter Try.func33, Try.ntmps33
  go_wp2_with fail
  go_ret2
  exact ⟨rfl, rfl⟩
set_option maxHeartbeats 8000000 in
set_option maxRecDepth 100000 in
set_option linter.unusedSimpArgs false in
set_option linter.unusedVariables false in
theorem rbnew_bad1 (t s m : Int) (w : World) (h0 : ¬ t < 1) (h1 : 64 < t) :
    Calls Try.prog 33 #[.int .i64 t, .int .i64 s, .int .i64 m] w fun e w' => e = .returned (.tuple #[.pointer none, .int .i64 1]) ∧ w = w' := by
  go_enter Try.func33, Try.ntmps33
  go_wp2_with fail
  go_ret2
  exact ⟨rfl, rfl⟩
set_option maxHeartbeats 8000000 in
set_option maxRecDepth 100000 in
set_option linter.unusedSimpArgs false in
set_option linter.unusedVariables false in
theorem rbnew_bad2 (t s m : Int) (w : World) (h0 : ¬ t < 1) (h1 : ¬ 64 < t) (h2 : s < 1) :
    Calls Try.prog 33 #[.int .i64 t, .int .i64 s, .int .i64 m] w fun e w' => e = .returned (.tuple #[.pointer none, .int .i64 1]) ∧ w = w' := by
  go_enter Try.func33, Try.ntmps33
  go_wp2_with fail
  go_ret2
  exact ⟨rfl, rfl⟩
set_option maxHeartbeats 8000000 in
set_option maxRecDepth 100000 in
set_option linter.unusedSimpArgs false in
set_option linter.unusedVariables false in
theorem rbnew_bad3 (t s m : Int) (w : World) (h0 : ¬ t < 1) (h1 : ¬ 64 < t) (h2 : ¬ s < 1) (h3 : 1024 < s) :
    Calls Try.prog 33 #[.int .i64 t, .int .i64 s, .int .i64 m] w fun e w' => e = .returned (.tuple #[.pointer none, .int .i64 1]) ∧ w = w' := by
  go_enter Try.func33, Try.ntmps33
  go_wp2_with fail
  go_ret2
  exact ⟨rfl, rfl⟩
set_option maxHeartbeats 8000000 in
set_option maxRecDepth 100000 in
set_option linter.unusedSimpArgs false in
set_option linter.unusedVariables false in
theorem rbnew_bad4 (t s m : Int) (w : World) (h0 : ¬ t < 1) (h1 : ¬ 64 < t) (h2 : ¬ s < 1) (h3 : ¬ 1024 < s) (h4 : m < s) :
    Calls Try.prog 33 #[.int .i64 t, .int .i64 s, .int .i64 m] w fun e w' => e = .returned (.tuple #[.pointer none, .int .i64 1]) ∧ w = w' := by
  go_enter Try.func33, Try.ntmps33
  go_wp2_with fail
  go_ret2
  exact ⟨rfl, rfl⟩
set_option maxHeartbeats 8000000 in
set_option maxRecDepth 100000 in
set_option linter.unusedSimpArgs false in
set_option linter.unusedVariables false in
theorem rbnew_bad5 (t s m : Int) (w : World) (h0 : ¬ t < 1) (h1 : ¬ 64 < t) (h2 : ¬ s < 1) (h3 : ¬ 1024 < s) (h4 : ¬ m < s) (h5 : 1024 < m) :
    Calls Try.prog 33 #[.int .i64 t, .int .i64 s, .int .i64 m] w fun e w' => e = .returned (.tuple #[.pointer none, .int .i64 1]) ∧ w = w' := by
  go_enter Try.func33, Try.ntmps33
  go_wp2_with fail
  go_ret2
  exact ⟨rfl, rfl⟩
theorem rbnew_bad (t s m : Int) (w : World) (h : ¬ (1 ≤ t ∧ t ≤ 64 ∧ 1 ≤ s ∧ s ≤ 1024 ∧ s ≤ m ∧ m ≤ 1024)) :
    Calls Try.prog 33 #[.int .i64 t, .int .i64 s, .int .i64 m] w fun e w' => e = .returned (.tuple #[.pointer none, .int .i64 1]) ∧ w = w' := by
  by_cases h0 : t < 1
  case pos => exact rbnew_bad0 t s m w h0
  by_cases h1 : 64 < t
  case pos => exact rbnew_bad1 t s m w h0 h1
  by_cases h2 : s < 1
  case pos => exact rbnew_bad2 t s m w h0 h1 h2
  by_cases h3 : 1024 < s
  case pos => exact rbnew_bad3 t s m w h0 h1 h2 h3
  by_cases h4 : m < s
  case pos => exact rbnew_bad4 t s m w h0 h1 h2 h3 h4
  exact rbnew_bad5 t s m w h0 h1 h2 h3 h4 (by omega)
end Go.Proofs.Ytkfiaahgcljljaa
