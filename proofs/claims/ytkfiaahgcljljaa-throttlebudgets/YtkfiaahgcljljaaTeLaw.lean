import Derived.Test.YtkfiaahgcljljaaTeMade
namespace Go.Proofs.Ytkfiaahgcljljaa
open Go.RowKit
set_option maxHeartbeats 8000000 in
set_option maxRecDepth 100000 in
set_option linter.unusedSimpArgs false in
set_option linter.unusedVariables false in
theorem budgets_any (ao : Option Addr) (b o cap : Nat) (ys : List TO) (a0 a1 a2 b0 b1 b2 : Int) (w : World) (hN : OpsAt w ao b o ys) (hwf : ∀ (q : Nat) (h : q < ys.length), (Lit.int .i64 ys[q].nd).wf = true ∧ (Lit.int .i64 ys[q].fl).wf = true) (hlen : ys.length ≤ 7000000000000) :
    Calls Try.prog 8 #[.agg #[.int .i64 a0, .int .i64 a1, .int .i64 a2], .agg #[.int .i64 b0, .int .i64 b1, .int .i64 b2], .slice ao ys.length cap] w fun v w' => v = .returned (.bool true) ∧ Below w.heap.size w w' := by
  obtain ⟨WA, hWA⟩ : ∃ WA, WA = ((w.alloc (.cells #[.int .i64 a0, .int .i64 a1, .int .i64 a2] 23)).alloc (.cells #[.int .i64 b0, .int .i64 b1, .int .i64 b2] 23)).alloc (.cells #[.pointer none, .pointer none, .pointer none, .pointer none] 62) := ⟨_, rfl⟩
  have MA : Hid (Calls Try.prog 24 #[.pointer (some ⟨w.heap.size + 1 + 1, 0, none⟩), .agg #[.int .i64 a0, .int .i64 a1, .int .i64 a2], .agg #[.int .i64 b0, .int .i64 b1, .int .i64 b2]] WA fun v X' => v = .returned (.bool true) ∧ ∃ B0 B1 Q0 Q1 s0 s1, PpAt w.heap.size 0 w X' (w.heap.size + 1 + 1) B0 B1 Q0 Q1 s0 s1) := by
    refine bmade_any w.heap.size w WA (w.heap.size + 1 + 1) a0 a1 a2 b0 b1 b2 ?_ (by omega) ?_ (Nat.le_refl _)
    · subst hWA
      have := heap_last ((w.alloc (.cells #[.int .i64 a0, .int .i64 a1, .int .i64 a2] 23)).alloc (.cells #[.int .i64 b0, .int .i64 b1, .int .i64 b2] 23)) (.cells #[.pointer none, .pointer none, .pointer none, .pointer none] 62)
      simp only [World.size_alloc] at this
      exact this
    · subst hWA
      exact (((Below.refl _ _).alloc (Nat.le_refl _) _).alloc (by simp only [World.size_alloc]; omega) _).alloc (by simp only [World.size_alloc]; omega) _
  have HN := hide hN
  have HW := hide hwf
  clear hN hwf
  have hmx : ys.length ≤ 9223372036854775807 := by omega
  go_enter Try.func8, Try.ntmps8
  go_wp2_with fail
  rw [← hWA]
  clear hWA
  generalize w.heap.size + 1 + 1 = G at *
  refine Calls.mono MA.out ?_
  rintro e w1 ⟨rfl, B0, B1, Q0, Q1, s0, s1, hp⟩
  have P0 := hide hp
  clear hp MA
  go_wp2_with fail
  go_loopw [9] (fun vi wr => ∃ (q : Nat) (s0 s1 : Option SP), q ≤ ys.length ∧ vi = .int .i64 (q : Int) ∧ PpAt w.heap.size q w wr G B0 B1 Q0 Q1 s0 s1) (fun vi _ => ys.length - (intOf vi).toNat)
  case atStart => exact ⟨0, _, _, Nat.zero_le _, rfl, P0.out⟩
  case round =>
    clear P0
    obtain ⟨q, s0, s1, hq, rfl, hp⟩ := hrel
    have P0 := hide hp
    clear hp
    by_cases hql : q < ys.length
    case pos =>
      have hao := HN.out.at0 (by omega)
      subst hao
      have hqi : (q : Int) < (ys.length : Int) := by omega
      have bl := HN.out.lt (by omega)
      have e0 := (P0.out.bel.cell bl).trans (HN.out.c0 q hql)
      have e1 := (P0.out.bel.cell bl).trans (HN.out.c1 q hql)
      have e2 := (P0.out.bel.cell bl).trans (HN.out.c2 q hql)
      have e3 := (P0.out.bel.cell bl).trans (HN.out.c3 q hql)
      have e4 := (P0.out.bel.cell bl).trans (HN.out.c4 q hql)
      have PY := hide (bplays_any w.heap.size q w wr G B0 B1 Q0 Q1 s0 s1 ys[q] (HW.out q hql).1 (HW.out q hql).2 (by omega) P0.out)
      generalize ys[q] = y at *
      obtain ⟨yk, yp, n, yd, yf⟩ := y
      dsimp only at e0 e1 e2 e3 e4 PY
      go_wp2_with fail
      refine Calls.mono PY.out ?_
      rintro e w2 ⟨rfl, s0', s1', hp⟩
      have P1 := hide hp
      clear hp PY e0 e1 e2 e3 e4 P0
      go_wp2_with fail
      go_roundw
      case rel => exact ⟨q + 1, _, _, by omega, by go_num, P1.out⟩
      case measure => simp [intOf]; omega
    case neg =>
      obtain rfl : q = ys.length := by omega
      have C1 := hide (bplays_any w.heap.size ys.length w wr G B0 B1 Q0 Q1 s0 s1 ⟨6, 0, 0, 0, 0⟩ rfl rfl (by omega) P0.out)
      go_wp2_with fail
      refine Calls.mono C1.out ?_
      rintro e w2 ⟨rfl, s0', s1', hp⟩
      have P1 := hide hp
      clear hp C1
      go_wp2_with fail
      go_ret
      exact ⟨rfl, P1.out.bel⟩
end Go.Proofs.Ytkfiaahgcljljaa
