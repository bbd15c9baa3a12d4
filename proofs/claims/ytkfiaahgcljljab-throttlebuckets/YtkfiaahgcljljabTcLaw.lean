import Derived.Test.YtkfiaahgcljljabTcMade
namespace Go.Proofs.Ytkfiaahgcljljab
open Go.RowKit
set_option maxHeartbeats 8000000 in
set_option maxRecDepth 100000 in
set_option linter.unusedSimpArgs false in
set_option linter.unusedVariables false in
theorem buckets_any (ao : Option Addr) (b o cap : Nat) (ys : List TO) (a0 a1 a2 b0 b1 b2 : Int) (w : World) (hN : OpsAt w ao b o ys) :
    Calls Try.prog 3 #[.agg #[.int .i64 a0, .int .i64 a1, .int .i64 a2], .agg #[.int .i64 b0, .int .i64 b1, .int .i64 b2], .slice ao ys.length cap] w fun v w' => v = .returned (.bool true) ∧ Below w.heap.size w w' := by
  obtain ⟨WA, hWA⟩ : ∃ WA, WA = ((w.alloc (.cells #[.int .i64 a0, .int .i64 a1, .int .i64 a2] 23)).alloc (.cells #[.int .i64 b0, .int .i64 b1, .int .i64 b2] 23)).alloc (.cells #[.pointer none, .pointer none, .pointer none, .pointer none] 31) := ⟨_, rfl⟩
  have MA : Hid (Calls Try.prog 4 #[.pointer (some ⟨w.heap.size + 1 + 1, 0, none⟩), .agg #[.int .i64 a0, .int .i64 a1, .int .i64 a2], .agg #[.int .i64 b0, .int .i64 b1, .int .i64 b2]] WA fun v X' => v = .returned (.bool true) ∧ ∃ R0 R1 Q0 Q1 s0 s1, PlAt w.heap.size w X' (w.heap.size + 1 + 1) R0 R1 Q0 Q1 s0 s1) := by
    refine made_any w.heap.size w WA (w.heap.size + 1 + 1) a0 a1 a2 b0 b1 b2 ?_ (by omega) ?_ (Nat.le_refl _)
    · subst hWA
      have := heap_last ((w.alloc (.cells #[.int .i64 a0, .int .i64 a1, .int .i64 a2] 23)).alloc (.cells #[.int .i64 b0, .int .i64 b1, .int .i64 b2] 23)) (.cells #[.pointer none, .pointer none, .pointer none, .pointer none] 31)
      simp only [World.size_alloc] at this
      exact this
    · subst hWA
      exact (((Below.refl _ _).alloc (Nat.le_refl _) _).alloc (by simp only [World.size_alloc]; omega) _).alloc (by simp only [World.size_alloc]; omega) _
  have hlen := hN.len
  have HN := hide hN
  clear hN
  have hmx : ys.length ≤ 9223372036854775807 := by unfold maxLen at hlen; omega
  go_enter Try.func3, Try.ntmps3
  go_wp2_with fail
  rw [← hWA]
  clear hWA
  generalize w.heap.size + 1 + 1 = G at *
  refine Calls.mono MA.out ?_
  rintro e w1 ⟨rfl, R0, R1, Q0, Q1, s0, s1, hp⟩
  have P0 := hide hp
  clear hp MA
  go_wp2_with fail
  go_loopw [9] (fun vi wr => ∃ (q : Nat) (s0 s1 : Option SB), q ≤ ys.length ∧ vi = .int .i64 (q : Int) ∧ PlAt w.heap.size w wr G R0 R1 Q0 Q1 s0 s1) (fun vi _ => ys.length - (intOf vi).toNat)
  case atStart => exact ⟨0, _, _, Nat.zero_le _, rfl, P0.out⟩
  case round =>
    clear P0
    obtain ⟨q, s0, s1, hq, rfl, hp⟩ := hrel
    have P0 := hide hp
    clear hp
    by_cases hql : q < ys.length
    case pos =>
      have hao := HN.out.at0 (by omega)
      subst hao
      have hqi : (q : Int) < (ys.length : Int) := by omega
      have bl := HN.out.lt (by omega)
      have e0 := (P0.out.bel.cell bl).trans (HN.out.c0 q hql)
      have e1 := (P0.out.bel.cell bl).trans (HN.out.c1 q hql)
      have e2 := (P0.out.bel.cell bl).trans (HN.out.c2 q hql)
      have e3 := (P0.out.bel.cell bl).trans (HN.out.c3 q hql)
      have e4 := (P0.out.bel.cell bl).trans (HN.out.c4 q hql)
      have PY := hide (plays_any w.heap.size w wr G R0 R1 Q0 Q1 s0 s1 ys[q] P0.out)
      generalize ys[q] = y at *
      obtain ⟨yk, yp, n, yd, yf⟩ := y
      dsimp only at e0 e1 e2 e3 e4 PY
      go_wp2_with fail
      refine Calls.mono PY.out ?_
      rintro e w2 ⟨rfl, s0', s1', hp⟩
      have P1 := hide hp
      clear hp PY e0 e1 e2 e3 e4 P0
      go_wp2_with fail
      go_roundw
      case rel => exact ⟨q + 1, _, _, by omega, by go_num, P1.out⟩
      case measure => simp [intOf]; omega
    case neg =>
      obtain rfl : q = ys.length := by omega
      have C1 := hide (plays_any w.heap.size w wr G R0 R1 Q0 Q1 s0 s1 ⟨4, 0, 0, 0, 0⟩ P0.out)
      go_wp2_with fail
      refine Calls.mono C1.out ?_
      rintro e w2 ⟨rfl, s0', s1', hp⟩
      have C2 := hide (plays_any w.heap.size w w2 G R0 R1 Q0 Q1 s0' s1' ⟨3, 0, 1, 0, 0⟩ hp)
      clear hp C1
      go_wp2_with fail
      refine Calls.mono C2.out ?_
      rintro e w3 ⟨rfl, s0'', s1'', hp⟩
      have P1 := hide hp
      clear hp C2
      go_wp2_with fail
      go_ret
      exact ⟨rfl, P1.out.bel⟩
end Go.Proofs.Ytkfiaahgcljljab
