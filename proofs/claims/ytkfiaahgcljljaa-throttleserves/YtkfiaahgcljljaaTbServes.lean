import Derived.Test.YtkfiaahgcljljaaTbWaits
namespace Go.Proofs.Ytkfiaahgcljljaa
open Go.RowKit
set_option maxHeartbeats 8000000 in
set_option maxRecDepth 100000 in
set_option linter.unusedSimpArgs false in
set_option linter.unusedVariables false in
theorem beyond_any (n : Int) (w : World) : Calls Try.prog 23 #[.int .i64 n] w fun v w' => v = .returned (.bool (decide (2147483647 < n))) ∧ w = w' := by
  go_enter Try.func23, Try.ntmps23
  go_wp2_with fail
  go_ret
  exact ⟨rfl, rfl⟩
set_option maxHeartbeats 8000000 in
set_option maxRecDepth 100000 in
set_option linter.unusedSimpArgs false in
set_option linter.unusedVariables false in
theorem serves_any (ao : Option Addr) (b o cap : Nat) (ds : List Int) (r p c : Int) (w : World) (hN : Nums w ao b o ds) :
    Calls Try.prog 6 #[.agg #[.int .i64 r, .int .i64 p, .int .i64 c], .slice ao ds.length cap] w fun v w' => v = .returned (.bool true) ∧ Below w.heap.size w w' := by
  by_cases hbig : (2147483647 : Int) < (ds.length : Int)
  case pos =>
    have BE := hide (beyond_any (ds.length : Int) (w.alloc (.cells #[.int .i64 r, .int .i64 p, .int .i64 c] 23)))
    go_enter Try.func6, Try.ntmps6
    go_wp2_with (go_at_call 23; refine Calls.mono BE.out ?_; rintro e wn ⟨rfl, rfl⟩)
    go_ret
    exact ⟨rfl, (Below.refl _ w).alloc (Nat.le_refl _) _⟩
  obtain ⟨WA, hWA⟩ : ∃ WA, WA = (w.alloc (.cells #[.int .i64 r, .int .i64 p, .int .i64 c] 23)) := ⟨_, rfl⟩
  have SA : Hid (ShAt WA w.heap.size r p c ∧ Below w.heap.size w WA) := by subst hWA; exact ⟨heap_last _ _, (Below.refl _ w).alloc (Nat.le_refl _) _⟩
  by_cases hok : okS r p c
  case neg =>
    go_enter Try.func6, Try.ntmps6
    go_wp2_with (go_at_call 23; refine Calls.mono (beyond_any _ _) ?_; rintro e wn ⟨rfl, rfl⟩)
    rw [← hWA]
    clear hWA
    refine Calls.mono (good_no r p c WA hok) ?_
    rintro e w1 ⟨rfl, g1⟩
    have s1 := SA.out.1.below g1
    have G1 := hide (SA.out.2.trans (g1.mono SA.out.2.size))
    have d0 := s1.c0
    have d1 := s1.c1
    have d2 := s1.c2
    clear g1 s1
    go_wp2_with fail
    refine Calls.mono (refused_any r p c w1 hok) ?_
    rintro e w2 ⟨rfl, g2⟩
    have G2 := hide (G1.out.trans (g2.mono G1.out.size))
    clear g2 d0 d1 d2
    go_wp2_with fail
    go_ret
    exact ⟨rfl, G2.out⟩
  case pos =>
    go_enter Try.func6, Try.ntmps6
    go_wp2_with (go_at_call 23; refine Calls.mono (beyond_any _ _) ?_; rintro e wn ⟨rfl, rfl⟩)
    rw [← hWA]
    clear hWA
    refine Calls.mono (good_yes r p c WA hok) ?_
    rintro e w1 ⟨rfl, g1⟩
    have s1 := SA.out.1.below g1
    have G1 := hide (SA.out.2.trans (g1.mono SA.out.2.size))
    have SB := hide s1
    have d0 := s1.c0
    have d1 := s1.c1
    have d2 := s1.c2
    clear g1 s1
    go_wp2_with fail
    refine Calls.mono (newBucket_any r p c w1 hok.fits) ?_
    rintro e w2 ⟨rfl, b1, g2⟩
    have T0 : Hid (One w w2 w.heap.size w1.heap.size r p c (c * p)) := ⟨SB.out.below g2, b1, G1.out.size, G1.out.trans (g2.mono G1.out.size)⟩
    have hF := hide hok.fits
    generalize w1.heap.size = R at *
    clear b1 g2 d0 d1 d2 SB G1 SA
    have HN := hide hN
    clear hN
    have hmx : ds.length ≤ 2147483647 := by omega
    go_wp2_with (go_at_call 11; refine Calls.mono (num10_any _ _) ?_; rintro e wn ⟨rfl, rfl⟩)
    go_loopw [7, 8, 9, 10, 11, 12, 13, 14] (fun vt vb vi _ _ _ _ _ wr => ∃ (q : Nat) (k T B : Int), q ≤ ds.length ∧ vi = .int .i64 (q : Int) ∧ vt = .int .i64 T ∧ vb = .int .i64 B ∧ 0 ≤ T ∧ T ≤ B ∧ B ≤ 134217728 * (q : Int) ∧ Fits r p c k ∧ One w wr w.heap.size R r p c k) (fun _ _ vi _ _ _ _ _ _ => ds.length - (intOf vi).toNat)
    case atStart => exact ⟨0, c * p, 0, 0, Nat.zero_le _, rfl, rfl, rfl, by omega, by omega, by omega, hF.out, T0.out⟩
    case round =>
      clear T0 hF
      obtain ⟨q, k, T, B, hq, rfl, rfl, rfl, ht0, ht1, ht2, hf, hT⟩ := hrel
      have T0 := hide hT
      have HF := hide hf
      clear hT hf
      by_cases hql : q < ds.length
      case pos =>
        have hao := HN.out.at0 (by omega)
        subst hao
        have hqi : (q : Int) < (ds.length : Int) := by omega
        have cd := HN.out.get T0.out.bel hql
        have d2 := T0.out.s.c2
        generalize hn : ds[q] = n at *
        by_cases h0 : n < 0
        case pos =>
          go_wp2_with fail
          go_roundw
          case rel => exact ⟨q + 1, k, T, B, by omega, by go_num, rfl, rfl, by omega, by omega, by omega, HF.out, T0.out⟩
          case measure => simp [intOf]; omega
        by_cases h1 : c < n
        case pos =>
          go_wp2_with fail
          go_roundw
          case rel => exact ⟨q + 1, k, T, B, by omega, by go_num, rfl, rfl, by omega, by omega, by omega, HF.out, T0.out⟩
          case measure => simp [intOf]; omega
        obtain ⟨v, hv, v0, v1, v2, v3, v4⟩ := wait_facts HF.out (by omega : 0 ≤ n) (by omega)
        have C0 := wait_any wr R r p c k n T0.out.a HF.out
        rw [hv, show askE c n = 0 by unfold askE; rw [if_neg (by omega), if_neg (by omega)]] at C0
        have C0 := hide C0
        have V3 := hide v3
        have F1 := hide (HF.out.tick (n := v) v0)
        clear hv v3 v4
        have r1 := HF.out.r1
        have r2 := HF.out.r2
        have np := mul_in (A := 65536) (B := 1024) (show 0 ≤ n by omega) (by have := HF.out.c2; omega) (show 0 ≤ p by have := HF.out.p1; omega) HF.out.p2
        have x1 : IntKind.i64.wrap (n * p) = n * p := i64_in (by omega) (by omega)
        have x2 : IntKind.i64.wrap (n * p + r) = n * p + r := i64_in (by omega) (by omega)
        have x3 : IntKind.i64.wrap (n * p + r - 1) = n * p + r - 1 := i64_in (by omega) (by omega)
        have q1 := Int.ediv_nonneg (show 0 ≤ n * p + r - 1 by omega) (show 0 ≤ r by omega)
        have q2 := Int.ediv_le_self r (show 0 ≤ n * p + r - 1 by omega)
        have ed : Int.tdiv (n * p + r - 1) r = (n * p + r - 1) / r := Int.tdiv_eq_ediv_of_nonneg (by omega)
        have r0 : (r == 0) = false := by simp; omega
        have r3 : ¬ r = 0 := by omega
        have r4 : ¬ r = -1 := by omega
        obtain ⟨D, hD⟩ : ∃ D, (n * p + r - 1) / r = D := ⟨_, rfl⟩
        rw [hD] at v2 q1 q2 ed
        have dl : D ≤ 134217728 := by omega
        have y5 : IntKind.i64.wrap D = D := i64_in (by omega) (by omega)
        have y7 : ¬ v < 0 := by omega
        have y8 : IntKind.i64.wrap (T + v) = T + v := i64_in (by omega) (by omega)
        have y9 : IntKind.i64.wrap (B + D) = B + D := i64_in (by omega) (by omega)
        have y10 : ¬ B + D < T + v := by omega
        go_wp2_with fail
        refine Calls.mono C0.out ?_
        rintro e u1 ⟨rfl, bb, gg⟩
        have T1 := hide (T0.out.go bb gg)
        have C1 := hide (tick_any u1 R r p c k v T1.out.a HF.out v0 (by omega))
        clear bb gg C0 T0 cd d2
        go_wp2_with (go_at_call 11; refine Calls.mono (num10_any _ _) ?_; rintro e wn ⟨rfl, rfl⟩)
        refine Calls.mono C1.out ?_
        rintro e u2 ⟨rfl, bb, gg⟩
        have T2 := hide (T1.out.go bb gg)
        clear bb gg C1 T1
        have C2 := take_any u2 R r p c _ n T2.out.a F1.out
        rw [V3.out, show askE c n = 0 by unfold askE; rw [if_neg (by omega), if_neg (by omega)]] at C2
        have C2 := hide C2
        go_wp2_with (go_at_call 11; refine Calls.mono (num10_any _ _) ?_; rintro e wn ⟨rfl, rfl⟩)
        refine Calls.mono C2.out ?_
        rintro e u3 ⟨rfl, bb, gg⟩
        have T3 := hide (T2.out.go bb gg)
        have F3 := hide (F1.out.take n)
        clear bb gg C2 T2
        have d0 := T3.out.s.c0
        have d1 := T3.out.s.c1
        go_wp2_with (go_at_call 11; refine Calls.mono (num10_any _ _) ?_; rintro e wn ⟨rfl, rfl⟩)
        go_roundw
        case rel => exact ⟨q + 1, _, T + v, B + D, by omega, by go_num, rfl, rfl, by omega, by omega, by omega, F3.out, T3.out⟩
        case measure => simp [intOf]; omega
      case neg =>
        obtain rfl : q = ds.length := by omega
        have k1 := HF.out.k1
        have C2 := take_any wr R r p c k 0 T0.out.a HF.out
        rw [show askE c 0 = 0 by unfold askE; rw [if_neg (by omega), if_neg (by have := HF.out.c1; omega)], show tookP p c k 0 = true by unfold tookP; rw [decide_eq_true_iff, Int.zero_mul]; have := HF.out.c1; omega] at C2
        have C2 := hide C2
        go_wp2_with fail
        refine Calls.mono C2.out ?_
        rintro e u3 ⟨rfl, bb, gg⟩
        have T3 := hide (T0.out.go bb gg)
        clear bb gg C2
        go_wp2_with (go_at_call 11; refine Calls.mono (num10_any _ _) ?_; rintro e wn ⟨rfl, rfl⟩)
        go_ret
        exact ⟨rfl, T3.out.bel⟩
end Go.Proofs.Ytkfiaahgcljljaa
