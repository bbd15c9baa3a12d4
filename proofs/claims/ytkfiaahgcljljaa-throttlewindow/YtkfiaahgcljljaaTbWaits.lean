import Derived.Test.YtkfiaahgcljljaaTbSplit
namespace Go.Proofs.Ytkfiaahgcljljaa
open Go.RowKit
/-- what a wait is: just long enough -/
theorem wait_facts {r p c k n : Int} (hf : Fits r p c k) (hn : 0 ≤ n) (hc : n ≤ c) : ∃ v : Int, waitP r p c k n = v ∧ 0 ≤ v ∧ v ≤ 134217728 ∧ v ≤ (n * p + r - 1) / r ∧ tookP p c (tickP r p c k v) n = true ∧ (0 < v → tookP p c (tickP r p c k (v - 1)) n = false) := by
  have e : waitP r p c k n = (max (n * p - k) 0 + r - 1) / r := by unfold waitP; rw [if_pos ⟨hn, hc⟩]
  obtain ⟨h1, h2, h3, h4, h5, h6, h7, h8⟩ := hf
  have m1 : 0 ≤ n * p := Int.mul_nonneg hn (by omega)
  have m2 : n * p ≤ c * p := Int.mul_le_mul_of_nonneg_right hc (by omega)
  have m3 := (mul_in (A := 65536) (B := 1024) (by omega : 0 ≤ c) h6 (by omega : 0 ≤ p) h4).2
  obtain ⟨L, hL⟩ : ∃ L, max (n * p - k) 0 = L := ⟨_, rfl⟩
  rw [hL] at e
  have l1 : 0 ≤ L := by omega
  have l2 : L ≤ n * p := by omega
  obtain ⟨v, hv⟩ : ∃ v, (L + r - 1) / r = v := ⟨_, rfl⟩
  have q0 : 0 ≤ v := by rw [← hv]; exact Int.ediv_nonneg (by omega) (by omega)
  have q1 : v ≤ L + r - 1 := by rw [← hv]; exact Int.ediv_le_self _ (by omega)
  have q2 : v ≤ (n * p + r - 1) / r := by rw [← hv]; exact Int.ediv_le_ediv (by omega) (by omega)
  have d1 := Int.mul_ediv_add_emod (L + r - 1) r
  have d2 := Int.emod_nonneg (L + r - 1) (show r ≠ 0 by omega)
  have d3 := Int.emod_lt_of_pos (L + r - 1) (show 0 < r by omega)
  rw [hv, Int.mul_comm] at d1
  refine ⟨v, by rw [e, hv], q0, by omega, q2, ?_, fun hp => ?_⟩
  · unfold tookP tickP
    rw [decide_eq_true_iff]
    omega
  · unfold tookP tickP
    rw [decide_eq_false_iff_not, Int.sub_mul, Int.one_mul]
    have hvr := Int.mul_le_mul_of_nonneg_right (show 1 ≤ v by omega) (show 0 ≤ r by omega)
    rw [Int.one_mul] at hvr
    omega
set_option maxHeartbeats 8000000 in
set_option maxRecDepth 100000 in
set_option linter.unusedSimpArgs false in
set_option linter.unusedVariables false in
theorem waits_any (ao : Option Addr) (b o cap : Nat) (ds : List Int) (r p c n : Int) (w : World) (hN : Nums w ao b o ds) :
    Calls Try.prog 5 #[.agg #[.int .i64 r, .int .i64 p, .int .i64 c], .slice ao ds.length cap, .int .i64 n] w fun v w' => v = .returned (.bool true) ∧ Below w.heap.size w w' := by
  obtain ⟨WA, hWA⟩ : ∃ WA, WA = (w.alloc (.cells #[.int .i64 r, .int .i64 p, .int .i64 c] 23)) := ⟨_, rfl⟩
  have SA : Hid (ShAt WA w.heap.size r p c ∧ Below w.heap.size w WA) := by subst hWA; exact ⟨heap_last _ _, (Below.refl _ w).alloc (Nat.le_refl _) _⟩
  by_cases hok : okS r p c
  case neg =>
    go_enter Try.func5, Try.ntmps5
    go_wp2_with fail
    rw [← hWA]
    clear hWA
    refine Calls.mono (good_no r p c WA hok) ?_
    rintro e w1 ⟨rfl, g1⟩
    have s1 := SA.out.1.below g1
    have G1 := hide (SA.out.2.trans (g1.mono SA.out.2.size))
    have d0 := s1.c0
    have d1 := s1.c1
    have d2 := s1.c2
    clear g1 s1
    go_wp2_with fail
    refine Calls.mono (refused_any r p c w1 hok) ?_
    rintro e w2 ⟨rfl, g2⟩
    have G2 := hide (G1.out.trans (g2.mono G1.out.size))
    clear g2 d0 d1 d2
    go_wp2_with fail
    go_ret
    exact ⟨rfl, G2.out⟩
  case pos =>
    go_enter Try.func5, Try.ntmps5
    go_wp2_with fail
    rw [← hWA]
    clear hWA
    refine Calls.mono (good_yes r p c WA hok) ?_
    rintro e w1 ⟨rfl, g1⟩
    have s1 := SA.out.1.below g1
    have G1 := hide (SA.out.2.trans (g1.mono SA.out.2.size))
    have SB := hide s1
    have d0 := s1.c0
    have d1 := s1.c1
    have d2 := s1.c2
    clear g1 s1
    go_wp2_with fail
    refine Calls.mono (twin_any r p c w1 hok) ?_
    rintro e w2 ⟨R, Q, rfl, b1, b2, hne, hR, hQ, g2⟩
    have T0 : Hid (Two w w2 w.heap.size R Q r p c (c * p) (c * p)) := ⟨SB.out.below g2, b1, b2, hne, by have := G1.out.size; omega, by have := G1.out.size; omega, G1.out.trans (g2.mono G1.out.size)⟩
    have hF := hide hok.fits
    clear b1 b2 hne hR hQ g2 d0 d1 d2 SB G1 SA
    have hlen := hN.len
    have HN := hide hN
    clear hN
    have hmx : ds.length ≤ 9223372036854775807 := by unfold maxLen at hlen; omega
    go_wp2_with fail
    go_loopw [10] (fun vi wr => ∃ (q : Nat) (k : Int), q ≤ ds.length ∧ vi = .int .i64 (q : Int) ∧ Fits r p c k ∧ Two w wr w.heap.size R Q r p c k k) (fun vi _ => ds.length - (intOf vi).toNat)
    case atStart => exact ⟨0, c * p, Nat.zero_le _, rfl, hF.out, T0.out⟩
    case round =>
      clear T0 hF
      obtain ⟨q, k, hq, rfl, hf, hT⟩ := hrel
      by_cases hql : q < ds.length
      case pos =>
        have hao := HN.out.at0 (by omega)
        subst hao
        have hqi : (q : Int) < (ds.length : Int) := by omega
        have T0 := hide hT
        have HF := hide hf
        have m0 : Int.tmod (q : Int) 3 = ((q % 3 : Nat) : Int) := by rw [Int.tmod_eq_emod_of_nonneg (by omega)]; omega
        have m1 : (((q % 3 : Nat) : Int)) ≤ 2 := by omega
        have HF2 := hide (hf.take ds[q])
        clear hT hf
        have cd := HN.out.get T0.out.bel hql
        have C1 := hide (take_any wr R r p c k ds[q] T0.out.a HF.out)
        go_wp2_with fail
        refine Calls.mono C1.out ?_
        rintro e u1 ⟨rfl, bb, gg⟩
        have T1 := hide (T0.out.left bb gg)
        clear bb gg C1 T0 
        replace cd := HN.out.get T1.out.bel hql
        have C2 := hide (take_any u1 Q r p c k ds[q] T1.out.b HF.out)
        go_wp2_with fail
        refine Calls.mono C2.out ?_
        rintro e u2 ⟨rfl, bb, gg⟩
        have T2 := hide (T1.out.right bb gg)
        clear bb gg C2 T1 
        clear cd
        generalize takeP p c k ds[q] = k2 at *
        clear HF
        have HF3 := hide (HF2.out.tick (n := ((q % 3 : Nat) : Int)) (by omega))
        have C3 := hide (tick_any u2 R r p c k2 ((q % 3 : Nat) : Int) T2.out.a HF2.out (by omega) (by omega))
        go_wp2_with fail
        refine Calls.mono C3.out ?_
        rintro e u3 ⟨rfl, bb, gg⟩
        have T3 := hide (T2.out.left bb gg)
        clear bb gg C3 T2 
        have C4 := hide (tick_any u3 Q r p c k2 ((q % 3 : Nat) : Int) T3.out.b HF2.out (by omega) (by omega))
        go_wp2_with fail
        refine Calls.mono C4.out ?_
        rintro e u4 ⟨rfl, bb, gg⟩
        have T4 := hide (T3.out.right bb gg)
        clear bb gg C4 T3 
        go_wp2_with fail
        go_roundw
        case rel => exact ⟨q + 1, _, by omega, by go_num, HF3.out, T4.out⟩
        case measure => simp [intOf]; omega
      case neg =>
        obtain rfl : q = ds.length := by omega
        have T0 := hide hT
        have HF := hide hf
        clear hT hf
        have r1 := HF.out.r1
        by_cases h0 : n < 0
        case pos =>
          have C0 := hide (wait_neg wr R r p c k n T0.out.a r1 h0)
          go_wp2_with fail
          refine Calls.mono C0.out ?_
          rintro e wx ⟨rfl, rfl⟩
          clear C0
          go_wp2_with (go_at_call 11; refine Calls.mono (num10_any _ _) ?_; rintro e wn ⟨rfl, rfl⟩)
          go_ret
          exact ⟨rfl, T0.out.bel⟩
        by_cases h1 : c < n
        case pos =>
          have C0 := hide (wait_over wr R r p c k n T0.out.a r1 HF.out h1)
          have d2 := T0.out.s.c2
          go_wp2_with fail
          refine Calls.mono C0.out ?_
          rintro e wx ⟨rfl, rfl⟩
          clear C0
          go_wp2_with (go_at_call 11; refine Calls.mono (num10_any _ _) ?_; rintro e wn ⟨rfl, rfl⟩)
          go_ret
          exact ⟨rfl, T0.out.bel⟩
        obtain ⟨v, hv, v0, v1, v2, v3, v4⟩ := wait_facts HF.out (by omega : 0 ≤ n) (by omega)
        have C0 := wait_any wr R r p c k n T0.out.a HF.out
        rw [hv, show askE c n = 0 by unfold askE; rw [if_neg (by omega), if_neg (by omega)]] at C0
        have C0 := hide C0
        have V3 := hide v3
        have V4 := hide v4
        have F1 := hide (HF.out.tick (n := v) v0)
        clear hv v3 v4
        have r2 := HF.out.r2
        have np := mul_in (A := 65536) (B := 1024) (show 0 ≤ n by omega) (by have := HF.out.c2; omega) (show 0 ≤ p by have := HF.out.p1; omega) HF.out.p2
        have x1 : IntKind.i64.wrap (n * p) = n * p := i64_in (by omega) (by omega)
        have x2 : IntKind.i64.wrap (n * p + r) = n * p + r := i64_in (by omega) (by omega)
        have x3 : IntKind.i64.wrap (n * p + r - 1) = n * p + r - 1 := i64_in (by omega) (by omega)
        have q1 := Int.ediv_nonneg (show 0 ≤ n * p + r - 1 by omega) (show 0 ≤ r by omega)
        have q2 := Int.ediv_le_self r (show 0 ≤ n * p + r - 1 by omega)
        have ed : Int.tdiv (n * p + r - 1) r = (n * p + r - 1) / r := Int.tdiv_eq_ediv_of_nonneg (by omega)
        have r0 : (r == 0) = false := by simp; omega
        have r3 : ¬ r = 0 := by omega
        have r4 : ¬ r = -1 := by omega
        obtain ⟨D, hD⟩ : ∃ D, (n * p + r - 1) / r = D := ⟨_, rfl⟩
        rw [hD] at v2 q1 q2 ed
        have y5 : IntKind.i64.wrap D = D := i64_in (by omega) (by omega)
        have y6 : ¬ D < v := by omega
        have y7 : ¬ v < 0 := by omega
        go_wp2_with fail
        refine Calls.mono C0.out ?_
        rintro e wx ⟨rfl, bb, gg⟩
        have T1 := hide (T0.out.left bb gg)
        clear bb gg C0 T0
        have d0 := T1.out.s.c0
        have d1 := T1.out.s.c1
        have d2 := T1.out.s.c2
        by_cases hp : 0 < v
        case pos =>
          have hw : IntKind.i64.wrap (v - 1) = v - 1 := i64_in (by omega) (by omega)
          have C1 := hide (tick_any wx Q r p c k (v - 1) T1.out.b HF.out (by omega) (by omega))
          go_wp2_with (go_at_call 11; refine Calls.mono (num10_any _ _) ?_; rintro e wn ⟨rfl, rfl⟩)
          refine Calls.mono C1.out ?_
          rintro e z1 ⟨rfl, bb, gg⟩
          have T2 := hide (T1.out.right bb gg)
          clear bb gg C1 T1 d0 d1 d2
          have C2 := take_any z1 Q r p c _ n T2.out.b (HF.out.tick (n := v - 1) (by omega))
          rw [V4.out hp, show askE c n = 0 by unfold askE; rw [if_neg (by omega), if_neg (by omega)]] at C2
          have C2 := hide C2
          go_wp2_with fail
          refine Calls.mono C2.out ?_
          rintro e z2 ⟨rfl, bb, gg⟩
          have T3 := hide (T2.out.right bb gg)
          clear bb gg C2 T2
          have C3 := hide (tick_any z2 R r p c k v T3.out.a HF.out v0 (by omega))
          go_wp2_with (go_at_call 11; refine Calls.mono (num10_any _ _) ?_; rintro e wn ⟨rfl, rfl⟩)
          refine Calls.mono C3.out ?_
          rintro e z3 ⟨rfl, bb, gg⟩
          have T4 := hide (T3.out.left bb gg)
          clear bb gg C3 T3
          have C4 := take_any z3 R r p c _ n T4.out.a F1.out
          rw [V3.out, show askE c n = 0 by unfold askE; rw [if_neg (by omega), if_neg (by omega)]] at C4
          have C4 := hide C4
          go_wp2_with fail
          refine Calls.mono C4.out ?_
          rintro e z4 ⟨rfl, bb, gg⟩
          have T5 := hide (T4.out.left bb gg)
          clear bb gg C4 T4
          go_wp2_with (go_at_call 11; refine Calls.mono (num10_any _ _) ?_; rintro e wn ⟨rfl, rfl⟩)
          go_ret
          exact ⟨rfl, T5.out.bel⟩
        case neg =>
          have C3 := hide (tick_any wx R r p c k v T1.out.a HF.out v0 (by omega))
          go_wp2_with (go_at_call 11; refine Calls.mono (num10_any _ _) ?_; rintro e wn ⟨rfl, rfl⟩)
          refine Calls.mono C3.out ?_
          rintro e z3 ⟨rfl, bb, gg⟩
          have T4 := hide (T1.out.left bb gg)
          clear bb gg C3 T1
          have C4 := take_any z3 R r p c _ n T4.out.a F1.out
          rw [V3.out, show askE c n = 0 by unfold askE; rw [if_neg (by omega), if_neg (by omega)]] at C4
          have C4 := hide C4
          go_wp2_with fail
          refine Calls.mono C4.out ?_
          rintro e z4 ⟨rfl, bb, gg⟩
          have T5 := hide (T4.out.left bb gg)
          clear bb gg C4 T4
          go_wp2_with (go_at_call 11; refine Calls.mono (num10_any _ _) ?_; rintro e wn ⟨rfl, rfl⟩)
          go_ret
          exact ⟨rfl, T5.out.bel⟩
end Go.Proofs.Ytkfiaahgcljljaa
