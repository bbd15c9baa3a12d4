import Derived.Test.YtkfiaahgcljljaaTbWaits
namespace Go.Proofs.Ytkfiaahgcljljaa
open Go.RowKit
/-- a step of a script -/
structure TO where
  kind : Int
  pl : Int
  n : Int
  nd : Int
  fl : Int
/-- a script that is handed in, as it lies there -/
structure OpsAt (w : World) (ao : Option Addr) (b o : Nat) (ys : List TO) : Prop where
  at0 : 0 < ys.length → ao = some ⟨b, o, none⟩
  lt : 0 < ys.length → b < w.heap.size
  c0 : ∀ (q : Nat) (h : q < ys.length), w.cell? ⟨b, o + q * 5, none⟩ = some (.int .i64 ys[q].kind)
  c1 : ∀ (q : Nat) (h : q < ys.length), w.cell? ⟨b, o + q * 5 + 1, none⟩ = some (.int .i64 ys[q].pl)
  c2 : ∀ (q : Nat) (h : q < ys.length), w.cell? ⟨b, o + q * 5 + 2, none⟩ = some (.int .i64 ys[q].n)
  c3 : ∀ (q : Nat) (h : q < ys.length), w.cell? ⟨b, o + q * 5 + 3, none⟩ = some (.int .i64 ys[q].nd)
  c4 : ∀ (q : Nat) (h : q < ys.length), w.cell? ⟨b, o + q * 5 + 4, none⟩ = some (.int .i64 ys[q].fl)
  len : ys.length ≤ maxLen
/-- an op in a block of its own -/
def OpAt (X : World) (O : Nat) (y : TO) : Prop := X.heap[O]? = some (.cells #[.int .i64 y.kind, .int .i64 y.pl, .int .i64 y.n, .int .i64 y.nd, .int .i64 y.fl] 43)
theorem OpAt.c0 {w : World} {O : Nat} {y : TO} (h : OpAt w O y) : w.cell? ⟨O, 0, none⟩ = some (.int .i64 y.kind) := by unfold World.cell?; rw [h]; rfl
theorem OpAt.c2 {w : World} {O : Nat} {y : TO} (h : OpAt w O y) : w.cell? ⟨O, 2, none⟩ = some (.int .i64 y.n) := by unfold World.cell?; rw [h]; rfl
theorem OpAt.other {w w' : World} {O R : Nat} {y : TO} {r' p' c' k' : Int} (h : OpAt w O y) (hR : BkAt w R r' p' c' k') (hg : w.grownBy w' (some R)) : OpAt w' O y := by
  refine (hg.block _ (blk_lt h) (fun e => ?_)).trans h
  obtain rfl : O = R := by cases e; rfl
  have := (show w.heap[O]? = _ from h).symm.trans hR
  simp at this
set_option maxHeartbeats 8000000 in
set_option maxRecDepth 100000 in
set_option linter.unusedSimpArgs false in
set_option linter.unusedVariables false in
theorem window_any (ao : Option Addr) (b o cap : Nat) (ys : List TO) (r p c : Int) (w : World) (hN : OpsAt w ao b o ys) :
    Calls Try.prog 4 #[.agg #[.int .i64 r, .int .i64 p, .int .i64 c], .slice ao ys.length cap] w fun v w' => v = .returned (.bool true) ∧ Below w.heap.size w w' := by
  obtain ⟨WA, hWA⟩ : ∃ WA, WA = (w.alloc (.cells #[.int .i64 r, .int .i64 p, .int .i64 c] 23)) := ⟨_, rfl⟩
  have SA : Hid (ShAt WA w.heap.size r p c ∧ Below w.heap.size w WA) := by subst hWA; exact ⟨heap_last _ _, (Below.refl _ w).alloc (Nat.le_refl _) _⟩
  by_cases hok : okS r p c
  case neg =>
    go_enter Try.func4, Try.ntmps4
    go_wp2_with fail
    rw [← hWA]
    clear hWA
    refine Calls.mono (good_no r p c WA hok) ?_
    rintro e w1 ⟨rfl, g1⟩
    have s1 := SA.out.1.below g1
    have G1 := hide (SA.out.2.trans (g1.mono SA.out.2.size))
    have d0 := s1.c0
    have d1 := s1.c1
    have d2 := s1.c2
    clear g1 s1
    go_wp2_with fail
    refine Calls.mono (refused_any r p c w1 hok) ?_
    rintro e w2 ⟨rfl, g2⟩
    have G2 := hide (G1.out.trans (g2.mono G1.out.size))
    clear g2 d0 d1 d2
    go_wp2_with fail
    go_ret
    exact ⟨rfl, G2.out⟩
  case pos =>
    go_enter Try.func4, Try.ntmps4
    go_wp2_with fail
    rw [← hWA]
    clear hWA
    refine Calls.mono (good_yes r p c WA hok) ?_
    rintro e w1 ⟨rfl, g1⟩
    have s1 := SA.out.1.below g1
    have G1 := hide (SA.out.2.trans (g1.mono SA.out.2.size))
    have SB := hide s1
    have d0 := s1.c0
    have d1 := s1.c1
    have d2 := s1.c2
    clear g1 s1
    go_wp2_with fail
    refine Calls.mono (newBucket_any r p c w1 hok.fits) ?_
    rintro e w2 ⟨rfl, b1, g2⟩
    have T0 : Hid (One w w2 w.heap.size w1.heap.size r p c (c * p)) := ⟨SB.out.below g2, b1, G1.out.size, G1.out.trans (g2.mono G1.out.size)⟩
    have hF := hide hok.fits
    generalize w1.heap.size = R at *
    clear b1 g2 d0 d1 d2 SB G1 SA
    have hlen := hN.len
    have HN := hide hN
    clear hN
    have hmx : ys.length ≤ 9223372036854775807 := by unfold maxLen at hlen; omega
    go_wp2_with (go_at_call 11; refine Calls.mono (num10_any _ _) ?_; rintro e wn ⟨rfl, rfl⟩)
    go_loopw [7, 8] (fun vm vi wr => ∃ (q : Nat) (k M : Int), q ≤ ys.length ∧ vi = .int .i64 (q : Int) ∧ vm = .int .i64 M ∧ 0 ≤ M ∧ M + k ≤ c * p ∧ Fits r p c k ∧ One w wr w.heap.size R r p c k) (fun _ vi _ => ys.length - (intOf vi).toNat)
    case atStart => exact ⟨0, c * p, 0, Nat.zero_le _, rfl, rfl, by omega, by omega, hF.out, T0.out⟩
    case round =>
      clear T0 hF
      obtain ⟨q, k, M, hq, rfl, rfl, hm0, hm1, hf, hT⟩ := hrel
      have T0 := hide hT
      have HF := hide hf
      clear hT hf
      by_cases hql : q < ys.length
      case pos =>
        have hao := HN.out.at0 (by omega)
        subst hao
        have hqi : (q : Int) < (ys.length : Int) := by omega
        have bl := HN.out.lt (by omega)
        have e0 := (T0.out.bel.cell bl).trans (HN.out.c0 q hql)
        have e1 := (T0.out.bel.cell bl).trans (HN.out.c1 q hql)
        have e2 := (T0.out.bel.cell bl).trans (HN.out.c2 q hql)
        have e3 := (T0.out.bel.cell bl).trans (HN.out.c3 q hql)
        have e4 := (T0.out.bel.cell bl).trans (HN.out.c4 q hql)
        generalize ys[q] = y at *
        obtain ⟨yk, yp, n, yd, yf⟩ := y
        dsimp only at e0 e1 e2 e3 e4
        go_upto_region 11 with fail
        obtain ⟨WX, hWX⟩ : ∃ WX, WX = wr.alloc (.cells #[.int .i64 yk, .int .i64 yp, .int .i64 n, .int .i64 yd, .int .i64 yf] 43) := ⟨_, rfl⟩
        obtain ⟨O, hO⟩ : ∃ O, O = wr.heap.size := ⟨_, rfl⟩
        have OX : Hid (OpAt WX O ⟨yk, yp, n, yd, yf⟩) := by subst hWX; subst hO; exact heap_last _ _
        have TX : Hid (One w WX w.heap.size R r p c k) := by subst hWX; exact T0.out.below ((Below.refl _ _).alloc (Nat.le_refl _) _)
        rw [← hWX, ← hO]
        clear hWX hO T0 e0 e1 e2 e3 e4
        have o0 := OX.out.c0
        have o2 := OX.out.c2
        dsimp only at o0 o2
        have r1 := HF.out.r1
        have r2 := HF.out.r2
        have p1 := HF.out.p1
        have k1 := HF.out.k1
        have cp := HF.out.cp
        have pc : p * c = c * p := Int.mul_comm _ _
        have xpc : IntKind.i64.wrap (p * c) = p * c := i64_in (by omega) (by omega)
        have hM9 : ¬ p * c < M := by omega
        by_cases hk1 : yk = 1
        case pos =>
          subst hk1
          by_cases hn : 0 ≤ n ∧ n ≤ 1099511627776
          case pos =>
            obtain ⟨n0, n1⟩ := hn
            have C1 := hide (tick_any WX R r p c k n TX.out.a HF.out n0 n1)
            go_wp2_with fail
            refine Calls.mono C1.out ?_
            rintro e u1 ⟨rfl, bb, gg⟩
            have T1 := hide (TX.out.go bb gg)
            have O1 := hide (OX.out.other TX.out.a gg)
            have F1 := hide (HF.out.tick (n := n) n0)
            clear bb gg C1 o0 o2
            have o2 := O1.out.c2
            dsimp only at o2
            have d0 := T1.out.s.c0
            have d1 := T1.out.s.c1
            have d2 := T1.out.s.c2
            have m1 := mul_in (A := 65536) (B := 1099511627776) (by omega : 0 ≤ r) r2 n0 n1
            have hrn : n * r = r * n := Int.mul_comm _ _
            have x1 : IntKind.i64.wrap (r * n) = r * n := i64_in (by omega) (by omega)
            have x2 : IntKind.i64.wrap (M - r * n) = M - r * n := i64_in (by omega) (by omega)
            have kk : tickP r p c k n ≤ k + r * n ∧ tickP r p c k n ≤ c * p := by unfold tickP; rw [hrn]; omega
            generalize tickP r p c k n = k2 at *
            by_cases hm : M - r * n < 0
            case pos =>
              have h9 : ¬ p * c < 0 := by omega
              go_wp2_with (go_at_call 11; refine Calls.mono (num10_any _ _) ?_; rintro e wn ⟨rfl, rfl⟩)
              go_roundw
              case rel => exact ⟨q + 1, k2, 0, by omega, by go_num, rfl, by omega, by omega, F1.out, T1.out⟩
              case measure => simp [intOf]; omega
            case neg =>
              have h9 : ¬ p * c < M - r * n := by omega
              go_wp2_with (go_at_call 11; refine Calls.mono (num10_any _ _) ?_; rintro e wn ⟨rfl, rfl⟩)
              go_roundw
              case rel => exact ⟨q + 1, k2, M - r * n, by omega, by go_num, rfl, by omega, by omega, F1.out, T1.out⟩
              case measure => simp [intOf]; omega
          case neg =>
            have C1 := hide (tick_bad WX R r p c k n TX.out.a r1 hn)
            have d1 := TX.out.s.c1
            have d2 := TX.out.s.c2
            go_wp2_with fail
            refine Calls.mono C1.out ?_
            rintro e u1 ⟨rfl, rfl⟩
            clear C1
            go_wp2_with (go_at_call 11; refine Calls.mono (num10_any _ _) ?_; rintro e wn ⟨rfl, rfl⟩)
            go_roundw
            case rel => exact ⟨q + 1, k, M, by omega, by go_num, rfl, by omega, by omega, HF.out, TX.out⟩
            case measure => simp [intOf]; omega
        by_cases hk2 : yk = 2
        case pos =>
          subst hk2
          have C1 := take_any WX R r p c k n TX.out.a HF.out
          have F1 := HF.out.take n
          unfold takeP at C1 F1
          cases tk : tookP p c k n
          case true =>
            rw [tk] at C1 F1
            unfold tookP at tk
            rw [decide_eq_true_iff] at tk
            obtain ⟨n0, n1, n2⟩ := tk
            rw [show askE c n = 0 by unfold askE; rw [if_neg (by omega), if_neg (by omega)]] at C1
            simp only [if_true] at C1 F1
            have C1 := hide C1
            have F1 := hide F1
            go_wp2_with fail
            refine Calls.mono C1.out ?_
            rintro e u1 ⟨rfl, bb, gg⟩
            have T1 := hide (TX.out.go bb gg)
            have O1 := hide (OX.out.other TX.out.a gg)
            clear bb gg C1 o0 o2
            have o2 := O1.out.c2
            dsimp only at o2
            have d0 := T1.out.s.c0
            have d1 := T1.out.s.c1
            have d2 := T1.out.s.c2
            have hpn : n * p = p * n := Int.mul_comm _ _
            have hpn0 : 0 ≤ n * p := Int.mul_nonneg n0 (by omega)
            have k2 := HF.out.k2
            have x1 : IntKind.i64.wrap (p * n) = p * n := i64_in (by omega) (by omega)
            have x2 : IntKind.i64.wrap (M + p * n) = M + p * n := i64_in (by omega) (by omega)
            have h9 : ¬ p * c < M + p * n := by omega
            go_wp2_with (go_at_call 11; refine Calls.mono (num10_any _ _) ?_; rintro e wn ⟨rfl, rfl⟩)
            go_roundw
            case rel => exact ⟨q + 1, k - n * p, M + p * n, by omega, by go_num, rfl, by omega, by omega, F1.out, T1.out⟩
            case measure => simp [intOf]; omega
          case false =>
            rw [tk] at C1
            simp only [Bool.false_eq_true, if_false] at C1
            have C1 := hide C1
            clear F1
            go_wp2_with fail
            refine Calls.mono C1.out ?_
            rintro e u1 ⟨rfl, bb, gg⟩
            have T1 := hide (TX.out.go bb gg)
            clear bb gg C1 o0 o2 tk
            have d1 := T1.out.s.c1
            have d2 := T1.out.s.c2
            generalize askE c n = ee at *
            go_wp2_with (go_at_call 11; refine Calls.mono (num10_any _ _) ?_; rintro e wn ⟨rfl, rfl⟩)
            go_roundw
            case rel => exact ⟨q + 1, k, M, by omega, by go_num, rfl, by omega, by omega, HF.out, T1.out⟩
            case measure => simp [intOf]; omega
        by_cases hk3 : yk = 3
        case pos =>
          subst hk3
          have C1 := hide (wait_any WX R r p c k n TX.out.a HF.out)
          go_wp2_with fail
          refine Calls.mono C1.out ?_
          rintro e u1 ⟨rfl, bb, gg⟩
          have T1 := hide (TX.out.go bb gg)
          clear bb gg C1 o0 o2
          have d1 := T1.out.s.c1
          have d2 := T1.out.s.c2
          go_wp2_with (go_at_call 11; refine Calls.mono (num10_any _ _) ?_; rintro e wn ⟨rfl, rfl⟩)
          go_roundw
          case rel => exact ⟨q + 1, k, M, by omega, by go_num, rfl, by omega, by omega, HF.out, T1.out⟩
          case measure => simp [intOf]; omega
        have d1 := TX.out.s.c1
        have d2 := TX.out.s.c2
        go_wp2_with (go_at_call 11; refine Calls.mono (num10_any _ _) ?_; rintro e wn ⟨rfl, rfl⟩)
        go_roundw
        case rel => exact ⟨q + 1, k, M, by omega, by go_num, rfl, by omega, by omega, HF.out, TX.out⟩
        case measure => simp [intOf]; omega
      case neg =>
        obtain rfl : q = ys.length := by omega
        have c1 := HF.out.c1
        have p1 := HF.out.p1
        have d2 := T0.out.s.c2
        obtain ⟨v, hv, v0, v1, v2, v3, v4⟩ := wait_facts HF.out (by omega : 0 ≤ c) (Int.le_refl c)
        have hA : askE c c = 0 := by unfold askE; rw [if_neg (by omega), if_neg (by omega)]
        have C0 := wait_any wr R r p c k c T0.out.a HF.out
        rw [hv, hA] at C0
        have C0 := hide C0
        have F1 := hide (HF.out.tick (n := v) v0)
        have hz : tickP r p c k v = c * p := by
          have a := F1.out.k2
          unfold tookP at v3
          rw [decide_eq_true_iff] at v3
          omega
        rw [hz] at v3 F1
        have V3 := hide v3
        clear hv v3 v4
        go_wp2_with fail
        refine Calls.mono C0.out ?_
        rintro e u1 ⟨rfl, bb, gg⟩
        have T1 := hide (T0.out.go bb gg)
        have C1 := tick_any u1 R r p c k v T1.out.a HF.out v0 (by omega)
        rw [hz] at C1
        have C1 := hide C1
        clear bb gg C0 T0 d2
        go_wp2_with (go_at_call 11; refine Calls.mono (num10_any _ _) ?_; rintro e wn ⟨rfl, rfl⟩)
        refine Calls.mono C1.out ?_
        rintro e u2 ⟨rfl, bb, gg⟩
        have T2 := hide (T1.out.go bb gg)
        clear bb gg C1 T1
        have d2 := T2.out.s.c2
        have C2 := take_there u2 R r p c (c * p) c T2.out.a F1.out (by omega) (Int.le_refl _) (Int.le_refl _)
        rw [Int.sub_self] at C2
        have C2 := hide C2
        go_wp2_with (go_at_call 11; refine Calls.mono (num10_any _ _) ?_; rintro e wn ⟨rfl, rfl⟩)
        refine Calls.mono C2.out ?_
        rintro e u3 ⟨rfl, bb, gg⟩
        have T3 := hide (T2.out.go bb gg)
        have f0 : Fits r p c 0 := ⟨F1.out.r1, F1.out.r2, F1.out.p1, F1.out.p2, F1.out.c1, F1.out.c2, by omega, by have := F1.out.cp; omega⟩
        have C3 := level_any u3 R r p c 0 T3.out.a f0
        rw [Int.zero_ediv] at C3
        have C3 := hide C3
        clear bb gg C2 T2 d2
        go_wp2_with (go_at_call 11; refine Calls.mono (num10_any _ _) ?_; rintro e wn ⟨rfl, rfl⟩)
        refine Calls.mono C3.out ?_
        rintro e u4 ⟨rfl, bb, gg⟩
        have T4 := hide (T3.out.go bb gg)
        clear bb gg C3 T3
        go_wp2_with (go_at_call 11; refine Calls.mono (num10_any _ _) ?_; rintro e wn ⟨rfl, rfl⟩)
        go_ret
        exact ⟨rfl, T4.out.bel⟩
end Go.Proofs.Ytkfiaahgcljljaa
