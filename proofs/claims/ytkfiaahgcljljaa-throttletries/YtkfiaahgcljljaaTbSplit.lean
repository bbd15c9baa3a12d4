import Derived.Test.YtkfiaahgcljljaaTbLaw
namespace Go.Proofs.Ytkfiaahgcljljaa
open Go.RowKit
/-- numbers that are handed in, as they lie there -/
structure Nums (w : World) (ao : Option Addr) (b o : Nat) (ds : List Int) : Prop where
  at0 : 0 < ds.length → ao = some ⟨b, o, none⟩
  lt : 0 < ds.length → b < w.heap.size
  cell : ∀ (j : Nat) d, ds[j]? = some d → w.cell? ⟨b, o + j, none⟩ = some (.int .i64 d)
  len : ds.length ≤ maxLen
theorem Nums.get {w X : World} {ao : Option Addr} {b o : Nat} {ds : List Int} (h : Nums w ao b o ds) (hb : Below w.heap.size w X) {q : Nat} (hq : q < ds.length) : X.cell? ⟨b, o + q, none⟩ = some (.int .i64 ds[q]) := by
  have e := h.cell q ds[q] (List.getElem?_eq_getElem hq)
  exact (hb.cell (h.lt (by omega))).trans e
theorem tick_split {r p c k a b : Int} (hf : Fits r p c k) (ha : 0 ≤ a) (hb : 0 ≤ b) : tickP r p c (tickP r p c k a) b = tickP r p c k (a + b) := by
  have h1 := Int.mul_nonneg ha (show 0 ≤ r by have := hf.r1; omega)
  have h2 := Int.mul_nonneg hb (show 0 ≤ r by have := hf.r1; omega)
  unfold tickP
  rw [Int.add_mul]
  omega
set_option maxHeartbeats 8000000 in
set_option maxRecDepth 100000 in
set_option linter.unusedSimpArgs false in
set_option linter.unusedVariables false in
theorem split_any (ao : Option Addr) (b o cap : Nat) (ds : List Int) (r p c x y z : Int) (w : World) (hN : Nums w ao b o ds) :
    Calls Try.prog 7 #[.agg #[.int .i64 r, .int .i64 p, .int .i64 c], .slice ao ds.length cap, .int .i64 x, .int .i64 y, .int .i64 z] w fun v w' => v = .returned (.bool true) ∧ Below w.heap.size w w' := by
  obtain ⟨WA, hWA⟩ : ∃ WA, WA = (w.alloc (.cells #[.int .i64 r, .int .i64 p, .int .i64 c] 23)) := ⟨_, rfl⟩
  have SA : Hid (ShAt WA w.heap.size r p c ∧ Below w.heap.size w WA) := by subst hWA; exact ⟨heap_last _ _, (Below.refl _ w).alloc (Nat.le_refl _) _⟩
  by_cases hok : okS r p c
  case neg =>
    go_enter Try.func7, Try.ntmps7
    go_wp2_with fail
    rw [← hWA]
    clear hWA
    refine Calls.mono (good_no r p c WA hok) ?_
    rintro e w1 ⟨rfl, g1⟩
    have s1 := SA.out.1.below g1
    have G1 := hide (SA.out.2.trans (g1.mono SA.out.2.size))
    have d0 := s1.c0
    have d1 := s1.c1
    have d2 := s1.c2
    clear g1 s1
    go_wp2_with fail
    refine Calls.mono (refused_any r p c w1 hok) ?_
    rintro e w2 ⟨rfl, g2⟩
    have G2 := hide (G1.out.trans (g2.mono G1.out.size))
    clear g2 d0 d1 d2
    go_wp2_with fail
    go_ret
    exact ⟨rfl, G2.out⟩
  case pos =>
    go_enter Try.func7, Try.ntmps7
    go_wp2_with fail
    rw [← hWA]
    clear hWA
    refine Calls.mono (good_yes r p c WA hok) ?_
    rintro e w1 ⟨rfl, g1⟩
    have s1 := SA.out.1.below g1
    have G1 := hide (SA.out.2.trans (g1.mono SA.out.2.size))
    have SB := hide s1
    have d0 := s1.c0
    have d1 := s1.c1
    have d2 := s1.c2
    clear g1 s1
    go_wp2_with fail
    refine Calls.mono (twin_any r p c w1 hok) ?_
    rintro e w2 ⟨R, Q, rfl, b1, b2, hne, hR, hQ, g2⟩
    have T2 : Hid (Two w w2 w.heap.size R Q r p c (c * p) (c * p)) := ⟨SB.out.below g2, b1, b2, hne, by have := G1.out.size; omega, by have := G1.out.size; omega, G1.out.trans (g2.mono G1.out.size)⟩
    have hF := hide hok.fits
    clear b1 b2 hne hR hQ g2 d0 d1 d2 SB G1 SA
    have hlen := hN.len
    have HN := hide hN
    clear hN
    have hmx : ds.length ≤ 9223372036854775807 := by unfold maxLen at hlen; omega
    go_wp2_with fail
    go_loopw [14, 15, 16, 17, 18] (fun vi _ _ _ _ wr => ∃ (q : Nat) (k : Int), q ≤ ds.length ∧ vi = .int .i64 (q : Int) ∧ Fits r p c k ∧ Two w wr w.heap.size R Q r p c k k) (fun vi _ _ _ _ _ => ds.length - (intOf vi).toNat)
    case atStart => exact ⟨0, c * p, Nat.zero_le _, rfl, hF.out, T2.out⟩
    case round =>
      clear T2 hF
      obtain ⟨q, k, hq, rfl, hf, hT⟩ := hrel
      by_cases hql : q < ds.length
      case pos =>
        have hao := HN.out.at0 (by omega)
        subst hao
        have cd := HN.out.get hT.bel hql
        have hqi : (q : Int) < (ds.length : Int) := by omega
        have TK := hide (take_any wr R r p c k ds[q] hT.a hf)
        have HT := hide hT
        have HF := hide hf
        clear hT hf
        go_wp2_with fail
        refine Calls.mono TK.out ?_
        rintro e w3 ⟨rfl, b3, g3⟩
        have T3 := hide (HT.out.left b3 g3)
        have cd3 := HN.out.get T3.out.bel hql
        have TK2 := hide (take_any w3 Q r p c k ds[q] T3.out.b HF.out)
        clear b3 g3 TK cd
        generalize hd : ds[q] = d at *
        generalize ht : tookP p c k d = tk at *
        generalize hE : askE c d = ee at *
        go_wp2_with fail
        refine Calls.mono TK2.out ?_
        rintro e w4 ⟨rfl, b4, g4⟩
        have T4 := hide (T3.out.right b4 g4)
        clear b4 g4 TK2 cd3 T3 HT
        cases tk <;> (
          go_wp2_with (go_at_call 11; refine Calls.mono (num10_any _ _) ?_; rintro e wn ⟨rfl, rfl⟩)
          go_roundw
          case rel => exact ⟨q + 1, _, by omega, by go_num, HF.out.take d, T4.out⟩
          case measure => simp [intOf]; omega)
      case neg =>
        obtain rfl : q = ds.length := by omega
        have HT := hide hT
        have HF := hide hf
        clear hT hf
        by_cases h0 : x < 0
        case pos =>
          have TI := hide (tick_bad wr R r p c k (-1) HT.out.a HF.out.r1 (by omega))
          go_wp2_with fail
          refine Calls.mono TI.out ?_
          rintro e w5 ⟨rfl, rfl⟩
          have LV := hide (level_any wr R r p c k HT.out.a HF.out)
          clear TI
          go_wp2_with (go_at_call 11; refine Calls.mono (num10_any _ _) ?_; rintro e wn ⟨rfl, rfl⟩)
          refine Calls.mono LV.out ?_
          rintro e w6 ⟨rfl, b6, g6⟩
          have T6 := hide (HT.out.left b6 g6)
          have LV2 := hide (level_any w6 Q r p c k T6.out.b HF.out)
          clear b6 g6 LV
          go_wp2_with fail
          refine Calls.mono LV2.out ?_
          rintro e w7 ⟨rfl, b7, g7⟩
          have T7 := hide (T6.out.right b7 g7)
          clear b7 g7 LV2
          go_wp2_with fail
          go_ret
          exact ⟨by simp, T7.out.bel⟩
        by_cases h1 : y < 0
        case pos =>
          have TI := hide (tick_bad wr R r p c k (-1) HT.out.a HF.out.r1 (by omega))
          go_wp2_with fail
          refine Calls.mono TI.out ?_
          rintro e w5 ⟨rfl, rfl⟩
          have LV := hide (level_any wr R r p c k HT.out.a HF.out)
          clear TI
          go_wp2_with (go_at_call 11; refine Calls.mono (num10_any _ _) ?_; rintro e wn ⟨rfl, rfl⟩)
          refine Calls.mono LV.out ?_
          rintro e w6 ⟨rfl, b6, g6⟩
          have T6 := hide (HT.out.left b6 g6)
          have LV2 := hide (level_any w6 Q r p c k T6.out.b HF.out)
          clear b6 g6 LV
          go_wp2_with fail
          refine Calls.mono LV2.out ?_
          rintro e w7 ⟨rfl, b7, g7⟩
          have T7 := hide (T6.out.right b7 g7)
          clear b7 g7 LV2
          go_wp2_with fail
          go_ret
          exact ⟨by simp, T7.out.bel⟩
        by_cases h2 : 549755813888 < x
        case pos =>
          have TI := hide (tick_bad wr R r p c k (-1) HT.out.a HF.out.r1 (by omega))
          go_wp2_with fail
          refine Calls.mono TI.out ?_
          rintro e w5 ⟨rfl, rfl⟩
          have LV := hide (level_any wr R r p c k HT.out.a HF.out)
          clear TI
          go_wp2_with (go_at_call 11; refine Calls.mono (num10_any _ _) ?_; rintro e wn ⟨rfl, rfl⟩)
          refine Calls.mono LV.out ?_
          rintro e w6 ⟨rfl, b6, g6⟩
          have T6 := hide (HT.out.left b6 g6)
          have LV2 := hide (level_any w6 Q r p c k T6.out.b HF.out)
          clear b6 g6 LV
          go_wp2_with fail
          refine Calls.mono LV2.out ?_
          rintro e w7 ⟨rfl, b7, g7⟩
          have T7 := hide (T6.out.right b7 g7)
          clear b7 g7 LV2
          go_wp2_with fail
          go_ret
          exact ⟨by simp, T7.out.bel⟩
        by_cases h3 : 549755813888 < y
        case pos =>
          have TI := hide (tick_bad wr R r p c k (-1) HT.out.a HF.out.r1 (by omega))
          go_wp2_with fail
          refine Calls.mono TI.out ?_
          rintro e w5 ⟨rfl, rfl⟩
          have LV := hide (level_any wr R r p c k HT.out.a HF.out)
          clear TI
          go_wp2_with (go_at_call 11; refine Calls.mono (num10_any _ _) ?_; rintro e wn ⟨rfl, rfl⟩)
          refine Calls.mono LV.out ?_
          rintro e w6 ⟨rfl, b6, g6⟩
          have T6 := hide (HT.out.left b6 g6)
          have LV2 := hide (level_any w6 Q r p c k T6.out.b HF.out)
          clear b6 g6 LV
          go_wp2_with fail
          refine Calls.mono LV2.out ?_
          rintro e w7 ⟨rfl, b7, g7⟩
          have T7 := hide (T6.out.right b7 g7)
          clear b7 g7 LV2
          go_wp2_with fail
          go_ret
          exact ⟨by simp, T7.out.bel⟩
        have t1 := hide (tick_any wr R r p c k x HT.out.a HF.out (by omega) (by omega))
        have hxy : IntKind.i64.wrap (x + y) = x + y := i64_in (by omega) (by omega)
        have F1 := hide (HF.out.tick (n := x) (by omega))
        have F2 := hide (HF.out.tick (n := x + y) (by omega))
        have hS := hide (tick_split (a := x) (b := y) HF.out (by omega) (by omega))
        go_wp2_with fail
        refine Calls.mono t1.out ?_
        rintro e w5 ⟨rfl, b5, g5⟩
        have T5 := hide (HT.out.left b5 g5)
        have t2 := tick_any w5 R r p c _ y T5.out.a F1.out (by omega) (by omega)
        rw [hS.out] at t2
        have t2 := hide t2
        clear b5 g5 t1
        go_wp2_with (go_at_call 11; refine Calls.mono (num10_any _ _) ?_; rintro e wn ⟨rfl, rfl⟩)
        refine Calls.mono t2.out ?_
        rintro e w6 ⟨rfl, b6, g6⟩
        have T6 := hide (T5.out.left b6 g6)
        have t3 := hide (tick_any w6 Q r p c k (x + y) T6.out.b HF.out (by omega) (by omega))
        clear b6 g6 t2
        go_wp2_with (go_at_call 11; refine Calls.mono (num10_any _ _) ?_; rintro e wn ⟨rfl, rfl⟩)
        refine Calls.mono t3.out ?_
        rintro e w7 ⟨rfl, b7, g7⟩
        have T7 := hide (T6.out.right b7 g7)
        clear b7 g7 t3 T6 T5 HT HF F1
        generalize tickP r p c k (x + y) = kk at *
        have w1 := hide (wait_any w7 R r p c kk z T7.out.a F2.out)
        go_wp2_with (go_at_call 11; refine Calls.mono (num10_any _ _) ?_; rintro e wn ⟨rfl, rfl⟩)
        refine Calls.mono w1.out ?_
        rintro e w8 ⟨rfl, b8, g8⟩
        have T8 := hide (T7.out.left b8 g8)
        have w2 := hide (wait_any w8 Q r p c kk z T8.out.b F2.out)
        clear b8 g8 w1 T7
        go_wp2_with fail
        refine Calls.mono w2.out ?_
        rintro e w9 ⟨rfl, b9, g9⟩
        have T9 := hide (T8.out.right b9 g9)
        have l1 := hide (level_any w9 R r p c kk T9.out.a F2.out)
        clear b9 g9 w2 T8
        generalize waitP r p c kk z = wz at *
        generalize askE c z = ez at *
        go_wp2_with fail
        refine Calls.mono l1.out ?_
        rintro e w10 ⟨rfl, b10, g10⟩
        have T10 := hide (T9.out.left b10 g10)
        have l2 := hide (level_any w10 Q r p c kk T10.out.b F2.out)
        clear b10 g10 l1 T9
        go_wp2_with fail
        refine Calls.mono l2.out ?_
        rintro e w11 ⟨rfl, b11, g11⟩
        have T11 := hide (T10.out.right b11 g11)
        clear b11 g11 l2 T10
        go_wp2_with (go_at_call 11; refine Calls.mono (num10_any _ _) ?_; rintro e wn ⟨rfl, rfl⟩)
        go_ret
        exact ⟨by simp, T11.out.bel⟩
end Go.Proofs.Ytkfiaahgcljljaa
