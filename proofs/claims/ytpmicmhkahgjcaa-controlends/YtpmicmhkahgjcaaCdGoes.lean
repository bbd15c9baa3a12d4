import Derived.Test.YtpmicmhkahgjcaaGCcTick
import Derived.Test.YtpmicmhkahgjcaaGCdRes
namespace Go.Proofs.Ytpmicmhkahgjcaa.Cn
open Go.RowKit
set_option maxHeartbeats 16000000 in
set_option maxRecDepth 100000 in
set_option linter.unusedSimpArgs false in
set_option linter.unusedVariables false in
theorem goesLaw_any (w : World) (nodes a b c : Int) (ao' : Option Addr) (bb oo cap' : Nat) (L : List Sp) (hL : RwAt 14 spV w.heap.size w ao' bb oo L) (version holds bad : Int) :
    Calls Try.prog 5 #[.int .i64 nodes, .agg #[.int .i64 a, .int .i64 b, .int .i64 c], .slice ao' L.length cap', .int .i64 version, .int .i64 holds, .int .i64 bad] w fun e w' => e = .returned (.bool true) ∧ Below w.heap.size w w' := by
  obtain ⟨W0, hW0⟩ : ∃ W0, W0 = w.alloc (.cells #[.int .i64 a, .int .i64 b, .int .i64 c] 23) := ⟨_, rfl⟩
  have b0 : Hid (Below w.heap.size w W0) := by rw [hW0]; exact (Below.refl _ w).alloc (Nat.le_refl _) _
  have m0 : W0.heap[w.heap.size]? = some (.cells #[.int .i64 a, .int .i64 b, .int .i64 c] 23) := by rw [hW0]; exact heap_last _ _
  have T0 := hide m0
  have t0 : W0.cell? ⟨w.heap.size, 0, none⟩ = some (.int .i64 a) := by rw [cell_row m0]; rfl
  have t1 : W0.cell? ⟨w.heap.size, 1, none⟩ = some (.int .i64 b) := by rw [cell_row m0]; rfl
  have t2 : W0.cell? ⟨w.heap.size, 2, none⟩ = some (.int .i64 c) := by rw [cell_row m0]; rfl
  have s0 : Hid (W0.heap.size = w.heap.size + 1) := by rw [hW0]; exact World.size_alloc _ _
  have MA := hide (made15_any W0 nodes a b c)
  clear m0
  have HLL := hide hL
  have hlen := hL.len
  obtain ⟨n, hn⟩ : ∃ n, n = L.length := ⟨_, rfl⟩
  have HN := hide hn
  rw [← hn] at hlen ⊢
  clear hL hn
  go_enter Try.func5, Try.ntmps5
  go_upto_region 1 with fail
  rw [← hW0]
  clear hW0
  go_wp2_with fail
  refine Calls.mono MA.out ?_
  rintro e W1 ⟨st, x, ns, vl, zs, base, rfl, hz, hT, hE, hs, x14, x15, x16, hb⟩
  obtain ⟨nm_, hsf, hnf, hdl, kp_⟩ := errP_all hE
  have n16 := nfP_len hnf
  obtain ⟨ao, nb, cap, pv, hvl, hns⟩ := tw_read hT hz n16.2 hdl.p2
  subst hvl
  have HE := hide hE
  have HS : Hid (st.size ≤ 9223372036854775807) := Nat.le_trans hs (by decide)
  obtain ⟨W2, hW2⟩ : ∃ W2, W2 = W1.alloc (.cells (clA st x (.slice ao ns.length cap)) 26) := ⟨_, rfl⟩
  obtain ⟨cB, hcB⟩ : ∃ cB, cB = W1.heap.size := ⟨_, rfl⟩
  have C2' : Hid (ClAt W2 cB st x (.slice ao ns.length cap)) := by rw [hW2, hcB]; exact new_cl _ _ _ _
  have b2 : Below W1.heap.size W1 W2 := by rw [hW2]; exact (Below.refl _ W1).alloc (Nat.le_refl _) _
  have N2 : Hid (NsAt cB W2 ao nb 0 pv ns) := by rw [hcB]; exact hns.below b2
  have BW2 : Hid (Below W0.heap.size W0 W2) := hb.trans (b2.mono hb.size)
  have clt : Hid (W0.heap.size ≤ cB) := by rw [hcB]; exact hb.size
  have HCB := hide hcB
  have NN : Hid (cB < W2.heap.size) := blk_lt C2'.out
  replace hW2 := hide hW2
  clear nm_ kp_ hsf hnf hdl hT hz hE x14 x15 x16 hb b2 hns MA t0 t1 t2 hs hcB
  go_upto_region 2 with (refine wpList_storeCl (w0 := W1) rfl (.tmp 13) (.tmp 26) rfl W1.heap.size (by kernel_rfl) rfl st x (.slice ao ns.length cap) rfl (by kernel_rfl) _ rfl rfl ?_)
  rw [← hW2.out, ← HCB.out]
  clear hW2
  have KT0 : Hid (W2.heap[w.heap.size]? = some (.cells #[.int .i64 a, .int .i64 b, .int .i64 c] 23)) := (BW2.out.block _ (blk_lt T0.out)).trans T0.out
  have K0 : Hid (W2.heap[w.heap.size]? = some (.cells #[.int .i64 a, .int .i64 b, .int .i64 c] 23)) := KT0.out
  have t0 : W2.cell? ⟨w.heap.size, 0, none⟩ = some (.int .i64 a) := by rw [cell_row K0.out]; rfl
  have MO0 := mod15_any a 16 (by omega) (by omega) W2
  obtain ⟨q0, hq0⟩ : ∃ q, a % 16 = q := ⟨_, rfl⟩
  have e01 : 0 ≤ q0 := by rw [← hq0]; exact Int.emod_nonneg _ (by omega)
  have e02 : q0 < 16 := by rw [← hq0]; exact Int.emod_lt_of_pos _ (by omega)
  rw [hq0] at MO0
  clear hq0
  replace MO0 := hide MO0
  have cx0 := C2'.out.atI 14 (by omega)
  have cz0 := C2'.out.fzI 15
  obtain ⟨y0, hy0⟩ : ∃ y, y = 1 + q0 := ⟨_, rfl⟩
  obtain ⟨W3, hW3⟩ : ∃ W, W = W2.setCell ⟨cB, 15, none⟩ (.int .i64 y0) := ⟨_, rfl⟩
  have C3' : Hid (ClAt W3 cB st (upd x 14 y0) (.slice ao ns.length cap)) := by rw [hW3]; exact C2'.out.setI 14 (by omega) y0
  have BB3 : Below cB W2 W3 := by rw [hW3]; exact below_setC (Below.refl _ _) (Nat.le_refl _)
  have KT1 : Hid (W3.heap[w.heap.size]? = some (.cells #[.int .i64 a, .int .i64 b, .int .i64 c] 23)) := (BB3.block _ (by have := clt.out; have := s0.out; omega)).trans K0.out
  have BW3 : Hid (Below W0.heap.size W0 W3) := by rw [hW3]; exact below_setC BW2.out clt.out
  have N3 : Hid (NsAt cB W3 ao nb 0 pv ns) := N2.out.below BB3
  have HY0 : 1 ≤ y0 ∧ y0 ≤ 16 := ⟨by omega, by omega⟩
  replace hW3 := hide hW3
  go_upto_region 3 with (go_at_call 8; refine Calls.mono MO0.out ?_; rintro e w' ⟨rfl, rfl⟩)
  rw [← hy0]
  rw [← hW3.out]
  clear hW3 t0 cx0 cz0 hy0 e01 e02 MO0 BB3 K0 N2 C2' BW2
  have K1 : Hid (W3.heap[w.heap.size]? = some (.cells #[.int .i64 a, .int .i64 b, .int .i64 c] 23)) := KT1.out
  have t1 : W3.cell? ⟨w.heap.size, 1, none⟩ = some (.int .i64 b) := by rw [cell_row K1.out]; rfl
  have MO1 := mod15_any b 8 (by omega) (by omega) W3
  obtain ⟨q1, hq1⟩ : ∃ q, b % 8 = q := ⟨_, rfl⟩
  have e11 : 0 ≤ q1 := by rw [← hq1]; exact Int.emod_nonneg _ (by omega)
  have e12 : q1 < 8 := by rw [← hq1]; exact Int.emod_lt_of_pos _ (by omega)
  rw [hq1] at MO1
  clear hq1
  replace MO1 := hide MO1
  have cx1 := C3'.out.atI 15 (by omega)
  have cz1 := C3'.out.fzI 16
  obtain ⟨y1, hy1⟩ : ∃ y, y = 1 + q1 := ⟨_, rfl⟩
  obtain ⟨W4, hW4⟩ : ∃ W, W = W3.setCell ⟨cB, 16, none⟩ (.int .i64 y1) := ⟨_, rfl⟩
  have C4' : Hid (ClAt W4 cB st (upd (upd x 14 y0) 15 y1) (.slice ao ns.length cap)) := by rw [hW4]; exact C3'.out.setI 15 (by omega) y1
  have BB4 : Below cB W3 W4 := by rw [hW4]; exact below_setC (Below.refl _ _) (Nat.le_refl _)
  have KT2 : Hid (W4.heap[w.heap.size]? = some (.cells #[.int .i64 a, .int .i64 b, .int .i64 c] 23)) := (BB4.block _ (by have := clt.out; have := s0.out; omega)).trans K1.out
  have BW4 : Hid (Below W0.heap.size W0 W4) := by rw [hW4]; exact below_setC BW3.out clt.out
  have N4 : Hid (NsAt cB W4 ao nb 0 pv ns) := N3.out.below BB4
  have HY1 : 1 ≤ y1 ∧ y1 ≤ 8 := ⟨by omega, by omega⟩
  replace hW4 := hide hW4
  go_upto_region 4 with (go_at_call 8; refine Calls.mono MO1.out ?_; rintro e w' ⟨rfl, rfl⟩)
  rw [← hy1]
  rw [← hW4.out]
  clear hW4 t1 cx1 cz1 hy1 e11 e12 MO1 BB4 K1 N3 C3' BW3
  have K2 : Hid (W4.heap[w.heap.size]? = some (.cells #[.int .i64 a, .int .i64 b, .int .i64 c] 23)) := KT2.out
  have t2 : W4.cell? ⟨w.heap.size, 2, none⟩ = some (.int .i64 c) := by rw [cell_row K2.out]; rfl
  have MO2 := mod15_any c 256 (by omega) (by omega) W4
  obtain ⟨q2, hq2⟩ : ∃ q, c % 256 = q := ⟨_, rfl⟩
  have e21 : 0 ≤ q2 := by rw [← hq2]; exact Int.emod_nonneg _ (by omega)
  have e22 : q2 < 256 := by rw [← hq2]; exact Int.emod_lt_of_pos _ (by omega)
  rw [hq2] at MO2
  clear hq2
  replace MO2 := hide MO2
  have cx2 := C4'.out.atI 16 (by omega)
  have cz2 := C4'.out.fzI 17
  obtain ⟨y2, hy2⟩ : ∃ y, y = 1 + q2 := ⟨_, rfl⟩
  obtain ⟨W5, hW5⟩ : ∃ W, W = W4.setCell ⟨cB, 17, none⟩ (.int .i64 y2) := ⟨_, rfl⟩
  have C5' : Hid (ClAt W5 cB st (upd (upd (upd x 14 y0) 15 y1) 16 y2) (.slice ao ns.length cap)) := by rw [hW5]; exact C4'.out.setI 16 (by omega) y2
  have BB5 : Below cB W4 W5 := by rw [hW5]; exact below_setC (Below.refl _ _) (Nat.le_refl _)
  have KT3 : Hid (W5.heap[w.heap.size]? = some (.cells #[.int .i64 a, .int .i64 b, .int .i64 c] 23)) := (BB5.block _ (by have := clt.out; have := s0.out; omega)).trans K2.out
  have BW5 : Hid (Below W0.heap.size W0 W5) := by rw [hW5]; exact below_setC BW4.out clt.out
  have N5 : Hid (NsAt cB W5 ao nb 0 pv ns) := N4.out.below BB5
  have HY2 : 1 ≤ y2 ∧ y2 ≤ 256 := ⟨by omega, by omega⟩
  replace hW5 := hide hW5
  go_upto_region 5 with (go_at_call 8; refine Calls.mono MO2.out ?_; rintro e w' ⟨rfl, rfl⟩)
  rw [← hy2]
  rw [← hW5.out]
  clear hW5 t2 cx2 cz2 hy2 e21 e22 MO2 BB5 K2 N4 C4' BW4
  obtain ⟨X, hX⟩ : ∃ X, X = (upd (upd (upd x 14 y0) 15 y1) 16 y2) := ⟨_, rfl⟩
  have EX : Hid (errP st X ns = 0) := by
    rw [hX]
    refine upd_ok 16 (by omega) (upd_ok 15 (by omega) (upd_ok 14 (by omega) HE.out ?_ ?_) ?_ ?_) ?_ ?_
    · rw [lo_one (by omega)]; exact HY0.1
    · exact Int.le_trans HY0.2 (by decide)
    · rw [lo_one (by omega)]; exact HY1.1
    · exact Int.le_trans HY1.2 (by decide)
    · rw [lo_one (by omega)]; exact HY2.1
    · exact Int.le_trans HY2.2 (by decide)
  have X14 : Hid (X 14 = y0) := by rw [hX, upd_ne _ _ (by omega), upd_ne _ _ (by omega), upd_at]; rfl
  have X15 : Hid (X 15 = y1) := by rw [hX, upd_ne _ _ (by omega), upd_at]; rfl
  have X16 : Hid (X 16 = y2) := by rw [hX, upd_at]; rfl
  rw [← hX] at C5'
  have FX : Hid (∀ j, 0 ≤ j → j ≤ 9007199254740992 → ({ ct0 (ruX X ns) with num := j } : Ct).fine) := fun j j0 j1 => by
    refine ⟨n16.1, n16.2, ?_, ?_, ?_, ?_, ?_, ?_, j0, j1, fun p r e => by simp [ct0] at e, by simp [ct0, rp0]⟩
    · show 1 ≤ X 14; rw [X14.out]; exact HY0.1
    · show X 14 ≤ 1000000; rw [X14.out]; omega
    · show 1 ≤ X 15; rw [X15.out]; exact HY1.1
    · show X 15 ≤ 1000000; rw [X15.out]; omega
    · show 1 ≤ X 16; rw [X16.out]; exact HY2.1
    · show X 16 ≤ 1000000000; rw [X16.out]; omega
  have B5 : Hid (Below w.heap.size w W5) := b0.out.trans (BW5.out.mono b0.out.size)
  have n5 : Hid (cB ≤ W5.heap.size) := Nat.le_of_lt (blk_lt C5'.out)
  clear hX HE KT3 BW5
  have NE := hide (New_any cB W5 st X ao nb 0 cap pv ns N5.out n5.out HS.out EX.out)
  obtain ⟨u, hu⟩ : ∃ u, u = ruX X ns := ⟨_, rfl⟩
  rw [← hu] at NE FX
  have UN : Hid (u.n = ns.length ∧ X 14 = u.rs ∧ X 15 = u.lm ∧ X 16 = u.pt) := by rw [hu]; exact ⟨rfl, rfl, rfl, rfl⟩
  have NU := hide (num_any)
  clear hu
  go_wp2_with (refine wpList_loadCl rfl (.tmp 13) rfl cB st X _ (by kernel_rfl) C5'.out ?_)
  refine Calls.mono NE.out ?_
  rintro e W6 ⟨C, rfl, hC, hX6, hb6⟩
  have X6 := hide hX6
  have C6 := hide (C5'.out.below hb6)
  have B6 := hide (B5.out.trans (hb6.mono B5.out.size))
  have cBl : Hid (w.heap.size ≤ cB ∧ cB < C) := by have a1 := clt.out; have a2 := s0.out; have a3 := blk_lt C5'.out; exact ⟨by omega, by omega⟩
  clear hX6 hb6 NE C5' B5 hC
  go_wp2_with fail
  refine Calls.mono (NU.out 0 _) ?_
  rintro e w9 ⟨rfl, rfl⟩
  go_wp2_with fail
  go_loopw [16, 17] (fun vj vi wr => ∃ (i : Nat) (J : Nat) (ci : Ct) (S' : Nat → Prop), i ≤ n ∧ J ≤ i ∧ i ≤ 1099511627776 ∧ vi = .int .i64 (i : Int) ∧ vj = .int .i64 (J : Int) ∧ Hid (CtAt wr S' C ci) ∧ Hid ci.fine ∧ Hid (ci.num = (J : Int) ∧ ci.ru = u) ∧ Hid (∀ k, S' k → w.heap.size ≤ k ∧ k ≠ cB) ∧ Hid (Below w.heap.size w wr) ∧ Hid (ClAt wr cB st X (.slice ao ns.length cap))) (fun _ vi _ => n - (intOf vi).toNat)
  case atStart => exact ⟨0, 0, ct0 u, _, Nat.zero_le _, Nat.le_refl _, by omega, rfl, rfl, X6.out, FX.out 0 (by omega) (by omega), ⟨rfl, rfl⟩, fun k e => by rw [e]; have := cBl.out; omega, B6.out, C6.out⟩
  case round =>
    obtain ⟨i, J, ci, S', hi, hJ, hi40, rfl, rfl, HXi, HFi, HEi, HSi, HBi, HCi⟩ := hrel
    by_cases hin : i < n ∧ i < 1099511627776
    case pos =>
      obtain ⟨hin1, hin2⟩ := hin
      have hii : (i : Int) < (n : Int) := by omega
      have q1 : decide (i < n) = true := decide_eq_true hin1
      have q2 : decide ((i : Int) < 1099511627776) = true := decide_eq_true (by omega)
      have hiL : i < L.length := by rw [← HN.out]; exact hin1
      have LB := HLL.out.below HBi.out
      have e8 := LB.at0 (by omega)
      have RG : Hid (wr.rangeAt bb (oo + i * 14) (spV L[i]).toList) := fun j u' hj => LB.c i hiL j u' (by simpa using hj)
      obtain ⟨s, hs⟩ : ∃ s, s = L[i] := ⟨_, rfl⟩
      rw [← hs] at RG
      clear hs LB hiL
      subst e8
      obtain ⟨W7, hW7⟩ : ∃ W7, W7 = (wr.alloc (.cells #[.int .i64 0, .int .i64 0, .int .i64 0, .int .i64 0, .int .i64 0, .int .i64 0, .int .i64 0, .int .i64 0, .int .i64 0, .int .i64 0, .int .i64 0, .int .i64 0, .string ⟨#[]⟩, .string ⟨#[]⟩] 59)).setRow wr.heap.size (spV s) := ⟨_, rfl⟩
      have b7 : Below wr.heap.size wr W7 := by rw [hW7]; exact (((Kp.refl wr non).alloc _).row (Or.inr (Nat.le_refl _)) _).below
      have m7 : W7.heap[wr.heap.size]? = some (.cells (spV s) 59) := by rw [hW7]; exact setRow_heap _ _ _ _ _ _ (heap_last wr _)
      have z0 : W7.cell? ⟨wr.heap.size, 0, none⟩ = some (.int .i64 s.k) := by rw [cell_row m7]; rfl
      have z1 : W7.cell? ⟨wr.heap.size, 1, none⟩ = some (.int .i64 s.n) := by rw [cell_row m7]; rfl
      have z2 : W7.cell? ⟨wr.heap.size, 2, none⟩ = some (.int .i64 s.v) := by rw [cell_row m7]; rfl
      have RM : Hid (W7.rangeAt wr.heap.size 3 (mgV s.m).toList) := fun j u' hj => by
        have h1 := (List.getElem?_eq_some_iff.1 hj).1
        rw [cell_row m7]
        have : j = 0 ∨ j = 1 ∨ j = 2 ∨ j = 3 ∨ j = 4 ∨ j = 5 ∨ j = 6 ∨ j = 7 ∨ j = 8 ∨ j = 9 ∨ j = 10 := by simp [mgV] at h1; omega
        rcases this with rfl | rfl | rfl | rfl | rfl | rfl | rfl | rfl | rfl | rfl | rfl <;> exact hj
      have X7 := hide (HXi.out.below b7)
      have C7 := hide (HCi.out.below b7)
      have B7 := hide (HBi.out.trans (b7.mono HBi.out.size))
      have nS : Hid (¬ S' cB) := fun e => (HSi.out cB e).2 rfl
      have cl7 : Hid (cB < W7.heap.size ∧ w.heap.size ≤ W7.heap.size) := ⟨blk_lt C7.out, B7.out.size⟩
      -- what is behind a call
      have NX : Hid (∀ (W8 : World) (c8 : Ct) (lv : Value) (L8 : List Mg), Did W7 W8 S' C c8 lv L8 → ∃ S8, CtAt W8 S8 C c8 ∧ (∀ k, S8 k → w.heap.size ≤ k ∧ k ≠ cB) ∧ Below w.heap.size w W8 ∧ ClAt W8 cB st X (.slice ao ns.length cap)) := fun W8 c8 lv L8 di => by
        have C8 : ClAt W8 cB st X (.slice ao ns.length cap) := di.keep C7.out nS.out
        obtain ⟨S8, x8, s8, k8, _, _⟩ := di
        refine ⟨S8, x8, fun k e => ?_, ((Kp.of_below B7.out non).trans k8 (fun k e => Or.inr (HSi.out k e).1)).below, C8⟩
        rcases s8 k e with q | q
        · exact HSi.out k q
        · have := cl7.out; omega
      replace hW7 := hide hW7
      clear b7 m7
      go_upto_region 13 with (first | refine wpList_load_mid rfl 59 (.tmp 66) rfl bb (oo + i * 14) rfl (spV s).toList _ RG.out Try.underlying59 rfl sp_info ?_ | refine wpList_stR rfl 59 (.tmp 18) (.tmp 67) rfl wr.heap.size rfl (spV s) #[.int .i64 0, .int .i64 0, .int .i64 0, .int .i64 0, .int .i64 0, .int .i64 0, .int .i64 0, .int .i64 0, .int .i64 0, .int .i64 0, .int .i64 0, .int .i64 0, .string ⟨#[]⟩, .string ⟨#[]⟩] rfl _ (heap_last wr _) sp_info rfl (sp_one _) ?_)
      rw [← hW7.out]
      clear hW7 RG
      by_cases k1 : s.k = 1
      case pos =>
        have p1 : (s.k == 1) = true := by simp [k1]
        have BE := hide (Begin_any X7.out HFi.out s.n s.v)
        have BF := hide (beginC_fine HFi.out s.n s.v)
        obtain ⟨mb, hmb⟩ : ∃ mb, mb = mayB ci s.n s.v := ⟨_, rfl⟩
        rw [← hmb] at BE BF
        clear k1 hmb
        go_wp2_with fail
        refine Calls.mono BE.out ?_
        rintro e W8 ⟨lv, rfl, di⟩
        obtain ⟨S8, x8, s8, b8, k8⟩ := NX.out W8 _ lv _ di
        have E8 : Hid (∃ S8, CtAt W8 S8 C (beginC ci s.n s.v) ∧ (∀ k, S8 k → w.heap.size ≤ k ∧ k ≠ cB) ∧ Below w.heap.size w W8 ∧ ClAt W8 cB st X (.slice ao ns.length cap)) := ⟨S8, x8, s8, b8, k8⟩
        clear x8 s8 b8 k8 di
        clear BE
        by_cases hm : mb = 0
        · subst hm
          go_wp2_with fail
          refine Calls.mono (NU.out 0 _) ?_
          rintro e w9 ⟨rfl, rfl⟩
          go_wp2_with fail
          obtain ⟨S8, x8, s8, b8, k8⟩ := E8.out
          refine ⟨⟨i + 1, J + 1, beginC ci s.n s.v, S8, by omega, by omega, by omega, rfl, by go_num, x8, BF.out.1, ⟨by have e := BF.out.2.2; have e2 := HEi.out.1; simp only [if_true] at e; rw [e, e2]; rfl, BF.out.2.1.trans HEi.out.2⟩, s8, b8, k8⟩, by simp [intOf]; omega⟩
        · have p2 : (mb == 0) = false := by simpa using hm
          have HMB := hide hm
          clear hm
          go_wp2_with fail
          refine Calls.mono (NU.out mb _) ?_
          rintro e w9 ⟨rfl, rfl⟩
          go_wp2_with fail
          obtain ⟨S8, x8, s8, b8, k8⟩ := E8.out
          refine ⟨⟨i + 1, J, beginC ci s.n s.v, S8, by omega, by omega, by omega, rfl, rfl, x8, BF.out.1, ⟨by rw [BF.out.2.2, if_neg HMB.out, HEi.out.1], BF.out.2.1.trans HEi.out.2⟩, s8, b8, k8⟩, by simp [intOf]; omega⟩
      case neg =>
      have p1 : (s.k == 1) = false := by simpa using k1
      by_cases k2 : s.k = 2
      case pos =>
        have p2 : (s.k == 2) = true := by simp [k2]
        have TK := hide (Take_any X7.out HFi.out s.m)
        have TF := hide (And.intro (takeC_fine HFi.out s.m) (takeC_all ci s.m))
        clear k1 k2
        go_wp2_with (refine wpList_load_mid rfl 44 (.tmp 89) rfl wr.heap.size 3 rfl (mgV s.m).toList _ RM.out Try.underlying44 rfl mg_info ?_)
        refine Calls.mono TK.out ?_
        rintro e W8 ⟨lv, rfl, di⟩
        obtain ⟨S8, x8, s8, b8, k8⟩ := NX.out W8 _ lv _ di
        have E8 : Hid (∃ S8, CtAt W8 S8 C (takeC ci s.m) ∧ (∀ k, S8 k → w.heap.size ≤ k ∧ k ≠ cB) ∧ Below w.heap.size w W8 ∧ ClAt W8 cB st X (.slice ao ns.length cap)) := ⟨S8, x8, s8, b8, k8⟩
        clear x8 s8 b8 k8 di
        clear TK
        go_wp2_with fail
        obtain ⟨S8, x8, s8, b8, k8⟩ := E8.out
        refine ⟨⟨i + 1, J, takeC ci s.m, S8, by omega, by omega, by omega, rfl, rfl, x8, TF.out.1, ⟨TF.out.2.1.trans HEi.out.1, TF.out.2.2.trans HEi.out.2⟩, s8, b8, k8⟩, by simp [intOf]; omega⟩
      case neg =>
      have p2 : (s.k == 2) = false := by simpa using k2
      by_cases k3 : s.k = 3
      case pos =>
        have p3 : (s.k == 3) = true := by simp [k3]
        have TK := hide (Tick_any X7.out HFi.out)
        have TF := hide (tickC_all HFi.out)
        clear k1 k2 k3
        go_wp2_with fail
        refine Calls.mono TK.out ?_
        rintro e W8 ⟨lv, rfl, di⟩
        obtain ⟨S8, x8, s8, b8, k8⟩ := NX.out W8 _ lv _ di
        have E8 : Hid (∃ S8, CtAt W8 S8 C (tickC ci) ∧ (∀ k, S8 k → w.heap.size ≤ k ∧ k ≠ cB) ∧ Below w.heap.size w W8 ∧ ClAt W8 cB st X (.slice ao ns.length cap)) := ⟨S8, x8, s8, b8, k8⟩
        clear x8 s8 b8 k8 di
        clear TK
        go_wp2_with fail
        obtain ⟨S8, x8, s8, b8, k8⟩ := E8.out
        refine ⟨⟨i + 1, J, tickC ci, S8, by omega, by omega, by omega, rfl, rfl, x8, TF.out.1, ⟨TF.out.2.1.trans HEi.out.1, TF.out.2.2.1.trans HEi.out.2⟩, s8, b8, k8⟩, by simp [intOf]; omega⟩
      case neg =>
      have p3 : (s.k == 3) = false := by simpa using k3
      by_cases k4 : s.k = 4
      case pos =>
        have p4 : (s.k == 4) = true := by simp [k4]
        have TK := hide (Stop_any X7.out HFi.out)
        have TF := hide (stopC_all HFi.out)
        clear k1 k2 k3 k4
        go_wp2_with fail
        refine Calls.mono TK.out ?_
        rintro e W8 ⟨lv, ee, rfl, di⟩
        obtain ⟨S8, x8, s8, b8, k8⟩ := NX.out W8 _ lv _ di
        have E8 : Hid (∃ S8, CtAt W8 S8 C (stopC ci) ∧ (∀ k, S8 k → w.heap.size ≤ k ∧ k ≠ cB) ∧ Below w.heap.size w W8 ∧ ClAt W8 cB st X (.slice ao ns.length cap)) := ⟨S8, x8, s8, b8, k8⟩
        clear x8 s8 b8 k8 di
        clear TK
        go_wp2_with fail
        obtain ⟨S8, x8, s8, b8, k8⟩ := E8.out
        refine ⟨⟨i + 1, J, stopC ci, S8, by omega, by omega, by omega, rfl, rfl, x8, TF.out.1, ⟨TF.out.2.1.trans HEi.out.1, TF.out.2.2.trans HEi.out.2⟩, s8, b8, k8⟩, by simp [intOf]; omega⟩
      case neg =>
      have p4 : (s.k == 4) = false := by simpa using k4
      by_cases k5 : s.k = 5
      case pos =>
        have p5 : (s.k == 5) = true := by simp [k5]
        have TK := hide (Revive_any X7.out HFi.out)
        have TF := hide (revC_all HFi.out)
        clear k1 k2 k3 k4 k5
        go_wp2_with fail
        refine Calls.mono TK.out ?_
        rintro e W8 ⟨lv, ee, rfl, di⟩
        obtain ⟨S8, x8, s8, b8, k8⟩ := NX.out W8 _ lv _ di
        have E8 : Hid (∃ S8, CtAt W8 S8 C (revC ci) ∧ (∀ k, S8 k → w.heap.size ≤ k ∧ k ≠ cB) ∧ Below w.heap.size w W8 ∧ ClAt W8 cB st X (.slice ao ns.length cap)) := ⟨S8, x8, s8, b8, k8⟩
        clear x8 s8 b8 k8 di
        clear TK
        go_wp2_with fail
        obtain ⟨S8, x8, s8, b8, k8⟩ := E8.out
        refine ⟨⟨i + 1, J, revC ci, S8, by omega, by omega, by omega, rfl, rfl, x8, TF.out.1, ⟨TF.out.2.1.trans HEi.out.1, TF.out.2.2.trans HEi.out.2⟩, s8, b8, k8⟩, by simp [intOf]; omega⟩
      case neg =>
        have p5 : (s.k == 5) = false := by simpa using k5
        clear k1 k2 k3 k4 k5
        go_wp2_with fail
        exact ⟨⟨i + 1, J, ci, S', by omega, by omega, by omega, rfl, rfl, X7.out, HFi.out, HEi.out, HSi.out, B7.out, C7.out⟩, by simp [intOf]; omega⟩
    case neg =>
      have IX := hide (idle_any HXi.out HFi.out st X (.slice ao ns.length cap) (by rw [HEi.out.2]; exact UN.out.2.1) (by rw [HEi.out.2]; exact UN.out.2.2.1) (by rw [HEi.out.2]; exact UN.out.2.2.2))
      by_cases hq1 : i < n
      · have q1 : decide (i < n) = true := decide_eq_true hq1
        have hii : (i : Int) < (n : Int) := by omega
        have q2 : decide ((i : Int) < 1099511627776) = false := decide_eq_false (by omega)
        have q3 : ¬ ((i : Int) < 1099511627776) := by omega
        clear hin hq1
        have nS : Hid (¬ S' cB) := fun e => (HSi.out cB e).2 rfl
        go_wp2_with (refine wpList_ldR rfl 26 (.tmp 13) rfl cB (by kernel_rfl) _ _ HCi.out Try.underlying26 infoCl ?_)
        refine Calls.mono IX.out ?_
        rintro e W7 ⟨rfl, S7, c7, x7, f7, p7, n7, u7, s7, k7⟩
        have X7 := hide x7
        have F7 := hide f7
        have E7 : Hid (c7.ph = none ∧ c7.num + 1 = (J : Int) + 1 ∧ c7.ru = u) := ⟨p7, by rw [n7, HEi.out.1], u7.trans HEi.out.2⟩
        have C7 : Hid (ClAt W7 cB st X (.slice ao ns.length cap)) := getL k7 HCi.out nS.out
        have B7 : Hid (Below w.heap.size w W7) := ((Kp.of_below HBi.out non).trans k7 (fun k e => Or.inr (HSi.out k e).1)).below
        have G7 : Hid (∀ k, S7 k → w.heap.size ≤ k ∧ k ≠ cB) := fun k e => by
          rcases s7 k e with q | q
          · exact HSi.out k q
          · have := blk_lt HCi.out
            have := HBi.out.size
            omega
        clear x7 f7 p7 n7 u7 s7 k7 IX HXi HFi HSi HBi HCi nS
        go_upto_region 28 with fail
        have MO0 := mod15_any version 999999 (by omega) (by omega) W7
        obtain ⟨r0, hr0⟩ : ∃ q, version % 999999 = q := ⟨_, rfl⟩
        have r01 : 0 ≤ r0 := by rw [← hr0]; exact Int.emod_nonneg _ (by omega)
        have r02 : r0 < 999999 := by rw [← hr0]; exact Int.emod_lt_of_pos _ (by omega)
        rw [hr0] at MO0
        replace MO0 := hide MO0
        obtain ⟨v, hv⟩ : ∃ y, y = 1 + r0 := ⟨_, rfl⟩
        go_upto_region 29 with (go_at_call 8; refine Calls.mono MO0.out ?_; rintro e w' ⟨rfl, rfl⟩)
        rw [← hv]
        have hiv : Hid (isV v = true) := by show isV v = true; simp [isV]; omega
        clear hv hr0 r01 r02 MO0
        have MO1 := mod15_any holds 999999 (by omega) (by omega) W7
        obtain ⟨r1, hr1⟩ : ∃ q, holds % 999999 = q := ⟨_, rfl⟩
        have r11 : 0 ≤ r1 := by rw [← hr1]; exact Int.emod_nonneg _ (by omega)
        have r12 : r1 < 999999 := by rw [← hr1]; exact Int.emod_lt_of_pos _ (by omega)
        rw [hr1] at MO1
        replace MO1 := hide MO1
        obtain ⟨h, hh⟩ : ∃ y, y = 1 + r1 := ⟨_, rfl⟩
        go_upto_region 30 with (go_at_call 8; refine Calls.mono MO1.out ?_; rintro e w' ⟨rfl, rfl⟩)
        rw [← hh]
        clear hh hr1 r11 r12 MO1
        go_wp2_with fail
        go_loopw [23] (fun vk wk => ∃ (k : Int) (ck : Ct) (Sk : Nat → Prop), 1 ≤ k ∧ k ≤ 4 ∧ vk = .int .i64 k ∧ Hid (CtAt wk Sk C ck) ∧ Hid ck.fine ∧ Hid (ck.ph = none ∧ ck.num + 1 = (J : Int) + k ∧ ck.ru = u) ∧ Hid (∀ q, Sk q → w.heap.size ≤ q ∧ q ≠ cB) ∧ Hid (Below w.heap.size w wk) ∧ Hid (ClAt wk cB st X (.slice ao ns.length cap))) (fun vk _ => 4 - (intOf vk).toNat)
        case atStart => exact ⟨1, c7, S7, by omega, by omega, rfl, X7.out, F7.out, E7.out, G7.out, B7.out, C7.out⟩
        case round =>
          obtain ⟨k, ck, Sk, hk1, hk4, rfl, HXk, HFk, HEk, HSk, HBk, HCk⟩ := hrel
          clear X7 F7 E7 G7 B7 C7
          have UNk : Hid (ck.ru.n = ns.length) := by rw [HEk.out.2.2]; exact UN.out.1
          have hJm : (J : Int) ≤ 1099511627776 := by omega
          have hkk : k = 1 ∨ k = 2 ∨ k = 3 ∨ k = 4 := by omega
          clear hk1 hk4
          rcases hkk with rfl | rfl | rfl | rfl
          · have GO := hide (goes_1 HXk.out HFk.out HEk.out.1 (by have := HEk.out.2.1; omega) st X ao ns.length cap UNk.out v h ((J : Int) + 1) hiv.out HEk.out.2.1.symm)
            go_wp2_with (refine wpList_ldR rfl 26 (.tmp 13) rfl cB (by kernel_rfl) _ _ HCk.out Try.underlying26 infoCl ?_)
            refine Calls.mono GO.out ?_
            rintro e W9 ⟨rfl, S9, x9, s9, k9⟩
            have nSk : ¬ Sk cB := fun e => (HSk.out cB e).2 rfl
            have X9 := hide x9
            have C9 : Hid (ClAt W9 cB st X (.slice ao ns.length cap)) := getL k9 HCk.out nSk
            have B9 : Hid (Below w.heap.size w W9) := ((Kp.of_below HBk.out non).trans k9 (fun k e => Or.inr (HSk.out k e).1)).below
            have G9 : Hid (∀ k, S9 k → w.heap.size ≤ k ∧ k ≠ cB) := fun k e => by
              rcases s9 k e with q | q
              · exact HSk.out k q
              · have := blk_lt HCk.out
                have := HBk.out.size
                omega
            have F9 := hide (fin_fine HFk.out (by have := HEk.out.2.1; omega) 1 v h 1)
            clear x9 s9 k9 GO nSk
            go_wp2_with fail
            go_roundw
            case rel => exact ⟨2, finC ck 1 v h 1, S9, by omega, by omega, rfl, X9.out, F9.out, ⟨rfl, by show ck.num + 1 + 1 = _; have := HEk.out.2.1; omega, HEk.out.2.2⟩, G9.out, B9.out, C9.out⟩
            case measure => simp [intOf]
          · have GO := hide (goes_2 HXk.out HFk.out HEk.out.1 (by have := HEk.out.2.1; omega) st X ao ns.length cap UNk.out v h ((J : Int) + 2) hiv.out HEk.out.2.1.symm)
            go_wp2_with (refine wpList_ldR rfl 26 (.tmp 13) rfl cB (by kernel_rfl) _ _ HCk.out Try.underlying26 infoCl ?_)
            refine Calls.mono GO.out ?_
            rintro e W9 ⟨rfl, S9, x9, s9, k9⟩
            have nSk : ¬ Sk cB := fun e => (HSk.out cB e).2 rfl
            have X9 := hide x9
            have C9 : Hid (ClAt W9 cB st X (.slice ao ns.length cap)) := getL k9 HCk.out nSk
            have B9 : Hid (Below w.heap.size w W9) := ((Kp.of_below HBk.out non).trans k9 (fun k e => Or.inr (HSk.out k e).1)).below
            have G9 : Hid (∀ k, S9 k → w.heap.size ≤ k ∧ k ≠ cB) := fun k e => by
              rcases s9 k e with q | q
              · exact HSk.out k q
              · have := blk_lt HCk.out
                have := HBk.out.size
                omega
            have F9 := hide (fin_fine HFk.out (by have := HEk.out.2.1; omega) 2 v h 1)
            clear x9 s9 k9 GO nSk
            go_wp2_with fail
            go_roundw
            case rel => exact ⟨3, finC ck 2 v h 1, S9, by omega, by omega, rfl, X9.out, F9.out, ⟨rfl, by show ck.num + 1 + 1 = _; have := HEk.out.2.1; omega, HEk.out.2.2⟩, G9.out, B9.out, C9.out⟩
            case measure => simp [intOf]
          · have GO := hide (goes_3 HXk.out HFk.out HEk.out.1 (by have := HEk.out.2.1; omega) st X ao ns.length cap UNk.out v h ((J : Int) + 3) hiv.out HEk.out.2.1.symm)
            go_wp2_with (refine wpList_ldR rfl 26 (.tmp 13) rfl cB (by kernel_rfl) _ _ HCk.out Try.underlying26 infoCl ?_)
            refine Calls.mono GO.out ?_
            rintro e W9 ⟨rfl, S9, x9, s9, k9⟩
            have nSk : ¬ Sk cB := fun e => (HSk.out cB e).2 rfl
            have X9 := hide x9
            have C9 : Hid (ClAt W9 cB st X (.slice ao ns.length cap)) := getL k9 HCk.out nSk
            have B9 : Hid (Below w.heap.size w W9) := ((Kp.of_below HBk.out non).trans k9 (fun k e => Or.inr (HSk.out k e).1)).below
            have G9 : Hid (∀ k, S9 k → w.heap.size ≤ k ∧ k ≠ cB) := fun k e => by
              rcases s9 k e with q | q
              · exact HSk.out k q
              · have := blk_lt HCk.out
                have := HBk.out.size
                omega
            have F9 := hide (fin_fine HFk.out (by have := HEk.out.2.1; omega) 3 0 h 1)
            clear x9 s9 k9 GO nSk
            go_wp2_with fail
            go_roundw
            case rel => exact ⟨4, finC ck 3 0 h 1, S9, by omega, by omega, rfl, X9.out, F9.out, ⟨rfl, by show ck.num + 1 + 1 = _; have := HEk.out.2.1; omega, HEk.out.2.2⟩, G9.out, B9.out, C9.out⟩
            case measure => simp [intOf]
          · have nS : Hid (¬ Sk cB) := fun e => (HSk.out cB e).2 rfl
            have BD : Below wr.heap.size wr wr.drew := (Below.refl _ wr).drew
            have bn0 : (1 : Int) ≤ (ns.length : Int) := by have := n16.1; omega
            have MO := hide (mod15_any bad (ns.length : Int) bn0 (by have := n16.2; omega))
            obtain ⟨bq, hbq⟩ : ∃ q, bad % (ns.length : Int) = q := ⟨_, rfl⟩
            have TB := hide (takenBack_any (HXk.out.below BD) HFk.out HEk.out.1 (by have := HEk.out.2.1; omega) st X ao ns.length cap UNk.out v h bq ((J : Int) + 4) hiv.out HEk.out.2.1.symm (by rw [← hbq]; exact Int.emod_nonneg _ (by omega)) (by rw [← hbq]; exact Int.emod_lt_of_pos _ (by omega)))
            rw [hbq] at MO
            have CD : Hid (ClAt wr.drew cB st X (.slice ao ns.length cap)) := HCk.out.below BD
            have BW : Hid (Below w.heap.size w wr.drew) := HBk.out.drew
            have F22 : Hid (∀ Y : World, Y.heap[cB]? = wr.heap[cB]? → Y.cell? ⟨cB, 22, none⟩ = some (.slice ao ns.length cap)) := fun Y hY => by
              have h1 : ClAt Y cB st X (.slice ao ns.length cap) := hY.trans HCk.out
              rw [cell_row h1]; rfl
            clear hbq BD
            go_upto_region 35 with fail
            refine wp_region_held_drew (S := fun Y => Y.heap[cB]? = wr.heap[cB]?) (by kernel_rfl) rfl (fun hHeld => ?_)
            refine wpAnyH_take (i := 0) (v := (.pointer (some ⟨C, 0, none⟩))) rfl (by kernel_rfl) (by kernel_rfl) (by kernel_rfl) (fun _ _ _ h => h) (Or.inl ⟨by kernel_rfl, ?_⟩) (by assumption) ?_
            · intro w' hSw
              (try dsimp only at hSw)
              go_simp
            (try simp only [Act.put, List.getElem_toArray, List.getElem_cons_zero, List.getElem_cons_succ, List.setIfInBounds_toArray, List.set_cons_zero, List.set_cons_succ])
            refine wpAnyH_take (i := 1) (v := (.agg (clA st X (.slice ao ns.length cap)))) rfl (by kernel_rfl) (by kernel_rfl) (by kernel_rfl) (fun _ _ _ h => h) (Or.inl ⟨by kernel_rfl, ?_⟩) (by assumption) ?_
            · intro w' hSw
              (try dsimp only at hSw)
              exact exec_ldR 26 (.tmp 13) rfl (by kernel_rfl) _ (hSw.trans HCk.out) Try.underlying26 infoCl
            (try simp only [Act.put, List.getElem_toArray, List.getElem_cons_zero, List.getElem_cons_succ, List.setIfInBounds_toArray, List.set_cons_zero, List.set_cons_succ])
            refine wpAnyH_take (i := 2) (v := (.int .i64 v)) rfl (by kernel_rfl) (by kernel_rfl) (by kernel_rfl) (fun _ _ _ h => h) (Or.inl ⟨by kernel_rfl, ?_⟩) (by assumption) ?_
            · intro w' hSw
              (try dsimp only at hSw)
              go_simp
            (try simp only [Act.put, List.getElem_toArray, List.getElem_cons_zero, List.getElem_cons_succ, List.setIfInBounds_toArray, List.set_cons_zero, List.set_cons_succ])
            refine wpAnyH_take (i := 3) (v := (.int .i64 h)) rfl (by kernel_rfl) (by kernel_rfl) (by kernel_rfl) (fun _ _ _ h => h) (Or.inl ⟨by kernel_rfl, ?_⟩) (by assumption) ?_
            · intro w' hSw
              (try dsimp only at hSw)
              go_simp
            (try simp only [Act.put, List.getElem_toArray, List.getElem_cons_zero, List.getElem_cons_succ, List.setIfInBounds_toArray, List.set_cons_zero, List.set_cons_succ])
            refine wpAnyH_take (i := 4) (v := (.int .i64 bad)) rfl (by kernel_rfl) (by kernel_rfl) (by kernel_rfl) (fun _ _ _ h => h) (Or.inl ⟨by kernel_rfl, ?_⟩) (by assumption) ?_
            · intro w' hSw
              (try dsimp only at hSw)
              go_simp
            (try simp only [Act.put, List.getElem_toArray, List.getElem_cons_zero, List.getElem_cons_succ, List.setIfInBounds_toArray, List.set_cons_zero, List.set_cons_succ])
            refine wpAnyH_take (i := 5) (v := (.pointer (some ⟨cB, 22, none⟩))) rfl (by kernel_rfl) (by kernel_rfl) (by kernel_rfl) (fun _ _ _ h => h) (Or.inl ⟨by kernel_rfl, ?_⟩) (by assumption) ?_
            · intro w' hSw
              (try dsimp only at hSw)
              go_simp
            (try simp only [Act.put, List.getElem_toArray, List.getElem_cons_zero, List.getElem_cons_succ, List.setIfInBounds_toArray, List.set_cons_zero, List.set_cons_succ])
            refine wpAnyH_take (i := 6) (v := (.slice ao ns.length cap)) rfl (by kernel_rfl) (by kernel_rfl) (by kernel_rfl) (fun _ _ _ h => h) (Or.inl ⟨by kernel_rfl, ?_⟩) (by assumption) ?_
            · intro w' hSw
              (try dsimp only at hSw)
              (have z := F22.out _ hSw; go_simp)
            (try simp only [Act.put, List.getElem_toArray, List.getElem_cons_zero, List.getElem_cons_succ, List.setIfInBounds_toArray, List.set_cons_zero, List.set_cons_succ])
            refine wpAnyH_take (i := 7) (v := (.int .i64 (ns.length : Int))) rfl (by kernel_rfl) (by kernel_rfl) (by kernel_rfl) (fun _ _ _ h => h) (Or.inl ⟨by kernel_rfl, ?_⟩) (by assumption) ?_
            · intro w' hSw
              (try dsimp only at hSw)
              go_simp
            (try simp only [Act.put, List.getElem_toArray, List.getElem_cons_zero, List.getElem_cons_succ, List.setIfInBounds_toArray, List.set_cons_zero, List.set_cons_succ])
            refine wpAnyH_callTake (i := 8) (v := (.int .i64 bq)) rfl (by kernel_rfl) (by kernel_rfl) (by kernel_rfl) (fun _ _ _ h => h) (by kernel_rfl) 8 #[.int .i64 bad, .int .i64 (ns.length : Int)] (fun w' => by kernel_rfl) (fun w' hSw => MO.out w') (by assumption) ?_
            (try simp only [Act.put, List.getElem_toArray, List.getElem_cons_zero, List.getElem_cons_succ, List.setIfInBounds_toArray, List.set_cons_zero, List.set_cons_succ])
            refine wpAnyH_take (i := 9) (v := (.int .i64 (J : Int))) rfl (by kernel_rfl) (by kernel_rfl) (by kernel_rfl) (fun _ _ _ h => h) (Or.inl ⟨by kernel_rfl, ?_⟩) (by assumption) ?_
            · intro w' hSw
              (try dsimp only at hSw)
              go_simp
            (try simp only [Act.put, List.getElem_toArray, List.getElem_cons_zero, List.getElem_cons_succ, List.setIfInBounds_toArray, List.set_cons_zero, List.set_cons_succ])
            refine wpAnyH_take (i := 10) (v := (.int .i64 ((J : Int) + 4))) rfl (by kernel_rfl) (by kernel_rfl) (by kernel_rfl) (fun _ _ _ h => h) (Or.inl ⟨by kernel_rfl, ?_⟩) (by assumption) ?_
            · intro w' hSw
              (try dsimp only at hSw)
              (go_simp; exact i64_in (by omega) (by omega))
            (try simp only [Act.put, List.getElem_toArray, List.getElem_cons_zero, List.getElem_cons_succ, List.setIfInBounds_toArray, List.set_cons_zero, List.set_cons_succ])
            refine wpAnyH_ready (rs := [11]) (by kernel_rfl) (by simp) ?_
            refine AllReadyH.cons rfl (fun K hK => ?_) AllReadyH.nil
            go_simp
            refine Calls.mono TB.out ?_
            rintro e WA ⟨rfl, kA⟩
            have CA : Hid (WA.heap[cB]? = wr.heap[cB]?) := (getL kA CD.out nS.out).trans HCk.out.symm
            have BA : Hid (Below w.heap.size w WA) := ((Kp.of_below BW.out non).trans kA (fun k e => Or.inr (HSk.out k e).1)).below
            clear kA TB
            refine hK.out _ _ (CA.out) (fun hHeld => ?_)
            clear hK
            (try simp only [Act.put, List.setIfInBounds_toArray, List.set_cons_zero, List.set_cons_succ])
            refine wpAnyH_ready (rs := [12]) (by kernel_rfl) (by simp) ?_
            refine AllReadyH.cons rfl (fun K hK => ?_) AllReadyH.nil
            go_simp
            refine hK.out _ _ (CA.out) (fun hHeld => ?_)
            clear hK
            (try simp only [Act.put, List.setIfInBounds_toArray, List.set_cons_zero, List.set_cons_succ])
            refine wpAnyH_done (by kernel_rfl) ?_ _
            clear hHeld
            go_wp2_with fail
            go_ret
            exact ⟨rfl, BA.out⟩
      · have q1 : decide (i < n) = false := decide_eq_false hq1
        have hii : ¬ ((i : Int) < (n : Int)) := by omega
        clear hin hq1
        have nS : Hid (¬ S' cB) := fun e => (HSi.out cB e).2 rfl
        go_wp2_with (refine wpList_ldR rfl 26 (.tmp 13) rfl cB (by kernel_rfl) _ _ HCi.out Try.underlying26 infoCl ?_)
        refine Calls.mono IX.out ?_
        rintro e W7 ⟨rfl, S7, c7, x7, f7, p7, n7, u7, s7, k7⟩
        have X7 := hide x7
        have F7 := hide f7
        have E7 : Hid (c7.ph = none ∧ c7.num + 1 = (J : Int) + 1 ∧ c7.ru = u) := ⟨p7, by rw [n7, HEi.out.1], u7.trans HEi.out.2⟩
        have C7 : Hid (ClAt W7 cB st X (.slice ao ns.length cap)) := getL k7 HCi.out nS.out
        have B7 : Hid (Below w.heap.size w W7) := ((Kp.of_below HBi.out non).trans k7 (fun k e => Or.inr (HSi.out k e).1)).below
        have G7 : Hid (∀ k, S7 k → w.heap.size ≤ k ∧ k ≠ cB) := fun k e => by
          rcases s7 k e with q | q
          · exact HSi.out k q
          · have := blk_lt HCi.out
            have := HBi.out.size
            omega
        clear x7 f7 p7 n7 u7 s7 k7 IX HXi HFi HSi HBi HCi nS
        go_upto_region 28 with fail
        have MO0 := mod15_any version 999999 (by omega) (by omega) W7
        obtain ⟨r0, hr0⟩ : ∃ q, version % 999999 = q := ⟨_, rfl⟩
        have r01 : 0 ≤ r0 := by rw [← hr0]; exact Int.emod_nonneg _ (by omega)
        have r02 : r0 < 999999 := by rw [← hr0]; exact Int.emod_lt_of_pos _ (by omega)
        rw [hr0] at MO0
        replace MO0 := hide MO0
        obtain ⟨v, hv⟩ : ∃ y, y = 1 + r0 := ⟨_, rfl⟩
        go_upto_region 29 with (go_at_call 8; refine Calls.mono MO0.out ?_; rintro e w' ⟨rfl, rfl⟩)
        rw [← hv]
        have hiv : Hid (isV v = true) := by show isV v = true; simp [isV]; omega
        clear hv hr0 r01 r02 MO0
        have MO1 := mod15_any holds 999999 (by omega) (by omega) W7
        obtain ⟨r1, hr1⟩ : ∃ q, holds % 999999 = q := ⟨_, rfl⟩
        have r11 : 0 ≤ r1 := by rw [← hr1]; exact Int.emod_nonneg _ (by omega)
        have r12 : r1 < 999999 := by rw [← hr1]; exact Int.emod_lt_of_pos _ (by omega)
        rw [hr1] at MO1
        replace MO1 := hide MO1
        obtain ⟨h, hh⟩ : ∃ y, y = 1 + r1 := ⟨_, rfl⟩
        go_upto_region 30 with (go_at_call 8; refine Calls.mono MO1.out ?_; rintro e w' ⟨rfl, rfl⟩)
        rw [← hh]
        clear hh hr1 r11 r12 MO1
        go_wp2_with fail
        go_loopw [23] (fun vk wk => ∃ (k : Int) (ck : Ct) (Sk : Nat → Prop), 1 ≤ k ∧ k ≤ 4 ∧ vk = .int .i64 k ∧ Hid (CtAt wk Sk C ck) ∧ Hid ck.fine ∧ Hid (ck.ph = none ∧ ck.num + 1 = (J : Int) + k ∧ ck.ru = u) ∧ Hid (∀ q, Sk q → w.heap.size ≤ q ∧ q ≠ cB) ∧ Hid (Below w.heap.size w wk) ∧ Hid (ClAt wk cB st X (.slice ao ns.length cap))) (fun vk _ => 4 - (intOf vk).toNat)
        case atStart => exact ⟨1, c7, S7, by omega, by omega, rfl, X7.out, F7.out, E7.out, G7.out, B7.out, C7.out⟩
        case round =>
          obtain ⟨k, ck, Sk, hk1, hk4, rfl, HXk, HFk, HEk, HSk, HBk, HCk⟩ := hrel
          clear X7 F7 E7 G7 B7 C7
          have UNk : Hid (ck.ru.n = ns.length) := by rw [HEk.out.2.2]; exact UN.out.1
          have hJm : (J : Int) ≤ 1099511627776 := by omega
          have hkk : k = 1 ∨ k = 2 ∨ k = 3 ∨ k = 4 := by omega
          clear hk1 hk4
          rcases hkk with rfl | rfl | rfl | rfl
          · have GO := hide (goes_1 HXk.out HFk.out HEk.out.1 (by have := HEk.out.2.1; omega) st X ao ns.length cap UNk.out v h ((J : Int) + 1) hiv.out HEk.out.2.1.symm)
            go_wp2_with (refine wpList_ldR rfl 26 (.tmp 13) rfl cB (by kernel_rfl) _ _ HCk.out Try.underlying26 infoCl ?_)
            refine Calls.mono GO.out ?_
            rintro e W9 ⟨rfl, S9, x9, s9, k9⟩
            have nSk : ¬ Sk cB := fun e => (HSk.out cB e).2 rfl
            have X9 := hide x9
            have C9 : Hid (ClAt W9 cB st X (.slice ao ns.length cap)) := getL k9 HCk.out nSk
            have B9 : Hid (Below w.heap.size w W9) := ((Kp.of_below HBk.out non).trans k9 (fun k e => Or.inr (HSk.out k e).1)).below
            have G9 : Hid (∀ k, S9 k → w.heap.size ≤ k ∧ k ≠ cB) := fun k e => by
              rcases s9 k e with q | q
              · exact HSk.out k q
              · have := blk_lt HCk.out
                have := HBk.out.size
                omega
            have F9 := hide (fin_fine HFk.out (by have := HEk.out.2.1; omega) 1 v h 1)
            clear x9 s9 k9 GO nSk
            go_wp2_with fail
            go_roundw
            case rel => exact ⟨2, finC ck 1 v h 1, S9, by omega, by omega, rfl, X9.out, F9.out, ⟨rfl, by show ck.num + 1 + 1 = _; have := HEk.out.2.1; omega, HEk.out.2.2⟩, G9.out, B9.out, C9.out⟩
            case measure => simp [intOf]
          · have GO := hide (goes_2 HXk.out HFk.out HEk.out.1 (by have := HEk.out.2.1; omega) st X ao ns.length cap UNk.out v h ((J : Int) + 2) hiv.out HEk.out.2.1.symm)
            go_wp2_with (refine wpList_ldR rfl 26 (.tmp 13) rfl cB (by kernel_rfl) _ _ HCk.out Try.underlying26 infoCl ?_)
            refine Calls.mono GO.out ?_
            rintro e W9 ⟨rfl, S9, x9, s9, k9⟩
            have nSk : ¬ Sk cB := fun e => (HSk.out cB e).2 rfl
            have X9 := hide x9
            have C9 : Hid (ClAt W9 cB st X (.slice ao ns.length cap)) := getL k9 HCk.out nSk
            have B9 : Hid (Below w.heap.size w W9) := ((Kp.of_below HBk.out non).trans k9 (fun k e => Or.inr (HSk.out k e).1)).below
            have G9 : Hid (∀ k, S9 k → w.heap.size ≤ k ∧ k ≠ cB) := fun k e => by
              rcases s9 k e with q | q
              · exact HSk.out k q
              · have := blk_lt HCk.out
                have := HBk.out.size
                omega
            have F9 := hide (fin_fine HFk.out (by have := HEk.out.2.1; omega) 2 v h 1)
            clear x9 s9 k9 GO nSk
            go_wp2_with fail
            go_roundw
            case rel => exact ⟨3, finC ck 2 v h 1, S9, by omega, by omega, rfl, X9.out, F9.out, ⟨rfl, by show ck.num + 1 + 1 = _; have := HEk.out.2.1; omega, HEk.out.2.2⟩, G9.out, B9.out, C9.out⟩
            case measure => simp [intOf]
          · have GO := hide (goes_3 HXk.out HFk.out HEk.out.1 (by have := HEk.out.2.1; omega) st X ao ns.length cap UNk.out v h ((J : Int) + 3) hiv.out HEk.out.2.1.symm)
            go_wp2_with (refine wpList_ldR rfl 26 (.tmp 13) rfl cB (by kernel_rfl) _ _ HCk.out Try.underlying26 infoCl ?_)
            refine Calls.mono GO.out ?_
            rintro e W9 ⟨rfl, S9, x9, s9, k9⟩
            have nSk : ¬ Sk cB := fun e => (HSk.out cB e).2 rfl
            have X9 := hide x9
            have C9 : Hid (ClAt W9 cB st X (.slice ao ns.length cap)) := getL k9 HCk.out nSk
            have B9 : Hid (Below w.heap.size w W9) := ((Kp.of_below HBk.out non).trans k9 (fun k e => Or.inr (HSk.out k e).1)).below
            have G9 : Hid (∀ k, S9 k → w.heap.size ≤ k ∧ k ≠ cB) := fun k e => by
              rcases s9 k e with q | q
              · exact HSk.out k q
              · have := blk_lt HCk.out
                have := HBk.out.size
                omega
            have F9 := hide (fin_fine HFk.out (by have := HEk.out.2.1; omega) 3 0 h 1)
            clear x9 s9 k9 GO nSk
            go_wp2_with fail
            go_roundw
            case rel => exact ⟨4, finC ck 3 0 h 1, S9, by omega, by omega, rfl, X9.out, F9.out, ⟨rfl, by show ck.num + 1 + 1 = _; have := HEk.out.2.1; omega, HEk.out.2.2⟩, G9.out, B9.out, C9.out⟩
            case measure => simp [intOf]
          · have nS : Hid (¬ Sk cB) := fun e => (HSk.out cB e).2 rfl
            have BD : Below wr.heap.size wr wr.drew := (Below.refl _ wr).drew
            have bn0 : (1 : Int) ≤ (ns.length : Int) := by have := n16.1; omega
            have MO := hide (mod15_any bad (ns.length : Int) bn0 (by have := n16.2; omega))
            obtain ⟨bq, hbq⟩ : ∃ q, bad % (ns.length : Int) = q := ⟨_, rfl⟩
            have TB := hide (takenBack_any (HXk.out.below BD) HFk.out HEk.out.1 (by have := HEk.out.2.1; omega) st X ao ns.length cap UNk.out v h bq ((J : Int) + 4) hiv.out HEk.out.2.1.symm (by rw [← hbq]; exact Int.emod_nonneg _ (by omega)) (by rw [← hbq]; exact Int.emod_lt_of_pos _ (by omega)))
            rw [hbq] at MO
            have CD : Hid (ClAt wr.drew cB st X (.slice ao ns.length cap)) := HCk.out.below BD
            have BW : Hid (Below w.heap.size w wr.drew) := HBk.out.drew
            have F22 : Hid (∀ Y : World, Y.heap[cB]? = wr.heap[cB]? → Y.cell? ⟨cB, 22, none⟩ = some (.slice ao ns.length cap)) := fun Y hY => by
              have h1 : ClAt Y cB st X (.slice ao ns.length cap) := hY.trans HCk.out
              rw [cell_row h1]; rfl
            clear hbq BD
            go_upto_region 35 with fail
            refine wp_region_held_drew (S := fun Y => Y.heap[cB]? = wr.heap[cB]?) (by kernel_rfl) rfl (fun hHeld => ?_)
            refine wpAnyH_take (i := 0) (v := (.pointer (some ⟨C, 0, none⟩))) rfl (by kernel_rfl) (by kernel_rfl) (by kernel_rfl) (fun _ _ _ h => h) (Or.inl ⟨by kernel_rfl, ?_⟩) (by assumption) ?_
            · intro w' hSw
              (try dsimp only at hSw)
              go_simp
            (try simp only [Act.put, List.getElem_toArray, List.getElem_cons_zero, List.getElem_cons_succ, List.setIfInBounds_toArray, List.set_cons_zero, List.set_cons_succ])
            refine wpAnyH_take (i := 1) (v := (.agg (clA st X (.slice ao ns.length cap)))) rfl (by kernel_rfl) (by kernel_rfl) (by kernel_rfl) (fun _ _ _ h => h) (Or.inl ⟨by kernel_rfl, ?_⟩) (by assumption) ?_
            · intro w' hSw
              (try dsimp only at hSw)
              exact exec_ldR 26 (.tmp 13) rfl (by kernel_rfl) _ (hSw.trans HCk.out) Try.underlying26 infoCl
            (try simp only [Act.put, List.getElem_toArray, List.getElem_cons_zero, List.getElem_cons_succ, List.setIfInBounds_toArray, List.set_cons_zero, List.set_cons_succ])
            refine wpAnyH_take (i := 2) (v := (.int .i64 v)) rfl (by kernel_rfl) (by kernel_rfl) (by kernel_rfl) (fun _ _ _ h => h) (Or.inl ⟨by kernel_rfl, ?_⟩) (by assumption) ?_
            · intro w' hSw
              (try dsimp only at hSw)
              go_simp
            (try simp only [Act.put, List.getElem_toArray, List.getElem_cons_zero, List.getElem_cons_succ, List.setIfInBounds_toArray, List.set_cons_zero, List.set_cons_succ])
            refine wpAnyH_take (i := 3) (v := (.int .i64 h)) rfl (by kernel_rfl) (by kernel_rfl) (by kernel_rfl) (fun _ _ _ h => h) (Or.inl ⟨by kernel_rfl, ?_⟩) (by assumption) ?_
            · intro w' hSw
              (try dsimp only at hSw)
              go_simp
            (try simp only [Act.put, List.getElem_toArray, List.getElem_cons_zero, List.getElem_cons_succ, List.setIfInBounds_toArray, List.set_cons_zero, List.set_cons_succ])
            refine wpAnyH_take (i := 4) (v := (.int .i64 bad)) rfl (by kernel_rfl) (by kernel_rfl) (by kernel_rfl) (fun _ _ _ h => h) (Or.inl ⟨by kernel_rfl, ?_⟩) (by assumption) ?_
            · intro w' hSw
              (try dsimp only at hSw)
              go_simp
            (try simp only [Act.put, List.getElem_toArray, List.getElem_cons_zero, List.getElem_cons_succ, List.setIfInBounds_toArray, List.set_cons_zero, List.set_cons_succ])
            refine wpAnyH_take (i := 5) (v := (.pointer (some ⟨cB, 22, none⟩))) rfl (by kernel_rfl) (by kernel_rfl) (by kernel_rfl) (fun _ _ _ h => h) (Or.inl ⟨by kernel_rfl, ?_⟩) (by assumption) ?_
            · intro w' hSw
              (try dsimp only at hSw)
              go_simp
            (try simp only [Act.put, List.getElem_toArray, List.getElem_cons_zero, List.getElem_cons_succ, List.setIfInBounds_toArray, List.set_cons_zero, List.set_cons_succ])
            refine wpAnyH_take (i := 6) (v := (.slice ao ns.length cap)) rfl (by kernel_rfl) (by kernel_rfl) (by kernel_rfl) (fun _ _ _ h => h) (Or.inl ⟨by kernel_rfl, ?_⟩) (by assumption) ?_
            · intro w' hSw
              (try dsimp only at hSw)
              (have z := F22.out _ hSw; go_simp)
            (try simp only [Act.put, List.getElem_toArray, List.getElem_cons_zero, List.getElem_cons_succ, List.setIfInBounds_toArray, List.set_cons_zero, List.set_cons_succ])
            refine wpAnyH_take (i := 7) (v := (.int .i64 (ns.length : Int))) rfl (by kernel_rfl) (by kernel_rfl) (by kernel_rfl) (fun _ _ _ h => h) (Or.inl ⟨by kernel_rfl, ?_⟩) (by assumption) ?_
            · intro w' hSw
              (try dsimp only at hSw)
              go_simp
            (try simp only [Act.put, List.getElem_toArray, List.getElem_cons_zero, List.getElem_cons_succ, List.setIfInBounds_toArray, List.set_cons_zero, List.set_cons_succ])
            refine wpAnyH_callTake (i := 8) (v := (.int .i64 bq)) rfl (by kernel_rfl) (by kernel_rfl) (by kernel_rfl) (fun _ _ _ h => h) (by kernel_rfl) 8 #[.int .i64 bad, .int .i64 (ns.length : Int)] (fun w' => by kernel_rfl) (fun w' hSw => MO.out w') (by assumption) ?_
            (try simp only [Act.put, List.getElem_toArray, List.getElem_cons_zero, List.getElem_cons_succ, List.setIfInBounds_toArray, List.set_cons_zero, List.set_cons_succ])
            refine wpAnyH_take (i := 9) (v := (.int .i64 (J : Int))) rfl (by kernel_rfl) (by kernel_rfl) (by kernel_rfl) (fun _ _ _ h => h) (Or.inl ⟨by kernel_rfl, ?_⟩) (by assumption) ?_
            · intro w' hSw
              (try dsimp only at hSw)
              go_simp
            (try simp only [Act.put, List.getElem_toArray, List.getElem_cons_zero, List.getElem_cons_succ, List.setIfInBounds_toArray, List.set_cons_zero, List.set_cons_succ])
            refine wpAnyH_take (i := 10) (v := (.int .i64 ((J : Int) + 4))) rfl (by kernel_rfl) (by kernel_rfl) (by kernel_rfl) (fun _ _ _ h => h) (Or.inl ⟨by kernel_rfl, ?_⟩) (by assumption) ?_
            · intro w' hSw
              (try dsimp only at hSw)
              (go_simp; exact i64_in (by omega) (by omega))
            (try simp only [Act.put, List.getElem_toArray, List.getElem_cons_zero, List.getElem_cons_succ, List.setIfInBounds_toArray, List.set_cons_zero, List.set_cons_succ])
            refine wpAnyH_ready (rs := [11]) (by kernel_rfl) (by simp) ?_
            refine AllReadyH.cons rfl (fun K hK => ?_) AllReadyH.nil
            go_simp
            refine Calls.mono TB.out ?_
            rintro e WA ⟨rfl, kA⟩
            have CA : Hid (WA.heap[cB]? = wr.heap[cB]?) := (getL kA CD.out nS.out).trans HCk.out.symm
            have BA : Hid (Below w.heap.size w WA) := ((Kp.of_below BW.out non).trans kA (fun k e => Or.inr (HSk.out k e).1)).below
            clear kA TB
            refine hK.out _ _ (CA.out) (fun hHeld => ?_)
            clear hK
            (try simp only [Act.put, List.setIfInBounds_toArray, List.set_cons_zero, List.set_cons_succ])
            refine wpAnyH_ready (rs := [12]) (by kernel_rfl) (by simp) ?_
            refine AllReadyH.cons rfl (fun K hK => ?_) AllReadyH.nil
            go_simp
            refine hK.out _ _ (CA.out) (fun hHeld => ?_)
            clear hK
            (try simp only [Act.put, List.setIfInBounds_toArray, List.set_cons_zero, List.set_cons_succ])
            refine wpAnyH_done (by kernel_rfl) ?_ _
            clear hHeld
            go_wp2_with fail
            go_ret
            exact ⟨rfl, BA.out⟩
end Go.Proofs.Ytpmicmhkahgjcaa.Cn
