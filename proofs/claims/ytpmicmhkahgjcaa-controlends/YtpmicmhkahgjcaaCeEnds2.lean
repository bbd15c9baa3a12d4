import Derived.Test.YtpmicmhkahgjcaaGCePure
import Derived.Test.YtpmicmhkahgjcaaCdGoes
namespace Go.Proofs.Ytpmicmhkahgjcaa.Cn
open Go.RowKit
set_option maxHeartbeats 16000000 in
set_option maxRecDepth 100000 in
set_option linter.unusedSimpArgs false in
set_option linter.unusedVariables false in
theorem ends_2 (w : World) (nodes a b c kind version : Int) (ao' : Option Addr) (bb oo cap' : Nat) (L : List Mg) (hL : RwAt 11 mgV w.heap.size w ao' bb oo L) (hkd : kind % 3 = 1) :
    Calls Try.prog 4 #[.int .i64 nodes, .agg #[.int .i64 a, .int .i64 b, .int .i64 c], .int .i64 kind, .int .i64 version, .slice ao' L.length cap'] w fun e w' => e = .returned (.bool true) ∧ Below w.heap.size w w' := by
  have HKD := hide hkd
  clear hkd
  obtain ⟨W0, hW0⟩ : ∃ W0, W0 = w.alloc (.cells #[.int .i64 a, .int .i64 b, .int .i64 c] 23) := ⟨_, rfl⟩
  have b0 : Hid (Below w.heap.size w W0) := by rw [hW0]; exact (Below.refl _ w).alloc (Nat.le_refl _) _
  have m0 : W0.heap[w.heap.size]? = some (.cells #[.int .i64 a, .int .i64 b, .int .i64 c] 23) := by rw [hW0]; exact heap_last _ _
  have T0 := hide m0
  have t0 : W0.cell? ⟨w.heap.size, 0, none⟩ = some (.int .i64 a) := by rw [cell_row m0]; rfl
  have t1 : W0.cell? ⟨w.heap.size, 1, none⟩ = some (.int .i64 b) := by rw [cell_row m0]; rfl
  have t2 : W0.cell? ⟨w.heap.size, 2, none⟩ = some (.int .i64 c) := by rw [cell_row m0]; rfl
  have s0 : Hid (W0.heap.size = w.heap.size + 1) := by rw [hW0]; exact World.size_alloc _ _
  have MA := hide (made15_any W0 nodes a b c)
  clear m0
  have HLL := hide hL
  have hlen := hL.len
  obtain ⟨n, hn⟩ : ∃ n, n = L.length := ⟨_, rfl⟩
  have HN := hide hn
  rw [← hn] at hlen ⊢
  clear hL hn
  go_enter Try.func4, Try.ntmps4
  go_upto_region 1 with fail
  rw [← hW0]
  clear hW0
  go_wp2_with fail
  refine Calls.mono MA.out ?_
  rintro e W1 ⟨st, x, ns, vl, zs, base, rfl, hz, hT, hE, hs, x14, x15, x16, hb⟩
  obtain ⟨nm_, hsf, hnf, hdl, kp_⟩ := errP_all hE
  have n16 := nfP_len hnf
  obtain ⟨ao, nb, cap, pv, hvl, hns⟩ := tw_read hT hz n16.2 hdl.p2
  subst hvl
  have HE := hide hE
  have HS : Hid (st.size ≤ 9223372036854775807) := Nat.le_trans hs (by decide)
  obtain ⟨W2, hW2⟩ : ∃ W2, W2 = W1.alloc (.cells (clA st x (.slice ao ns.length cap)) 26) := ⟨_, rfl⟩
  obtain ⟨cB, hcB⟩ : ∃ cB, cB = W1.heap.size := ⟨_, rfl⟩
  have C2' : Hid (ClAt W2 cB st x (.slice ao ns.length cap)) := by rw [hW2, hcB]; exact new_cl _ _ _ _
  have b2 : Below W1.heap.size W1 W2 := by rw [hW2]; exact (Below.refl _ W1).alloc (Nat.le_refl _) _
  have N2 : Hid (NsAt cB W2 ao nb 0 pv ns) := by rw [hcB]; exact hns.below b2
  have BW2 : Hid (Below W0.heap.size W0 W2) := hb.trans (b2.mono hb.size)
  have clt : Hid (W0.heap.size ≤ cB) := by rw [hcB]; exact hb.size
  have HCB := hide hcB
  have NN : Hid (cB < W2.heap.size) := blk_lt C2'.out
  replace hW2 := hide hW2
  clear nm_ kp_ hsf hnf hdl hT hz hE x14 x15 x16 hb b2 hns MA t0 t1 t2 hs hcB
  go_upto_region 2 with (refine wpList_storeCl (w0 := W1) rfl (.tmp 11) (.tmp 26) rfl W1.heap.size (by kernel_rfl) rfl st x (.slice ao ns.length cap) rfl (by kernel_rfl) _ rfl rfl ?_)
  rw [← hW2.out, ← HCB.out]
  clear hW2
  have KT0 : Hid (W2.heap[w.heap.size]? = some (.cells #[.int .i64 a, .int .i64 b, .int .i64 c] 23)) := (BW2.out.block _ (blk_lt T0.out)).trans T0.out
  have K0 : Hid (W2.heap[w.heap.size]? = some (.cells #[.int .i64 a, .int .i64 b, .int .i64 c] 23)) := KT0.out
  have t0 : W2.cell? ⟨w.heap.size, 0, none⟩ = some (.int .i64 a) := by rw [cell_row K0.out]; rfl
  have MO0 := mod15_any a 16 (by omega) (by omega) W2
  obtain ⟨q0, hq0⟩ : ∃ q, a % 16 = q := ⟨_, rfl⟩
  have e01 : 0 ≤ q0 := by rw [← hq0]; exact Int.emod_nonneg _ (by omega)
  have e02 : q0 < 16 := by rw [← hq0]; exact Int.emod_lt_of_pos _ (by omega)
  rw [hq0] at MO0
  clear hq0
  replace MO0 := hide MO0
  have cx0 := C2'.out.atI 14 (by omega)
  have cz0 := C2'.out.fzI 15
  obtain ⟨y0, hy0⟩ : ∃ y, y = 1 + q0 := ⟨_, rfl⟩
  obtain ⟨W3, hW3⟩ : ∃ W, W = W2.setCell ⟨cB, 15, none⟩ (.int .i64 y0) := ⟨_, rfl⟩
  have C3' : Hid (ClAt W3 cB st (upd x 14 y0) (.slice ao ns.length cap)) := by rw [hW3]; exact C2'.out.setI 14 (by omega) y0
  have BB3 : Below cB W2 W3 := by rw [hW3]; exact below_setC (Below.refl _ _) (Nat.le_refl _)
  have KT1 : Hid (W3.heap[w.heap.size]? = some (.cells #[.int .i64 a, .int .i64 b, .int .i64 c] 23)) := (BB3.block _ (by have := clt.out; have := s0.out; omega)).trans K0.out
  have BW3 : Hid (Below W0.heap.size W0 W3) := by rw [hW3]; exact below_setC BW2.out clt.out
  have N3 : Hid (NsAt cB W3 ao nb 0 pv ns) := N2.out.below BB3
  have HY0 : 1 ≤ y0 ∧ y0 ≤ 16 := ⟨by omega, by omega⟩
  replace hW3 := hide hW3
  go_upto_region 3 with (go_at_call 8; refine Calls.mono MO0.out ?_; rintro e w' ⟨rfl, rfl⟩)
  rw [← hy0]
  rw [← hW3.out]
  clear hW3 t0 cx0 cz0 hy0 e01 e02 MO0 BB3 K0 N2 C2' BW2
  have K1 : Hid (W3.heap[w.heap.size]? = some (.cells #[.int .i64 a, .int .i64 b, .int .i64 c] 23)) := KT1.out
  have t1 : W3.cell? ⟨w.heap.size, 1, none⟩ = some (.int .i64 b) := by rw [cell_row K1.out]; rfl
  have MO1 := mod15_any b 8 (by omega) (by omega) W3
  obtain ⟨q1, hq1⟩ : ∃ q, b % 8 = q := ⟨_, rfl⟩
  have e11 : 0 ≤ q1 := by rw [← hq1]; exact Int.emod_nonneg _ (by omega)
  have e12 : q1 < 8 := by rw [← hq1]; exact Int.emod_lt_of_pos _ (by omega)
  rw [hq1] at MO1
  clear hq1
  replace MO1 := hide MO1
  have cx1 := C3'.out.atI 15 (by omega)
  have cz1 := C3'.out.fzI 16
  obtain ⟨y1, hy1⟩ : ∃ y, y = 1 + q1 := ⟨_, rfl⟩
  obtain ⟨W4, hW4⟩ : ∃ W, W = W3.setCell ⟨cB, 16, none⟩ (.int .i64 y1) := ⟨_, rfl⟩
  have C4' : Hid (ClAt W4 cB st (upd (upd x 14 y0) 15 y1) (.slice ao ns.length cap)) := by rw [hW4]; exact C3'.out.setI 15 (by omega) y1
  have BB4 : Below cB W3 W4 := by rw [hW4]; exact below_setC (Below.refl _ _) (Nat.le_refl _)
  have KT2 : Hid (W4.heap[w.heap.size]? = some (.cells #[.int .i64 a, .int .i64 b, .int .i64 c] 23)) := (BB4.block _ (by have := clt.out; have := s0.out; omega)).trans K1.out
  have BW4 : Hid (Below W0.heap.size W0 W4) := by rw [hW4]; exact below_setC BW3.out clt.out
  have N4 : Hid (NsAt cB W4 ao nb 0 pv ns) := N3.out.below BB4
  have HY1 : 1 ≤ y1 ∧ y1 ≤ 8 := ⟨by omega, by omega⟩
  replace hW4 := hide hW4
  go_upto_region 4 with (go_at_call 8; refine Calls.mono MO1.out ?_; rintro e w' ⟨rfl, rfl⟩)
  rw [← hy1]
  rw [← hW4.out]
  clear hW4 t1 cx1 cz1 hy1 e11 e12 MO1 BB4 K1 N3 C3' BW3
  have K2 : Hid (W4.heap[w.heap.size]? = some (.cells #[.int .i64 a, .int .i64 b, .int .i64 c] 23)) := KT2.out
  have t2 : W4.cell? ⟨w.heap.size, 2, none⟩ = some (.int .i64 c) := by rw [cell_row K2.out]; rfl
  have MO2 := mod15_any c 256 (by omega) (by omega) W4
  obtain ⟨q2, hq2⟩ : ∃ q, c % 256 = q := ⟨_, rfl⟩
  have e21 : 0 ≤ q2 := by rw [← hq2]; exact Int.emod_nonneg _ (by omega)
  have e22 : q2 < 256 := by rw [← hq2]; exact Int.emod_lt_of_pos _ (by omega)
  rw [hq2] at MO2
  clear hq2
  replace MO2 := hide MO2
  have cx2 := C4'.out.atI 16 (by omega)
  have cz2 := C4'.out.fzI 17
  obtain ⟨y2, hy2⟩ : ∃ y, y = 1 + q2 := ⟨_, rfl⟩
  obtain ⟨W5, hW5⟩ : ∃ W, W = W4.setCell ⟨cB, 17, none⟩ (.int .i64 y2) := ⟨_, rfl⟩
  have C5' : Hid (ClAt W5 cB st (upd (upd (upd x 14 y0) 15 y1) 16 y2) (.slice ao ns.length cap)) := by rw [hW5]; exact C4'.out.setI 16 (by omega) y2
  have BB5 : Below cB W4 W5 := by rw [hW5]; exact below_setC (Below.refl _ _) (Nat.le_refl _)
  have KT3 : Hid (W5.heap[w.heap.size]? = some (.cells #[.int .i64 a, .int .i64 b, .int .i64 c] 23)) := (BB5.block _ (by have := clt.out; have := s0.out; omega)).trans K2.out
  have BW5 : Hid (Below W0.heap.size W0 W5) := by rw [hW5]; exact below_setC BW4.out clt.out
  have N5 : Hid (NsAt cB W5 ao nb 0 pv ns) := N4.out.below BB5
  have HY2 : 1 ≤ y2 ∧ y2 ≤ 256 := ⟨by omega, by omega⟩
  replace hW5 := hide hW5
  go_upto_region 5 with (go_at_call 8; refine Calls.mono MO2.out ?_; rintro e w' ⟨rfl, rfl⟩)
  rw [← hy2]
  rw [← hW5.out]
  clear hW5 t2 cx2 cz2 hy2 e21 e22 MO2 BB5 K2 N4 C4' BW4
  obtain ⟨X, hX⟩ : ∃ X, X = (upd (upd (upd x 14 y0) 15 y1) 16 y2) := ⟨_, rfl⟩
  have EX : Hid (errP st X ns = 0) := by
    rw [hX]
    refine upd_ok 16 (by omega) (upd_ok 15 (by omega) (upd_ok 14 (by omega) HE.out ?_ ?_) ?_ ?_) ?_ ?_
    · rw [lo_one (by omega)]; exact HY0.1
    · exact Int.le_trans HY0.2 (by decide)
    · rw [lo_one (by omega)]; exact HY1.1
    · exact Int.le_trans HY1.2 (by decide)
    · rw [lo_one (by omega)]; exact HY2.1
    · exact Int.le_trans HY2.2 (by decide)
  have X14 : Hid (X 14 = y0) := by rw [hX, upd_ne _ _ (by omega), upd_ne _ _ (by omega), upd_at]; rfl
  have X15 : Hid (X 15 = y1) := by rw [hX, upd_ne _ _ (by omega), upd_at]; rfl
  have X16 : Hid (X 16 = y2) := by rw [hX, upd_at]; rfl
  rw [← hX] at C5'
  have FX : Hid (∀ j, 0 ≤ j → j ≤ 9007199254740992 → ({ ct0 (ruX X ns) with num := j } : Ct).fine) := fun j j0 j1 => by
    refine ⟨n16.1, n16.2, ?_, ?_, ?_, ?_, ?_, ?_, j0, j1, fun p r e => by simp [ct0] at e, by simp [ct0, rp0]⟩
    · show 1 ≤ X 14; rw [X14.out]; exact HY0.1
    · show X 14 ≤ 1000000; rw [X14.out]; omega
    · show 1 ≤ X 15; rw [X15.out]; exact HY1.1
    · show X 15 ≤ 1000000; rw [X15.out]; omega
    · show 1 ≤ X 16; rw [X16.out]; exact HY2.1
    · show X 16 ≤ 1000000000; rw [X16.out]; omega
  have B5 : Hid (Below w.heap.size w W5) := b0.out.trans (BW5.out.mono b0.out.size)
  have n5 : Hid (cB ≤ W5.heap.size) := Nat.le_of_lt (blk_lt C5'.out)
  clear hX HE KT3 BW5
  have NE := hide (New_any cB W5 st X ao nb 0 cap pv ns N5.out n5.out HS.out EX.out)
  obtain ⟨u, hu⟩ : ∃ u, u = ruX X ns := ⟨_, rfl⟩
  rw [← hu] at NE FX
  have UN : Hid (u.n = ns.length ∧ u.rs = y0 ∧ u.lm = y1 ∧ u.pt = y2) := by rw [hu]; exact ⟨rfl, X14.out, X15.out, X16.out⟩
  have NU := hide (num_any)
  clear hu
  go_wp2_with (refine wpList_loadCl rfl (.tmp 11) rfl cB st X _ (by kernel_rfl) C5'.out ?_)
  refine Calls.mono NE.out ?_
  rintro e W6 ⟨C, rfl, hC, hX6, hb6⟩
  have X6 := hide hX6
  have C6 := hide (C5'.out.below hb6)
  have B6 := hide (B5.out.trans (hb6.mono B5.out.size))
  have cBl : Hid (w.heap.size ≤ cB ∧ cB < C) := by have a1 := clt.out; have a2 := s0.out; have a3 := blk_lt C5'.out; exact ⟨by omega, by omega⟩
  clear hX6 hb6 NE C5' B5 hC
  go_wp2_with fail
  refine Calls.mono (NU.out 0 _) ?_
  rintro e w9 ⟨rfl, rfl⟩
  go_upto_region 8 with fail
  have MK := mod15_any kind 3 (by omega) (by omega) W6
  rw [HKD.out] at MK
  replace MK := hide MK
  go_upto_region 9 with (go_at_call 8; refine Calls.mono MK.out ?_; rintro e w' ⟨rfl, rfl⟩)
  have MO0 := mod15_any version 999999 (by omega) (by omega) W6
  obtain ⟨r0, hr0⟩ : ∃ q, version % 999999 = q := ⟨_, rfl⟩
  have r01 : 0 ≤ r0 := by rw [← hr0]; exact Int.emod_nonneg _ (by omega)
  have r02 : r0 < 999999 := by rw [← hr0]; exact Int.emod_lt_of_pos _ (by omega)
  rw [hr0] at MO0
  replace MO0 := hide MO0
  obtain ⟨v, hv⟩ : ∃ y, y = 1 + r0 := ⟨_, rfl⟩
  go_upto_region 10 with (go_at_call 8; refine Calls.mono MO0.out ?_; rintro e w' ⟨rfl, rfl⟩)
  rw [← hv]
  have hiv : Hid (isV v = true) := by show isV v = true; simp [isV]; omega
  clear hv hr0 r01 r02 MO0 MK
  obtain ⟨M, hM⟩ : ∃ M, M = y0 * y1 := ⟨_, rfl⟩
  have M1 : 0 < M ∧ M ≤ 128 := by
    rw [hM]
    refine ⟨Int.mul_pos (by omega) (by omega), ?_⟩
    have h1 : y0 * y1 ≤ 16 * y1 := Int.mul_le_mul_of_nonneg_right (by omega) (by omega)
    omega
  obtain ⟨qq, hqq⟩ : ∃ q, 2 * y0 = q := ⟨_, rfl⟩
  obtain ⟨P, hP⟩ : ∃ P, P = 2 * M := ⟨_, rfl⟩
  obtain ⟨T, hT⟩ : ∃ T, y2 + P = T := ⟨_, rfl⟩
  have HM : Hid (2 * y0 = qq ∧ qq * y1 = P ∧ y0 * y1 = M) := ⟨hqq, by rw [← hqq, hP, hM, Int.mul_assoc], hM.symm⟩
  have HT := hide hT
  have P1 : 0 < P ∧ P ≤ 256 := by omega
  have T1 : 0 < T ∧ T ≤ 512 := by omega
  have q1 : 0 < qq ∧ qq ≤ 32 := by omega
  have LB : Hid ((left (begC (ct0 u) 2 v) : Int) = P) := by
    have e := beg_left u v (by rw [UN.out.2.1]; omega) (by rw [UN.out.2.2.1]; omega) (by rw [UN.out.2.2.2]; omega)
    rw [UN.out.2.1, UN.out.2.2.1, UN.out.2.2.2, ← hM, ← hP, ← hT.symm] at e
    exact e.2.1
  have CB := hide (beg_cnt u v (by rw [UN.out.2.1]; omega) (by rw [UN.out.2.2.2]; omega)).2.1
  have cc15 : W6.cell? ⟨cB, 15, none⟩ = some (.int .i64 y0) := by rw [← X14.out]; exact C6.out.atI 14 (by omega)
  have cc16 : W6.cell? ⟨cB, 16, none⟩ = some (.int .i64 y1) := by rw [← X15.out]; exact C6.out.atI 15 (by omega)
  have cc17 : W6.cell? ⟨cB, 17, none⟩ = some (.int .i64 y2) := by rw [← X16.out]; exact C6.out.atI 16 (by omega)
  have F0 : Hid (ct0 u).fine := FX.out 0 (by omega) (by omega)
  have hmB : Hid (mayB (ct0 u) 2 v = 0) := by show mayB (ct0 u) 2 v = 0; have := hiv.out; simp [mayB, ct0, fitV, this]
  have hbl : Hid ((begL (ct0 u) 2 v).length = ns.length) := by show (entL _ (rd0 u _ 2 v)).length = _; rw [entL0_len]; exact UN.out.1
  have BE := hide (begin_to X6.out F0.out.n1 F0.out.n16 2 v hmB.out F0.out.nu0 F0.out.nu1 ns.length hbl.out)
  clear hM hqq hP hT
  go_upto_region 16 with (first | refine wpList_muli rfl (.const (.int .i64 2)) (.tmp 63) rfl 2 y0 qq rfl rfl HM.out.1 (by omega) (by omega) ?_ | refine wpList_muli rfl (.tmp 64) (.tmp 66) rfl qq y1 P rfl rfl HM.out.2.1 (by omega) (by omega) ?_ | refine wpList_adC rfl (.tmp 61) (.tmp 67) rfl y2 P T rfl rfl HT.out (by omega) (by omega) ?_ | refine wpList_muli rfl (.const (.int .i64 2)) (.tmp 72) rfl 2 y0 qq rfl rfl HM.out.1 (by omega) (by omega) ?_ | refine wpList_muli rfl (.tmp 73) (.tmp 75) rfl qq y1 P rfl rfl HM.out.2.1 (by omega) (by omega) ?_ | refine wpList_muli rfl (.tmp 80) (.tmp 82) rfl y0 y1 M rfl rfl HM.out.2.2 (by omega) (by omega) ?_)
  clear cc15 cc16 cc17
  go_wp2_with fail
  refine Calls.mono BE.out ?_
  rintro e W7 ⟨la, lc, rfl, di⟩
  have C7 : Hid (ClAt W7 cB st X (.slice ao ns.length cap)) := di.keep C6.out (fun e => by have := cBl.out; omega)
  obtain ⟨S7, x7, s7, k7, o7, d7⟩ := di
  obtain ⟨c1, hc1⟩ : ∃ c1, c1 = begC (ct0 u) 2 v := ⟨_, rfl⟩
  have F1 : Hid c1.fine := by rw [hc1]; exact fine_beg F0.out rfl (by show (0 : Int) + 1 ≤ _; omega) 2 v
  have W1' : Hid (Who c1 1 2 v ∧ c1.ru = u) := by rw [hc1]; exact ⟨beg_who u 2 v, rfl⟩
  have LK : Hid (∀ m ∈ begL (ct0 u) 2 v, isK m.kind) := ent_isK _ _
  obtain ⟨L1, hL1⟩ : ∃ L1, L1 = begL (ct0 u) 2 v := ⟨_, rfl⟩
  rw [← hc1] at x7 LB CB
  rw [← hL1] at o7 hbl LK CB
  have B7 : Hid (Below w.heap.size w W7) := ((Kp.of_below B6.out non).trans k7 (fun k e => Or.inr (by rw [e]; have := cBl.out; omega))).below
  have G7 : Hid (∀ k, S7 k → w.heap.size ≤ k ∧ k ≠ cB ∧ k < W7.heap.size) := fun k e => by
    have a1 := cBl.out
    have a2 := blk_lt C6.out
    have a3 := x7.lt k e
    have a4 := B6.out.size
    rcases s7 k e with z | z
    · omega
    · omega
  have X7 := hide x7
  obtain ⟨qa, hqa⟩ : ∃ qa, qa = cntL qz L1 := ⟨_, rfl⟩
  have QA : Hid (qa.le 16) := by rw [hqa]; exact qa_le L1 _ hbl.out n16.2
  have CN := counted_any W7 qz L1 la ns.length lc hbl.out (own_mono o7 (Nat.zero_le _)) LK.out n16.2 (by simp [Q4.le, qz])
  rw [← hqa] at CN CB
  replace CN := hide CN
  clear x7 s7 k7 o7 d7 hc1 hL1 hqa BE X6 B6 C6
  go_wp2_with (refine wpList_blR rfl 52 #[] rfl (q4A qz) (by kernel_rfl) ?_)
  refine Calls.mono CN.out ?_
  rintro e W8 ⟨rfl, hb8⟩
  obtain ⟨SB, hSB⟩ : ∃ SB, SB = W8.heap.size := ⟨_, rfl⟩
  obtain ⟨W9, hW9⟩ : ∃ W9, W9 = (W8.alloc (.cells #[.int .i64 0, .int .i64 0, .int .i64 0, .int .i64 0] 52)).setRow W8.heap.size (q4A qa) := ⟨_, rfl⟩
  have b9 : Below W8.heap.size W8 W9 := by rw [hW9]; exact (((Kp.refl W8 non).alloc _).row (Or.inr (Nat.le_refl _)) _).below
  have m9 : W9.heap[SB]? = some (.cells (q4A qa) 52) := by rw [hW9, hSB]; exact setRow_heap _ _ _ _ _ _ (heap_last W8 _)
  have ST9 : Hid (St w W9 S7 C cB SB c1 qa st X (.slice ao ns.length cap)) := by
    have a1 := hb8.size
    have a2 := blk_lt C7.out
    have a3 := B7.out.size
    have a4 := cBl.out
    have b79 : Below W7.heap.size W7 W9 := hb8.trans (b9.mono a1)
    exact ⟨X7.out.below b79, fun k e => by have := G7.out k e; omega, B7.out.trans (b79.mono a3), C7.out.below b79, m9, by omega, by omega, by omega⟩
  have HSB := hide hSB
  replace hW9 := hide hW9
  clear b9 m9 hb8 CN C7 X7 B7 G7 hSB
  go_upto_region 18 with (refine wpList_stR rfl 52 (.tmp 19) (.tmp 93) rfl W8.heap.size rfl (q4A qa) #[.int .i64 0, .int .i64 0, .int .i64 0, .int .i64 0] rfl _ (heap_last W8 _) q_info rfl (q_one _) ?_)
  rw [← hW9.out, ← HSB.out]
  clear hW9
  have dv0 : 0 ≤ y2 / y0 := Int.ediv_nonneg (by omega) (by omega)
  have dv1 : y2 / y0 ≤ 256 := by
    have := Int.ediv_le_self y0 (show 0 ≤ y2 by omega)
    omega
  obtain ⟨dv, hdv⟩ : ∃ dv, dv = y2 / y0 := ⟨_, rfl⟩
  have HDV : Hid (dv = y2 / y0) := hdv
  have tdv : y2.tdiv y0 = dv := by rw [hdv]; exact Int.tdiv_eq_ediv_of_nonneg (by omega)
  rw [← hdv] at dv0 dv1
  clear hdv
  have HTD := hide tdv
  clear tdv
  go_wp2_with fail
  go_loopw [18, 20] (fun vf vi wr => ∃ (i : Nat) (ci : Ct) (qi : Q4) (S' : Nat → Prop), (i : Int) ≤ P ∧ vf = .int .i64 0 ∧ vi = .int .i64 (i : Int) ∧ Hid (St w wr S' C cB SB ci qi st X (.slice ao ns.length cap)) ∧ Hid ci.fine ∧ Hid (Cnt ci qi ∧ Who ci 1 2 v ∧ ci.ru = u ∧ qi.le (16 + 32 * (i : Int))) ∧ Hid ((left ci : Int) + (i : Int) ≤ P)) (fun _ vi _ => P.toNat - (intOf vi).toNat)
  case atStart => exact ⟨0, c1, qa, S7, by omega, rfl, rfl, ST9.out, F1.out, ⟨CB.out, W1'.out.1, W1'.out.2, by have := QA.out; unfold Q4.le at *; omega⟩, by have := LB.out; show (left c1 : Int) + ((0 : Nat) : Int) ≤ _; omega⟩
  case round =>
    obtain ⟨i, ci, qi, S', hi, rfl, rfl, HST, HFi, HCi, HLi⟩ := hrel
    clear ST9 F1 CB W1' QA LB
    have i5 : (i : Int) ≤ 512 := by omega
    by_cases hin : (i : Int) < P
    case neg =>
      have eb : (i : Int) = P := by omega
      have hph : ci.ph = none := left_none HFi.out (by have := HLi.out; omega)
      have wh := HCi.out.2.1
      unfold Who at wh
      rw [hph] at wh
      obtain ⟨w1, w2, w3⟩ := wh
      have BU := busy_any HST.out.x HFi.out.n1
      have RE := report_to HST.out.x HFi.out (by rw [w1]; omega) ci.last.hs.length ci.last.ms.length rfl rfl
      obtain ⟨ha, hha⟩ : ∃ k, k = ci.last.hs.length := ⟨_, rfl⟩
      obtain ⟨hb', hhb⟩ : ∃ k, k = ci.last.ms.length := ⟨_, rfl⟩
      rw [← hha, ← hhb] at RE
      obtain ⟨lp, hlp⟩ : ∃ lp, lp = ci.last := ⟨_, rfl⟩
      rw [← hlp] at RE w1 w2 w3
      replace RE := hide RE
      clear hha hhb hlp eb
      go_wp2_with fail
      refine Calls.mono RE.out ?_
      rintro e W9' ⟨na, nc, ka, kc, rfl, oh, hb9⟩
      obtain ⟨R, hR⟩ : ∃ R, R = W9'.heap.size := ⟨_, rfl⟩
      obtain ⟨WA, hWA⟩ : ∃ WA, WA = (W9'.alloc (.cells #[.int .i64 0, .int .i64 0, .int .i64 0, .int .i64 0, .slice none 0 0, .slice none 0 0] 39)).setRow W9'.heap.size (rpA lp (.slice na ha nc) (.slice ka hb' kc)) := ⟨_, rfl⟩
      have bA : Below W9'.heap.size W9' WA := by rw [hWA]; exact (((Kp.refl W9' non).alloc _).row (Or.inr (Nat.le_refl _)) _).below
      have mA : WA.heap[R]? = some (.cells (rpA lp (.slice na ha nc) (.slice ka hb' kc)) 39) := by rw [hWA, hR]; exact setRow_heap _ _ _ _ _ _ (heap_last W9' _)
      have r0 : WA.cell? ⟨R, 0, none⟩ = some (.int .i64 1) := by rw [cell_row mA, ← w1]; rfl
      have r1 : WA.cell? ⟨R, 1, none⟩ = some (.int .i64 2) := by rw [cell_row mA, ← w2]; rfl
      have r2 : WA.cell? ⟨R, 2, none⟩ = some (.int .i64 v) := by rw [cell_row mA, ← w3]; rfl
      have STA := hide ((HST.out.below hb9).below bA)
      have BU := busy_any STA.out.x HFi.out.n1
      rw [hph] at BU
      replace BU := hide BU
      have ON := hide (show (rpA lp (.slice na ha nc) (.slice ka hb' kc)).all (·.oneCell') = true by simp [rpA, Value.oneCell'])
      have HR := hide hR
      replace hWA := hide hWA
      clear bA mA hb9 oh hR w1 w2 w3 hph RE HST
      go_upto_region 34 with (refine wpList_stR rfl 39 (.tmp 22) (.tmp 170) rfl W9'.heap.size rfl (rpA lp (.slice na ha nc) (.slice ka hb' kc)) #[.int .i64 0, .int .i64 0, .int .i64 0, .int .i64 0, .slice none 0 0, .slice none 0 0] rfl _ (heap_last W9' _) rp_info rfl ON.out ?_)
      rw [← hWA.out, ← HR.out]
      clear hWA
      go_wp2_with fail
      refine Calls.mono (NU.out 0 _) ?_
      rintro e w9 ⟨rfl, rfl⟩
      go_wp2_with fail
      refine Calls.mono BU.out ?_
      rintro e w9 ⟨rfl, rfl⟩
      go_wp2_with fail
      refine Calls.mono (NU.out 0 _) ?_
      rintro e w9 ⟨rfl, rfl⟩
      go_wp2_with fail
      go_ret
      exact ⟨rfl, STA.out.b⟩
    case pos =>
      have BU := busy_any HST.out.x HFi.out.n1
      cases hp : ci.ph with
      | none =>
        rw [hp] at BU
        replace BU := hide BU
        clear hp
        have RE : Hid (Below w.heap.size w wr) := HST.out.b
        go_wp2_with fail
        refine Calls.mono (NU.out 0 _) ?_
        rintro e w9 ⟨rfl, rfl⟩
        go_wp2_with fail
        refine Calls.mono BU.out ?_
        rintro e w9 ⟨rfl, rfl⟩
        go_wp2_with fail
        refine Calls.mono (NU.out 0 _) ?_
        rintro e w9 ⟨rfl, rfl⟩
        go_wp2_with fail
        go_ret
        exact ⟨rfl, RE.out⟩
      | some xx =>
        rw [hp] at BU
        replace BU := hide BU
        have TK := hide (Tick_any HST.out.x HFi.out)
        have TC := hide (tick_cnt HFi.out HCi.out.1)
        have TA := hide (tickC_all HFi.out)
        have TL : Hid ((left (tickC ci) : Int) + ((i + 1 : Nat) : Int) ≤ P) := by
          have a1 := TA.out.2.2.2 (by rw [hp]; simp)
          have a2 := HLi.out
          show (left (tickC ci) : Int) + ((i + 1 : Nat) : Int) ≤ P
          omega
        clear hp
        go_wp2_with fail
        refine Calls.mono (NU.out 0 _) ?_
        rintro e w9 ⟨rfl, rfl⟩
        go_wp2_with fail
        refine Calls.mono BU.out ?_
        rintro e w9 ⟨rfl, rfl⟩
        go_wp2_with fail
        refine Calls.mono TK.out ?_
        rintro e WA ⟨lv, rfl, di⟩
        obtain ⟨SA, stA, oA⟩ := HST.out.did di
        obtain ⟨tn, htn⟩ : ∃ tn, (tickL ci).length = tn := ⟨_, rfl⟩
        obtain ⟨ta, tc, rfl⟩ : ∃ ta tc, lv = .slice ta tn tc := by
          obtain ⟨ta, tc, e⟩ := own_sl oA
          exact ⟨ta, tc, by rw [e, htn]⟩
        have t16 : tn ≤ 16 := by have := TC.out.2.2.2; have := HFi.out.n16; omega
        have QL : Hid ((cntL qi (tickL ci)).le (32 + 32 * (i : Int))) := by
          have e := cntL_le HCi.out.2.2.2 (tickL ci)
          show (cntL qi (tickL ci)).le (32 + 32 * (i : Int))
          rw [htn] at e
          unfold Q4.le at *
          omega
        have qle : qi.le 1099511627776 := by have := HCi.out.2.2.2; unfold Q4.le at *; omega
        have CN := counted_any WA qi (tickL ci) ta tn tc htn oA TC.out.2.2.1 t16 qle
        obtain ⟨qb, hqb⟩ : ∃ qb, qb = cntL qi (tickL ci) := ⟨_, rfl⟩
        rw [← hqb] at CN QL
        have CT : Hid (Cnt (tickC ci) qb ∧ Who (tickC ci) 1 2 v ∧ (tickC ci).ru = u) := by rw [hqb]; exact ⟨TC.out.1, TC.out.2.1 _ _ _ HCi.out.2.1, TA.out.2.2.1.trans HCi.out.2.2.1⟩
        have FT : Hid (tickC ci).fine := TA.out.1
        obtain ⟨c2, hc2⟩ : ∃ c2, c2 = tickC ci := ⟨_, rfl⟩
        rw [← hc2] at stA CT FT TL
        replace CN := hide CN
        have STA := hide stA
        clear stA oA di htn hqb hc2 qle TK TC TA BU HST
        go_wp2_with (refine wpList_ldQ rfl (.tmp 19) rfl SB (by kernel_rfl) qi _ STA.out.sb ?_)
        refine Calls.mono CN.out ?_
        rintro e WB ⟨rfl, hbB⟩
        have stB := STA.out.below hbB
        have STC := hide (stB.row qb)
        have mB := hide stB.sb
        obtain ⟨WC, hWC⟩ : ∃ WC, WC = WB.setRow SB (q4A qb) := ⟨_, rfl⟩
        rw [← hWC] at STC
        replace hWC := hide hWC
        clear stB CN STA hbB
        go_upto_region 25 with (refine wpList_stR rfl 52 (.tmp 19) (.tmp 117) rfl SB (by kernel_rfl) (q4A qb) (q4A qi) rfl _ mB.out q_info rfl (q_one _) ?_)
        rw [← hWC.out]
        clear hWC mB
        by_cases hs : i < n
        case neg =>
          have q2 : decide (i < n) = false := decide_eq_false hs
          have q3 : ¬ ((i : Int) < (n : Int)) := by omega
          have QF : Hid (qb.le (16 + 32 * ((i + 1 : Nat) : Int))) := by have := QL.out; show qb.le _; unfold Q4.le at *; omega
          have CF := CT
          have FF := FT
          have LF := TL
          clear hs
          have y_0 : WC.cell? ⟨SB, 0, none⟩ = some (.int .i64 qb.a) := by rw [cell_row STC.out.sb]; rfl
          have y_1 : WC.cell? ⟨SB, 1, none⟩ = some (.int .i64 qb.b) := by rw [cell_row STC.out.sb]; rfl
          have y_2 : WC.cell? ⟨SB, 2, none⟩ = some (.int .i64 qb.c) := by rw [cell_row STC.out.sb]; rfl
          have y_3 : WC.cell? ⟨SB, 3, none⟩ = some (.int .i64 qb.d) := by rw [cell_row STC.out.sb]; rfl
          have cc15 : WC.cell? ⟨cB, 15, none⟩ = some (.int .i64 y0) := by rw [← X14.out]; exact STC.out.cl.atI 14 (by omega)
          have cc16 : WC.cell? ⟨cB, 16, none⟩ = some (.int .i64 y1) := by rw [← X15.out]; exact STC.out.cl.atI 15 (by omega)
          have cc17 : WC.cell? ⟨cB, 17, none⟩ = some (.int .i64 y2) := by rw [← X16.out]; exact STC.out.cl.atI 16 (by omega)
          have bn := cnt_bnd FF.out CF.out.1
          unfold Bnd at bn
          rw [CF.out.2.2, UN.out.2.1, UN.out.2.2.1, UN.out.2.2.2, ← HDV.out] at bn
          have p0 : decide (1 + dv < qb.a) = false := decide_eq_false (by omega)
          have p1 : decide (y1 < qb.b) = false := decide_eq_false (by omega)
          have p2 : decide (y1 < qb.c) = false := decide_eq_false (by omega)
          have p3 : decide (y1 < qb.d) = false := decide_eq_false (by omega)
          have tdv := HTD.out
          have yn : (y0 == 0) = false := by simp; omega
          have yw : IntKind.i64.wrap dv = dv := i64_in (by omega) (by omega)
          have yw2 : IntKind.i64.wrap (1 + dv) = 1 + dv := i64_in (by omega) (by omega)
          clear bn
          go_upto_region 31 with fail
          go_quiet (fail)
          clear y_0 y_1 y_2 y_3 cc15 cc16 cc17 p0 p1 p2 p3 tdv yn yw yw2
          go_wp2_with fail
          go_roundw
          case rel => exact ⟨i + 1, c2, qb, _, by omega, rfl, by go_num, STC.out.below (below_drewN (Below.refl _ _) _), FF.out, ⟨CF.out.1, CF.out.2.1, CF.out.2.2, QF.out⟩, LF.out⟩
          case measure => simp [intOf]; omega
        case pos =>
          have q2 : decide (i < n) = true := decide_eq_true hs
          have q3 : (i : Int) < (n : Int) := by omega
          have hiL : i < L.length := by rw [← HN.out]; exact hs
          have LBB := HLL.out.below STC.out.b
          have e8 := LBB.at0 (by omega)
          have RG : Hid (WC.rangeAt bb (oo + i * 11) (mgV L[i]).toList) := fun j u' hj => LBB.c i hiL j u' (by simpa using hj)
          obtain ⟨m, hm⟩ : ∃ m, m = L[i] := ⟨_, rfl⟩
          rw [← hm] at RG
          clear hm LBB hiL hs
          subst e8
          have TK := hide (Take_any STC.out.x FT.out m)
          have TC := hide (take_cnt FT.out CT.out.1 m)
          have TA := hide (And.intro (takeC_fine FT.out m) (takeC_all c2 m))
          go_wp2_with (refine wpList_load_mid rfl 44 (.tmp 126) rfl bb (oo + i * 11) rfl (mgV m).toList _ RG.out Try.underlying44 rfl mg_info ?_)
          refine Calls.mono TK.out ?_
          rintro e WD ⟨lv, rfl, di⟩
          obtain ⟨SD, stD, oD⟩ := STC.out.did di
          obtain ⟨kn, hkn⟩ : ∃ kn, (takeL c2 m).length = kn := ⟨_, rfl⟩
          obtain ⟨ka, kc, rfl⟩ : ∃ ka kc, lv = .slice ka kn kc := by
            obtain ⟨ka, kc, e⟩ := own_sl oD
            exact ⟨ka, kc, by rw [e, hkn]⟩
          have k16 : kn ≤ 16 := by have := TC.out.2.2.2.1; have := FT.out.n16; omega
          have QF : Hid ((cntL qb (takeL c2 m)).le (16 + 32 * ((i + 1 : Nat) : Int))) := by
            have e := cntL_le QL.out (takeL c2 m)
            show (cntL qb (takeL c2 m)).le _
            rw [hkn] at e
            unfold Q4.le at *
            omega
          have qle : qb.le 1099511627776 := by have := QL.out; unfold Q4.le at *; omega
          have CN := counted_any WD qb (takeL c2 m) ka kn kc hkn oD TC.out.2.2.1 k16 qle
          obtain ⟨qd, hqd⟩ : ∃ qd, qd = cntL qb (takeL c2 m) := ⟨_, rfl⟩
          rw [← hqd] at CN QF
          have CF : Hid (Cnt (takeC c2 m) qd ∧ Who (takeC c2 m) 1 2 v ∧ (takeC c2 m).ru = u) := by rw [hqd]; exact ⟨TC.out.1, TC.out.2.1 _ _ _ CT.out.2.1, TA.out.2.2.trans CT.out.2.2⟩
          have FF : Hid (takeC c2 m).fine := TA.out.1
          have LF : Hid ((left (takeC c2 m) : Int) + ((i + 1 : Nat) : Int) ≤ P) := by
            have a1 := TC.out.2.2.2.2
            have a2 := TL.out
            show (left (takeC c2 m) : Int) + ((i + 1 : Nat) : Int) ≤ P
            omega
          obtain ⟨c3, hc3⟩ : ∃ c3, c3 = takeC c2 m := ⟨_, rfl⟩
          rw [← hc3] at stD CF FF LF
          replace CN := hide CN
          have STD := hide stD
          clear stD oD di hkn hqd hc3 qle TK TC TA STC RG
          go_wp2_with (refine wpList_ldQ rfl (.tmp 19) rfl SB (by kernel_rfl) qb _ STD.out.sb ?_)
          refine Calls.mono CN.out ?_
          rintro e WE ⟨rfl, hbE⟩
          have stE := STD.out.below hbE
          have STF := hide (stE.row qd)
          have mE := hide stE.sb
          obtain ⟨WF, hWF⟩ : ∃ WF, WF = WE.setRow SB (q4A qd) := ⟨_, rfl⟩
          rw [← hWF] at STF
          replace hWF := hide hWF
          clear stE CN STD hbE
          go_upto_region 29 with (refine wpList_stR rfl 52 (.tmp 19) (.tmp 133) rfl SB (by kernel_rfl) (q4A qd) (q4A qb) rfl _ mE.out q_info rfl (q_one _) ?_)
          rw [← hWF.out]
          clear hWF mE
          go_wp2_with fail
          refine Calls.mono (NU.out 0 _) ?_
          rintro e w9 ⟨rfl, rfl⟩
          have y_0 : WF.cell? ⟨SB, 0, none⟩ = some (.int .i64 qd.a) := by rw [cell_row STF.out.sb]; rfl
          have y_1 : WF.cell? ⟨SB, 1, none⟩ = some (.int .i64 qd.b) := by rw [cell_row STF.out.sb]; rfl
          have y_2 : WF.cell? ⟨SB, 2, none⟩ = some (.int .i64 qd.c) := by rw [cell_row STF.out.sb]; rfl
          have y_3 : WF.cell? ⟨SB, 3, none⟩ = some (.int .i64 qd.d) := by rw [cell_row STF.out.sb]; rfl
          have cc15 : WF.cell? ⟨cB, 15, none⟩ = some (.int .i64 y0) := by rw [← X14.out]; exact STF.out.cl.atI 14 (by omega)
          have cc16 : WF.cell? ⟨cB, 16, none⟩ = some (.int .i64 y1) := by rw [← X15.out]; exact STF.out.cl.atI 15 (by omega)
          have cc17 : WF.cell? ⟨cB, 17, none⟩ = some (.int .i64 y2) := by rw [← X16.out]; exact STF.out.cl.atI 16 (by omega)
          have bn := cnt_bnd FF.out CF.out.1
          unfold Bnd at bn
          rw [CF.out.2.2, UN.out.2.1, UN.out.2.2.1, UN.out.2.2.2, ← HDV.out] at bn
          have p0 : decide (1 + dv < qd.a) = false := decide_eq_false (by omega)
          have p1 : decide (y1 < qd.b) = false := decide_eq_false (by omega)
          have p2 : decide (y1 < qd.c) = false := decide_eq_false (by omega)
          have p3 : decide (y1 < qd.d) = false := decide_eq_false (by omega)
          have tdv := HTD.out
          have yn : (y0 == 0) = false := by simp; omega
          have yw : IntKind.i64.wrap dv = dv := i64_in (by omega) (by omega)
          have yw2 : IntKind.i64.wrap (1 + dv) = 1 + dv := i64_in (by omega) (by omega)
          clear bn
          go_upto_region 31 with fail
          go_quiet (fail)
          clear y_0 y_1 y_2 y_3 cc15 cc16 cc17 p0 p1 p2 p3 tdv yn yw yw2
          go_wp2_with fail
          go_roundw
          case rel => exact ⟨i + 1, c3, qd, _, by omega, rfl, by go_num, STF.out.below (below_drewN (Below.refl _ _) _), FF.out, ⟨CF.out.1, CF.out.2.1, CF.out.2.2, QF.out⟩, LF.out⟩
          case measure => simp [intOf]; omega
end Go.Proofs.Ytpmicmhkahgjcaa.Cn
