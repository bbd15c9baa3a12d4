import Derived.Test.YtpmicmhkahgjcaaGCcCalm
import Derived.Test.YtpmicmhkahgjcaaRows
import Derived.Test.YtpmicmhkahgjcaaGCaBase
import Derived.ProofKit
import Derived.OpenShut
import Derived.JoinedOf
import Derived.SizedLaws
import Derived.Lib.SmallJoins
import Derived.Deep.SlicePairs
import Derived.Deep.DeepHandedRow
namespace Go.Proofs.Ytpmicmhkahgjcaa.Cn
open Go.RowKit
/-- what made makes -/
theorem made_fine {st : ByteArray} {x : Nat → Int} {ns : List ND} {a b c : Int} (hE : errP st x ns = 0) (x14 : x 14 = 1 + a % 1024) (x15 : x 15 = 1 + b % 64) (x16 : x 16 = 1 + c % 65536) (j : Int) (j0 : 0 ≤ j) (j1 : j ≤ 9007199254740992) : ({ ct0 (ruX x ns) with num := j } : Ct).fine := by
  obtain ⟨_, _, hnf, _⟩ := errP_all hE
  have n16 := nfP_len hnf
  have a0 := Int.emod_nonneg a (show (1024 : Int) ≠ 0 by decide)
  have a1 := Int.emod_lt_of_pos a (show (0 : Int) < 1024 by decide)
  have b0 := Int.emod_nonneg b (show (64 : Int) ≠ 0 by decide)
  have b1 := Int.emod_lt_of_pos b (show (0 : Int) < 64 by decide)
  have c0 := Int.emod_nonneg c (show (65536 : Int) ≠ 0 by decide)
  have c1 := Int.emod_lt_of_pos c (show (0 : Int) < 65536 by decide)
  refine ⟨n16.1, n16.2, ?_, ?_, ?_, ?_, ?_, ?_, j0, j1, fun p r e => by simp [ct0] at e, by simp [ct0, rp0]⟩
  · show 1 ≤ x 14; omega
  · show x 14 ≤ 1000000; omega
  · show 1 ≤ x 15; omega
  · show x 15 ≤ 1000000; omega
  · show 1 ≤ x 16; omega
  · show x 16 ≤ 1000000000; omega
theorem wpList_ldRG {w : World} {ops : Array Oper} {rest : List Oper} {o : Oper} {a : Act} {Q : Exit → Act → World → Prop} (hw : Region.wanted o (yielded ops a.tmps) = true) (ty : TypeId) (x : Operand) (ho : o.op = .load ty x) (b : Nat) (hx : a.eval x = .pointer (some ⟨b, 0, none⟩)) (t : TypeId) (A : Array Value) (hO : w.heap[b]? = some (.cells A t)) {fs} (hu : Try.prog.underlying ty = some (.struct fs)) (hi : (Try.prog.info? ty).map (·.size) = some A.size)
    (h : wpList Try.prog ops Q rest (a.put o.dst (.agg A)) w) : wpList Try.prog ops Q (o :: rest) a w := by
  have hl : (Instr.loadAt ty (.pointer (some ⟨b, 0, none⟩))).run Try.prog w = .ok (.agg A) w := by
    simp only [Instr.loadAt, Instr.sureAddr, Sem.run_bind, Sem.run_pure, Result.andThen]
    exact run_loadVar_row _ _ t ty A (0, 0) _ hO hu rfl hi
  refine BigFrame.wpList_want hw fun K hK => ?_
  unfold Oper.wp execOp
  simp only [ho, Sem.run_bind, Sem.run_pure, Result.andThen_ok, hx, hl]
  exact hK _ _ h
/-- of an open job, all acknowledged -/
def finB (u : Ru) (j k v h : Int) : Ct := ⟨u, j, none, ⟨j, k, v, 2, List.replicate u.n h, []⟩⟩
theorem fin_res (u : Ru) (j k v h : Int) (h1 : 1 ≤ u.n) : ansC (resC u j k v) h (resL u j k v) = finB u j k v h ∧ ansL (resC u j k v) h (resL u j k v) = [] := by
  obtain ⟨a1, a2⟩ := ans_all (resC u j k v) .back { rd0 u j k v with sd := 0 + 1 } u.n h rfl h1 rfl rfl
  have e : entL .back { rd0 u j k v with sd := 0 + 1 } = resL u j k v := rfl
  rw [e] at a1 a2
  rw [a1, a2]
  refine ⟨?_, rfl⟩
  simp only [comV, folC, endC, rep_all, hxP, finB]
  rfl
theorem res_fine {u : Ru} {j : Int} (h : ({ ct0 u with num := j } : Ct).fine) (k v : Int) : (resC u j k v).fine := fine_ent h .back k v
theorem finB_fine {u : Ru} {j : Int} (h : ({ ct0 u with num := j } : Ct).fine) (k v hd : Int) : (finB u j k v hd).fine := by
  refine ⟨h.n1, h.n16, h.rs1, h.rs2, h.lm1, h.lm2, h.pt1, h.pt2, h.nu0, h.nu1, fun p r e => by simp [finB] at e, ?_⟩
  have : u.n ≤ 16 := h.n16
  simp [finB]
  omega
theorem resL_at (u : Ru) (j k v : Int) (i : Nat) (hi : i < (resL u j k v).length) : (resL u j k v)[i] = { mg0 with kind := 7, fr := 64, td := (i : Int), id := j, ep := j, sq := 2 } := by
  unfold resL entL
  exact all0 _ _ _ _ _
set_option maxHeartbeats 16000000 in
set_option maxRecDepth 100000 in
set_option linter.unusedSimpArgs false in
set_option linter.unusedVariables false in
theorem resumes_any (w : World) (nodes a b c job kind version : Int) (op : Bool) (holds : Int) :
    Calls Try.prog 3 #[.int .i64 nodes, .agg #[.int .i64 a, .int .i64 b, .int .i64 c], .int .i64 job, .int .i64 kind, .int .i64 version, .bool op, .int .i64 holds] w fun e w' => e = .returned (.bool true) ∧ Below w.heap.size w w' := by
  obtain ⟨W0, hW0⟩ : ∃ W0, W0 = w.alloc (.cells #[.int .i64 a, .int .i64 b, .int .i64 c] 23) := ⟨_, rfl⟩
  have b0 : Hid (Below w.heap.size w W0) := by rw [hW0]; exact (Below.refl _ w).alloc (Nat.le_refl _) _
  have m0 : W0.heap[w.heap.size]? = some (.cells #[.int .i64 a, .int .i64 b, .int .i64 c] 23) := by rw [hW0]; exact heap_last _ _
  have t0 : W0.cell? ⟨w.heap.size, 0, none⟩ = some (.int .i64 a) := by rw [cell_row m0]; rfl
  have t1 : W0.cell? ⟨w.heap.size, 1, none⟩ = some (.int .i64 b) := by rw [cell_row m0]; rfl
  have t2 : W0.cell? ⟨w.heap.size, 2, none⟩ = some (.int .i64 c) := by rw [cell_row m0]; rfl
  have MA := hide (made15_any W0 nodes a b c)
  clear m0
  go_enter Try.func3, Try.ntmps3
  go_upto_region 1 with fail
  rw [← hW0]
  clear hW0
  go_wp2_with fail
  refine Calls.mono MA.out ?_
  rintro e W1 ⟨st, x, ns, vl, zs, base, rfl, hz, hT, hE, hs, x14, x15, x16, hb⟩
  obtain ⟨_, hsf, hnf, hdl, _⟩ := errP_all hE
  have n16 := nfP_len hnf
  obtain ⟨ao, nb, cap, pv, hvl, hns⟩ := tw_read hT hz n16.2 hdl.p2
  subst hvl
  have FN := hide (fun j j0 j1 => made_fine hE x14 x15 x16 j j0 j1)
  have HE := hide hE
  have HS : Hid (st.size ≤ 9223372036854775807) := Nat.le_trans hs (by decide)
  obtain ⟨W2, hW2⟩ : ∃ W2, W2 = W1.alloc (.cells (clA st x (.slice ao ns.length cap)) 26) := ⟨_, rfl⟩
  obtain ⟨cB, hcB⟩ : ∃ cB, cB = W1.heap.size := ⟨_, rfl⟩
  have C2 : Hid (ClAt W2 cB st x (.slice ao ns.length cap)) := by rw [hW2, hcB]; exact new_cl _ _ _ _
  have b2 : Below W1.heap.size W1 W2 := by rw [hW2]; exact (Below.refl _ W1).alloc (Nat.le_refl _) _
  have N2 : Hid (NsAt W1.heap.size W2 ao nb 0 pv ns) := hns.below b2
  have B2 : Hid (Below w.heap.size w W2) := (b0.out.trans (hb.mono b0.out.size)).trans (b2.mono (Nat.le_trans b0.out.size hb.size))
  have Hle : Hid (W1.heap.size ≤ W2.heap.size) := b2.size
  have cBl : Hid (w.heap.size ≤ cB) := by rw [hcB]; exact Nat.le_trans b0.out.size hb.size
  have PT := hide hdl.p2
  have HCB := hide hcB
  replace hW2 := hide hW2
  clear hsf hnf hdl hT hz hE x14 x15 x16 hb b2 hns MA t0 t1 t2 hs hcB
  go_upto_region 2 with (refine wpList_storeCl (w0 := W1) rfl (.tmp 15) (.tmp 34) rfl W1.heap.size (by kernel_rfl) rfl st x (.slice ao ns.length cap) rfl (by kernel_rfl) _ rfl rfl ?_)
  rw [← hW2.out, ← HCB.out]
  clear hW2
  have MO0 := mod15_any job 1000000000 (by omega) (by omega) W2
  obtain ⟨q0, hq0⟩ : ∃ q, job % 1000000000 = q := ⟨_, rfl⟩
  have e01 : 0 ≤ q0 := by rw [← hq0]; exact Int.emod_nonneg _ (by omega)
  have e02 : q0 < 1000000000 := by rw [← hq0]; exact Int.emod_lt_of_pos _ (by omega)
  rw [hq0] at MO0
  clear hq0
  replace MO0 := hide MO0
  obtain ⟨j, hj⟩ : ∃ y, y = 1 + q0 := ⟨_, rfl⟩
  go_upto_region 3 with (go_at_call 8; refine Calls.mono MO0.out ?_; rintro e w' ⟨rfl, rfl⟩)
  rw [← hj]
  have j1 : 1 ≤ j := by omega
  have j2 : j ≤ 1000000000 := by omega
  clear hj e01 e02 MO0
  have MO1 := mod15_any kind 2 (by omega) (by omega) W2
  obtain ⟨q1, hq1⟩ : ∃ q, kind % 2 = q := ⟨_, rfl⟩
  have e11 : 0 ≤ q1 := by rw [← hq1]; exact Int.emod_nonneg _ (by omega)
  have e12 : q1 < 2 := by rw [← hq1]; exact Int.emod_lt_of_pos _ (by omega)
  rw [hq1] at MO1
  clear hq1
  replace MO1 := hide MO1
  obtain ⟨k, hk⟩ : ∃ y, y = 1 + q1 := ⟨_, rfl⟩
  go_upto_region 4 with (go_at_call 8; refine Calls.mono MO1.out ?_; rintro e w' ⟨rfl, rfl⟩)
  rw [← hk]
  have k1 : 1 ≤ k := by omega
  have k2 : k ≤ 2 := by omega
  clear hk e11 e12 MO1
  have MO2 := mod15_any version 999999 (by omega) (by omega) W2
  obtain ⟨q2, hq2⟩ : ∃ q, version % 999999 = q := ⟨_, rfl⟩
  have e21 : 0 ≤ q2 := by rw [← hq2]; exact Int.emod_nonneg _ (by omega)
  have e22 : q2 < 999999 := by rw [← hq2]; exact Int.emod_lt_of_pos _ (by omega)
  rw [hq2] at MO2
  clear hq2
  replace MO2 := hide MO2
  obtain ⟨v, hv⟩ : ∃ y, y = 1 + q2 := ⟨_, rfl⟩
  go_upto_region 5 with (go_at_call 8; refine Calls.mono MO2.out ?_; rintro e w' ⟨rfl, rfl⟩)
  rw [← hv]
  have v1 : 1 ≤ v := by omega
  have v2 : v ≤ 999999 := by omega
  clear hv e21 e22 MO2
  have MO3 := mod15_any holds 999999 (by omega) (by omega) W2
  obtain ⟨q3, hq3⟩ : ∃ q, holds % 999999 = q := ⟨_, rfl⟩
  have e31 : 0 ≤ q3 := by rw [← hq3]; exact Int.emod_nonneg _ (by omega)
  have e32 : q3 < 999999 := by rw [← hq3]; exact Int.emod_lt_of_pos _ (by omega)
  rw [hq3] at MO3
  clear hq3
  replace MO3 := hide MO3
  obtain ⟨h, hh⟩ : ∃ y, y = 1 + q3 := ⟨_, rfl⟩
  go_upto_region 6 with (go_at_call 8; refine Calls.mono MO3.out ?_; rintro e w' ⟨rfl, rfl⟩)
  rw [← hh]
  have h1 : 1 ≤ h := by omega
  have h2 : h ≤ 999999 := by omega
  clear hh e31 e32 MO3
  have hk12 : Hid (k = 1 ∨ k = 2) := by show k = 1 ∨ k = 2; omega
  have hiv : Hid (isV v = true) := by show isV v = true; simp [isV]; omega
  have TW := hide (twin15_any W1.heap.size W2 st x ao nb 0 cap pv ns N2.out Hle.out)
  go_wp2_with (refine wpList_loadCl rfl (.tmp 15) rfl cB st x _ (by kernel_rfl) C2.out ?_)
  refine Calls.mono TW.out ?_
  rintro e W3 ⟨vl3, zs3, rfl, hz3, hT3, hb3⟩
  obtain ⟨ao3, nb3, cap3, pv3, hvl, hns3⟩ := tw_read hT3 hz3 n16.2 PT.out
  subst hvl
  have C3 := hide (C2.out.below hb3)
  have B3 := hide (B2.out.trans (hb3.mono B2.out.size))
  obtain ⟨u, hu⟩ : ∃ u, u = ruX x ns := ⟨_, rfl⟩
  have FU : Hid (∀ j, 0 ≤ j → j ≤ 9007199254740992 → ({ ct0 u with num := j } : Ct).fine) := by rw [hu]; exact FN.out
  have HUN : Hid (u.n = ns.length) := by rw [hu]; rfl
  have cBlt : Hid (cB < W3.heap.size) := blk_lt C3.out
  cases op with
  | false =>
    have RS := Resume_no W3.heap.size W3 st x ao3 nb3 0 cap3 pv3 ns hns3 (Nat.le_refl _) HS.out HE.out j k v (by omega) (by omega) hk12.out hiv.out
    rw [← hu] at RS
    replace RS := hide RS
    clear hz3 hT3 hb3 hns3 TW C2 N2 B2 hu
    go_wp2_with fail
    refine Calls.mono RS.out ?_
    rintro e W4 ⟨C, rfl, hC, hX4, hb4⟩
    have HF := FU.out j (by omega) (by omega)
    have BU := busy_any hX4 HF.n1
    rw [show ({ ct0 u with num := j } : Ct).ph.isSome = false from rfl] at BU
    replace BU := hide BU
    have RE := hide (Report_no hX4 HF.n1 rfl)
    have X4 := hide hX4
    have C4 := hide (C3.out.below hb4)
    have B4 := hide (B3.out.trans (hb4.mono B3.out.size))
    have HFF := hide HF
    have NU := hide (num_any 0)
    have NU2 := hide (num_any 151)
    have Cge : Hid (w.heap.size ≤ C) := Nat.le_trans B3.out.size hC
    clear hX4 hb4 RS HF C3 B3
    go_wp2_with fail
    refine Calls.mono (NU.out _) ?_
    rintro e w9 ⟨rfl, rfl⟩
    go_wp2_with fail
    refine Calls.mono BU.out ?_
    rintro e w9 ⟨rfl, rfl⟩
    go_wp2_with fail
    refine Calls.mono RE.out ?_
    rintro e W5 ⟨rfl, hb5⟩
    obtain ⟨W6, hW6⟩ : ∃ W6, W6 = (W5.alloc (.cells #[.int .i64 0, .int .i64 0, .int .i64 0, .int .i64 0, .slice none 0 0, .slice none 0 0] 39)).setRow W5.heap.size (rpA rp0 (.slice none 0 0) (.slice none 0 0)) := ⟨_, rfl⟩
    have b6 : Below W5.heap.size W5 W6 := by rw [hW6]; exact (((Kp.refl W5 non).alloc _).row (Or.inr (Nat.le_refl _)) _).below
    have X6 := (X4.out.below hb5).below b6
    have C6 := hide ((C4.out.below hb5).below b6)
    have B6 := hide ((B4.out.trans (hb5.mono B4.out.size)).trans (b6.mono (Nat.le_trans B4.out.size hb5.size)))
    have GO := hide (goes_2 X6 HFF.out rfl (by show j + 1 ≤ _; omega) st x ao ns.length cap HUN.out v h (j + 1) hiv.out rfl)
    replace hW6 := hide hW6
    clear X6 b6 hb5 RE BU X4 C4 B4
    go_upto_region 10 with (refine wpList_stR rfl 39 (.tmp 23) (.tmp 74) rfl W5.heap.size rfl (rpA rp0 (.slice none 0 0) (.slice none 0 0)) #[.int .i64 0, .int .i64 0, .int .i64 0, .int .i64 0, .slice none 0 0, .slice none 0 0] rfl _ (heap_last W5 _) rp_info rfl (by simp [rpA, Value.oneCell']) ?_)
    rw [← hW6.out]
    clear hW6
    go_wp2_with fail
    refine Calls.mono (NU2.out _) ?_
    rintro e w9 ⟨rfl, rfl⟩
    go_wp2_with (refine wpList_ldRG (by kernel_rfl) 26 (.tmp 15) rfl cB (by kernel_rfl) _ _ C6.out Try.underlying26 infoCl ?_)
    refine Calls.mono GO.out ?_
    rintro e W7 ⟨rfl, S7, x7, s7, k7⟩
    have B7 : Hid (Below w.heap.size w W7) := ((Kp.of_below B6.out non).trans k7 (fun q e => Or.inr (by rw [e]; exact Cge.out))).below
    clear x7 s7 k7 GO
    go_wp2_with fail
    go_ret
    exact ⟨rfl, B7.out⟩
  | true =>
    have RS := Resume_yes W3.heap.size W3 st x ao3 nb3 0 cap3 pv3 ns hns3 (Nat.le_refl _) HS.out HE.out n16.1 n16.2 j k v (by omega) (by omega) hk12.out hiv.out
    rw [← hu] at RS
    replace RS := hide RS
    clear hz3 hT3 hb3 hns3 TW C2 N2 B2 hu
    go_wp2_with fail
    refine Calls.mono RS.out ?_
    rintro e W4 ⟨C, lv, rfl, di⟩
    have C4 : Hid (W4.heap[cB]? = some (.cells (clA st x (.slice ao ns.length cap)) 26)) := di.keep C3.out (fun f => f)
    obtain ⟨S4, x4, s4, k4, o4, d4⟩ := di
    obtain ⟨n, hn⟩ : ∃ n, n = ns.length := ⟨_, rfl⟩
    have HNN : Hid (u.n = n) := by rw [hn]; exact HUN.out
    have LN4 : Hid ((resL u j k v).length = n) := by show (entL _ (rd0 u j k v)).length = n; rw [entL0_len, HNN.out]
    obtain ⟨la, lc, rfl⟩ : ∃ la lc, lv = .slice la n lc := by
      obtain ⟨la, lc, e⟩ := own_sl o4
      exact ⟨la, lc, by rw [e, LN4.out]⟩
    have HF := FU.out j (by omega) (by omega)
    have RF := hide (res_fine HF k v)
    have BU := busy_any x4 RF.out.n1
    rw [show (resC u j k v).ph.isSome = true from rfl] at BU
    replace BU := hide BU
    have RE := hide (Report_no x4 RF.out.n1 rfl)
    have X4 := hide x4
    have S4g : Hid (∀ q, S4 q → W3.heap.size ≤ q) := fun q e => (s4 q e).elim (fun f => f.elim) (fun f => f)
    have B4 : Hid (Below w.heap.size w W4) := ((Kp.of_below B3.out non).trans k4 (fun _ f => f.elim)).below
    have O4 : Hid (W4.ownsRow 0 44 11 (.slice la n lc) n (mgs (resL u j k v))) := by
      have := own_mono o4 (Nat.zero_le _)
      rw [LN4.out] at this
      exact this
    have D4 := hide d4
    have HFF := hide HF
    have NU := hide (num_any 0)
    have NU2 := hide (num_any 151)
    have n16' : 1 ≤ n ∧ n ≤ 16 := by rw [hn]; exact n16
    rw [← hn] at C4
    have w3 : Hid (w.heap.size ≤ W3.heap.size) := B3.out.size
    clear x4 s4 k4 o4 d4 RS HF C3 B3 n16 hn
    go_wp2_with fail
    refine Calls.mono (NU.out _) ?_
    rintro e w9 ⟨rfl, rfl⟩
    go_wp2_with fail
    refine Calls.mono BU.out ?_
    rintro e w9 ⟨rfl, rfl⟩
    go_wp2_with fail
    refine Calls.mono RE.out ?_
    rintro e W5 ⟨rfl, hb5⟩
    obtain ⟨W6, hW6⟩ : ∃ W6, W6 = (W5.alloc (.cells #[.int .i64 0, .int .i64 0, .int .i64 0, .int .i64 0, .slice none 0 0, .slice none 0 0] 39)).setRow W5.heap.size (rpA rp0 (.slice none 0 0) (.slice none 0 0)) := ⟨_, rfl⟩
    have b6 : Below W5.heap.size W5 W6 := by rw [hW6]; exact (((Kp.refl W5 non).alloc _).row (Or.inr (Nat.le_refl _)) _).below
    have b46 : Below W4.heap.size W4 W6 := hb5.trans (b6.mono hb5.size)
    have X6 := hide (X4.out.below b46)
    have C6 : Hid (W6.heap[cB]? = some (.cells (clA st x (.slice ao n cap)) 26)) := getL (Kp.of_below b46 non) C4.out (fun f => f)
    have B6 := hide (B4.out.trans (b46.mono B4.out.size))
    have O6 := hide (own_below O4.out b46)
    have s6 : Hid (∀ q, S4 q → q < W4.heap.size) := X4.out.lt
    have y22 : W6.cell? ⟨cB, 22, none⟩ = some (.slice ao n cap) := by rw [cell_row C6.out]; rfl
    replace hW6 := hide hW6
    clear b6 hb5 RE BU X4 C4 B4 b46 O4
    go_upto_region 10 with (refine wpList_stR rfl 39 (.tmp 23) (.tmp 74) rfl W5.heap.size rfl (rpA rp0 (.slice none 0 0) (.slice none 0 0)) #[.int .i64 0, .int .i64 0, .int .i64 0, .int .i64 0, .slice none 0 0, .slice none 0 0] rfl _ (heap_last W5 _) rp_info rfl (by simp [rpA, Value.oneCell']) ?_)
    rw [← hW6.out]
    clear hW6
    go_wp2_with fail
    refine Calls.mono (NU2.out _) ?_
    rintro e w9 ⟨rfl, rfl⟩
    go_wp2_with fail
    clear y22
    go_loopw [25] (fun vi wr => ∃ (i : Nat), i ≤ n ∧ vi = .int .i64 (i : Int) ∧ Hid (Below W6.heap.size W6 wr)) (fun vi _ => n - (intOf vi).toNat)
    case atStart => exact ⟨0, Nat.zero_le _, rfl, Below.refl _ _⟩
    case round =>
      obtain ⟨i, hi, rfl, HB⟩ := hrel
      by_cases hin : i < n
      case pos =>
        have hii : (i : Int) < (n : Int) := by omega
        have hil : i < (resL u j k v).length := by rw [LN4.out]; exact hin
        have O7 : wr.ownsRow 0 44 11 (.slice la n lc) (resL u j k v).length (mgs (resL u j k v)) := by
          have := own_below O6.out HB.out
          rw [LN4.out]
          exact this
        obtain ⟨g, c9, hv9, hg, cl9, rg⟩ := own_mg O7 i hil
        clear cl9
        have e8 : la = some ⟨g, 0, none⟩ := by simp only [Value.slice.injEq] at hv9; exact hv9.1
        rw [resL_at u j k v i hil] at rg
        obtain ⟨mm, hmm⟩ : ∃ mm : Mg, mm = { mg0 with kind := 7, fr := 64, td := (i : Int), id := j, ep := j, sq := 2 } := ⟨_, rfl⟩
        rw [← hmm] at rg
        clear hv9 O7 hil
        subst e8
        obtain ⟨W8, hW8⟩ : ∃ W8, W8 = (wr.alloc (.cells (mgV mg0) 44)).setRow wr.heap.size (mgV mm) := ⟨_, rfl⟩
        have b8 : Below wr.heap.size wr W8 := by rw [hW8]; exact (((Kp.refl wr non).alloc _).row (Or.inr (Nat.le_refl _)) _).below
        have m8 : MgAt W8 wr.heap.size mm := by rw [hW8]; exact setRow_heap _ _ _ _ _ _ (heap_last wr _)
        obtain ⟨z0, z1, z2, z3, z4, z5, z6, _⟩ := m8.cells
        rw [hmm] at z0 z1 z2 z3 z4 z5 z6
        change W8.cell? ⟨wr.heap.size, 0, none⟩ = some (.int .i64 7) at z0
        change W8.cell? ⟨wr.heap.size, 1, none⟩ = some (.int .i64 64) at z1
        change W8.cell? ⟨wr.heap.size, 2, none⟩ = some (.int .i64 (i : Int)) at z2
        change W8.cell? ⟨wr.heap.size, 3, none⟩ = some (.int .i64 j) at z3
        change W8.cell? ⟨wr.heap.size, 4, none⟩ = some (.int .i64 j) at z4
        change W8.cell? ⟨wr.heap.size, 5, none⟩ = some (.int .i64 2) at z5
        change W8.cell? ⟨wr.heap.size, 6, none⟩ = some (.int .i64 0) at z6
        have RG := hide rg
        have B8 : Hid (Below W6.heap.size W6 W8) := HB.out.trans (b8.mono HB.out.size)
        replace hW8 := hide hW8
        replace hmm := hide hmm
        clear rg m8 b8
        go_upto_region 20 with (first | refine wpList_load_mid rfl 44 (.tmp 107) rfl g (i * 11) rfl (mgV mm).toList _ RG.out Try.underlying44 rfl mg_info ?_ | refine wpList_stR rfl 44 (.tmp 26) (.tmp 108) rfl wr.heap.size rfl (mgV mm) (mgV mg0) rfl _ (heap_last wr _) mg_info rfl (mg_one _) ?_)
        rw [show (#[.int .i64 0, .int .i64 0, .int .i64 0, .int .i64 0, .int .i64 0, .int .i64 0, .int .i64 0, .int .i64 0, .int .i64 0, .string ⟨#[]⟩, .string ⟨#[]⟩] : Array Value) = mgV mg0 from rfl]
        rw [← hW8.out]
        clear hW8
        go_wp2_with fail
        go_roundw
        case rel => exact ⟨i + 1, by omega, by go_num, B8.out⟩
        case measure => simp [intOf]; omega
      case neg =>
        obtain rfl : i = n := by omega
        clear hin hi
        have XR := X6.out.below HB.out
        have AN := hide (answers_to XR RF.out (.slice la i lc) (resL u j k v) h (by rw [LN4.out]; exact own_below O6.out HB.out) D4.out (by rw [LN4.out]; omega) (entL_kind _ _) (finB u j k v h) [] 0 (fin_res u j k v h (by rw [HNN.out]; exact n16'.1)).1 (fin_res u j k v h (by rw [HNN.out]; exact n16'.1)).2 rfl)
        have CR : Hid (wr.heap[cB]? = some (.cells (clA st x (.slice ao i cap)) 26)) := getL (Kp.of_below HB.out non) C6.out (fun f => f)
        have BR : Hid (Below w.heap.size w wr) := B6.out.trans (HB.out.mono B6.out.size)
        clear XR X6 C6 B6 O6 HB
        go_wp2_with fail
        refine Calls.mono AN.out ?_
        rintro e W8 ⟨la8, lc8, rfl, di⟩
        have nS : Hid (¬ S4 cB) := fun e => by have := S4g.out cB e; have := cBlt.out; omega
        have C8 : Hid (W8.heap[cB]? = some (.cells (clA st x (.slice ao i cap)) 26)) := di.keep CR.out nS.out
        obtain ⟨S8, x8, s8, k8, o8, d8⟩ := di
        have FB := hide (finB_fine HFF.out k v h)
        have wle : w.heap.size ≤ wr.heap.size := BR.out.size
        have S8g : Hid (∀ q, S8 q → w.heap.size ≤ q ∧ q ≠ cB) := fun q e => by
          rcases s8 q e with g | g
          · have := S4g.out q g
            have := cBlt.out
            have := w3.out
            omega
          · have := blk_lt CR.out
            omega
        have B8 : Hid (Below w.heap.size w W8) := ((Kp.of_below BR.out non).trans k8 (fun q e => Or.inr (by have := S4g.out q e; have := w3.out; omega))).below
        have RE := report_to x8 FB.out (by show j ≠ 0; omega) i 0 (by show (List.replicate u.n h).length = i; rw [List.length_replicate, HNN.out]) rfl
        have el : (finB u j k v h).last = ⟨j, k, v, 2, List.replicate i h, []⟩ := by
          show (⟨j, k, v, 2, List.replicate u.n h, []⟩ : Rp) = _
          rw [HNN.out]
        rw [el] at RE
        replace RE := hide RE
        have X8 := hide x8
        clear x8 s8 k8 o8 d8 AN CR BR el wle nS
        go_wp2_with fail
        refine Calls.mono RE.out ?_
        rintro e W9 ⟨na, nc, ka, kc, rfl, oh, hb9⟩
        obtain ⟨R, hR⟩ : ∃ R, R = W9.heap.size := ⟨_, rfl⟩
        obtain ⟨lp, hlp⟩ : ∃ lp : Rp, lp = ⟨j, k, v, 2, List.replicate i h, []⟩ := ⟨_, rfl⟩
        rw [← hlp]
        obtain ⟨WA, hWA⟩ : ∃ WA, WA = (W9.alloc (.cells #[.int .i64 0, .int .i64 0, .int .i64 0, .int .i64 0, .slice none 0 0, .slice none 0 0] 39)).setRow W9.heap.size (rpA lp (.slice na i nc) (.slice ka 0 kc)) := ⟨_, rfl⟩
        have bA : Below W9.heap.size W9 WA := by rw [hWA]; exact (((Kp.refl W9 non).alloc _).row (Or.inr (Nat.le_refl _)) _).below
        have mA : WA.heap[R]? = some (.cells (rpA lp (.slice na i nc) (.slice ka 0 kc)) 39) := by rw [hWA, hR]; exact setRow_heap _ _ _ _ _ _ (heap_last W9 _)
        have r0 : WA.cell? ⟨R, 0, none⟩ = some (.int .i64 j) := by rw [cell_row mA, hlp]; rfl
        have r1 : WA.cell? ⟨R, 1, none⟩ = some (.int .i64 k) := by rw [cell_row mA, hlp]; rfl
        have r2 : WA.cell? ⟨R, 2, none⟩ = some (.int .i64 v) := by rw [cell_row mA, hlp]; rfl
        have r3 : WA.cell? ⟨R, 3, none⟩ = some (.int .i64 2) := by rw [cell_row mA, hlp]; rfl
        have r4 : WA.cell? ⟨R, 4, none⟩ = some (.slice na i nc) := by rw [cell_row mA]; rfl
        have r5 : WA.cell? ⟨R, 5, none⟩ = some (.slice ka 0 kc) := by rw [cell_row mA]; rfl
        have b8A : Below W8.heap.size W8 WA := hb9.trans (bA.mono hb9.size)
        have XA := X8.out.below b8A
        have BU := busy_any XA FB.out.n1
        rw [show (finB u j k v h).ph.isSome = false from rfl] at BU
        replace BU := hide BU
        have CA : Hid (WA.heap[cB]? = some (.cells (clA st x (.slice ao i cap)) 26)) := getL (Kp.of_below b8A non) C8.out (fun f => f)
        have BA : Hid (Below w.heap.size w WA) := B8.out.trans (b8A.mono B8.out.size)
        have y22 : WA.cell? ⟨cB, 22, none⟩ = some (.slice ao i cap) := by rw [cell_row CA.out]; rfl
        have GO := hide (goes_1 XA FB.out rfl (by show j + 1 ≤ _; omega) st x ao i cap HNN.out v h (j + 1) hiv.out rfl)
        have OH : Hid (WA.ownsRow 0 3 1 (.slice na i nc) i (ints (List.replicate i h))) := own_mono (own_below oh bA) (Nat.zero_le _)
        have on : (rpA lp (.slice na i nc) (.slice ka 0 kc)).all (·.oneCell') = true := by simp [rpA, Value.oneCell']
        have ON := hide on
        have HR := hide hR
        replace hWA := hide hWA
        clear on XA bA hb9 oh hlp mA hR b8A RE X8 C8 B8
        go_upto_region 24 with (refine wpList_stR rfl 39 (.tmp 29) (.tmp 155) rfl W9.heap.size rfl (rpA lp (.slice na i nc) (.slice ka 0 kc)) #[.int .i64 0, .int .i64 0, .int .i64 0, .int .i64 0, .slice none 0 0, .slice none 0 0] rfl _ (heap_last W9 _) rp_info rfl ON.out ?_)
        rw [← hWA.out, ← HR.out]
        clear hWA
        go_wp2_with fail
        refine Calls.mono BU.out ?_
        rintro e w9 ⟨rfl, rfl⟩
        go_wp2_with fail
        refine Calls.mono (NU.out _) ?_
        rintro e w9 ⟨rfl, rfl⟩
        go_wp2_with fail
        go_loopw [31] (fun vi wq => ∃ (q : Nat), q ≤ i ∧ vi = .int .i64 (q : Int) ∧ WA = wq) (fun vi _ => i - (intOf vi).toNat)
        case atStart => exact ⟨0, Nat.zero_le _, rfl, rfl⟩
        case round =>
          obtain ⟨q, hq, rfl, rfl⟩ := hrel
          by_cases hqi : q < i
          case neg =>
            obtain rfl : q = i := by omega
            go_wp2_with (refine wpList_ldR rfl 26 (.tmp 15) rfl cB (by kernel_rfl) _ _ CA.out Try.underlying26 infoCl ?_)
            refine Calls.mono GO.out ?_
            rintro e WB ⟨rfl, SB, xB, sB, kB⟩
            have BB : Hid (Below w.heap.size w WB) := ((Kp.of_below BA.out non).trans kB (fun z e => Or.inr (S8g.out z e).1)).below
            clear xB sB kB GO
            go_wp2_with fail
            go_ret
            exact ⟨rfl, BB.out⟩
          case pos =>
            have hii : (q : Int) < (i : Int) := by omega
            have hil : q < (List.replicate i h).length := by rw [List.length_replicate]; exact hqi
            obtain ⟨g, cc, hvv, _, _, cg⟩ := own_read OH.out (List.length_replicate).symm q hil
            have e9 : (List.replicate i h)[q] = h := by simp
            rw [e9] at cg
            have e8 : na = some ⟨g, 0, none⟩ := by simp only [Value.slice.injEq] at hvv; exact hvv.1
            clear hvv e9 hil
            subst e8
            go_wp2_with fail
            go_roundw
            case rel => exact ⟨q + 1, by omega, by go_num, trivial⟩
            case measure => simp [intOf]; omega
end Go.Proofs.Ytpmicmhkahgjcaa.Cn
namespace Go.Proofs.Ytpmicmhkahgjcaa.Cn
open Go.ChangeShapes Go.WideShapes Go.ChangeAt Go.RowKit Go.Deep
open Go.Joins (open_agg3 open_agg2)
theorem cellsI : Try.prog.cellsOf 3 = 1 := by kernel_rfl
theorem cellsTi : Try.prog.cellsOf 23 = 3 := by kernel_rfl
theorem laidOutP : laidOutB Try.prog = true := by kernel_rfl
theorem int_of {n : Int} (h : (Lit.int .i64 n).wf = true) : -9223372036854775808 ≤ n ∧ n < 9223372036854775808 := by
  simp [Lit.wf, IntKind.min, IntKind.max, IntKind.signed, IntKind.bits] at h
  omega
set_option maxRecDepth 100000 in
/-- times that are handed in -/
theorem open_times {H : Type} {enc : TypeId × Value → H} {w : World} {r : Reach} {b0 base : Nat} {spare : Nat → Bool} {held : Bool} {v : Value} {d : DataW H} {p : List MemPlace} (hv : Value.okWide Try.prog w r b0 23 v) (h : DataW.Trod enc Try.prog w base spare held 23 v d p) :
    ∃ x y z : Int, v = .agg #[.int .i64 x, .int .i64 y, .int .i64 z] ∧ p = [] ∧ (Lit.int .i64 x).wf = true ∧ (Lit.int .i64 y).wf = true ∧ (Lit.int .i64 z).wf = true := by
  obtain ⟨a0, a1, a2, y0, y1, y2, n, rfl, rfl, rfl, t0, t1, t2⟩ := open_agg3 Try.underlying23 (by kernel_rfl) cellsTi hv h
  obtain ⟨c0, e0, rfl, w0⟩ := DataW.trod_int Try.underlying3 t0
  obtain ⟨c1, e1, rfl, w1⟩ := DataW.trod_int Try.underlying3 t1
  obtain ⟨c2, e2, rfl, w2⟩ := DataW.trod_int Try.underlying3 t2
  simp only [List.cons.injEq, and_true] at e0 e1 e2
  subst e0 e1 e2
  exact ⟨c0, c1, c2, rfl, rfl, w0, w1, w2⟩
end Go.Proofs.Ytpmicmhkahgjcaa.Cn
