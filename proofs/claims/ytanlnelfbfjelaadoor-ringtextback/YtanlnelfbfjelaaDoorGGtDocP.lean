import Derived.Test.YtanlnelfbfjelaaDoorGtDocL
import Derived.Test.YtanlnelfbfjelaaDoorGGtClus
import Derived.Test.YtanlnelfbfjelaaDoorGGmWith
import Derived.Test.YtanlnelfbfjelaaDoorGGcChk
import Derived.Test.YtanlnelfbfjelaaDoorGGcSame
namespace Go.Proofs.YtanlnelfbfjelaaDoor
open Go.RowKit Go.Maps
/-- what is lacking of the first q settings -/
def lkQ (s : PS) (q : Nat) : Bool := s.st.isEmpty || !(List.range q).all fun i => decide (0 ≤ s.x i)
theorem lkQ_zero (s : PS) : lkQ s 0 = s.st.isEmpty := by simp [lkQ]
theorem lkQ_succ (s : PS) (q : Nat) : lkQ s (q + 1) = (lkQ s q || decide (s.x q < 0)) := by
  unfold lkQ
  rw [List.range_succ, List.all_append]
  by_cases h : 0 ≤ s.x q
  · rw [decide_eq_false (show ¬ s.x q < 0 by omega)]
    simp [h]
  · rw [decide_eq_true (show s.x q < 0 by omega)]
    simp [h]
theorem psL_lns {t : List UInt8} (h : ¬ 65536 < t.length) : psL t = lnL (splitL 10 [] t) := by unfold psL lnL; rw [if_neg h]
theorem psE_bad {t : List UInt8} (h : ¬ 65536 < t.length) (h2 : lnsE (splitL 10 [] t) ≠ 0) (vl : Value) : psE t = lnsE (splitL 10 [] t) ∧ psV t vl = clA ⟨#[]⟩ zx (.slice none 0 0) := by
  have e : psE t = lnsE (splitL 10 [] t) := by unfold psE; rw [if_neg h, if_neg h2]
  exact ⟨e, by unfold psV; rw [e, if_neg h2]⟩
theorem psE_good {t : List UInt8} (h : ¬ 65536 < t.length) (h2 : lnsE (splitL 10 [] t) = 0) (vl : Value) : psE t = clE (psS t) ∧ psL t = 0 ∧ psV t vl = clV (psS t) vl := by
  have e : psE t = clE (psS t) := by unfold psE; rw [if_neg h, if_pos h2]
  exact ⟨e, by unfold psL; rw [if_neg h, if_pos h2], by unfold psV clV; rw [e]⟩
set_option maxHeartbeats 8000000 in
set_option maxRecDepth 100000 in
set_option linter.unusedSimpArgs false in
set_option linter.unusedVariables false in
theorem tparse_any (w : World) (t : List UInt8) (hT : TabW w) (hG : TabG w) (ht : t.length ≤ 4611686018427387904) :
    Calls Tryd.prog 6 #[.string (strOf t)] w fun e w' => Below w.heap.size w w' ∧ ∃ vl zs, e = .returned (.tuple #[.agg (psV t vl), .int .i64 (psE t), .int .i64 (psL t)]) ∧ (psE t = 0 → Tw w.heap.size w' (psS t).ns vl zs ∧ zs.length = (psS t).ns.length ∧ (psS t).ns.length ≤ 70000 ∧ (∀ d ∈ (psS t).ns, d.ps.length ≤ 70000) ∧ (psS t).st.length ≤ 70000) := by
  obtain ⟨W0, hW0⟩ : ∃ W0, W0 = w.alloc (.cells (clA ⟨#[]⟩ zx (.slice none 0 0)) 24) := ⟨_, rfl⟩
  have B0 : Hid (Below w.heap.size w W0) := by rw [hW0]; exact (Below.refl _ _).alloc (Nat.le_refl _) _
  have R0 : Hid (ClAt W0 w.heap.size ⟨#[]⟩ zx (.slice none 0 0)) := by rw [hW0]; exact new_cl _ _ _ _
  have s0 : Hid (W0.heap.size = w.heap.size + 1) := by rw [hW0]; show _ = _; simp
  have hts : (strOf t).size = t.length := strOf_size t
  by_cases hbig : 65536 < t.length
  · have HZ := hide (ps_big hbig (.slice none 0 0))
    have hb1 : (65536 : Int) < ((strOf t).size : Int) := by rw [hts]; omega
    have hb2 : (strOf t).size ≤ 4611686018427387904 := by omega
    clear hbig hts ht
    generalize strOf t = ts at *
    go_enter Tryd.func6, Tryd.ntmps6
    go_upto_region 1 with fail
    rw [show w.alloc (.cells #[.string ⟨#[]⟩, .int .i64 0, .int .i64 0, .int .i64 0, .int .i64 0, .int .i64 0, .int .i64 0, .int .i64 0, .int .i64 0, .int .i64 0, .int .i64 0, .int .i64 0, .int .i64 0, .int .i64 0, .int .i64 0, .int .i64 0, .int .i64 0, .int .i64 0, .int .i64 0, .int .i64 0, .int .i64 0, .int .i64 0, .slice none 0 0] 24) = W0 from hW0.symm]
    clear hW0
    go_wp2_with (first | refine wpList_buildCl0 rfl rfl ?_ | refine wpList_store_row rfl 24 (.tmp 2) (.tmp 16) rfl w.heap.size (clA ⟨#[]⟩ zx0 (.slice none 0 0)) rfl rfl 24 _ R0.out infoCl rfl (clA_one _ _ rfl) ?_)
    have E6 : ClAt (W0.setRow w.heap.size (clA ⟨#[]⟩ zx0 (.slice none 0 0))) w.heap.size ⟨#[]⟩ zx (.slice none 0 0) := setRow_heap W0 w.heap.size _ _ 24 _ R0.out
    have B7 : Below w.heap.size w (W0.setRow w.heap.size (clA ⟨#[]⟩ zx0 (.slice none 0 0))) := below_setRow B0.out (Nat.le_refl _) _
    refine bodyPost_ret (v := .tuple #[.agg (clA ⟨#[]⟩ zx (.slice none 0 0)), .int .i64 3, .int .i64 0]) (res_cl3 Tryd.results6 _ ⟨#[]⟩ zx _ _ w.heap.size rfl E6 _ _ rfl rfl) rfl ⟨B7, .slice none 0 0, [], by rw [HZ.out.1, HZ.out.2.1, HZ.out.2.2], fun h => by rw [HZ.out.1] at h; cases h⟩
  have hb1 : ¬ (65536 : Int) < ((strOf t).size : Int) := by rw [hts]; omega
  have hb2 : (strOf t).size ≤ 65536 := by omega
  have LC := hide (tlines_any W0 t (hT.below B0.out) (by omega))
  have PB := hide (fun h vl => psE_bad hbig h vl)
  have PG := hide (fun h vl => psE_good hbig h vl)
  have PL := hide (psL_lns hbig)
  have HPS : Hid (psS t = runS (splitL 10 [] t) (splitL 10 [] t).length) := rfl
  have T0 := hide (hG.below B0.out)
  clear hbig hts ht hT hG
  generalize splitL 10 [] t = L at *
  generalize strOf t = ts at *
  go_enter Tryd.func6, Tryd.ntmps6
  go_upto_region 1 with fail
  rw [show w.alloc (.cells #[.string ⟨#[]⟩, .int .i64 0, .int .i64 0, .int .i64 0, .int .i64 0, .int .i64 0, .int .i64 0, .int .i64 0, .int .i64 0, .int .i64 0, .int .i64 0, .int .i64 0, .int .i64 0, .int .i64 0, .int .i64 0, .int .i64 0, .int .i64 0, .int .i64 0, .int .i64 0, .int .i64 0, .int .i64 0, .int .i64 0, .slice none 0 0] 24) = W0 from hW0.symm]
  clear hW0
  go_wp2_with fail
  refine Calls.mono LC.out ?_
  rintro e W1 ⟨hb, a, x, vl, zs, rfl, ⟨ba, n, c, rfl⟩, hx⟩
  have R1 := hide (R0.out.below hb)
  have B1 := hide (B0.out.trans (hb.mono B0.out.size))
  have G1 := hide (T0.out.below hb)
  have HX := hide hx
  clear hx hb LC
  by_cases hE : lnsE L = 0
  case neg =>
    have HZ := hide (PB.out hE (.slice none 0 0))
    obtain ⟨E, hEE⟩ : ∃ E, E = lnsE L := ⟨_, rfl⟩
    obtain ⟨l, hl⟩ : ∃ l, l = lnL L := ⟨_, rfl⟩
    rw [← hEE] at HZ hE ⊢
    rw [← hl] at PL ⊢
    clear PG HX HPS hEE hl PB
    obtain ⟨W2, hW2⟩ : ∃ W2, W2 = W1.alloc (.cells (vA x) 52) := ⟨_, rfl⟩
    have b2 : Below W1.heap.size W1 W2 := by rw [hW2]; exact (Below.refl _ _).alloc (Nat.le_refl _) _
    have R2 := hide (R1.out.below b2)
    have B2 := hide (B1.out.trans (b2.mono B1.out.size))
    clear b2
    go_upto_region 4 with (refine wpList_storeV (w0 := W1) rfl (.tmp 6) (.tmp 21) rfl W1.heap.size (by kernel_rfl) rfl x (by kernel_rfl) _ rfl rfl ?_)
    rw [← hW2]
    clear hW2
    go_wp2_with (first | refine wpList_buildCl0 rfl rfl ?_ | refine wpList_store_row rfl 24 (.tmp 2) (.tmp 27) rfl w.heap.size (clA ⟨#[]⟩ zx0 (.slice none 0 0)) rfl rfl 24 _ R2.out infoCl rfl (clA_one _ _ rfl) ?_)
    have E6 : ClAt (W2.setRow w.heap.size (clA ⟨#[]⟩ zx0 (.slice none 0 0))) w.heap.size ⟨#[]⟩ zx (.slice none 0 0) := setRow_heap W2 w.heap.size _ _ 24 _ R2.out
    have B7 : Below w.heap.size w (W2.setRow w.heap.size (clA ⟨#[]⟩ zx0 (.slice none 0 0))) := below_setRow B2.out (Nat.le_refl _) _
    refine bodyPost_ret (v := .tuple #[.agg (clA ⟨#[]⟩ zx (.slice none 0 0)), .int .i64 E, .int .i64 l]) (res_cl3 Tryd.results6 _ ⟨#[]⟩ zx _ _ w.heap.size rfl E6 _ _ rfl rfl) rfl ⟨B7, .slice none 0 0, [], by rw [HZ.out.1, HZ.out.2, PL.out], fun h => by rw [HZ.out.1] at h; exact absurd h hE⟩
  case pos =>
    have HZ := hide (PG.out hE)
    have HLL : Hid (lnL L = 0) := by show _ = _; unfold lnL; rw [if_pos hE]
    obtain ⟨ha, hxx, htw, hzl, hnl, hpl, hsl⟩ := HX.out hE
    rw [← HPS.out] at ha hxx htw hzl hnl hpl hsl
    rw [hE, HLL.out]
    subst ha
    rw [vA_congr hxx]
    clear hxx HX PB PG hE HLL HPS PL
    obtain ⟨s, hs⟩ : ∃ s, s = psS t := ⟨_, rfl⟩
    have HPSS := hide hs
    rw [← hs] at HZ htw hzl hnl hpl hsl ⊢
    clear hs
    have EE : (strOf s.st).toList.isEmpty = s.st.isEmpty := by rw [toList_data, strOf_data]
    obtain ⟨st, hst⟩ : ∃ st, st = strOf s.st := ⟨_, rfl⟩
    have HSS := hide hst
    rw [← hst] at EE ⊢
    clear hst
    obtain ⟨W2, hW2⟩ : ∃ W2, W2 = W1.alloc (.cells (vA s.x) 52) := ⟨_, rfl⟩
    have b2 : Below W1.heap.size W1 W2 := by rw [hW2]; exact (Below.refl _ _).alloc (Nat.le_refl _) _
    have V2 : Hid (VAt W2 W1.heap.size s.x) := by rw [hW2]; exact heap_last _ _
    have R2 := hide (R1.out.below b2)
    have B2 := hide (B1.out.trans (b2.mono B1.out.size))
    have G2 := hide (G1.out.below b2)
    have TW2 := hide (htw.keep b2)
    have BN : Hid (zs.length = s.ns.length ∧ s.ns.length ≤ 70000 ∧ (∀ d ∈ s.ns, d.ps.length ≤ 70000) ∧ s.st.length ≤ 70000) := ⟨hzl, hnl, hpl, hsl⟩
    obtain rfl : n = s.ns.length := by
      obtain ⟨ao, b, cap, hvl, _⟩ := htw.nodes hzl (by omega) (fun q hq => Nat.le_trans (hpl _ (List.getElem_mem hq)) (by omega))
      cases hvl
      rfl
    clear b2 htw hzl hnl hpl hsl
    go_upto_region 4 with (refine wpList_storeV (w0 := W1) rfl (.tmp 6) (.tmp 21) rfl W1.heap.size (by kernel_rfl) rfl s.x (by kernel_rfl) _ rfl rfl ?_)
    rw [← hW2]
    clear hW2
    go_wp2_with fail
    go_loopw [10, 11] (fun lk vi wr => ∃ (q : Nat), q ≤ 21 ∧ vi = .int .i64 (q : Int) ∧ lk = .bool (lkQ s q) ∧ W2 = wr) (fun _ vi _ => 21 - (intOf vi).toNat)
    case atStart => exact ⟨0, Nat.zero_le _, rfl, by rw [lkQ_zero], rfl⟩
    case round =>
      obtain ⟨q, hq, rfl, rfl, rfl⟩ := hrel
      by_cases hql : q < 21
      case pos =>
        have hqi : (q : Int) < 21 := by omega
        have e0 := V2.out.cell q hql
        have HS := hide (lkQ_succ s q)
        obtain ⟨lk, hlk⟩ : ∃ lk, lk = lkQ s q := ⟨_, rfl⟩
        obtain ⟨xq, hxq⟩ : ∃ xq, xq = s.x q := ⟨_, rfl⟩
        rw [← hlk] at HS ⊢
        rw [← hxq] at HS e0
        clear hlk hxq
        by_cases hx : xq < 0
        · rw [decide_eq_true hx] at HS
          cases lk
          · go_wp2_with fail
            go_roundw
            case rel => exact ⟨q + 1, by omega, by go_num, by rw [HS.out]; rfl, by trivial⟩
            case measure => simp [intOf]; omega
          · go_wp2_with fail
            go_roundw
            case rel => exact ⟨q + 1, by omega, by go_num, by rw [HS.out]; rfl, by trivial⟩
            case measure => simp [intOf]; omega
        · rw [decide_eq_false hx] at HS
          cases lk
          · go_wp2_with fail
            go_roundw
            case rel => exact ⟨q + 1, by omega, by go_num, by rw [HS.out]; rfl, by trivial⟩
            case measure => simp [intOf]; omega
          · go_wp2_with fail
            go_roundw
            case rel => exact ⟨q + 1, by omega, by go_num, by rw [HS.out]; rfl, by trivial⟩
            case measure => simp [intOf]; omega
      case neg =>
        obtain rfl : q = 21 := by omega
        have HL : Hid (lkQ s 21 = lackP s) := rfl
        rw [HL.out]
        by_cases hlk : lackP s = true
        · have HC := hide (clE_lack hlk (.slice none 0 0))
          rw [hlk]
          clear hlk HL
          go_wp2_with (first | refine wpList_buildCl0 rfl rfl ?_ | refine wpList_store_row rfl 24 (.tmp 2) (.tmp 44) rfl w.heap.size (clA ⟨#[]⟩ zx0 (.slice none 0 0)) rfl rfl 24 _ R2.out infoCl rfl (clA_one _ _ rfl) ?_)
          have E6 : ClAt (W2.setRow w.heap.size (clA ⟨#[]⟩ zx0 (.slice none 0 0))) w.heap.size ⟨#[]⟩ zx (.slice none 0 0) := setRow_heap W2 w.heap.size _ _ 24 _ R2.out
          have B7 : Below w.heap.size w (W2.setRow w.heap.size (clA ⟨#[]⟩ zx0 (.slice none 0 0))) := below_setRow B2.out (Nat.le_refl _) _
          refine bodyPost_ret (v := .tuple #[.agg (clA ⟨#[]⟩ zx (.slice none 0 0)), .int .i64 62, .int .i64 0]) (res_cl3 Tryd.results6 _ ⟨#[]⟩ zx _ _ w.heap.size rfl E6 _ _ rfl rfl) rfl ⟨B7, .slice none 0 0, [], by rw [(HZ.out (.slice none 0 0)).1, (HZ.out (.slice none 0 0)).2.1, (HZ.out (.slice none 0 0)).2.2, HC.out.1, HC.out.2], fun h => by rw [(HZ.out (.slice none 0 0)).1, HC.out.1] at h; cases h⟩
        · have hlk' : lackP s = false := by simpa using hlk
          have HC := hide (clE_no hlk')
          rw [hlk']
          clear hlk hlk' HL
          have WI := hide (with_any W2 st s.x ba s.ns.length c)
          go_upto_region 13 with fail
          go_wp2_with (refine wpList_loadV rfl (.tmp 6) rfl W1.heap.size s.x (by kernel_rfl) V2.out ?_)
          refine Calls.mono WI.out ?_
          rintro e W3 ⟨rfl, hb⟩
          have R3 := hide (R2.out.below hb)
          have B3 := hide (B2.out.trans (hb.mono B2.out.size))
          have G3 := hide (G2.out.below hb)
          have TW3 := hide (TW2.out.keep hb)
          clear hb WI R2 B2 G2 TW2
          obtain ⟨W4, hW4⟩ : ∃ W4, W4 = W3.alloc (.cells (clA st s.x (.slice ba s.ns.length c)) 24) := ⟨_, rfl⟩
          have b4 : Below W3.heap.size W3 W4 := by rw [hW4]; exact (Below.refl _ _).alloc (Nat.le_refl _) _
          have C4 : Hid (ClAt W4 W3.heap.size st s.x (.slice ba s.ns.length c)) := by rw [hW4]; exact new_cl _ _ _ _
          have R4 := hide (R3.out.below b4)
          have B4 := hide (B3.out.trans (b4.mono B3.out.size))
          have G4 := hide (G3.out.below b4)
          have TW4 := hide (TW3.out.keep b4)
          clear b4 R3 B3 G3 TW3
          go_upto_region 14 with (refine wpList_storeCl (w0 := W3) rfl (.tmp 12) (.tmp 48) rfl W3.heap.size (by kernel_rfl) rfl st s.x (.slice ba s.ns.length c) rfl (by kernel_rfl) _ rfl rfl ?_)
          rw [← hW4]
          clear hW4
          obtain ⟨ao, nb, cap, hvl, hns⟩ := TW4.out.nodes BN.out.1 (by have := BN.out.2.1; omega) (fun q hq => Nat.le_trans (BN.out.2.2.1 _ (List.getElem_mem hq)) (by omega))
          cases hvl
          have CK := hide (rcheck_any W4.heap.size W4 st s.x ba nb 0 c _ s.ns hns (Nat.le_refl _) (by rw [HSS.out, strOf_size]; have := BN.out.2.2.2; omega) G4.out)
          clear hns
          have HE : Hid (clE s = errP st s.x s.ns) := by show _ = _; rw [HC.out, HSS.out]
          have HV : Hid (∀ vl, clV s vl = if clE s = 0 then clA st s.x vl else clA ⟨#[]⟩ zx (.slice none 0 0)) := fun vl => by rw [HSS.out]; rfl
          obtain ⟨E, hE⟩ : ∃ E, E = errP st s.x s.ns := ⟨_, rfl⟩
          rw [← hE] at CK HE
          rw [HE.out] at HV
          clear hE HC
          go_wp2_with (refine wpList_loadCl rfl (.tmp 12) rfl W3.heap.size st s.x _ (by kernel_rfl) C4.out ?_)
          refine Calls.mono CK.out ?_
          rintro e W6 ⟨rfl, hb⟩
          have R6 := hide (R4.out.below hb)
          have C6 := hide (C4.out.below hb)
          have B6 := hide (B4.out.trans (hb.mono B4.out.size))
          have TW6 := hide (TW4.out.keep hb)
          clear hb CK C4 R4 B4 TW4
          by_cases hE : E = 0
          · subst hE
            have HV2 := hide (fun vl => (HV.out vl).trans (if_pos rfl))
            go_wp2_with (first | refine wpList_loadCl rfl (.tmp 12) rfl W3.heap.size st s.x _ (by kernel_rfl) C6.out ?_ | refine wpList_store_row rfl 24 (.tmp 2) (.tmp 55) rfl w.heap.size (clA st s.x (.slice ba s.ns.length c)) rfl rfl 24 _ R6.out infoCl rfl (clA_one _ _ rfl) ?_)
            have E6 : ClAt (W6.setRow w.heap.size (clA st s.x (.slice ba s.ns.length c))) w.heap.size st s.x (.slice ba s.ns.length c) := setRow_heap W6 w.heap.size _ _ 24 _ R6.out
            have B7 : Below w.heap.size w (W6.setRow w.heap.size (clA st s.x (.slice ba s.ns.length c))) := below_setRow B6.out (Nat.le_refl _) _
            have T8 : Tw w.heap.size (W6.setRow w.heap.size (clA st s.x (.slice ba s.ns.length c))) s.ns (.slice ba s.ns.length c) zs := by
              have oth : ∀ i, i ≠ w.heap.size → (W6.setRow w.heap.size (clA st s.x (.slice ba s.ns.length c))).heap[i]? = W6.heap[i]? := fun i hi => setRow_other W6 w.heap.size i _ (fun e => hi (by first | exact e | exact e.symm))
              have hlow : w.heap.size ≤ W0.heap.size := by have := s0.out; omega
              refine ⟨own_lowr (own_keep TW6.out.row fun g hg => oth g ?_) hlow, TW6.out.z, fun q hq hq' => own_lowr (own_keep (TW6.out.p q hq hq') fun g hg => oth g ?_) hlow⟩
              · have := (own_lt TW6.out.row hg).1; have := s0.out; omega
              · have := (own_lt (TW6.out.p q hq hq') hg).1; have := s0.out; omega
            refine bodyPost_ret (v := .tuple #[.agg (clA st s.x (.slice ba s.ns.length c)), .int .i64 0, .int .i64 0]) (res_cl3 Tryd.results6 _ st s.x _ _ w.heap.size rfl E6 _ _ rfl rfl) rfl ⟨B7, .slice ba s.ns.length c, zs, by rw [(HZ.out (.slice ba s.ns.length c)).1, (HZ.out (.slice ba s.ns.length c)).2.1, (HZ.out (.slice ba s.ns.length c)).2.2, HE.out, HV2.out], fun _ => by rw [← HPSS.out]; exact ⟨T8, BN.out.1, BN.out.2.1, BN.out.2.2.1, BN.out.2.2.2⟩⟩
          · have HV2 := hide (fun vl => (HV.out vl).trans (if_neg hE))
            go_wp2_with (first | refine wpList_buildCl0 rfl rfl ?_ | refine wpList_store_row rfl 24 (.tmp 2) (.tmp 53) rfl w.heap.size (clA ⟨#[]⟩ zx0 (.slice none 0 0)) rfl rfl 24 _ R6.out infoCl rfl (clA_one _ _ rfl) ?_)
            have E6 : ClAt (W6.setRow w.heap.size (clA ⟨#[]⟩ zx0 (.slice none 0 0))) w.heap.size ⟨#[]⟩ zx (.slice none 0 0) := setRow_heap W6 w.heap.size _ _ 24 _ R6.out
            have B7 : Below w.heap.size w (W6.setRow w.heap.size (clA ⟨#[]⟩ zx0 (.slice none 0 0))) := below_setRow B6.out (Nat.le_refl _) _
            refine bodyPost_ret (v := .tuple #[.agg (clA ⟨#[]⟩ zx (.slice none 0 0)), .int .i64 E, .int .i64 0]) (res_cl3 Tryd.results6 _ ⟨#[]⟩ zx _ _ w.heap.size rfl E6 _ _ rfl rfl) rfl ⟨B7, .slice none 0 0, [], by rw [(HZ.out (.slice none 0 0)).1, (HZ.out (.slice none 0 0)).2.1, (HZ.out (.slice none 0 0)).2.2, HE.out, HV2.out], fun h => by rw [(HZ.out (.slice none 0 0)).1, HE.out] at h; exact absurd h hE⟩
end Go.Proofs.YtanlnelfbfjelaaDoor
namespace Go.Proofs.YtanlnelfbfjelaaDoor
open Go.RowKit Go.Maps
theorem num_anyT (n : Int) (w : World) : Calls Tryd.prog 8 #[.int .i64 n] w fun e w' => e = .returned (.int .i64 n) ∧ w = w' := by
  go_enter Tryd.func8, Tryd.ntmps8
  go_wp2_with fail
  go_ret
  exact ⟨rfl, rfl⟩
/-- what is read: its store, its settings, its nodes -/
noncomputable def psA (t : List UInt8) : ByteArray := if psE t = 0 then strOf (psS t).st else ⟨#[]⟩
noncomputable def psX (t : List UInt8) : Nat → Int := if psE t = 0 then (psS t).x else zx
noncomputable def psN (t : List UInt8) : List ND := if psE t = 0 then (psS t).ns else []
theorem nsAt_none (N : Nat) (w : World) : NsAt N w none 0 0 (fun _ => .slice none 0 0) [] :=
  ⟨fun h => by simp at h, fun h => by simp at h, fun q h => by simp at h, fun q h => by simp at h, fun q h => by simp at h, Nat.zero_le _, fun q h => by simp at h⟩
theorem ps_lies {t : List UInt8} {base : Nat} {W : World} {vl : Value} {zs : List (Int × Value)} (h : psE t = 0 → Tw base W (psS t).ns vl zs ∧ zs.length = (psS t).ns.length ∧ (psS t).ns.length ≤ 70000 ∧ (∀ d ∈ (psS t).ns, d.ps.length ≤ 70000) ∧ (psS t).st.length ≤ 70000) : ∃ ao b cap pv, psV t vl = clA (psA t) (psX t) (.slice ao (psN t).length cap) ∧ NsAt W.heap.size W ao b 0 pv (psN t) := by
  by_cases e : psE t = 0
  · obtain ⟨h1, h2, h3, h4, h5⟩ := h e
    obtain ⟨ao, b, cap, hv, hn⟩ := h1.nodes h2 (by omega) (fun q hq => Nat.le_trans (h4 _ (List.getElem_mem hq)) (by omega))
    refine ⟨ao, b, cap, (fun q => (zs[q]?.map (·.2)).getD (.slice none 0 0)), ?_, ?_⟩
    · unfold psV psA psX psN
      rw [if_pos e, if_pos e, if_pos e, if_pos e, hv]
    · unfold psN
      rw [if_pos e]
      exact hn
  · refine ⟨none, 0, 0, (fun _ => .slice none 0 0), ?_, ?_⟩
    · unfold psV psA psX psN
      rw [if_neg e, if_neg e, if_neg e, if_neg e]
      rfl
    · unfold psN
      rw [if_neg e]
      exact nsAt_none _ _
set_option maxHeartbeats 8000000 in
set_option maxRecDepth 100000 in
set_option linter.unusedSimpArgs false in
set_option linter.unusedVariables false in
/-- the law: it says yes -/
theorem parses_any (w : World) (t : List UInt8) (mx : Int) (hm : w.cell? ⟨2, 0, none⟩ = some (.int .i64 mx)) (hT : TabW w) (hG : TabG w) (ht : t.length ≤ 4611686018427387904) :
    Calls Tryd.prog 3 #[.string (strOf t)] w fun e w' => e = .returned (.bool true) ∧ Below w.heap.size w w' := by
  have P1 := hide (parse_any w t mx hm ht)
  have DT : Hid (∀ W, Below w.heap.size w W → Calls Tryd.prog 6 #[.string (strOf t)] W fun e w' => Below W.heap.size W w' ∧ ∃ vl zs, e = .returned (.tuple #[.agg (psV t vl), .int .i64 (psE t), .int .i64 (psL t)]) ∧ (psE t = 0 → Tw W.heap.size w' (psS t).ns vl zs ∧ zs.length = (psS t).ns.length ∧ (psS t).ns.length ≤ 70000 ∧ (∀ d ∈ (psS t).ns, d.ps.length ≤ 70000) ∧ (psS t).st.length ≤ 70000)) := fun W hW => tparse_any W t (hT.below hW) (hG.below hW) ht
  clear hm hT hG ht
  have PSL := hide (fun base W vl zs h => ps_lies (t := t) (base := base) (W := W) (vl := vl) (zs := zs) h)
  generalize strOf t = ts at *
  go_enter Tryd.func3, Tryd.ntmps3
  go_wp2_with fail
  refine Calls.mono P1.out ?_
  rintro e W1 ⟨hb, vl, zs, rfl, hx⟩
  obtain ⟨ao, b, cap, pv, hV, hN⟩ := PSL.out _ _ _ _ hx
  rw [hV]
  have N1 := hide hN
  have B1 := hide hb
  clear hx hV hN hb P1
  obtain ⟨W2, hW2⟩ : ∃ W2, W2 = W1.alloc (.cells (clA (psA t) (psX t) (.slice ao (psN t).length cap)) 24) := ⟨_, rfl⟩
  have b2 : Below W1.heap.size W1 W2 := by rw [hW2]; exact (Below.refl _ _).alloc (Nat.le_refl _) _
  have C2 : Hid (ClAt W2 W1.heap.size (psA t) (psX t) (.slice ao (psN t).length cap)) := by rw [hW2]; exact new_cl _ _ _ _
  have N2 := hide (N1.out.below b2)
  have B2 := hide (B1.out.trans (b2.mono B1.out.size))
  have s2 : Hid (W1.heap.size ≤ W2.heap.size) := b2.size
  clear N1 B1 b2
  obtain ⟨E, hE⟩ : ∃ E, E = psE t := ⟨_, rfl⟩
  obtain ⟨l, hl⟩ : ∃ l, l = psL t := ⟨_, rfl⟩
  have D1 := hide (DT.out _ B2.out)
  rw [← hE, ← hl] at D1
  rw [← hE, ← hl]
  have HE := hide hE
  clear hE hl DT
  go_upto_region 2 with (refine wpList_storeCl (w0 := W1) rfl (.tmp 3) (.tmp 12) rfl W1.heap.size (by kernel_rfl) rfl (psA t) (psX t) (.slice ao (psN t).length cap) rfl (by kernel_rfl) _ rfl rfl ?_)
  rw [← hW2]
  clear hW2
  go_wp2_with fail
  refine Calls.mono D1.out ?_
  rintro e W3 ⟨hb, vl', zs', rfl, hx⟩
  rw [HE.out] at hx
  obtain ⟨ao', b', cap', pv', hV', hN'⟩ := PSL.out _ _ _ _ hx
  rw [hV']
  have C3 := hide (C2.out.below hb)
  have N3 := hide ((N2.out.more s2.out).below hb)
  have B3 := hide (B2.out.trans (hb.mono B2.out.size))
  have M3 := hide hN'
  have s3 : Hid (W2.heap.size ≤ W3.heap.size) := hb.size
  clear hx hV' hN' hb D1 PSL HE N2 B2 C2
  obtain ⟨W4, hW4⟩ : ∃ W4, W4 = W3.alloc (.cells (clA (psA t) (psX t) (.slice ao' (psN t).length cap')) 24) := ⟨_, rfl⟩
  have b4 : Below W3.heap.size W3 W4 := by rw [hW4]; exact (Below.refl _ _).alloc (Nat.le_refl _) _
  have D4 : Hid (ClAt W4 W3.heap.size (psA t) (psX t) (.slice ao' (psN t).length cap')) := by rw [hW4]; exact new_cl _ _ _ _
  have C4 := hide (C3.out.below b4)
  have N4 := hide ((N3.out.more s3.out).below b4)
  have M4 := hide (M3.out.below b4)
  have B4 := hide (B3.out.trans (b4.mono B3.out.size))
  have SC := hide (sameCluster_eq W3.heap.size W4 (psA t) (psX t) (psN t) ao b 0 cap pv N4.out ao' b' 0 cap' pv' M4.out b4.size)
  clear N3 M3 B3 C3 b4 N4 M4
  go_upto_region 3 with (refine wpList_storeCl (w0 := W3) rfl (.tmp 6) (.tmp 18) rfl W3.heap.size (by kernel_rfl) rfl (psA t) (psX t) (.slice ao' (psN t).length cap') rfl (by kernel_rfl) _ rfl rfl ?_)
  rw [← hW4]
  clear hW4
  go_wp2_with (first | refine wpList_loadCl rfl (.tmp 3) rfl W1.heap.size (psA t) (psX t) _ (by kernel_rfl) C4.out ?_ | refine wpList_loadCl rfl (.tmp 6) rfl W3.heap.size (psA t) (psX t) _ (by kernel_rfl) D4.out ?_)
  refine Calls.mono SC.out ?_
  rintro e W5 ⟨rfl, hb⟩
  have B5 := hide (B4.out.trans (hb.mono B4.out.size))
  clear hb SC C4 D4 B4
  go_wp2_with fail
  refine Calls.mono (num_anyT _ _) ?_
  rintro e W6 ⟨rfl, rfl⟩
  go_wp2_with fail
  go_ret
  exact ⟨rfl, B5.out⟩
end Go.Proofs.YtanlnelfbfjelaaDoor
