import Derived.Test.YtdodellmbceffaaDoorGGkRound
import Derived.Test.YtdodellmbceffaaDoorGGcLaw
namespace Go.Proofs.YtdodellmbceffaaDoor
open Go.RowKit
set_option maxHeartbeats 8000000 in
set_option maxRecDepth 100000 in
set_option linter.unusedSimpArgs false in
set_option linter.unusedVariables false in
/-- the document's Owners -/
theorem rOwners_any (N : Nat) (w : World) (st : ByteArray) (x : Nat → Int) (ao : Option Addr) (b o cap : Nat) (pv : Nat → Value) (ns : List ND) (p : Int) (h : NsAt N w ao b o pv ns) (hN : N ≤ w.heap.size) (hs : st.size ≤ 9223372036854775807) (hT : TabG w) :
    Calls Tryd.prog 14 #[.agg (clA st x (.slice ao ns.length cap)), .int .i64 p] w fun e w' => ∃ v, e = .returned (.tuple #[v, .int .i64 (rdE st x ns p)]) ∧ w'.ownsRow w.heap.size 3 1 v (wkE st x ns p).length (ints (owL ns (wkE st x ns p))) ∧ Below w.heap.size w w' := by
  obtain ⟨L, hL⟩ : ∃ L, L = wkE st x ns p := ⟨_, rfl⟩
  obtain ⟨k, hk⟩ : ∃ k, k = rdE st x ns p := ⟨_, rfl⟩
  have hl64 : L.length ≤ 64 := by
    rw [hL]
    by_cases he : rdE st x ns p = 0
    · rw [wkE_ok he]
      have h1 := wk_len x ns p
      have h2 := (errP_dl (rdE_zero he).1).p2
      have h3 : (flat ns).length = ptN ns := rfl
      omega
    · rw [wkE_bad he]
      simp
  have HBad : Hid (k ≠ 0 → L = []) := fun he => hL.trans (wkE_bad (hk ▸ he))
  obtain ⟨W0, hW0, hX⟩ := boxed st x cap h hN
  have HX := hide (hX.stand hN)
  have B0 := hide hX.bel
  have T0 := hide (hT.below hX.bel)
  have RW := hide (rWalk_any N W0 st x ao b o cap pv ns p HX.out.nd HX.out.le hs T0.out)
  rw [← hL, ← hk] at RW ⊢
  clear hX h hk hL hT
  obtain ⟨k0, hk0, hx0, hx1, hx2⟩ := info_parts infoInt
  go_enter Tryd.func14, Tryd.ntmps14
  go_upto_region 1 with fail
  rw [← hW0]
  clear hW0
  go_wp2_with (refine wpList_loadCl rfl (.tmp 2) rfl w.heap.size st x _ rfl HX.out.cl ?_)
  refine Calls.mono RW.out ?_
  rintro e W1 ⟨v, rfl, o1, hb⟩
  have H1 := hide (HX.out.below hb)
  have B1 := hide (B0.out.trans (hb.mono B0.out.size))
  obtain ⟨pa, cl, hv, _⟩ := own_sl o1
  subst hv
  have HP : Hid (∃ pb po, PsAt W1.heap.size W1 pa pb po (nis L)) := by
    obtain ⟨pa', pb, po, pc, e1, hps⟩ := own_ps o1 (nis_len _).symm (by rw [nis_len]; omega)
    injection e1 with e1 e2 e3
    subst e1
    exact ⟨pb, po, hps⟩
  clear hb HX T0 RW o1
  by_cases he : k = 0
  case neg =>
    obtain rfl := HBad.out he
    have hkn : (k == 0) = false := beq_eq_false_iff_ne.2 he
    clear HBad HP
    go_wp2_with fail
    go_ret2
    exact ⟨_, rfl, World.ownsRow_nil _ _ _ _, B1.out⟩
  case pos =>
    subst he
    clear HBad
    obtain ⟨pb, po, hps⟩ := HP.out
    have PP := hide hps
    clear hps HP
    go_wp2_with fail
    go_loopw [8, 9] (fun vt vi wr => ∃ (q : Nat), q ≤ L.length ∧ vi = .int .i64 (q : Int) ∧ Hid (wr.ownsRow W1.heap.size 3 1 vt q (ints (owL ns (L.take q)))) ∧ Hid (Below W1.heap.size W1 wr)) (fun _ vi _ => L.length - (intOf vi).toNat)
    case atStart => exact ⟨0, Nat.zero_le _, rfl, World.ownsRow_nil _ _ _ _, Below.refl _ _⟩
    case round =>
      obtain ⟨q, hq, rfl, HO, HB⟩ := hrel
      obtain ⟨ba, cp, hv, _⟩ := own_sl HO.out
      subst hv
      by_cases hql : q < L.length
      case neg =>
        obtain rfl : q = L.length := by omega
        have HO2 := HO.out
        rw [List.take_length] at HO2
        have HO3 := hide (own_lower HO2 B1.out.size)
        clear HO2 HO
        go_wp2_with fail
        go_ret2
        exact ⟨_, rfl, HO3.out, B1.out.trans (HB.out.mono B1.out.size)⟩
      case pos =>
        have h3 := PP.out.at0 (by rw [nis_len]; omega)
        subst h3
        have hqi : (q : Int) < (L.length : Int) := by omega
        have CC : Hid (∀ Y, Below W1.heap.size W1 Y → ClAt Y w.heap.size st x (.slice ao ns.length cap) ∧ Y.cell? ⟨pb, po + q, none⟩ = some (.int .i64 ((L[q] : Nat) : Int))) := fun Y hY => by
          refine ⟨H1.out.cl.below hY, ?_⟩
          rw [(PP.out.below hY).c q (by rw [nis_len]; omega)]
          simp [nis]
        have HH : Hid (∀ Y k, Below W1.heap.size W1 Y → Calls Tryd.prog 25 #[.agg (clA st x (.slice ao ns.length cap)), .int .i64 ((k : Nat) : Int)] Y fun e w' => e = .returned (.int .i64 (hm ns k)) ∧ Below Y.heap.size Y w') := fun Y k hY => home_any N Y st x ao b o cap pv ns _ (H1.out.nd.below (hY.mono H1.out.le)) (Nat.le_trans H1.out.le hY.size)
        have ET := hide (owL_take (ns := ns) hql)
        generalize L[q] = y at *
        go_upto_region 8 with fail
        refine wp_region_held_drew (S := fun Y => Below W1.heap.size W1 Y) (by kernel_rfl) (HB.out.drew) (fun hHeld => ?_)
        refine wpAnyH_take (i := 0) (v := (.slice ba q cp)) rfl (by kernel_rfl) (by kernel_rfl) (by kernel_rfl) (fun _ _ _ h => h) (Or.inl ⟨by rfl, ?_⟩) (by assumption) ?_
        · intro w' hSw
          (try dsimp only at hSw)
          exact exec_move (.tmp 8) rfl (by kernel_rfl)
        (try simp only [Act.put, List.setIfInBounds_toArray, List.set_cons_zero, List.set_cons_succ])
        refine wpAnyH_take (i := 1) (v := (.agg (clA st x (.slice ao ns.length cap)))) rfl (by kernel_rfl) (by kernel_rfl) (by kernel_rfl) (fun _ _ _ h => h) (Or.inl ⟨by rfl, ?_⟩) (by assumption) ?_
        · intro w' hSw
          (try dsimp only at hSw)
          exact exec_loadCl (.tmp 2) rfl rfl (CC.out _ hSw).1
        (try simp only [Act.put, List.setIfInBounds_toArray, List.set_cons_zero, List.set_cons_succ])
        refine wpAnyH_take (i := 2) (v := (.slice (some ⟨pb, po, none⟩) L.length cl)) rfl (by kernel_rfl) (by kernel_rfl) (by kernel_rfl) (fun _ _ _ h => h) (Or.inl ⟨by rfl, ?_⟩) (by assumption) ?_
        · intro w' hSw
          (try dsimp only at hSw)
          exact exec_move (.tmp 6) rfl (by kernel_rfl)
        (try simp only [Act.put, List.setIfInBounds_toArray, List.set_cons_zero, List.set_cons_succ])
        refine wpAnyH_take (i := 3) (v := (.int .i64 (q : Int))) rfl (by kernel_rfl) (by kernel_rfl) (by kernel_rfl) (fun _ _ _ h => h) (Or.inl ⟨by rfl, ?_⟩) (by assumption) ?_
        · intro w' hSw
          (try dsimp only at hSw)
          exact exec_move (.tmp 9) rfl (by kernel_rfl)
        (try simp only [Act.put, List.setIfInBounds_toArray, List.set_cons_zero, List.set_cons_succ])
        refine wpAnyH_take (i := 4) (v := (.pointer (some ⟨pb, po + q, none⟩))) rfl (by kernel_rfl) (by kernel_rfl) (by kernel_rfl) (fun _ _ _ h => h) (Or.inl ⟨by rfl, ?_⟩) (by assumption) ?_
        · intro w' hSw
          (try dsimp only at hSw)
          exact exec_ixI (n := L.length) (c := cl) (.tmp 27) (.tmp 28) rfl (by kernel_rfl) (by kernel_rfl) hql
        (try simp only [Act.put, List.setIfInBounds_toArray, List.set_cons_zero, List.set_cons_succ])
        refine wpAnyH_take (i := 5) (v := (.int .i64 (y : Int))) rfl (by kernel_rfl) (by kernel_rfl) (by kernel_rfl) (fun _ _ _ h => h) (Or.inl ⟨by rfl, ?_⟩) (by assumption) ?_
        · intro w' hSw
          (try dsimp only at hSw)
          exact exec_ld (.tmp 29) rfl (Or.inl rfl) (by kernel_rfl) (CC.out _ hSw).2
        (try simp only [Act.put, List.setIfInBounds_toArray, List.set_cons_zero, List.set_cons_succ])
        refine wpAnyH_ready (rs := [6]) (by kernel_rfl) (by simp) ?_
        refine AllReadyH.cons rfl (fun K hK => ?_) AllReadyH.nil
        go_simp
        refine Calls.mono (HH.out _ y HB.out.drew) ?_
        rintro e W3 ⟨rfl, hb⟩
        have B3 : Hid (Below W1.heap.size W1 W3) := HB.out.drew.trans (hb.mono HB.out.size)
        have O3 : Hid (W3.ownsRow W1.heap.size 3 1 (.slice ba q cp) q (ints (owL ns (L.take q)))) := own_keep HO.out (fun g hg => hb.block g (own_lt HO.out hg).2)
        clear hb
        refine hK.out _ _ (B3.out) (fun hHeld => ?_)
        clear hK
        (try simp only [Act.put, List.setIfInBounds_toArray, List.set_cons_zero, List.set_cons_succ])
        refine wpAnyH_ready (rs := [7]) (by kernel_rfl) (by simp) ?_
        refine AllReadyH.cons rfl (fun K hK => ?_) AllReadyH.nil
        go_simp
        refine hK.out _ _ ((B3.out.alloc B3.out.size _)) (fun hHeld => ?_)
        clear hK
        (try simp only [Act.put, List.setIfInBounds_toArray, List.set_cons_zero, List.set_cons_succ])
        refine wpAnyH_ready (rs := [8]) (by kernel_rfl) (by simp) ?_
        refine AllReadyH.cons rfl (fun K hK => ?_) AllReadyH.nil
        refine itY (by rfl) ?_
        refine wp_append_own (W3.alloc (.cells #[.int .i64 (hm ns y)] 3)) (.tmp 25) (.tmp 32) 36 ?hAo W1.heap.size 3 k0 (.int .i64 0) 1 8 Tryd.underlying36 hk0 hx0 hx1 hx2 ?hAz (by decide) (.slice ba q cp) q (ints (owL ns (L.take q))) ?hAs (O3.out.alloc _) ⟨W3.heap.size, 0, none⟩ 1 1 (ints [hm ns y]) ?hAx rfl (one_cells W3 _) (ints_one _) (by unfold maxLen; omega) (by omega) (by have := B3.out.size; simp; omega) ?hAk
        case hAo => rfl
        case hAz => rfl
        case hAs => kernel_rfl
        case hAx => kernel_rfl
        intro v2 X3 o3 g3 n3
        clear n3
        have B4 : Hid (Below W1.heap.size W1 X3) := (B3.out.alloc B3.out.size _).grown g3 (by have := B3.out.size; simp; omega) (fun j hj => (own_lt O3.out hj).1)
        have O4 : Hid (X3.ownsRow W1.heap.size 3 1 v2 (q + 1) (ints (owL ns (L.take (q + 1))))) := by
          rw [ET.out]
          unfold ints at o3 ⊢
          rw [List.map_append]
          exact o3
        clear o3 g3 O3 B3 HO HB
        refine hK.out _ _ (B4.out) (fun hHeld => ?_)
        clear hK
        (try simp only [Act.put, List.setIfInBounds_toArray, List.set_cons_zero, List.set_cons_succ])
        refine wpAnyH_ready (rs := [9]) (by kernel_rfl) (by simp) ?_
        refine AllReadyH.cons rfl (fun K hK => ?_) AllReadyH.nil
        go_simp
        refine hK.out _ _ (B4.out) (fun hHeld => ?_)
        clear hK
        (try simp only [Act.put, List.setIfInBounds_toArray, List.set_cons_zero, List.set_cons_succ])
        refine wpAnyH_done (by kernel_rfl) ?_ _
        clear hHeld CC HH
        go_wp2_with fail
        go_roundw
        case rel => exact ⟨q + 1, by omega, by go_num, O4, B4⟩
        case measure => simp [intOf]; omega
end Go.Proofs.YtdodellmbceffaaDoor
namespace Go.Proofs.YtdodellmbceffaaDoor
open Go.RowKit
theorem two_ps {Wa Wb : World} {ba bb : Nat} {va vb : Value} {n : Nat} {L : List Int} (ha : Wa.ownsRow ba 3 1 va n (ints L)) (hab : Below Wa.heap.size Wa Wb) (hb : Wb.ownsRow bb 3 1 vb n (ints L)) (hn : n = L.length) (hl : L.length ≤ 17592186043904) : Pv Wb.heap.size Wb va L ∧ Pv Wb.heap.size Wb vb L :=
  ⟨own_ps (own_keep ha fun g hg => hab.block g (own_lt ha hg).2) hn hl, own_ps hb hn hl⟩
theorem wkE_len (st : ByteArray) (x : Nat → Int) (ns : List ND) (p : Int) : (wkE st x ns p).length ≤ 64 := by
  by_cases he : rdE st x ns p = 0
  · rw [wkE_ok he]
    have h1 := wk_len x ns p
    have h2 := (errP_dl (rdE_zero he).1).p2
    have h3 : (flat ns).length = ptN ns := rfl
    omega
  · rw [wkE_bad he]
    simp
set_option maxHeartbeats 8000000 in
set_option maxRecDepth 100000 in
set_option linter.unusedSimpArgs false in
set_option linter.unusedVariables false in
/-- the law: it says yes -/
theorem walks_any (N : Nat) (w : World) (st : ByteArray) (x : Nat → Int) (ao : Option Addr) (b o cap : Nat) (pv : Nat → Value) (ns : List ND) (p : Int) (h : NsAt N w ao b o pv ns) (hN : N ≤ w.heap.size) (hs : st.size ≤ 9223372036854775807) (hT : TabG w) :
    Calls Tryd.prog 4 #[.agg (clA st x (.slice ao ns.length cap)), .int .i64 p] w fun e w' => e = .returned (.bool true) ∧ Below w.heap.size w w' := by
  obtain ⟨W0, hW0, hX⟩ := boxed st x cap h hN
  have hlen := h.len
  have HPS : Hid (∀ (q : Nat) (h : q < ns.length), ns[q].ps.length ≤ 17592186043904) := fun q hq => by
    obtain ⟨_, _, _, _, _, hp⟩ := h.ps q hq
    exact hp.len
  have HX := hide (hX.stand hN)
  have B0 := hide hX.bel
  have T0 := hide (hT.below hX.bel)
  clear hX h hT
  have hl64 := wkE_len st x ns p
  have HA := hide (hand_any N W0 st x ao b o cap pv ns HX.out.nd HX.out.le)
  go_enter Tryd.func4, Tryd.ntmps4
  go_upto_region 1 with fail
  rw [← hW0]
  clear hW0
  go_upto_region 2 with (first | refine wpList_loadCl rfl (.tmp 2) rfl w.heap.size st x _ rfl HX.out.cl ?_ | (go_at_call 5; refine Calls.mono HA.out ?_; rintro e W1 ⟨H, vl, vp, gn, cn, zs, ls, zt, rfl, hH, hzt, hT, hge, hb⟩))
  have X1 := hide (HX.out.below hb)
  have T1 := hide (T0.out.below hb)
  have B1 := hide (B0.out.trans (hb.mono B0.out.size))
  have HH := hide hH
  have TT := hide hT
  have RC := hide (hd_rc hH.hd)
  have C1 := hide (Walk_any W1.heap.size W1 st x (some ⟨gn, 0, none⟩) gn 0 cn (pvZ zs) ns p (hH.nodes hlen HPS.out) (Nat.le_refl _) hs)
  clear hH hT hb HA HX T0 B0
  obtain ⟨L, hL⟩ : ∃ L, L = wkE st x ns p := ⟨_, rfl⟩
  obtain ⟨k, hk⟩ : ∃ k, k = rdE st x ns p := ⟨_, rfl⟩
  have HL := hide hL
  have HK := hide hk
  rw [← HL.out] at hl64
  rw [← HL.out, ← HK.out] at C1
  clear hL hk
  go_upto_region 3 with (first | refine wpList_mid rfl (.tmp 19) rfl H 0 st x _ rfl RC.out ?_ | (go_at_call 10; refine Calls.mono C1.out ?_; rintro e W2 ⟨v1, rfl, o1, hb⟩))
  have X2 := hide (X1.out.below hb)
  have T2 := hide (T1.out.below hb)
  have B2 := hide (B1.out.trans (hb.mono B1.out.size))
  have H2 := hide (HH.out.keep hb)
  have K2 := hide (TT.out.keep hb)
  have O1 := hide o1
  clear hb X1 T1 B1 HH TT RC C1 o1
  have C2 := hide (rWalk_any N W2 st x ao b o cap pv ns p X2.out.nd X2.out.le hs T2.out)
  rw [← HL.out, ← HK.out] at C2
  obtain ⟨a1, c1, hv1, _⟩ := own_sl O1.out
  subst hv1
  go_upto_region 4 with (first | refine wpList_loadCl rfl (.tmp 2) rfl w.heap.size st x _ rfl X2.out.cl ?_ | (go_at_call 11; refine Calls.mono C2.out ?_; rintro e W3 ⟨v2, rfl, o2, hb⟩))
  have X3 := hide (X2.out.below hb)
  have T3 := hide (T2.out.below hb)
  have B3 := hide (B2.out.trans (hb.mono B2.out.size))
  have H3 := hide (H2.out.keep hb)
  have K3 := hide (K2.out.keep hb)
  obtain ⟨a2, c2, hv2, _⟩ := own_sl o2
  subst hv2
  have PS := hide (two_ps O1.out hb o2 (nis_len L).symm (by rw [nis_len]; omega))
  have SI := hide (sameInts_eq W3.heap.size W3 _ _ (nis L) PS.out.1 PS.out.2 (Nat.le_refl _))
  clear hb X2 T2 B2 H2 K2 C2 O1 o2 PS
  go_wp2_with fail
  refine Calls.mono SI.out ?_
  rintro e W4 ⟨rfl, hb⟩
  have X4 := hide (X3.out.below hb)
  have T4 := hide (T3.out.below hb)
  have B4 := hide (B3.out.trans (hb.mono B3.out.size))
  have H4 := hide (H3.out.keep hb)
  have K4 := hide (K3.out.keep hb)
  clear hb X3 T3 B3 H3 K3 SI
  go_wp2_with fail
  refine Calls.mono (num_any _ _) ?_
  rintro e W5 ⟨rfl, rfl⟩
  go_upto_region 6 with fail
  have RC := hide (hd_rc H4.out.hd)
  have C1 := hide (Owners_any W4.heap.size W4 st x (some ⟨gn, 0, none⟩) gn 0 cn (pvZ zs) ns p (H4.out.nodes hlen HPS.out) (Nat.le_refl _) hs)
  rw [← HL.out, ← HK.out] at C1
  go_upto_region 7 with (first | refine wpList_mid rfl (.tmp 44) rfl H 0 st x _ rfl RC.out ?_ | (go_at_call 13; refine Calls.mono C1.out ?_; rintro e W5 ⟨v1, rfl, o1, hb⟩))
  have X5 := hide (X4.out.below hb)
  have T5 := hide (T4.out.below hb)
  have B5 := hide (B4.out.trans (hb.mono B4.out.size))
  have H5 := hide (H4.out.keep hb)
  have K5 := hide (K4.out.keep hb)
  have O1 := hide o1
  clear hb X4 T4 B4 H4 K4 RC C1 o1
  have C2 := hide (rOwners_any N W5 st x ao b o cap pv ns p X5.out.nd X5.out.le hs T5.out)
  rw [← HL.out, ← HK.out] at C2
  obtain ⟨a3, c3, hv3, _⟩ := own_sl O1.out
  subst hv3
  go_upto_region 8 with (first | refine wpList_loadCl rfl (.tmp 2) rfl w.heap.size st x _ rfl X5.out.cl ?_ | (go_at_call 14; refine Calls.mono C2.out ?_; rintro e W6 ⟨v2, rfl, o2, hb⟩))
  have B6 := hide (B5.out.trans (hb.mono B5.out.size))
  have H6 := hide (H5.out.keep hb)
  have K6 := hide (K5.out.keep hb)
  obtain ⟨a4, c4, hv4, _⟩ := own_sl o2
  subst hv4
  have PS := hide (two_ps O1.out hb o2 (owL_len ns L).symm (by rw [owL_len]; omega))
  have SI := hide (sameInts_eq W6.heap.size W6 _ _ (owL ns L) PS.out.1 PS.out.2 (Nat.le_refl _))
  clear hb X5 T5 B5 H5 K5 C2 O1 o2 PS
  go_wp2_with fail
  refine Calls.mono SI.out ?_
  rintro e W7 ⟨rfl, hb⟩
  have B7 := hide (B6.out.trans (hb.mono B6.out.size))
  have H7 := hide (H6.out.keep hb)
  have K7 := hide (K6.out.keep hb)
  clear hb B6 H6 K6 SI
  go_wp2_with fail
  refine Calls.mono (num_any _ _) ?_
  rintro e W8 ⟨rfl, rfl⟩
  have LL := hide (left_any (H + 1) H W7 st x ns vl vp gn cn zs ls zt H7.out hzt K7.out hlen HPS.out)
  clear H7 K7
  go_wp2_with fail
  refine Calls.mono LL.out ?_
  rintro e W9 ⟨rfl, hb⟩
  have B9 := hide (B7.out.trans (hb.mono B7.out.size))
  clear hb B7 LL
  go_wp2_with fail
  go_ret
  exact ⟨rfl, B9.out⟩
end Go.Proofs.YtdodellmbceffaaDoor
