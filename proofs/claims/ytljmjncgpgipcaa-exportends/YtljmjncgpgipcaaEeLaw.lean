import Derived.Test.YtljmjncgpgipcaaGEpClus
namespace Go.Proofs.Ytljmjncgpgipcaa.Cn
open Go.RowKit
set_option maxHeartbeats 16000000 in
set_option maxRecDepth 100000 in
set_option linter.unusedSimpArgs false in
set_option linter.unusedVariables false in
theorem exportEnds_any (N : Nat) (w : World) (st : ByteArray) (x : Nat → Int) (ao : Option Addr) (b o cap : Nat) (pv : Nat → Value) (ns : List ND) (h : NsAt N w ao b o pv ns) (hN : N ≤ w.heap.size) (hs : st.size ≤ 9223372036854775807) (ao2 : Option Addr) (bb oo cap2 : Nat) (L : List Sp) (hL : RwAt 14 spV w.heap.size w ao2 bb oo L) (hfit : ∀ s ∈ L, MgFit s.m) (hLl : L.length ≤ 100000000000000) :
    Calls Try.prog 3 #[.agg (clA st x (.slice ao ns.length cap)), .slice ao2 L.length cap2] w fun e w' => e = .returned (.bool true) ∧ Below w.heap.size w w' := by
  have hps : ∀ (q : Nat) (hq : q < ns.length), ns[q].ps.length ≤ 17592186043904 := fun q hq => by
    obtain ⟨_, _, _, _, _, hp⟩ := h.ps q hq
    exact hp.len
  have hlen := h.len
  obtain ⟨W0, hW0, hX⟩ := boxed st x cap h hN
  have HX := hide (hX.stand hN)
  have B0 := hide hX.bel
  clear hX h
  have NU := hide fun w n => num21 w n
  have HLL := hide hL
  have HFT := hide hfit
  have NW : Hid (∀ (W1 W2 : World) (vl : Value) (zs : List (Int × Value)), zs.length = ns.length → Tw (W2.heap.size + 2) W1 ns vl zs → ∃ ao' b' cap' pv', vl = .slice ao' ns.length cap' ∧ NsAt W1.heap.size W1 ao' b' 0 pv' ns) := fun W1 W2 vl zs hz ht => by
    obtain ⟨a, b, c, e1, e2⟩ := ht.nodes hz hlen hps
    exact ⟨a, b, c, _, e1, e2⟩
  obtain ⟨n, hn⟩ : ∃ n, n = L.length := ⟨_, rfl⟩
  have HN := hide hn
  have BY := hide (fun Y => beyond21 Y n (by omega))
  rw [← hn] at hLl ⊢
  have HNN : Hid (N ≤ w.heap.size) := hN
  clear hL hfit hps hn hlen
  go_enter Try.func3, Try.ntmps3
  go_upto_region 1 with fail
  rw [← hW0]
  clear hW0
  go_wp2_with fail
  refine Calls.mono (BY.out _) ?_
  rintro e w' ⟨rfl, rfl⟩
  by_cases hbe : 2147483647 < n
  case pos =>
    have qd : decide (2147483647 < n) = true := decide_eq_true hbe
    rw [qd]
    clear qd
    go_wp2_with fail
    go_ret
    exact ⟨rfl, B0.out⟩
  case neg =>
  have qd : decide (2147483647 < n) = false := decide_eq_false hbe
  rw [qd]
  clear qd BY
  have CK := hide (check_any N W0 st x ao b o cap pv ns HX.out.nd HX.out.le hs)
  go_wp2_with (refine Ytljmjncgpgipcaa.wpList_loadCl rfl (.tmp 2) rfl w.heap.size st x _ rfl HX.out.cl ?_)
  refine Calls.mono CK.out ?_
  rintro e W1 ⟨rfl, hb⟩
  have X1 := hide (HX.out.below hb)
  have B1 := hide (B0.out.trans (hb.mono B0.out.size))
  clear hb CK HX B0
  by_cases he : errP st x ns = 0
  case neg =>
    have RF := hide (refused_any N W1 st x ao b o cap pv ns X1.out.nd X1.out.le hs he)
    obtain ⟨er, her⟩ : ∃ er, er = errP st x ns := ⟨_, rfl⟩
    rw [← her] at he ⊢
    clear her
    have q0 : (er != 0) = true := by simpa using he
    go_wp2_with (first | (go_at_call 6; refine Calls.mono (NU.out _ _) ?_; rintro e w' ⟨rfl, rfl⟩) | refine Ytljmjncgpgipcaa.wpList_loadCl rfl (.tmp 2) rfl w.heap.size st x _ rfl X1.out.cl ?_)
    refine Calls.mono RF.out ?_
    rintro e W2 ⟨rfl, hb⟩
    have B2 := hide (B1.out.trans (hb.mono B1.out.size))
    clear hb
    go_wp2_with fail
    go_ret
    exact ⟨rfl, B2.out⟩
  case pos =>
  have TW := hide (cluster_any N W1 st x ao b o cap pv ns X1.out.nd X1.out.le)
  have HE := hide he
  rw [he]
  go_wp2_with (first | (go_at_call 6; refine Calls.mono (NU.out _ _) ?_; rintro e w' ⟨rfl, rfl⟩) | refine Ytljmjncgpgipcaa.wpList_loadCl rfl (.tmp 2) rfl w.heap.size st x _ rfl X1.out.cl ?_)
  refine Calls.mono TW.out ?_
  rintro e W2 ⟨vl, zs, rfl, hz, tw, b2⟩
  obtain ⟨ao', b', cap', pv', rfl, hn2⟩ := NW.out W2 W1 vl zs hz tw
  have NWK := hide (New_ok W2.heap.size W2 st x ao' b' 0 cap' pv' ns hn2 (Nat.le_refl _) hs HE.out)
  have X2 := hide (X1.out.below b2)
  have B2 := hide (B1.out.trans (b2.mono B1.out.size))
  clear hz tw b2 hn2 TW NW X1 B1
  go_wp2_with fail
  refine Calls.mono NWK.out ?_
  rintro e W3 ⟨X, rfl, Z, xa, ge, b3⟩
  have E3 : Hid (Eg w N st x ao b o cap pv ns (x 0).toNat X 0 (newX st x ns (ptN ns)) Z W3) := ⟨xa, newX_ok HE.out, rowsP_len _ _ _ _, rfl, fun k e => Nat.le_trans B2.out.size (ge k e), X2.out.below b3, B2.out.trans (b3.mono B2.out.size)⟩
  have HXX : Hid (X ≠ w.heap.size) := fun q => by
    have z := E3.out.ex.blk
    have c := E3.out.sd.cl
    unfold ClAt at c
    rw [q, c] at z
    simp at z
  clear xa ge b3 NWK X2 B2
  obtain ⟨v0, hv0⟩ : ∃ v0, v0 = newX st x ns (ptN ns) := ⟨_, rfl⟩
  rw [← hv0] at E3
  clear hv0
  have l0 : 1 ≤ x 0 ∧ x 0 ≤ 16 := sfP_lim (errP_all he).2.1 0 (by omega)
  have l17 : 1 ≤ x 17 ∧ x 17 ≤ 1000000 := by
    have e1 := sfP_lim (errP_all he).2.1 17 (by omega)
    have e2 : loS 17 = 1 := by rfl
    have e3 : hiS 17 ≤ 1000000 := by decide
    omega
  have lP : 1 ≤ ptN ns ∧ ptN ns ≤ 64 := ⟨(errP_all he).2.2.2.1.p1, (errP_all he).2.2.2.1.p2⟩
  have l16 : Hid (ns.length ≤ 16) := (nfP_len (errP_all he).2.2.1).2
  obtain ⟨r, hr⟩ : ∃ r : Nat, x 0 = (r : Int) := ⟨(x 0).toNat, by omega⟩
  obtain ⟨g, hg⟩ : ∃ g : Nat, x 17 = (g : Int) := ⟨(x 17).toNat, by omega⟩
  obtain ⟨P, hP⟩ : ∃ P, P = ptN ns := ⟨_, rfl⟩
  have HR := hide hr
  have HG := hide hg
  have HP := hide hP
  have hR0 : (x 0).toNat = r := by omega
  rw [hR0] at E3
  have LM : Hid ((1 ≤ r ∧ r ≤ 16) ∧ (1 ≤ g ∧ g ≤ 1000000) ∧ (1 ≤ P ∧ P ≤ 64)) := ⟨by omega, by omega, by omega⟩
  clear he l0 l17 lP hr hg hP hR0
  go_wp2_with (go_at_call 6; refine Calls.mono (NU.out _ _) ?_; rintro e w' ⟨rfl, rfl⟩)
  go_loopw [7] (fun vi wr => ∃ i : Nat, i ≤ n ∧ vi = .int .i64 (i : Int) ∧ ∃ v Z, Hid (Eg w N st x ao b o cap pv ns r X (2 * i) v Z wr)) (fun vi _ => n - (intOf vi).toNat)
  case atStart => exact ⟨0, Nat.zero_le _, rfl, v0, Z, E3.out⟩
  case round =>
    clear E3
    obtain ⟨i, hi, rfl, v, Z, HEV⟩ := hrel
    by_cases hin : i < n
    case pos =>
      have hii : (i : Int) < (n : Int) := by omega
      have hiL : i < L.length := by rw [← HN.out]; exact hin
      have LB := HLL.out.below HEV.out.be
      have e8 := HLL.out.at0 (by omega)
      subst e8
      obtain ⟨s, hs9⟩ : ∃ s, s = L[i] := ⟨_, rfl⟩
      have SF : Hid (MgFit s.m) := by rw [hs9]; exact HFT.out _ (List.getElem_mem hiL)
      have c0 : wr.cell? ⟨bb, oo + i * 14, none⟩ = some (.int .i64 s.k) := by rw [hs9]; exact LB.c i hiL 0 _ rfl
      have c2 : wr.cell? ⟨bb, oo + i * 14 + 2, none⟩ = some (.int .i64 s.v) := by rw [hs9]; exact LB.c i hiL 2 _ rfl
      have RG : Hid (wr.rangeAt bb (oo + i * 14 + 3) (mgV s.m).toList) := fun j u hj => by
        rw [hs9] at hj
        have hl : j < 11 := by have := (List.getElem?_eq_some_iff.1 hj).1; simpa [mgV] using this
        rw [Nat.add_assoc (oo + i * 14)]
        refine LB.c i hiL (3 + j) u ?_
        have e : (spV L[i])[3 + j]? = (mgV L[i].m)[j]? := by
          match j, hl with
          | 0, _ | 1, _ | 2, _ | 3, _ | 4, _ | 5, _ | 6, _ | 7, _ | 8, _ | 9, _ | 10, _ => rfl
        rw [e]
        simpa using hj
      clear LB hiL hs9
      by_cases k1 : s.k = 1
      case pos =>
        rw [k1] at c0
        have BG := hide (Begin_x HEV.out.ex HEV.out.ok (by omega) s.v)
        go_wp2_with fail
        refine Calls.mono BG.out ?_
        rintro e W5 ⟨u, Z5, rfl, -, l5⟩
        have E5 := hide ((HEV.out.next HNN.out l5 (begX_ok HEV.out.ok s.v) (keep_beg _ _)).more (i' := 2 * (i + 1)) (by omega))
        clear l5 BG c0 c2
        go_wp2_with fail
        go_roundw
        case rel => exact ⟨i + 1, by omega, by go_num, _, Z5, E5.out⟩
        case measure => simp [intOf]; omega
      case neg =>
      have q1 : (s.k == 1) = false := by simpa using k1
      by_cases k2 : s.k = 2
      case pos =>
        rw [k2] at c0
        have BG := hide (Take_x HEV.out.ex HEV.out.ok s.m SF.out.1 SF.out.2)
        clear q1 k1
        go_wp2_with (refine wpList_load_mid rfl 36 (.tmp 67) rfl bb (oo + i * 14 + 3) rfl (mgV s.m).toList _ RG.out Try.underlying36 rfl mg_info ?_)
        refine Calls.mono BG.out ?_
        rintro e W5 ⟨u, Z5, rfl, -, l5⟩
        have E5 := hide ((HEV.out.next HNN.out l5 (takeX_ok HEV.out.ok s.m) (keep_take _ _)).more (i' := 2 * (i + 1)) (by omega))
        clear l5 BG c0 c2
        go_wp2_with fail
        go_roundw
        case rel => exact ⟨i + 1, by omega, by go_num, _, Z5, E5.out⟩
        case measure => simp [intOf]; omega
      case neg =>
      have q2 : (s.k == 2) = false := by simpa using k2
      by_cases k3 : s.k = 3
      case pos =>
        rw [k3] at c0
        have BG := hide (Tick_x HEV.out.ex HEV.out.ok (by omega))
        clear q1 k1 q2 k2
        go_wp2_with fail
        refine Calls.mono BG.out ?_
        rintro e W5 ⟨u, Z5, rfl, -, l5⟩
        have E5 := hide ((HEV.out.next HNN.out l5 (tickX_ok HEV.out.ok) (keep_tick _)).more (i' := 2 * (i + 1)) (by omega))
        clear l5 BG c0 c2
        go_wp2_with fail
        go_roundw
        case rel => exact ⟨i + 1, by omega, by go_num, _, Z5, E5.out⟩
        case measure => simp [intOf]; omega
      case neg =>
        have q3 : (s.k == 3) = false := by simpa using k3
        have E5 := hide (HEV.out.more (i' := 2 * (i + 1)) (by omega))
        clear c2
        go_wp2_with fail
        go_roundw
        case rel => exact ⟨i + 1, by omega, by go_num, v, Z, E5.out⟩
        case measure => simp [intOf]; omega
    case neg =>
      obtain rfl : i = n := by omega
      have CX : Hid (∀ Y : World, ClAt Y w.heap.size st x (.slice ao ns.length cap) → Y.cell? ⟨w.heap.size, 1, none⟩ = some (.int .i64 (r : Int)) ∧ Y.cell? ⟨w.heap.size, 18, none⟩ = some (.int .i64 (g : Int))) := fun Y hY => ⟨by rw [← HR.out]; exact hY.x 0 (by omega), by rw [← HG.out]; exact hY.x 17 (by omega)⟩
      have PA := hide (parts21_any N wr.drew st x ao b o cap pv ns (HEV.out.sd.below (((Kp.refl wr non).drew).below)).nd (HEV.out.sd.below (((Kp.refl wr non).drew).below)).le l16.out)
      rw [← HP.out] at PA
      have C0 := hide HEV.out.sd.cl
      obtain ⟨M1, hM1⟩ : ∃ M1, M1 = P * r := ⟨_, rfl⟩
      obtain ⟨MM, hMM⟩ : ∃ MM, MM = M1 * g := ⟨_, rfl⟩
      have MQ : Hid (MM = P * r * g) := by rw [← hM1]; exact hMM
      have b1 : M1 ≤ 1024 := by
        rw [hM1]
        exact Nat.le_trans (Nat.mul_le_mul LM.out.2.2.2 LM.out.1.2) (by decide)
      have b2 : MM ≤ 1024000000 := by
        rw [hMM]
        exact Nat.le_trans (Nat.mul_le_mul b1 LM.out.2.1.2) (by decide)
      have MB : Hid (MM ≤ 1024000000) := b2
      have NB : Hid (i ≤ 2147483647) := by show i ≤ _; omega
      have w1 : IntKind.i64.wrap ((P : Int) * (r : Int)) = (M1 : Int) := by rw [show (P : Int) * (r : Int) = (M1 : Int) by rw [hM1, Int.natCast_mul]]; exact i64_in (by omega) (by omega)
      have w2 : IntKind.i64.wrap ((M1 : Int) * (g : Int)) = (MM : Int) := by rw [show (M1 : Int) * (g : Int) = (MM : Int) by rw [hMM, Int.natCast_mul]]; exact i64_in (by omega) (by omega)
      have W12 := hide (And.intro w1 w2)
      clear b1 b2 w1 w2 hM1 hMM
      go_upto_region 18 with fail
      refine wp_region_held_drew (S := fun Y => ClAt Y w.heap.size st x (.slice ao ns.length cap)) (by kernel_rfl) C0.out (fun hHeld => ?_)
      refine wpAnyH_take (i := 0) (v := (.agg (clA st x (.slice ao ns.length cap)))) rfl (by kernel_rfl) (by kernel_rfl) (by kernel_rfl) (fun _ _ _ h => h) (Or.inl ⟨by kernel_rfl, ?_⟩) (by assumption) ?_
      · intro w' hSw
        (try dsimp only at hSw)
        (exact exec_loadCl (.tmp 2) rfl rfl hSw)
      (try simp only [Act.put, List.getElem_toArray, List.getElem_cons_zero, List.getElem_cons_succ, List.setIfInBounds_toArray, List.set_cons_zero, List.set_cons_succ])
      refine wpAnyH_take (i := 2) (v := (.pointer (some ⟨w.heap.size, 1, none⟩))) rfl (by kernel_rfl) (by kernel_rfl) (by kernel_rfl) (fun _ _ _ h => h) (Or.inl ⟨by kernel_rfl, ?_⟩) (by assumption) ?_
      · intro w' hSw
        (try dsimp only at hSw)
        go_simp
      (try simp only [Act.put, List.getElem_toArray, List.getElem_cons_zero, List.getElem_cons_succ, List.setIfInBounds_toArray, List.set_cons_zero, List.set_cons_succ])
      refine wpAnyH_take (i := 3) (v := (.int .i64 (r : Int))) rfl (by kernel_rfl) (by kernel_rfl) (by kernel_rfl) (fun _ _ _ h => h) (Or.inl ⟨by kernel_rfl, ?_⟩) (by assumption) ?_
      · intro w' hSw
        (try dsimp only at hSw)
        (have z := (CX.out _ hSw).1; go_simp)
      (try simp only [Act.put, List.getElem_toArray, List.getElem_cons_zero, List.getElem_cons_succ, List.setIfInBounds_toArray, List.set_cons_zero, List.set_cons_succ])
      refine wpAnyH_take (i := 5) (v := (.pointer (some ⟨w.heap.size, 18, none⟩))) rfl (by kernel_rfl) (by kernel_rfl) (by kernel_rfl) (fun _ _ _ h => h) (Or.inl ⟨by kernel_rfl, ?_⟩) (by assumption) ?_
      · intro w' hSw
        (try dsimp only at hSw)
        go_simp
      (try simp only [Act.put, List.getElem_toArray, List.getElem_cons_zero, List.getElem_cons_succ, List.setIfInBounds_toArray, List.set_cons_zero, List.set_cons_succ])
      refine wpAnyH_take (i := 6) (v := (.int .i64 (g : Int))) rfl (by kernel_rfl) (by kernel_rfl) (by kernel_rfl) (fun _ _ _ h => h) (Or.inl ⟨by kernel_rfl, ?_⟩) (by assumption) ?_
      · intro w' hSw
        (try dsimp only at hSw)
        (have z := (CX.out _ hSw).2; go_simp)
      (try simp only [Act.put, List.getElem_toArray, List.getElem_cons_zero, List.getElem_cons_succ, List.setIfInBounds_toArray, List.set_cons_zero, List.set_cons_succ])
      refine wpAnyH_ready (rs := [1]) (by kernel_rfl) (by simp) ?_
      refine AllReadyH.cons rfl (fun K hK => ?_) AllReadyH.nil
      go_simp
      refine Calls.mono PA.out ?_
      rintro e W4 ⟨rfl, hb⟩
      have K4 : Hid (Kp wr W4 non) := ((Kp.refl wr non).drew).trans (Kp.of_below hb non) (fun _ f => f.elim)
      clear hb PA
      have E4 := hide (HEV.out.same HNN.out K4.out)
      refine hK.out _ _ (E4.out.sd.cl) (fun hHeld => ?_)
      clear hK
      (try simp only [Act.put, List.setIfInBounds_toArray, List.set_cons_zero, List.set_cons_succ])
      refine wpAnyH_take (i := 4) (v := (.int .i64 (M1 : Int))) rfl (by kernel_rfl) (by kernel_rfl) (by kernel_rfl) (fun _ _ _ h => h) (Or.inl ⟨by kernel_rfl, ?_⟩) (by assumption) ?_
      · intro w' hSw
        (try dsimp only at hSw)
        (have z := W12.out.1; go_simp)
      (try simp only [Act.put, List.getElem_toArray, List.getElem_cons_zero, List.getElem_cons_succ, List.setIfInBounds_toArray, List.set_cons_zero, List.set_cons_succ])
      refine wpAnyH_take (i := 7) (v := (.int .i64 (MM : Int))) rfl (by kernel_rfl) (by kernel_rfl) (by kernel_rfl) (fun _ _ _ h => h) (Or.inl ⟨by kernel_rfl, ?_⟩) (by assumption) ?_
      · intro w' hSw
        (try dsimp only at hSw)
        (have z := W12.out.2; go_simp)
      (try simp only [Act.put, List.getElem_toArray, List.getElem_cons_zero, List.getElem_cons_succ, List.setIfInBounds_toArray, List.set_cons_zero, List.set_cons_succ])
      refine wpAnyH_ready (rs := [8]) (by kernel_rfl) (by simp) ?_
      refine AllReadyH.cons rfl (fun K hK => ?_) AllReadyH.nil
      go_simp
      refine hK.out _ _ (E4.out.sd.cl) (fun hHeld => ?_)
      clear hK
      (try simp only [Act.put, List.setIfInBounds_toArray, List.set_cons_zero, List.set_cons_succ])
      refine wpAnyH_done (by kernel_rfl) ?_ _
      clear hHeld W12 C0 K4 HEV CX
      have TL : Hid (tlft v r ≤ (MM : Int) - ((0 : Nat) : Int)) := by
        have z := tl_most E4.out.ok
        rw [E4.out.rl, ← HP.out, E4.out.gw, HG.out, ← Int.natCast_mul, ← MQ.out] at z
        show tlft v r ≤ _
        omega
      go_wp2_with fail
      go_loopw [9] (fun vi wr => ∃ k : Nat, k ≤ MM ∧ vi = .int .i64 (k : Int) ∧ ∃ v Z, Hid (Eg w N st x ao b o cap pv ns r X (2 * i + 2 * k) v Z wr) ∧ Hid (tlft v r ≤ (MM : Int) - (k : Int))) (fun vi _ => MM - (intOf vi).toNat)
      case atStart => exact ⟨0, Nat.zero_le _, rfl, v, Z, E4.out, TL.out⟩
      case round =>
        clear E4 TL
        obtain ⟨k, hk, rfl, v, Z, E, TL⟩ := hrel
        obtain ⟨K, hK⟩ : ∃ K, K = 2 * i + 2 * k := ⟨_, rfl⟩
        have KB : Hid (K ≤ 2 * i + 2 * MM) := by show K ≤ _; omega
        have hMB := MB.out
        have hNB := NB.out
        by_cases hkm : k < MM
        case pos =>
          have hki : (k : Int) < (MM : Int) := by omega
          have BU := Busy_x E.out.ex E.out.ok.p1.1
          cases hb : busyB v with
          | true =>
            have HB := hide hb
            rw [hb] at BU
            have BU := hide BU
            clear hb hK
            have TI := hide (Tick_x E.out.ex E.out.ok (by omega))
            have TT := hide (tl_tick E.out.ok HB.out)
            go_wp2_with fail
            refine Calls.mono BU.out ?_
            rintro e w' ⟨rfl, rfl⟩
            go_wp2_with fail
            refine Calls.mono TI.out ?_
            rintro e W6 ⟨u6, Z6, rfl, -, l6⟩
            have E6 : Hid (Eg w N st x ao b o cap pv ns r X (2 * i + 2 * (k + 1)) (tickX v) Z6 W6) := (E.out.next HNN.out l6 (tickX_ok E.out.ok) (keep_tick _))
            have T6 : Hid (tlft (tickX v) r ≤ (MM : Int) - ((k + 1 : Nat) : Int)) := by
              have a1 := TT.out
              have a2 := TL.out
              show tlft (tickX v) r ≤ _
              omega
            clear l6 TI BU TT TL
            go_wp2_with fail
            go_roundw
            case rel => exact ⟨k + 1, by omega, by go_num, _, Z6, E6.out, T6.out⟩
            case measure => simp [intOf]; omega
          | false =>
            have HB := hide hb
            rw [hb] at BU
            have BU := hide BU
            rw [← hK] at E
            clear hb hK TL
            go_wp2_with fail
            refine Calls.mono BU.out ?_
            rintro e w' ⟨rfl, rfl⟩
            clear BU hkm hki
            have BG := Begin_x E.out.ex E.out.ok (by have := KB.out; have := MB.out; have := NB.out; omega) 1
            obtain ⟨s1, ⟨m1, s2⟩, s3⟩ := sit_start (P := P) (g := g) E.out.ok HB.out (by rw [HP.out]; exact E.out.rl) LM.out.2.1.1
            rw [s1, s2] at BG
            have BG := hide BG
            have SIT := hide s3
            have OKB := hide (begX_ok E.out.ok 1)
            clear s1 s2 s3
            go_wp2_with fail
            refine Calls.mono BG.out ?_
            rintro e W5 ⟨u5, Z5, rfl, o5, l5⟩
            obtain ⟨ua, uc, rfl⟩ := own_sl o5
            have E5 : Hid (Eg w N st x ao b o cap pv ns r X (K + 1 + 2 * 0) (begX v 1) Z5 W5) := E.out.next HNN.out l5 OKB.out (keep_beg _ _)
            clear o5 l5 BG OKB
            obtain ⟨v5, hv5⟩ : ∃ v5, v5 = begX v 1 := ⟨_, rfl⟩
            rw [← hv5] at E5 SIT
            clear hv5 E HB
            go_wp2_with (go_at_call 6; refine Calls.mono (NU.out _ _) ?_; rintro e w' ⟨rfl, rfl⟩)
            go_loopw [12, 13, 14, 15] (fun va vi _ _ wr => ∃ i a : Nat, i ≤ MM ∧ a ≤ i + 1 ∧ vi = .int .i64 (i : Int) ∧ va = .int .i64 (a : Int) ∧ ∃ v Z, Hid (Eg w N st x ao b o cap pv ns r X (K + 1 + 2 * i) v Z wr) ∧ Hid (Sit v r P g i a)) (fun _ vi _ _ _ => MM - (intOf vi).toNat)
            case atStart => exact ⟨0, 1, Nat.zero_le _, Nat.le_refl _, rfl, rfl, v5, Z5, E5.out, SIT.out⟩
            case round =>
              clear E5 SIT
              obtain ⟨i, a, hi, ha, rfl, rfl, v, Z, E, SI⟩ := hrel
              by_cases him : i < MM
              case pos =>
                have hii : (i : Int) < (MM : Int) := by omega
                obtain ⟨sb, k, sk, k1, kd, sn⟩ := sit_step E.out.ok (by rw [HP.out]; exact E.out.rl) (by rw [E.out.gw]; exact HG.out) (by have := MQ.out; omega) SI.out
                have BU := Busy_x E.out.ex E.out.ok.p1.1
                rw [sb] at BU
                have BU := hide BU
                have TI := hide (Tick_x E.out.ex E.out.ok (by have := KB.out; have := MB.out; have := NB.out; omega))
                have KD := hide kd
                have SN := hide sn
                have SK := hide sk
                have hMB := MB.out
                clear sb kd sn sk SI
                go_wp2_with fail
                refine Calls.mono BU.out ?_
                rintro e w' ⟨rfl, rfl⟩
                go_wp2_with fail
                refine Calls.mono TI.out ?_
                rintro e W6 ⟨u6, Z6, rfl, o6, l6⟩
                have c18 : W6.cell? ⟨w.heap.size, 18, none⟩ = some (.int .i64 (g : Int)) := by
                  have z := (E.out.next HNN.out l6 (tickX_ok E.out.ok) (keep_tick _)).sd.cl.x 17 (by omega)
                  rw [HG.out] at z
                  exact z
                have E6 : Hid (Eg w N st x ao b o cap pv ns r X (K + 1 + 2 * (i + 1)) (tickX v) Z6 W6) := E.out.next HNN.out l6 (tickX_ok E.out.ok) (keep_tick _)
                obtain ⟨ta, tc, htu⟩ := own_sl o6
                rw [SK.out] at htu
                subst htu
                clear o6 l6 TI BU E
                have g1 := LM.out.2.1
                have gz : ((g : Int) == 0) = false := by rw [beq_eq_false_iff_ne]; omega
                have gz2 : (g : Int) ≠ 0 := by omega
                have ai : wrap64 ((i : Int) + 1) = (i : Int) + 1 := wrap_in (by omega) (by omega)
                have hk01 : k = 0 ∨ k = 1 := by omega
                rcases hk01 with rfl | rfl
                · clear KD c18 g1 gz gz2 hMB
                  have aa : wrap64 (a : Int) = (a : Int) := wrap_in (by have := MB.out; omega) (by have := MB.out; omega)
                  go_wp2_with (go_at_call 6; refine Calls.mono (NU.out _ _) ?_; rintro e w' ⟨rfl, rfl⟩)
                  go_roundw
                  case rel => exact ⟨i + 1, a, by omega, by omega, by go_num, by first | rfl | (simp; try exact aa), _, Z6, E6.out, SN.out⟩
                  case measure => simp [intOf]; omega
                · have rm : Int.tmod ((i : Int) + 1) (g : Int) = 0 := by
                    have z := KD.out rfl
                    have e : Int.tmod (((i + 1 : Nat)) : Int) (g : Int) = (((i + 1) % g : Nat) : Int) := (Int.ofNat_tmod _ _).symm
                    rw [z] at e
                    exact e
                  have aa : wrap64 ((a : Int) + 1) = (a : Int) + 1 := wrap_in (by omega) (by omega)
                  have RM := hide rm
                  clear KD hMB gz gz2 g1 rm
                  go_wp2_with (first | (go_at_call 6; refine Calls.mono (NU.out _ _) ?_; rintro e w' ⟨rfl, rfl⟩) | refine wpList_remG (.tmp 135) (.tmp 137) rfl (by kernel_rfl) ((i : Int) + 1) (g : Int) rfl rfl (by have := LM.out.2.1; omega) (by have := LM.out.2.1; omega) 0 RM.out ?_)
                  go_roundw
                  case rel => exact ⟨i + 1, a + 1, by omega, by omega, by go_num, by go_num, _, Z6, E6.out, SN.out⟩
                  case measure => simp [intOf]; omega
              case neg =>
                obtain rfl : i = MM := by omega
                have SE : Hid (a = P * r ∧ Fnd v P) := by
                  have z := SI.out
                  rw [MQ.out] at z
                  exact sit_end z
                have RP := hide (Report_x E.out.ex E.out.ok.p1.1 SE.out.2.jb (by rw [SE.out.2.ps, SE.out.2.ms, rng_len]; have := LM.out.2.2.2; exact ⟨Nat.zero_le _, by omega⟩))
                go_wp2_with fail
                refine Calls.mono RP.out ?_
                rintro e W7 ⟨u1, u2, rfl, o1, o2, k7⟩
                have E7 := hide (E.out.same HNN.out k7)
                rw [SE.out.2.ps] at o1
                rw [SE.out.2.ms, rng_len] at o2
                have o1 : W7.ownsRow _ 86 2 u1 0 (prs []) := o1
                obtain ⟨p1, pc1, rfl⟩ := own_sl o1
                obtain ⟨p2, pc2, rfl⟩ := own_sl o2
                obtain ⟨la, hla⟩ : ∃ la, la = v.last := ⟨_, rfl⟩
                rw [← hla]
                clear hla
                have AR : Hid (a = P * r) := SE.out.1
                have BUB := hide (busy_no.1 SE.out.2.b)
                have BF : Hid (busyB v = false) := SE.out.2.b
                obtain ⟨RB, hRB⟩ : ∃ RB, RB = W7.heap.size := ⟨_, rfl⟩
                obtain ⟨W8, hW8⟩ : ∃ W8, W8 = W7.alloc (.cells (toA la (.slice p1 0 pc1) (.slice p2 P pc2)) 49) := ⟨_, rfl⟩
                have k8 : Kp W7 W8 non := by rw [hW8]; exact (Kp.refl W7 non).alloc _
                have r8 : W8.heap[RB]? = some (.cells (toA la (.slice p1 0 pc1) (.slice p2 P pc2)) 49) := by rw [hW8, hRB]; exact heap_last _ _
                have E8 := hide (E7.out.same HNN.out k8)
                have O2 : Hid (W8.ownsRow 0 3 1 (.slice p2 P pc2) P (ints (rng P))) := own_base (own_kp o2 k8 (fun _ _ f => f)) (Nat.zero_le _)
                have TIN := hide to_info
                have ON := hide (to_one la (a := .slice p1 0 pc1) (b := .slice p2 P pc2) ⟨_, _, _, rfl⟩ ⟨_, _, _, rfl⟩)
                have HAL : Hid ((W7.alloc (.cells #[.int .i64 0, .int .i64 0, .slice none 0 0, .slice none 0 0] 49)).heap[RB]? = some (.cells #[.int .i64 0, .int .i64 0, .slice none 0 0, .slice none 0 0] 49)) := by rw [hRB]; exact heap_last _ _
                have HST : Hid ((W7.alloc (.cells #[.int .i64 0, .int .i64 0, .slice none 0 0, .slice none 0 0] 49)).setRow RB (toA la (.slice p1 0 pc1) (.slice p2 P pc2)) = W8) := by rw [hW8, hRB]; exact World.setRow_alloc_new _ _ _ _
                have SS : Hid ((fun Y => ClAt Y w.heap.size st x (.slice ao ns.length cap)) W8 ∧ W8.heap[RB]? = some (.cells (toA la (.slice p1 0 pc1) (.slice p2 P pc2)) 49) ∧ W8.heap[X]? = some (.cells (exA v Z) 75)) := ⟨E8.out.sd.cl, r8, E8.out.ex.blk⟩
                have HRB := hide hRB
                have RSL := hide E8.out.ex.ow.rsl
                have RW1 := hide E8.out.ok.p1.1
                have BUY : Hid (∀ Y, Y.heap[X]? = some (.cells (exA v Z) 75) → Calls Try.prog 15 #[.pointer (some ⟨X, 0, none⟩)] Y fun e w' => e = .returned (.bool false) ∧ Y = w') := fun Y hY => by
                  have z := Busy_b hY RW1.out RSL.out
                  rw [BF.out] at z
                  exact z
                have CX : Hid (∀ Y : World, ClAt Y w.heap.size st x (.slice ao ns.length cap) → Y.cell? ⟨w.heap.size, 1, none⟩ = some (.int .i64 (r : Int))) := fun Y hY => by rw [← HR.out]; exact hY.x 0 (by omega)
                have CR : Hid (∀ Y : World, Y.heap[RB]? = some (.cells (toA la (.slice p1 0 pc1) (.slice p2 P pc2)) 49) → Y.cell? ⟨RB, 2, none⟩ = some (.slice p1 0 pc1) ∧ Y.cell? ⟨RB, 3, none⟩ = some (.slice p2 P pc2)) := fun Y hY => ⟨by rw [cell_row hY]; rfl, by rw [cell_row hY]; rfl⟩
                have PAY : Hid (∀ Y, Kp W8 Y non → Calls Try.prog 14 #[.agg (clA st x (.slice ao ns.length cap))] Y fun e w' => e = .returned (.int .i64 (P : Int)) ∧ Kp Y w' non) := fun Y hk => by
                  have z := E8.out.same HNN.out hk
                  have q := parts21_any N Y st x ao b o cap pv ns z.sd.nd z.sd.le l16.out
                  rw [← HP.out] at q
                  exact q.mono (fun e w' ⟨h1, h2⟩ => ⟨h1, Kp.of_below h2 non⟩)
                have SSY : Hid (∀ Y, Kp W8 Y non → (fun Y => ClAt Y w.heap.size st x (.slice ao ns.length cap)) Y ∧ Y.heap[RB]? = some (.cells (toA la (.slice p1 0 pc1) (.slice p2 P pc2)) 49) ∧ Y.heap[X]? = some (.cells (exA v Z) 75)) := fun Y hk => ⟨(E8.out.same HNN.out hk).sd.cl, hk.blk0 SS.out.2.1, hk.blk0 SS.out.2.2⟩
                have LB : Hid (IntKind.i64.wrap ((P : Int) * (r : Int)) = (a : Int)) := by
                  have z := LM.out
                  have b1 : P * r ≤ 1024 := Nat.le_trans (Nat.mul_le_mul z.2.2.2 z.1.2) (by decide)
                  show _ = _
                  rw [show (P : Int) * (r : Int) = (a : Int) by rw [AR.out, Int.natCast_mul], AR.out]
                  exact i64_in (by omega) (by omega)
                have BE8 := hide E8.out.be
                clear hRB hW8 k8 r8 o1 o2 E7 E RP SI SE ha
                go_upto_region 37 with (first | (refine wpList_stR rfl 49 (.tmp 16) (.tmp 149) rfl RB rfl (toA la (.slice p1 0 pc1) (.slice p2 P pc2)) #[.int .i64 0, .int .i64 0, .slice none 0 0, .slice none 0 0] rfl _ HAL.out TIN.out rfl ON.out ?_; rw [HST.out]) | (refine wpList_stR rfl 49 (.tmp 16) (.tmp 149) rfl W7.heap.size rfl (toA la (.slice p1 0 pc1) (.slice p2 P pc2)) #[.int .i64 0, .int .i64 0, .slice none 0 0, .slice none 0 0] rfl _ (by have z := HAL.out; rw [HRB.out] at z; exact z) TIN.out rfl ON.out ?_; have zz := HST.out; rw [HRB.out] at zz; rw [zz]; clear zz))
                (try rw [← HRB.out])
                clear HAL HST ON TIN HRB
                refine wp_region_held_drew (S := fun Y => (fun Y => ClAt Y w.heap.size st x (.slice ao ns.length cap)) Y ∧ Y.heap[RB]? = some (.cells (toA la (.slice p1 0 pc1) (.slice p2 P pc2)) 49) ∧ Y.heap[X]? = some (.cells (exA v Z) 75)) (by kernel_rfl) SS.out (fun hHeld => ?_)
                refine wpAnyH_take (i := 0) (v := (.pointer (some ⟨X, 0, none⟩))) rfl (by kernel_rfl) (by kernel_rfl) (by kernel_rfl) (fun _ _ _ h => h) (Or.inl ⟨by kernel_rfl, ?_⟩) (by assumption) ?_
                · intro w' hSw
                  (try dsimp only at hSw)
                  go_simp
                (try simp only [Act.put, List.getElem_toArray, List.getElem_cons_zero, List.getElem_cons_succ, List.setIfInBounds_toArray, List.set_cons_zero, List.set_cons_succ])
                refine wpAnyH_callTake (i := 1) (v := (.bool false)) rfl (by kernel_rfl) (by kernel_rfl) (by kernel_rfl) (fun _ _ _ h => h) (by kernel_rfl) 15 #[.pointer (some ⟨X, 0, none⟩)] (fun w' => by kernel_rfl) (fun w' hSw => BUY.out w' hSw.2.2) (by assumption) ?_
                (try simp only [Act.put, List.getElem_toArray, List.getElem_cons_zero, List.getElem_cons_succ, List.setIfInBounds_toArray, List.set_cons_zero, List.set_cons_succ])
                refine wpAnyH_take (i := 2) (v := (.bool false)) rfl (by kernel_rfl) (by kernel_rfl) (by kernel_rfl) (fun _ _ _ h => h) (Or.inl ⟨by kernel_rfl, ?_⟩) (by assumption) ?_
                · intro w' hSw
                  (try dsimp only at hSw)
                  go_simp
                (try simp only [Act.put, List.getElem_toArray, List.getElem_cons_zero, List.getElem_cons_succ, List.setIfInBounds_toArray, List.set_cons_zero, List.set_cons_succ])
                refine wpAnyH_take (i := 3) (v := (.int .i64 0)) rfl (by kernel_rfl) (by kernel_rfl) (by kernel_rfl) (fun _ _ _ h => h) (Or.inl ⟨by kernel_rfl, ?_⟩) (by assumption) ?_
                · intro w' hSw
                  (try dsimp only at hSw)
                  go_simp
                (try simp only [Act.put, List.getElem_toArray, List.getElem_cons_zero, List.getElem_cons_succ, List.setIfInBounds_toArray, List.set_cons_zero, List.set_cons_succ])
                refine wpAnyH_callTake (i := 4) (v := (.int .i64 0)) rfl (by kernel_rfl) (by kernel_rfl) (by kernel_rfl) (fun _ _ _ h => h) (by kernel_rfl) 6 #[.int .i64 0] (fun w' => by kernel_rfl) (fun w' hSw => NU.out w' 0) (by assumption) ?_
                (try simp only [Act.put, List.getElem_toArray, List.getElem_cons_zero, List.getElem_cons_succ, List.setIfInBounds_toArray, List.set_cons_zero, List.set_cons_succ])
                refine wpAnyH_take (i := 5) (v := (.bool false)) rfl (by kernel_rfl) (by kernel_rfl) (by kernel_rfl) (fun _ _ _ h => h) (Or.inl ⟨by kernel_rfl, ?_⟩) (by assumption) ?_
                · intro w' hSw
                  (try dsimp only at hSw)
                  go_simp
                (try simp only [Act.put, List.getElem_toArray, List.getElem_cons_zero, List.getElem_cons_succ, List.setIfInBounds_toArray, List.set_cons_zero, List.set_cons_succ])
                refine wpAnyH_take (i := 6) (v := (.bool false)) rfl (by kernel_rfl) (by kernel_rfl) (by kernel_rfl) (fun _ _ _ h => h) (Or.inl ⟨by kernel_rfl, ?_⟩) (by assumption) ?_
                · intro w' hSw
                  (try dsimp only at hSw)
                  go_simp
                (try simp only [Act.put, List.getElem_toArray, List.getElem_cons_zero, List.getElem_cons_succ, List.setIfInBounds_toArray, List.set_cons_zero, List.set_cons_succ])
                refine wpAnyH_take (i := 7) (v := (.bool false)) rfl (by kernel_rfl) (by kernel_rfl) (by kernel_rfl) (fun _ _ _ h => h) (Or.inl ⟨by kernel_rfl, ?_⟩) (by assumption) ?_
                · intro w' hSw
                  (try dsimp only at hSw)
                  go_simp
                (try simp only [Act.put, List.getElem_toArray, List.getElem_cons_zero, List.getElem_cons_succ, List.setIfInBounds_toArray, List.set_cons_zero, List.set_cons_succ])
                refine wpAnyH_take (i := 8) (v := (.int .i64 (a : Int))) rfl (by kernel_rfl) (by kernel_rfl) (by kernel_rfl) (fun _ _ _ h => h) (Or.inl ⟨by kernel_rfl, ?_⟩) (by assumption) ?_
                · intro w' hSw
                  (try dsimp only at hSw)
                  go_simp
                (try simp only [Act.put, List.getElem_toArray, List.getElem_cons_zero, List.getElem_cons_succ, List.setIfInBounds_toArray, List.set_cons_zero, List.set_cons_succ])
                refine wpAnyH_take (i := 9) (v := (.agg (clA st x (.slice ao ns.length cap)))) rfl (by kernel_rfl) (by kernel_rfl) (by kernel_rfl) (fun _ _ _ h => h) (Or.inl ⟨by kernel_rfl, ?_⟩) (by assumption) ?_
                · intro w' hSw
                  (try dsimp only at hSw)
                  (exact exec_loadCl (.tmp 2) rfl rfl hSw.1)
                (try simp only [Act.put, List.getElem_toArray, List.getElem_cons_zero, List.getElem_cons_succ, List.setIfInBounds_toArray, List.set_cons_zero, List.set_cons_succ])
                refine wpAnyH_take (i := 11) (v := (.pointer (some ⟨w.heap.size, 1, none⟩))) rfl (by kernel_rfl) (by kernel_rfl) (by kernel_rfl) (fun _ _ _ h => h) (Or.inl ⟨by kernel_rfl, ?_⟩) (by assumption) ?_
                · intro w' hSw
                  (try dsimp only at hSw)
                  go_simp
                (try simp only [Act.put, List.getElem_toArray, List.getElem_cons_zero, List.getElem_cons_succ, List.setIfInBounds_toArray, List.set_cons_zero, List.set_cons_succ])
                refine wpAnyH_take (i := 12) (v := (.int .i64 (r : Int))) rfl (by kernel_rfl) (by kernel_rfl) (by kernel_rfl) (fun _ _ _ h => h) (Or.inl ⟨by kernel_rfl, ?_⟩) (by assumption) ?_
                · intro w' hSw
                  (try dsimp only at hSw)
                  (have z := CX.out _ hSw.1; go_simp)
                (try simp only [Act.put, List.getElem_toArray, List.getElem_cons_zero, List.getElem_cons_succ, List.setIfInBounds_toArray, List.set_cons_zero, List.set_cons_succ])
                refine wpAnyH_ready (rs := [10]) (by kernel_rfl) (by simp) ?_
                refine AllReadyH.cons rfl (fun K hK => ?_) AllReadyH.nil
                go_simp
                refine Calls.mono (PAY.out _ ((Kp.refl W8 non).drew)) ?_
                rintro e W9 ⟨rfl, k9⟩
                have K9 : Hid (Kp W8 W9 non) := ((Kp.refl W8 non).drew).trans k9 (fun _ f => f.elim)
                clear k9
                refine hK.out _ _ ((SSY.out _ K9.out)) (fun hHeld => ?_)
                clear hK
                (try simp only [Act.put, List.setIfInBounds_toArray, List.set_cons_zero, List.set_cons_succ])
                refine wpAnyH_take (i := 13) (v := (.int .i64 (a : Int))) rfl (by kernel_rfl) (by kernel_rfl) (by kernel_rfl) (fun _ _ _ h => h) (Or.inl ⟨by kernel_rfl, ?_⟩) (by assumption) ?_
                · intro w' hSw
                  (try dsimp only at hSw)
                  (have z := LB.out; go_simp)
                (try simp only [Act.put, List.getElem_toArray, List.getElem_cons_zero, List.getElem_cons_succ, List.setIfInBounds_toArray, List.set_cons_zero, List.set_cons_succ])
                refine wpAnyH_take (i := 14) (v := (.bool false)) rfl (by kernel_rfl) (by kernel_rfl) (by kernel_rfl) (fun _ _ _ h => h) (Or.inl ⟨by kernel_rfl, ?_⟩) (by assumption) ?_
                · intro w' hSw
                  (try dsimp only at hSw)
                  go_simp
                (try simp only [Act.put, List.getElem_toArray, List.getElem_cons_zero, List.getElem_cons_succ, List.setIfInBounds_toArray, List.set_cons_zero, List.set_cons_succ])
                refine wpAnyH_take (i := 15) (v := (.bool false)) rfl (by kernel_rfl) (by kernel_rfl) (by kernel_rfl) (fun _ _ _ h => h) (Or.inl ⟨by kernel_rfl, ?_⟩) (by assumption) ?_
                · intro w' hSw
                  (try dsimp only at hSw)
                  go_simp
                (try simp only [Act.put, List.getElem_toArray, List.getElem_cons_zero, List.getElem_cons_succ, List.setIfInBounds_toArray, List.set_cons_zero, List.set_cons_succ])
                refine wpAnyH_take (i := 16) (v := (.bool false)) rfl (by kernel_rfl) (by kernel_rfl) (by kernel_rfl) (fun _ _ _ h => h) (Or.inl ⟨by kernel_rfl, ?_⟩) (by assumption) ?_
                · intro w' hSw
                  (try dsimp only at hSw)
                  go_simp
                (try simp only [Act.put, List.getElem_toArray, List.getElem_cons_zero, List.getElem_cons_succ, List.setIfInBounds_toArray, List.set_cons_zero, List.set_cons_succ])
                refine wpAnyH_take (i := 17) (v := (.pointer (some ⟨RB, 2, none⟩))) rfl (by kernel_rfl) (by kernel_rfl) (by kernel_rfl) (fun _ _ _ h => h) (Or.inl ⟨by kernel_rfl, ?_⟩) (by assumption) ?_
                · intro w' hSw
                  (try dsimp only at hSw)
                  go_simp
                (try simp only [Act.put, List.getElem_toArray, List.getElem_cons_zero, List.getElem_cons_succ, List.setIfInBounds_toArray, List.set_cons_zero, List.set_cons_succ])
                refine wpAnyH_take (i := 18) (v := (.slice p1 0 pc1)) rfl (by kernel_rfl) (by kernel_rfl) (by kernel_rfl) (fun _ _ _ h => h) (Or.inl ⟨by kernel_rfl, ?_⟩) (by assumption) ?_
                · intro w' hSw
                  (try dsimp only at hSw)
                  (have z := (CR.out _ hSw.2.1).1; go_simp)
                (try simp only [Act.put, List.getElem_toArray, List.getElem_cons_zero, List.getElem_cons_succ, List.setIfInBounds_toArray, List.set_cons_zero, List.set_cons_succ])
                refine wpAnyH_take (i := 19) (v := (.int .i64 0)) rfl (by kernel_rfl) (by kernel_rfl) (by kernel_rfl) (fun _ _ _ h => h) (Or.inl ⟨by kernel_rfl, ?_⟩) (by assumption) ?_
                · intro w' hSw
                  (try dsimp only at hSw)
                  go_simp
                (try simp only [Act.put, List.getElem_toArray, List.getElem_cons_zero, List.getElem_cons_succ, List.setIfInBounds_toArray, List.set_cons_zero, List.set_cons_succ])
                refine wpAnyH_take (i := 20) (v := (.bool false)) rfl (by kernel_rfl) (by kernel_rfl) (by kernel_rfl) (fun _ _ _ h => h) (Or.inl ⟨by kernel_rfl, ?_⟩) (by assumption) ?_
                · intro w' hSw
                  (try dsimp only at hSw)
                  go_simp
                (try simp only [Act.put, List.getElem_toArray, List.getElem_cons_zero, List.getElem_cons_succ, List.setIfInBounds_toArray, List.set_cons_zero, List.set_cons_succ])
                refine wpAnyH_take (i := 21) (v := (.bool false)) rfl (by kernel_rfl) (by kernel_rfl) (by kernel_rfl) (fun _ _ _ h => h) (Or.inl ⟨by kernel_rfl, ?_⟩) (by assumption) ?_
                · intro w' hSw
                  (try dsimp only at hSw)
                  go_simp
                (try simp only [Act.put, List.getElem_toArray, List.getElem_cons_zero, List.getElem_cons_succ, List.setIfInBounds_toArray, List.set_cons_zero, List.set_cons_succ])
                refine wpAnyH_take (i := 22) (v := (.bool false)) rfl (by kernel_rfl) (by kernel_rfl) (by kernel_rfl) (fun _ _ _ h => h) (Or.inl ⟨by kernel_rfl, ?_⟩) (by assumption) ?_
                · intro w' hSw
                  (try dsimp only at hSw)
                  go_simp
                (try simp only [Act.put, List.getElem_toArray, List.getElem_cons_zero, List.getElem_cons_succ, List.setIfInBounds_toArray, List.set_cons_zero, List.set_cons_succ])
                refine wpAnyH_take (i := 23) (v := (.pointer (some ⟨RB, 3, none⟩))) rfl (by kernel_rfl) (by kernel_rfl) (by kernel_rfl) (fun _ _ _ h => h) (Or.inl ⟨by kernel_rfl, ?_⟩) (by assumption) ?_
                · intro w' hSw
                  (try dsimp only at hSw)
                  go_simp
                (try simp only [Act.put, List.getElem_toArray, List.getElem_cons_zero, List.getElem_cons_succ, List.setIfInBounds_toArray, List.set_cons_zero, List.set_cons_succ])
                refine wpAnyH_take (i := 24) (v := (.slice p2 P pc2)) rfl (by kernel_rfl) (by kernel_rfl) (by kernel_rfl) (fun _ _ _ h => h) (Or.inl ⟨by kernel_rfl, ?_⟩) (by assumption) ?_
                · intro w' hSw
                  (try dsimp only at hSw)
                  (have z := (CR.out _ hSw.2.1).2; go_simp)
                (try simp only [Act.put, List.getElem_toArray, List.getElem_cons_zero, List.getElem_cons_succ, List.setIfInBounds_toArray, List.set_cons_zero, List.set_cons_succ])
                refine wpAnyH_take (i := 25) (v := (.int .i64 (P : Int))) rfl (by kernel_rfl) (by kernel_rfl) (by kernel_rfl) (fun _ _ _ h => h) (Or.inl ⟨by kernel_rfl, ?_⟩) (by assumption) ?_
                · intro w' hSw
                  (try dsimp only at hSw)
                  go_simp
                (try simp only [Act.put, List.getElem_toArray, List.getElem_cons_zero, List.getElem_cons_succ, List.setIfInBounds_toArray, List.set_cons_zero, List.set_cons_succ])
                refine wpAnyH_take (i := 26) (v := (.agg (clA st x (.slice ao ns.length cap)))) rfl (by kernel_rfl) (by kernel_rfl) (by kernel_rfl) (fun _ _ _ h => h) (Or.inl ⟨by kernel_rfl, ?_⟩) (by assumption) ?_
                · intro w' hSw
                  (try dsimp only at hSw)
                  (exact exec_loadCl (.tmp 2) rfl rfl hSw.1)
                (try simp only [Act.put, List.getElem_toArray, List.getElem_cons_zero, List.getElem_cons_succ, List.setIfInBounds_toArray, List.set_cons_zero, List.set_cons_succ])
                refine wpAnyH_ready (rs := [27]) (by kernel_rfl) (by simp) ?_
                refine AllReadyH.cons rfl (fun K hK => ?_) AllReadyH.nil
                go_simp
                refine Calls.mono (PAY.out _ K9.out) ?_
                rintro e WA ⟨rfl, kA⟩
                have KA : Hid (Kp W8 WA non) := K9.out.trans kA (fun _ f => f.elim)
                clear kA
                refine hK.out _ _ ((SSY.out _ KA.out)) (fun hHeld => ?_)
                clear hK
                (try simp only [Act.put, List.setIfInBounds_toArray, List.set_cons_zero, List.set_cons_succ])
                refine wpAnyH_take (i := 28) (v := (.bool false)) rfl (by kernel_rfl) (by kernel_rfl) (by kernel_rfl) (fun _ _ _ h => h) (Or.inl ⟨by kernel_rfl, ?_⟩) (by assumption) ?_
                · intro w' hSw
                  (try dsimp only at hSw)
                  go_simp
                (try simp only [Act.put, List.getElem_toArray, List.getElem_cons_zero, List.getElem_cons_succ, List.setIfInBounds_toArray, List.set_cons_zero, List.set_cons_succ])
                refine wpAnyH_ready (rs := [29]) (by kernel_rfl) (by simp) ?_
                refine AllReadyH.cons rfl (fun K hK => ?_) AllReadyH.nil
                go_simp
                refine hK.out _ _ ((SSY.out _ KA.out)) (fun hHeld => ?_)
                clear hK
                (try simp only [Act.put, List.setIfInBounds_toArray, List.set_cons_zero, List.set_cons_succ])
                refine wpAnyH_done (by kernel_rfl) ?_ _
                clear hHeld
                have cR := (CR.out _ (SSY.out _ KA.out).2.1).2
                have OA := hide (own_kp O2.out KA.out (fun _ _ f => f))
                have BEA : Hid (Below w.heap.size w WA) := BE8.out.trans ((KA.out.below).mono BE8.out.size)
                clear O2 BE8 SS SSY PAY BUY CX K9 CR E8 LB
                have hP64 : P ≤ 64 := LM.out.2.2.2
                go_wp2_with fail
                go_loopw [18] (fun vi wr => ∃ q : Nat, q ≤ P ∧ vi = .int .i64 (q : Int) ∧ wr = WA) (fun vi _ => P - (intOf vi).toNat)
                case atStart => exact ⟨0, Nat.zero_le _, rfl, by first | rfl | trivial⟩
                case round =>
                  obtain ⟨q, hq, rfl, rfl⟩ := hrel
                  by_cases hqp : q < P
                  case pos =>
                    have hqi : (q : Int) < (P : Int) := by omega
                    obtain ⟨pg, pc', hpg⟩ := own_g OA.out (by omega)
                    injection hpg with hpg _ hpc
                    subst hpg
                    subst hpc
                    have ce : wr.cell? ⟨pg, q, none⟩ = some (.int .i64 (q : Int)) := by
                      have hj : (ints (rng P))[q]? = some (.int .i64 (q : Int)) := by rw [ints_at, rng_at hqp]; rfl
                      obtain ⟨g', c', e1, hc, _⟩ := own_at OA.out hj
                      injection e1 with e1
                      injection e1 with e1
                      injection e1 with e1
                      rw [e1]
                      exact hc
                    go_wp2_with fail
                    go_roundw
                    case rel => exact ⟨q + 1, by omega, by go_num, by first | rfl | trivial⟩
                    case measure => simp [intOf]; omega
                  case neg =>
                    obtain rfl : q = P := by omega
                    have hqi : ¬ (q : Int) < (q : Int) := by omega
                    go_wp2_with fail
                    go_ret
                    exact ⟨rfl, BEA.out⟩
        case neg =>
          have HB : Hid (busyB v = false) := by
            cases hb : busyB v with
            | true =>
              have a1 := tl_pos E.out.ok hb
              have a2 := TL.out
              omega
            | false => rfl
          have hki : ¬ (k : Int) < (MM : Int) := by omega
          rw [← hK] at E
          clear hK TL hkm
          have BG := Begin_x E.out.ex E.out.ok (by have := KB.out; have := MB.out; have := NB.out; omega) 1
          obtain ⟨s1, ⟨m1, s2⟩, s3⟩ := sit_start (P := P) (g := g) E.out.ok HB.out (by rw [HP.out]; exact E.out.rl) LM.out.2.1.1
          rw [s1, s2] at BG
          have BG := hide BG
          have SIT := hide s3
          have OKB := hide (begX_ok E.out.ok 1)
          clear s1 s2 s3
          go_wp2_with fail
          refine Calls.mono BG.out ?_
          rintro e W5 ⟨u5, Z5, rfl, o5, l5⟩
          obtain ⟨ua, uc, rfl⟩ := own_sl o5
          have E5 : Hid (Eg w N st x ao b o cap pv ns r X (K + 1 + 2 * 0) (begX v 1) Z5 W5) := E.out.next HNN.out l5 OKB.out (keep_beg _ _)
          clear o5 l5 BG OKB
          obtain ⟨v5, hv5⟩ : ∃ v5, v5 = begX v 1 := ⟨_, rfl⟩
          rw [← hv5] at E5 SIT
          clear hv5 E HB
          go_wp2_with (go_at_call 6; refine Calls.mono (NU.out _ _) ?_; rintro e w' ⟨rfl, rfl⟩)
          go_loopw [12, 13, 14, 15] (fun va vi _ _ wr => ∃ i a : Nat, i ≤ MM ∧ a ≤ i + 1 ∧ vi = .int .i64 (i : Int) ∧ va = .int .i64 (a : Int) ∧ ∃ v Z, Hid (Eg w N st x ao b o cap pv ns r X (K + 1 + 2 * i) v Z wr) ∧ Hid (Sit v r P g i a)) (fun _ vi _ _ _ => MM - (intOf vi).toNat)
          case atStart => exact ⟨0, 1, Nat.zero_le _, Nat.le_refl _, rfl, rfl, v5, Z5, E5.out, SIT.out⟩
          case round =>
            clear E5 SIT
            obtain ⟨i, a, hi, ha, rfl, rfl, v, Z, E, SI⟩ := hrel
            by_cases him : i < MM
            case pos =>
              have hii : (i : Int) < (MM : Int) := by omega
              obtain ⟨sb, k, sk, k1, kd, sn⟩ := sit_step E.out.ok (by rw [HP.out]; exact E.out.rl) (by rw [E.out.gw]; exact HG.out) (by have := MQ.out; omega) SI.out
              have BU := Busy_x E.out.ex E.out.ok.p1.1
              rw [sb] at BU
              have BU := hide BU
              have TI := hide (Tick_x E.out.ex E.out.ok (by have := KB.out; have := MB.out; have := NB.out; omega))
              have KD := hide kd
              have SN := hide sn
              have SK := hide sk
              have hMB := MB.out
              clear sb kd sn sk SI
              go_wp2_with fail
              refine Calls.mono BU.out ?_
              rintro e w' ⟨rfl, rfl⟩
              go_wp2_with fail
              refine Calls.mono TI.out ?_
              rintro e W6 ⟨u6, Z6, rfl, o6, l6⟩
              have c18 : W6.cell? ⟨w.heap.size, 18, none⟩ = some (.int .i64 (g : Int)) := by
                have z := (E.out.next HNN.out l6 (tickX_ok E.out.ok) (keep_tick _)).sd.cl.x 17 (by omega)
                rw [HG.out] at z
                exact z
              have E6 : Hid (Eg w N st x ao b o cap pv ns r X (K + 1 + 2 * (i + 1)) (tickX v) Z6 W6) := E.out.next HNN.out l6 (tickX_ok E.out.ok) (keep_tick _)
              obtain ⟨ta, tc, htu⟩ := own_sl o6
              rw [SK.out] at htu
              subst htu
              clear o6 l6 TI BU E
              have g1 := LM.out.2.1
              have gz : ((g : Int) == 0) = false := by rw [beq_eq_false_iff_ne]; omega
              have gz2 : (g : Int) ≠ 0 := by omega
              have ai : wrap64 ((i : Int) + 1) = (i : Int) + 1 := wrap_in (by omega) (by omega)
              have hk01 : k = 0 ∨ k = 1 := by omega
              rcases hk01 with rfl | rfl
              · clear KD c18 g1 gz gz2 hMB
                have aa : wrap64 (a : Int) = (a : Int) := wrap_in (by have := MB.out; omega) (by have := MB.out; omega)
                go_wp2_with (go_at_call 6; refine Calls.mono (NU.out _ _) ?_; rintro e w' ⟨rfl, rfl⟩)
                go_roundw
                case rel => exact ⟨i + 1, a, by omega, by omega, by go_num, by first | rfl | (simp; try exact aa), _, Z6, E6.out, SN.out⟩
                case measure => simp [intOf]; omega
              · have rm : Int.tmod ((i : Int) + 1) (g : Int) = 0 := by
                  have z := KD.out rfl
                  have e : Int.tmod (((i + 1 : Nat)) : Int) (g : Int) = (((i + 1) % g : Nat) : Int) := (Int.ofNat_tmod _ _).symm
                  rw [z] at e
                  exact e
                have aa : wrap64 ((a : Int) + 1) = (a : Int) + 1 := wrap_in (by omega) (by omega)
                have RM := hide rm
                clear KD hMB gz gz2 g1 rm
                go_wp2_with (first | (go_at_call 6; refine Calls.mono (NU.out _ _) ?_; rintro e w' ⟨rfl, rfl⟩) | refine wpList_remG (.tmp 135) (.tmp 137) rfl (by kernel_rfl) ((i : Int) + 1) (g : Int) rfl rfl (by have := LM.out.2.1; omega) (by have := LM.out.2.1; omega) 0 RM.out ?_)
                go_roundw
                case rel => exact ⟨i + 1, a + 1, by omega, by omega, by go_num, by go_num, _, Z6, E6.out, SN.out⟩
                case measure => simp [intOf]; omega
            case neg =>
              obtain rfl : i = MM := by omega
              have SE : Hid (a = P * r ∧ Fnd v P) := by
                have z := SI.out
                rw [MQ.out] at z
                exact sit_end z
              have RP := hide (Report_x E.out.ex E.out.ok.p1.1 SE.out.2.jb (by rw [SE.out.2.ps, SE.out.2.ms, rng_len]; have := LM.out.2.2.2; exact ⟨Nat.zero_le _, by omega⟩))
              go_wp2_with fail
              refine Calls.mono RP.out ?_
              rintro e W7 ⟨u1, u2, rfl, o1, o2, k7⟩
              have E7 := hide (E.out.same HNN.out k7)
              rw [SE.out.2.ps] at o1
              rw [SE.out.2.ms, rng_len] at o2
              have o1 : W7.ownsRow _ 86 2 u1 0 (prs []) := o1
              obtain ⟨p1, pc1, rfl⟩ := own_sl o1
              obtain ⟨p2, pc2, rfl⟩ := own_sl o2
              obtain ⟨la, hla⟩ : ∃ la, la = v.last := ⟨_, rfl⟩
              rw [← hla]
              clear hla
              have AR : Hid (a = P * r) := SE.out.1
              have BUB := hide (busy_no.1 SE.out.2.b)
              have BF : Hid (busyB v = false) := SE.out.2.b
              obtain ⟨RB, hRB⟩ : ∃ RB, RB = W7.heap.size := ⟨_, rfl⟩
              obtain ⟨W8, hW8⟩ : ∃ W8, W8 = W7.alloc (.cells (toA la (.slice p1 0 pc1) (.slice p2 P pc2)) 49) := ⟨_, rfl⟩
              have k8 : Kp W7 W8 non := by rw [hW8]; exact (Kp.refl W7 non).alloc _
              have r8 : W8.heap[RB]? = some (.cells (toA la (.slice p1 0 pc1) (.slice p2 P pc2)) 49) := by rw [hW8, hRB]; exact heap_last _ _
              have E8 := hide (E7.out.same HNN.out k8)
              have O2 : Hid (W8.ownsRow 0 3 1 (.slice p2 P pc2) P (ints (rng P))) := own_base (own_kp o2 k8 (fun _ _ f => f)) (Nat.zero_le _)
              have TIN := hide to_info
              have ON := hide (to_one la (a := .slice p1 0 pc1) (b := .slice p2 P pc2) ⟨_, _, _, rfl⟩ ⟨_, _, _, rfl⟩)
              have HAL : Hid ((W7.alloc (.cells #[.int .i64 0, .int .i64 0, .slice none 0 0, .slice none 0 0] 49)).heap[RB]? = some (.cells #[.int .i64 0, .int .i64 0, .slice none 0 0, .slice none 0 0] 49)) := by rw [hRB]; exact heap_last _ _
              have HST : Hid ((W7.alloc (.cells #[.int .i64 0, .int .i64 0, .slice none 0 0, .slice none 0 0] 49)).setRow RB (toA la (.slice p1 0 pc1) (.slice p2 P pc2)) = W8) := by rw [hW8, hRB]; exact World.setRow_alloc_new _ _ _ _
              have SS : Hid ((fun Y => ClAt Y w.heap.size st x (.slice ao ns.length cap)) W8 ∧ W8.heap[RB]? = some (.cells (toA la (.slice p1 0 pc1) (.slice p2 P pc2)) 49) ∧ W8.heap[X]? = some (.cells (exA v Z) 75)) := ⟨E8.out.sd.cl, r8, E8.out.ex.blk⟩
              have HRB := hide hRB
              have RSL := hide E8.out.ex.ow.rsl
              have RW1 := hide E8.out.ok.p1.1
              have BUY : Hid (∀ Y, Y.heap[X]? = some (.cells (exA v Z) 75) → Calls Try.prog 15 #[.pointer (some ⟨X, 0, none⟩)] Y fun e w' => e = .returned (.bool false) ∧ Y = w') := fun Y hY => by
                have z := Busy_b hY RW1.out RSL.out
                rw [BF.out] at z
                exact z
              have CX : Hid (∀ Y : World, ClAt Y w.heap.size st x (.slice ao ns.length cap) → Y.cell? ⟨w.heap.size, 1, none⟩ = some (.int .i64 (r : Int))) := fun Y hY => by rw [← HR.out]; exact hY.x 0 (by omega)
              have CR : Hid (∀ Y : World, Y.heap[RB]? = some (.cells (toA la (.slice p1 0 pc1) (.slice p2 P pc2)) 49) → Y.cell? ⟨RB, 2, none⟩ = some (.slice p1 0 pc1) ∧ Y.cell? ⟨RB, 3, none⟩ = some (.slice p2 P pc2)) := fun Y hY => ⟨by rw [cell_row hY]; rfl, by rw [cell_row hY]; rfl⟩
              have PAY : Hid (∀ Y, Kp W8 Y non → Calls Try.prog 14 #[.agg (clA st x (.slice ao ns.length cap))] Y fun e w' => e = .returned (.int .i64 (P : Int)) ∧ Kp Y w' non) := fun Y hk => by
                have z := E8.out.same HNN.out hk
                have q := parts21_any N Y st x ao b o cap pv ns z.sd.nd z.sd.le l16.out
                rw [← HP.out] at q
                exact q.mono (fun e w' ⟨h1, h2⟩ => ⟨h1, Kp.of_below h2 non⟩)
              have SSY : Hid (∀ Y, Kp W8 Y non → (fun Y => ClAt Y w.heap.size st x (.slice ao ns.length cap)) Y ∧ Y.heap[RB]? = some (.cells (toA la (.slice p1 0 pc1) (.slice p2 P pc2)) 49) ∧ Y.heap[X]? = some (.cells (exA v Z) 75)) := fun Y hk => ⟨(E8.out.same HNN.out hk).sd.cl, hk.blk0 SS.out.2.1, hk.blk0 SS.out.2.2⟩
              have LB : Hid (IntKind.i64.wrap ((P : Int) * (r : Int)) = (a : Int)) := by
                have z := LM.out
                have b1 : P * r ≤ 1024 := Nat.le_trans (Nat.mul_le_mul z.2.2.2 z.1.2) (by decide)
                show _ = _
                rw [show (P : Int) * (r : Int) = (a : Int) by rw [AR.out, Int.natCast_mul], AR.out]
                exact i64_in (by omega) (by omega)
              have BE8 := hide E8.out.be
              clear hRB hW8 k8 r8 o1 o2 E7 E RP SI SE ha
              go_upto_region 37 with (first | (refine wpList_stR rfl 49 (.tmp 16) (.tmp 149) rfl RB rfl (toA la (.slice p1 0 pc1) (.slice p2 P pc2)) #[.int .i64 0, .int .i64 0, .slice none 0 0, .slice none 0 0] rfl _ HAL.out TIN.out rfl ON.out ?_; rw [HST.out]) | (refine wpList_stR rfl 49 (.tmp 16) (.tmp 149) rfl W7.heap.size rfl (toA la (.slice p1 0 pc1) (.slice p2 P pc2)) #[.int .i64 0, .int .i64 0, .slice none 0 0, .slice none 0 0] rfl _ (by have z := HAL.out; rw [HRB.out] at z; exact z) TIN.out rfl ON.out ?_; have zz := HST.out; rw [HRB.out] at zz; rw [zz]; clear zz))
              (try rw [← HRB.out])
              clear HAL HST ON TIN HRB
              refine wp_region_held_drew (S := fun Y => (fun Y => ClAt Y w.heap.size st x (.slice ao ns.length cap)) Y ∧ Y.heap[RB]? = some (.cells (toA la (.slice p1 0 pc1) (.slice p2 P pc2)) 49) ∧ Y.heap[X]? = some (.cells (exA v Z) 75)) (by kernel_rfl) SS.out (fun hHeld => ?_)
              refine wpAnyH_take (i := 0) (v := (.pointer (some ⟨X, 0, none⟩))) rfl (by kernel_rfl) (by kernel_rfl) (by kernel_rfl) (fun _ _ _ h => h) (Or.inl ⟨by kernel_rfl, ?_⟩) (by assumption) ?_
              · intro w' hSw
                (try dsimp only at hSw)
                go_simp
              (try simp only [Act.put, List.getElem_toArray, List.getElem_cons_zero, List.getElem_cons_succ, List.setIfInBounds_toArray, List.set_cons_zero, List.set_cons_succ])
              refine wpAnyH_callTake (i := 1) (v := (.bool false)) rfl (by kernel_rfl) (by kernel_rfl) (by kernel_rfl) (fun _ _ _ h => h) (by kernel_rfl) 15 #[.pointer (some ⟨X, 0, none⟩)] (fun w' => by kernel_rfl) (fun w' hSw => BUY.out w' hSw.2.2) (by assumption) ?_
              (try simp only [Act.put, List.getElem_toArray, List.getElem_cons_zero, List.getElem_cons_succ, List.setIfInBounds_toArray, List.set_cons_zero, List.set_cons_succ])
              refine wpAnyH_take (i := 2) (v := (.bool false)) rfl (by kernel_rfl) (by kernel_rfl) (by kernel_rfl) (fun _ _ _ h => h) (Or.inl ⟨by kernel_rfl, ?_⟩) (by assumption) ?_
              · intro w' hSw
                (try dsimp only at hSw)
                go_simp
              (try simp only [Act.put, List.getElem_toArray, List.getElem_cons_zero, List.getElem_cons_succ, List.setIfInBounds_toArray, List.set_cons_zero, List.set_cons_succ])
              refine wpAnyH_take (i := 3) (v := (.int .i64 0)) rfl (by kernel_rfl) (by kernel_rfl) (by kernel_rfl) (fun _ _ _ h => h) (Or.inl ⟨by kernel_rfl, ?_⟩) (by assumption) ?_
              · intro w' hSw
                (try dsimp only at hSw)
                go_simp
              (try simp only [Act.put, List.getElem_toArray, List.getElem_cons_zero, List.getElem_cons_succ, List.setIfInBounds_toArray, List.set_cons_zero, List.set_cons_succ])
              refine wpAnyH_callTake (i := 4) (v := (.int .i64 0)) rfl (by kernel_rfl) (by kernel_rfl) (by kernel_rfl) (fun _ _ _ h => h) (by kernel_rfl) 6 #[.int .i64 0] (fun w' => by kernel_rfl) (fun w' hSw => NU.out w' 0) (by assumption) ?_
              (try simp only [Act.put, List.getElem_toArray, List.getElem_cons_zero, List.getElem_cons_succ, List.setIfInBounds_toArray, List.set_cons_zero, List.set_cons_succ])
              refine wpAnyH_take (i := 5) (v := (.bool false)) rfl (by kernel_rfl) (by kernel_rfl) (by kernel_rfl) (fun _ _ _ h => h) (Or.inl ⟨by kernel_rfl, ?_⟩) (by assumption) ?_
              · intro w' hSw
                (try dsimp only at hSw)
                go_simp
              (try simp only [Act.put, List.getElem_toArray, List.getElem_cons_zero, List.getElem_cons_succ, List.setIfInBounds_toArray, List.set_cons_zero, List.set_cons_succ])
              refine wpAnyH_take (i := 6) (v := (.bool false)) rfl (by kernel_rfl) (by kernel_rfl) (by kernel_rfl) (fun _ _ _ h => h) (Or.inl ⟨by kernel_rfl, ?_⟩) (by assumption) ?_
              · intro w' hSw
                (try dsimp only at hSw)
                go_simp
              (try simp only [Act.put, List.getElem_toArray, List.getElem_cons_zero, List.getElem_cons_succ, List.setIfInBounds_toArray, List.set_cons_zero, List.set_cons_succ])
              refine wpAnyH_take (i := 7) (v := (.bool false)) rfl (by kernel_rfl) (by kernel_rfl) (by kernel_rfl) (fun _ _ _ h => h) (Or.inl ⟨by kernel_rfl, ?_⟩) (by assumption) ?_
              · intro w' hSw
                (try dsimp only at hSw)
                go_simp
              (try simp only [Act.put, List.getElem_toArray, List.getElem_cons_zero, List.getElem_cons_succ, List.setIfInBounds_toArray, List.set_cons_zero, List.set_cons_succ])
              refine wpAnyH_take (i := 8) (v := (.int .i64 (a : Int))) rfl (by kernel_rfl) (by kernel_rfl) (by kernel_rfl) (fun _ _ _ h => h) (Or.inl ⟨by kernel_rfl, ?_⟩) (by assumption) ?_
              · intro w' hSw
                (try dsimp only at hSw)
                go_simp
              (try simp only [Act.put, List.getElem_toArray, List.getElem_cons_zero, List.getElem_cons_succ, List.setIfInBounds_toArray, List.set_cons_zero, List.set_cons_succ])
              refine wpAnyH_take (i := 9) (v := (.agg (clA st x (.slice ao ns.length cap)))) rfl (by kernel_rfl) (by kernel_rfl) (by kernel_rfl) (fun _ _ _ h => h) (Or.inl ⟨by kernel_rfl, ?_⟩) (by assumption) ?_
              · intro w' hSw
                (try dsimp only at hSw)
                (exact exec_loadCl (.tmp 2) rfl rfl hSw.1)
              (try simp only [Act.put, List.getElem_toArray, List.getElem_cons_zero, List.getElem_cons_succ, List.setIfInBounds_toArray, List.set_cons_zero, List.set_cons_succ])
              refine wpAnyH_take (i := 11) (v := (.pointer (some ⟨w.heap.size, 1, none⟩))) rfl (by kernel_rfl) (by kernel_rfl) (by kernel_rfl) (fun _ _ _ h => h) (Or.inl ⟨by kernel_rfl, ?_⟩) (by assumption) ?_
              · intro w' hSw
                (try dsimp only at hSw)
                go_simp
              (try simp only [Act.put, List.getElem_toArray, List.getElem_cons_zero, List.getElem_cons_succ, List.setIfInBounds_toArray, List.set_cons_zero, List.set_cons_succ])
              refine wpAnyH_take (i := 12) (v := (.int .i64 (r : Int))) rfl (by kernel_rfl) (by kernel_rfl) (by kernel_rfl) (fun _ _ _ h => h) (Or.inl ⟨by kernel_rfl, ?_⟩) (by assumption) ?_
              · intro w' hSw
                (try dsimp only at hSw)
                (have z := CX.out _ hSw.1; go_simp)
              (try simp only [Act.put, List.getElem_toArray, List.getElem_cons_zero, List.getElem_cons_succ, List.setIfInBounds_toArray, List.set_cons_zero, List.set_cons_succ])
              refine wpAnyH_ready (rs := [10]) (by kernel_rfl) (by simp) ?_
              refine AllReadyH.cons rfl (fun K hK => ?_) AllReadyH.nil
              go_simp
              refine Calls.mono (PAY.out _ ((Kp.refl W8 non).drew)) ?_
              rintro e W9 ⟨rfl, k9⟩
              have K9 : Hid (Kp W8 W9 non) := ((Kp.refl W8 non).drew).trans k9 (fun _ f => f.elim)
              clear k9
              refine hK.out _ _ ((SSY.out _ K9.out)) (fun hHeld => ?_)
              clear hK
              (try simp only [Act.put, List.setIfInBounds_toArray, List.set_cons_zero, List.set_cons_succ])
              refine wpAnyH_take (i := 13) (v := (.int .i64 (a : Int))) rfl (by kernel_rfl) (by kernel_rfl) (by kernel_rfl) (fun _ _ _ h => h) (Or.inl ⟨by kernel_rfl, ?_⟩) (by assumption) ?_
              · intro w' hSw
                (try dsimp only at hSw)
                (have z := LB.out; go_simp)
              (try simp only [Act.put, List.getElem_toArray, List.getElem_cons_zero, List.getElem_cons_succ, List.setIfInBounds_toArray, List.set_cons_zero, List.set_cons_succ])
              refine wpAnyH_take (i := 14) (v := (.bool false)) rfl (by kernel_rfl) (by kernel_rfl) (by kernel_rfl) (fun _ _ _ h => h) (Or.inl ⟨by kernel_rfl, ?_⟩) (by assumption) ?_
              · intro w' hSw
                (try dsimp only at hSw)
                go_simp
              (try simp only [Act.put, List.getElem_toArray, List.getElem_cons_zero, List.getElem_cons_succ, List.setIfInBounds_toArray, List.set_cons_zero, List.set_cons_succ])
              refine wpAnyH_take (i := 15) (v := (.bool false)) rfl (by kernel_rfl) (by kernel_rfl) (by kernel_rfl) (fun _ _ _ h => h) (Or.inl ⟨by kernel_rfl, ?_⟩) (by assumption) ?_
              · intro w' hSw
                (try dsimp only at hSw)
                go_simp
              (try simp only [Act.put, List.getElem_toArray, List.getElem_cons_zero, List.getElem_cons_succ, List.setIfInBounds_toArray, List.set_cons_zero, List.set_cons_succ])
              refine wpAnyH_take (i := 16) (v := (.bool false)) rfl (by kernel_rfl) (by kernel_rfl) (by kernel_rfl) (fun _ _ _ h => h) (Or.inl ⟨by kernel_rfl, ?_⟩) (by assumption) ?_
              · intro w' hSw
                (try dsimp only at hSw)
                go_simp
              (try simp only [Act.put, List.getElem_toArray, List.getElem_cons_zero, List.getElem_cons_succ, List.setIfInBounds_toArray, List.set_cons_zero, List.set_cons_succ])
              refine wpAnyH_take (i := 17) (v := (.pointer (some ⟨RB, 2, none⟩))) rfl (by kernel_rfl) (by kernel_rfl) (by kernel_rfl) (fun _ _ _ h => h) (Or.inl ⟨by kernel_rfl, ?_⟩) (by assumption) ?_
              · intro w' hSw
                (try dsimp only at hSw)
                go_simp
              (try simp only [Act.put, List.getElem_toArray, List.getElem_cons_zero, List.getElem_cons_succ, List.setIfInBounds_toArray, List.set_cons_zero, List.set_cons_succ])
              refine wpAnyH_take (i := 18) (v := (.slice p1 0 pc1)) rfl (by kernel_rfl) (by kernel_rfl) (by kernel_rfl) (fun _ _ _ h => h) (Or.inl ⟨by kernel_rfl, ?_⟩) (by assumption) ?_
              · intro w' hSw
                (try dsimp only at hSw)
                (have z := (CR.out _ hSw.2.1).1; go_simp)
              (try simp only [Act.put, List.getElem_toArray, List.getElem_cons_zero, List.getElem_cons_succ, List.setIfInBounds_toArray, List.set_cons_zero, List.set_cons_succ])
              refine wpAnyH_take (i := 19) (v := (.int .i64 0)) rfl (by kernel_rfl) (by kernel_rfl) (by kernel_rfl) (fun _ _ _ h => h) (Or.inl ⟨by kernel_rfl, ?_⟩) (by assumption) ?_
              · intro w' hSw
                (try dsimp only at hSw)
                go_simp
              (try simp only [Act.put, List.getElem_toArray, List.getElem_cons_zero, List.getElem_cons_succ, List.setIfInBounds_toArray, List.set_cons_zero, List.set_cons_succ])
              refine wpAnyH_take (i := 20) (v := (.bool false)) rfl (by kernel_rfl) (by kernel_rfl) (by kernel_rfl) (fun _ _ _ h => h) (Or.inl ⟨by kernel_rfl, ?_⟩) (by assumption) ?_
              · intro w' hSw
                (try dsimp only at hSw)
                go_simp
              (try simp only [Act.put, List.getElem_toArray, List.getElem_cons_zero, List.getElem_cons_succ, List.setIfInBounds_toArray, List.set_cons_zero, List.set_cons_succ])
              refine wpAnyH_take (i := 21) (v := (.bool false)) rfl (by kernel_rfl) (by kernel_rfl) (by kernel_rfl) (fun _ _ _ h => h) (Or.inl ⟨by kernel_rfl, ?_⟩) (by assumption) ?_
              · intro w' hSw
                (try dsimp only at hSw)
                go_simp
              (try simp only [Act.put, List.getElem_toArray, List.getElem_cons_zero, List.getElem_cons_succ, List.setIfInBounds_toArray, List.set_cons_zero, List.set_cons_succ])
              refine wpAnyH_take (i := 22) (v := (.bool false)) rfl (by kernel_rfl) (by kernel_rfl) (by kernel_rfl) (fun _ _ _ h => h) (Or.inl ⟨by kernel_rfl, ?_⟩) (by assumption) ?_
              · intro w' hSw
                (try dsimp only at hSw)
                go_simp
              (try simp only [Act.put, List.getElem_toArray, List.getElem_cons_zero, List.getElem_cons_succ, List.setIfInBounds_toArray, List.set_cons_zero, List.set_cons_succ])
              refine wpAnyH_take (i := 23) (v := (.pointer (some ⟨RB, 3, none⟩))) rfl (by kernel_rfl) (by kernel_rfl) (by kernel_rfl) (fun _ _ _ h => h) (Or.inl ⟨by kernel_rfl, ?_⟩) (by assumption) ?_
              · intro w' hSw
                (try dsimp only at hSw)
                go_simp
              (try simp only [Act.put, List.getElem_toArray, List.getElem_cons_zero, List.getElem_cons_succ, List.setIfInBounds_toArray, List.set_cons_zero, List.set_cons_succ])
              refine wpAnyH_take (i := 24) (v := (.slice p2 P pc2)) rfl (by kernel_rfl) (by kernel_rfl) (by kernel_rfl) (fun _ _ _ h => h) (Or.inl ⟨by kernel_rfl, ?_⟩) (by assumption) ?_
              · intro w' hSw
                (try dsimp only at hSw)
                (have z := (CR.out _ hSw.2.1).2; go_simp)
              (try simp only [Act.put, List.getElem_toArray, List.getElem_cons_zero, List.getElem_cons_succ, List.setIfInBounds_toArray, List.set_cons_zero, List.set_cons_succ])
              refine wpAnyH_take (i := 25) (v := (.int .i64 (P : Int))) rfl (by kernel_rfl) (by kernel_rfl) (by kernel_rfl) (fun _ _ _ h => h) (Or.inl ⟨by kernel_rfl, ?_⟩) (by assumption) ?_
              · intro w' hSw
                (try dsimp only at hSw)
                go_simp
              (try simp only [Act.put, List.getElem_toArray, List.getElem_cons_zero, List.getElem_cons_succ, List.setIfInBounds_toArray, List.set_cons_zero, List.set_cons_succ])
              refine wpAnyH_take (i := 26) (v := (.agg (clA st x (.slice ao ns.length cap)))) rfl (by kernel_rfl) (by kernel_rfl) (by kernel_rfl) (fun _ _ _ h => h) (Or.inl ⟨by kernel_rfl, ?_⟩) (by assumption) ?_
              · intro w' hSw
                (try dsimp only at hSw)
                (exact exec_loadCl (.tmp 2) rfl rfl hSw.1)
              (try simp only [Act.put, List.getElem_toArray, List.getElem_cons_zero, List.getElem_cons_succ, List.setIfInBounds_toArray, List.set_cons_zero, List.set_cons_succ])
              refine wpAnyH_ready (rs := [27]) (by kernel_rfl) (by simp) ?_
              refine AllReadyH.cons rfl (fun K hK => ?_) AllReadyH.nil
              go_simp
              refine Calls.mono (PAY.out _ K9.out) ?_
              rintro e WA ⟨rfl, kA⟩
              have KA : Hid (Kp W8 WA non) := K9.out.trans kA (fun _ f => f.elim)
              clear kA
              refine hK.out _ _ ((SSY.out _ KA.out)) (fun hHeld => ?_)
              clear hK
              (try simp only [Act.put, List.setIfInBounds_toArray, List.set_cons_zero, List.set_cons_succ])
              refine wpAnyH_take (i := 28) (v := (.bool false)) rfl (by kernel_rfl) (by kernel_rfl) (by kernel_rfl) (fun _ _ _ h => h) (Or.inl ⟨by kernel_rfl, ?_⟩) (by assumption) ?_
              · intro w' hSw
                (try dsimp only at hSw)
                go_simp
              (try simp only [Act.put, List.getElem_toArray, List.getElem_cons_zero, List.getElem_cons_succ, List.setIfInBounds_toArray, List.set_cons_zero, List.set_cons_succ])
              refine wpAnyH_ready (rs := [29]) (by kernel_rfl) (by simp) ?_
              refine AllReadyH.cons rfl (fun K hK => ?_) AllReadyH.nil
              go_simp
              refine hK.out _ _ ((SSY.out _ KA.out)) (fun hHeld => ?_)
              clear hK
              (try simp only [Act.put, List.setIfInBounds_toArray, List.set_cons_zero, List.set_cons_succ])
              refine wpAnyH_done (by kernel_rfl) ?_ _
              clear hHeld
              have cR := (CR.out _ (SSY.out _ KA.out).2.1).2
              have OA := hide (own_kp O2.out KA.out (fun _ _ f => f))
              have BEA : Hid (Below w.heap.size w WA) := BE8.out.trans ((KA.out.below).mono BE8.out.size)
              clear O2 BE8 SS SSY PAY BUY CX K9 CR E8 LB
              have hP64 : P ≤ 64 := LM.out.2.2.2
              go_wp2_with fail
              go_loopw [18] (fun vi wr => ∃ q : Nat, q ≤ P ∧ vi = .int .i64 (q : Int) ∧ wr = WA) (fun vi _ => P - (intOf vi).toNat)
              case atStart => exact ⟨0, Nat.zero_le _, rfl, by first | rfl | trivial⟩
              case round =>
                obtain ⟨q, hq, rfl, rfl⟩ := hrel
                by_cases hqp : q < P
                case pos =>
                  have hqi : (q : Int) < (P : Int) := by omega
                  obtain ⟨pg, pc', hpg⟩ := own_g OA.out (by omega)
                  injection hpg with hpg _ hpc
                  subst hpg
                  subst hpc
                  have ce : wr.cell? ⟨pg, q, none⟩ = some (.int .i64 (q : Int)) := by
                    have hj : (ints (rng P))[q]? = some (.int .i64 (q : Int)) := by rw [ints_at, rng_at hqp]; rfl
                    obtain ⟨g', c', e1, hc, _⟩ := own_at OA.out hj
                    injection e1 with e1
                    injection e1 with e1
                    injection e1 with e1
                    rw [e1]
                    exact hc
                  go_wp2_with fail
                  go_roundw
                  case rel => exact ⟨q + 1, by omega, by go_num, by first | rfl | trivial⟩
                  case measure => simp [intOf]; omega
                case neg =>
                  obtain rfl : q = P := by omega
                  have hqi : ¬ (q : Int) < (q : Int) := by omega
                  go_wp2_with fail
                  go_ret
                  exact ⟨rfl, BEA.out⟩
end Go.Proofs.Ytljmjncgpgipcaa.Cn
