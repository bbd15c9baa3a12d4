import Derived.Test.YteiiolilpemimaaDoorGAeLists
namespace Go.Proofs.YteiiolilpemimaaDoor.Cn
open Go.RowKit
set_option maxHeartbeats 16000000 in
set_option maxRecDepth 100000 in
set_option linter.unusedSimpArgs false in
set_option linter.unusedVariables false in
theorem num19 (w : World) (n : Int) : Calls Tryd.prog 9 #[.int .i64 n] w fun e w' => e = .returned (.int .i64 n) ∧ w = w' := by
  go_enter Tryd.func9, Tryd.ntmps9
  go_wp2_with fail
  go_ret
  exact ⟨rfl, rfl⟩
/-- what the law's loops keep: the auditor, the definition, what lies below -/
structure Ev (w : World) (N : Nat) (st : ByteArray) (x : Nat → Int) (ao : Option Addr) (b o cap : Nat) (pv : Nat → Value) (ns : List ND) (n A H hc M i : Nat) (v : Au) (wr : World) : Prop where
  au : AuAt wr A H hc M v
  kd : Kd st x ns n i v
  sd : Stand N w.heap.size wr st x ao b o cap pv ns
  be : Below w.heap.size w wr
  tg : TabG wr
  tl : Tl0 v
section
variable {w : World} {N : Nat} {st : ByteArray} {x : Nat → Int} {ao : Option Addr} {b o cap : Nat} {pv : Nat → Value} {ns : List ND} {n A H hc M i i' : Nat} {v v' : Au} {wr w' : World}
theorem Ev.next (h : Ev w N st x ao b o cap pv ns n A H hc M i v wr) (hN : N ≤ w.heap.size) (hA : w.heap.size ≤ A ∧ w.heap.size ≤ H ∧ w.heap.size ≤ M) (ha : AuAt w' A H hc M v') (hk : Kp wr w' (AuS A H M)) (kd : Kd st x ns n i' v') (htl : Tl0 v') (hg : 0 < w.heap.size) : Ev w N st x ao b o cap pv ns n A H hc M i' v' w' := by
  have ge : ∀ k, AuS A H M k → w.heap.size ≤ k := fun k e => by
    rcases e with e | e | e
    · omega
    · omega
    · omega
  refine ⟨ha, kd, ⟨(hk.block _ (blk_lt h.sd.cl) (fun e => ?_)).trans h.sd.cl, h.sd.nd.below ⟨hk.os, hk.tape, hk.output, hk.size, fun k hk' => hk.block k (Nat.lt_of_lt_of_le hk' h.sd.le) (fun e => by have := ge k e; omega)⟩, Nat.le_trans h.sd.le hk.size⟩, h.be.trans ⟨hk.os, hk.tape, hk.output, hk.size, fun k hk' => hk.block k (Nat.lt_of_lt_of_le hk' h.be.size) (fun e => by have := ge k e; omega)⟩, fun m hm => (hk.cell h.tg.lt (fun e => by have := ge _ e; omega)).trans (h.tg m hm), htl⟩
  exact h.au.not h.sd.cl (by decide) (by decide) e
theorem Ev.same (h : Ev w N st x ao b o cap pv ns n A H hc M i v wr) (hN : N ≤ w.heap.size) (hA : w.heap.size ≤ A ∧ w.heap.size ≤ H ∧ w.heap.size ≤ M) (hk : Kp wr w' non) (hg : 0 < w.heap.size) : Ev w N st x ao b o cap pv ns n A H hc M i v w' := h.next hN hA (h.au.kp0 hk) (hk.mono (fun _ f => f.elim)) h.kd h.tl hg
end
set_option maxHeartbeats 16000000 in
set_option maxRecDepth 100000 in
set_option linter.unusedSimpArgs false in
set_option linter.unusedVariables false in
theorem ends_any (N : Nat) (w : World) (st : ByteArray) (x : Nat → Int) (ao : Option Addr) (b o cap : Nat) (pv : Nat → Value) (ns : List ND) (h : NsAt N w ao b o pv ns) (hN : N ≤ w.heap.size) (hs : st.size ≤ 9223372036854775807) (hT : TabG w) (ao2 : Option Addr) (bb oo cap2 : Nat) (L : List Sp) (hL : RwAt 14 spV w.heap.size w ao2 bb oo L) (hLl : L.length ≤ 100000000000000) :
    Calls Tryd.prog 4 #[.agg (clA st x (.slice ao ns.length cap)), .slice ao2 L.length cap2] w fun e w' => e = .returned (.bool true) ∧ Below w.heap.size w w' := by
  have hps : ∀ (q : Nat) (hq : q < ns.length), ns[q].ps.length ≤ 17592186043904 := fun q hq => by
    obtain ⟨_, _, _, _, _, hp⟩ := h.ps q hq
    exact hp.len
  have hlen := h.len
  obtain ⟨W0, hW0, hX⟩ := boxed st x cap h hN
  have HX := hide (hX.stand hN)
  have B0 := hide hX.bel
  have T0 := hide (hT.below hX.bel)
  have TGL : Hid (0 < w.heap.size) := hT.lt
  clear hX h hT
  have TW := hide (twin19_any N W0 st x ao b o cap pv ns HX.out.nd HX.out.le)
  have NU := hide fun w n => num19 w n
  have HLL := hide hL
  have NW : Hid (∀ W1 vl zs, zs.length = ns.length → Tw (W0.heap.size + 2) W1 ns vl zs → ∃ ao' b' cap' pv', vl = .slice ao' ns.length cap' ∧ NsAt W1.heap.size W1 ao' b' 0 pv' ns) := fun W1 vl zs hz ht => by
    obtain ⟨a, b, c, e1, e2⟩ := ht.nodes hz hlen hps
    exact ⟨a, b, c, _, e1, e2⟩
  obtain ⟨n, hn⟩ : ∃ n, n = L.length := ⟨_, rfl⟩
  have HN := hide hn
  rw [← hn] at hLl ⊢
  clear hL hps hn hlen
  go_enter Tryd.func4, Tryd.ntmps4
  go_upto_region 1 with fail
  rw [← hW0]
  clear hW0
  go_wp2_with (refine YteiiolilpemimaaDoor.wpList_loadCl rfl (.tmp 2) rfl w.heap.size st x _ rfl HX.out.cl ?_)
  refine Calls.mono TW.out ?_
  rintro e W1 ⟨vl, zs, rfl, hz, tw, b1⟩
  obtain ⟨ao', b', cap', pv', rfl, hn1⟩ := NW.out W1 vl zs hz tw
  have N1 := hide hn1
  have X1 := hide (HX.out.below b1)
  have B1 := hide (B0.out.trans (b1.mono B0.out.size))
  have T1 := hide (T0.out.below b1)
  clear hz tw b1 hn1 TW NW HX B0 T0
  by_cases he : errP st x ns = 0
  case neg =>
    have NN := hide (New_no W1.heap.size W1 st x ao' b' 0 cap' pv' ns N1.out (Nat.le_refl _) hs he)
    obtain ⟨er, her⟩ : ∃ er, er = errP st x ns := ⟨_, rfl⟩
    have HER := hide her
    rw [← her] at NN he
    clear her
    go_wp2_with fail
    refine Calls.mono NN.out ?_
    rintro e W2 ⟨rfl, b2⟩
    have CK := hide (rcheck_any N W2 st x ao b o cap pv ns (X1.out.below b2).nd (X1.out.below b2).le hs (T1.out.below b2))
    have X2 := hide (X1.out.below b2)
    have B2 := hide (B1.out.trans (b2.mono B1.out.size))
    rw [← HER.out] at CK
    clear b2 NN
    go_wp2_with (refine YteiiolilpemimaaDoor.wpList_loadCl rfl (.tmp 2) rfl w.heap.size st x _ rfl X2.out.cl ?_)
    refine Calls.mono CK.out ?_
    rintro e W3 ⟨rfl, b3⟩
    have B3 := hide (B2.out.trans (b3.mono B2.out.size))
    clear b3 CK
    have q0 : (er != 0) = true := by simpa using he
    have q1 : (er == er) = true := by simp
    go_wp2_with (go_at_call 9; refine Calls.mono (NU.out _ _) ?_; rintro e w' ⟨rfl, rfl⟩)
    go_ret
    exact ⟨rfl, B3.out⟩
  case pos =>
  have NN := hide (New_ok W1.heap.size W1 st x ao' b' 0 cap' pv' ns N1.out (Nat.le_refl _) hs he)
  go_wp2_with fail
  refine Calls.mono NN.out ?_
  rintro e W2 ⟨A, rfl, H, hc, M, v0, a2, hA2, nv, b2⟩
  have KD := hide (nv.kd he)
  have AU := hide a2
  have TL : Hid (Tl0 v0) := fun _ => nv.z.2.2.2.1
  have HAG : Hid (w.heap.size ≤ A ∧ w.heap.size ≤ H ∧ w.heap.size ≤ M) := ⟨Nat.le_trans B1.out.size hA2.1, Nat.le_trans B1.out.size hA2.2.1, Nat.le_trans B1.out.size hA2.2.2⟩
  have CK := hide (rcheck_any N W2 st x ao b o cap pv ns (X1.out.below b2).nd (X1.out.below b2).le hs (T1.out.below b2))
  have X2 := hide (X1.out.below b2)
  have B2 := hide (B1.out.trans (b2.mono B1.out.size))
  have T2 := hide (T1.out.below b2)
  rw [he] at CK
  clear a2 hA2 nv b2 NN N1 X1 B1 T1
  go_wp2_with (refine YteiiolilpemimaaDoor.wpList_loadCl rfl (.tmp 2) rfl w.heap.size st x _ rfl X2.out.cl ?_)
  refine Calls.mono CK.out ?_
  rintro e W3 ⟨rfl, b3⟩
  have k3 : Kp W2 W3 non := Kp.of_below b3 non
  have E3 : Hid (Ev w N st x ao b o cap pv ns (x 0).toNat A H hc M 0 v0 W3) := ⟨AU.out.kp0 k3, KD.out, X2.out.below b3, B2.out.trans (b3.mono B2.out.size), T2.out.below b3, TL.out⟩
  have x14 : W3.cell? ⟨w.heap.size, 15, none⟩ = some (.int .i64 (x 14)) := E3.out.sd.cl.x 14 (by omega)
  have x15 : W3.cell? ⟨w.heap.size, 16, none⟩ = some (.int .i64 (x 15)) := E3.out.sd.cl.x 15 (by omega)
  have l14 : 1 ≤ x 14 ∧ x 14 ≤ 1024 := sfP_lim (errP_ok he).1 14 (by omega)
  have l15 : 1 ≤ x 15 ∧ x 15 ≤ 64 := sfP_lim (errP_ok he).1 15 (by omega)
  have hmx : x 15 * x 14 ≤ 64 * 1024 := Int.mul_le_mul l15.2 l14.2 (by omega) (by omega)
  have hmn : 1 * 1 ≤ x 15 * x 14 := Int.mul_le_mul l15.1 l14.1 (by omega) (by omega)
  obtain ⟨mm, hmm⟩ : ∃ mm : Nat, x 15 * x 14 = (mm : Int) := ⟨(x 15 * x 14).toNat, by omega⟩
  have hm1 : 1 ≤ mm ∧ mm ≤ 65536 := by omega
  have wm : IntKind.i64.wrap (x 15 * x 14) = (mm : Int) := by rw [hmm]; exact i64_in (by omega) (by omega)
  have HMM := hide hmm
  have HE := hide he
  have hNN := hN
  clear k3 b3 CK AU KD X2 B2 T2 hmx hmn l14 l15 hmm
  go_upto_region 8 with (go_at_call 9; refine Calls.mono (NU.out _ _) ?_; rintro e w' ⟨rfl, rfl⟩)
  clear x14 x15 wm
  go_wp2_with fail
  go_loopw [9] (fun vi wr => ∃ i : Nat, i ≤ n ∧ vi = .int .i64 (i : Int) ∧ ∃ v, Hid (Ev w N st x ao b o cap pv ns (x 0).toNat A H hc M i v wr)) (fun vi _ => n - (intOf vi).toNat)
  case atStart => exact ⟨0, Nat.zero_le _, rfl, v0, E3.out⟩
  case round =>
    obtain ⟨i, hi, rfl, v, HEV⟩ := hrel
    by_cases hin : i < n
    case pos =>
      have hii : (i : Int) < (n : Int) := by omega
      have hiL : i < L.length := by rw [← HN.out]; exact hin
      have LB := HLL.out.below HEV.out.be
      have e8 := HLL.out.at0 (by omega)
      subst e8
      obtain ⟨s, hs9⟩ : ∃ s, s = L[i] := ⟨_, rfl⟩
      have c0 : wr.cell? ⟨bb, oo + i * 14, none⟩ = some (.int .i64 s.k) := by rw [hs9]; exact LB.c i hiL 0 _ rfl
      have c2 : wr.cell? ⟨bb, oo + i * 14 + 2, none⟩ = some (.int .i64 s.v) := by rw [hs9]; exact LB.c i hiL 2 _ rfl
      have RG : Hid (wr.rangeAt bb (oo + i * 14 + 3) (mgV s.m).toList) := fun j u hj => by
        rw [hs9] at hj
        have hl : j < 11 := by have := (List.getElem?_eq_some_iff.1 hj).1; simpa [mgV] using this
        rw [Nat.add_assoc (oo + i * 14)]
        refine LB.c i hiL (3 + j) u ?_
        have e : (spV L[i])[3 + j]? = (mgV L[i].m)[j]? := by
          match j, hl with
          | 0, _ | 1, _ | 2, _ | 3, _ | 4, _ | 5, _ | 6, _ | 7, _ | 8, _ | 9, _ | 10, _ => rfl
        rw [e]
        simpa using hj
      have KN := HEV.out.kd.num
      have KO := HEV.out.kd.now
      clear LB hiL hs9
      by_cases k1 : s.k = 1
      case pos =>
        rw [k1] at c0
        have BG := hide (Begin_a HEV.out.au HEV.out.kd.ok s.v ⟨KN.1, by omega⟩)
        go_wp2_with fail
        refine Calls.mono BG.out ?_
        rintro e W5 ⟨u, L5, er, v', rfl, -, a5, k5, r5⟩
        have E5 := hide (HEV.out.next hNN HAG.out a5 k5 (HEV.out.kd.beg r5) (tl_beg HEV.out.tl r5) TGL.out)
        clear a5 k5 r5 BG c0 c2
        go_wp2_with fail
        go_roundw
        case rel => exact ⟨i + 1, by omega, by go_num, v', E5.out⟩
        case measure => simp [intOf]; omega
      case neg =>
      have q1 : (s.k == 1) = false := by simpa using k1
      by_cases k2 : s.k = 2
      case pos =>
        rw [k2] at c0
        have BG := hide (Take_a HEV.out.au HEV.out.kd.ok s.m)
        clear q1 k1
        go_wp2_with (refine wpList_load_mid rfl 41 (.tmp 72) rfl bb (oo + i * 14 + 3) rfl (mgV s.m).toList _ RG.out Tryd.underlying41 rfl mg_info ?_)
        refine Calls.mono BG.out ?_
        rintro e W5 ⟨u, L5, v', rfl, -, a5, k5, r5⟩
        have E5 := hide (HEV.out.next hNN HAG.out a5 k5 ((HEV.out.kd.take r5).more (i' := i + 1) (by omega)) (tl_take HEV.out.tl r5) TGL.out)
        clear a5 k5 r5 BG c0 c2
        go_wp2_with fail
        go_roundw
        case rel => exact ⟨i + 1, by omega, by go_num, v', E5.out⟩
        case measure => simp [intOf]; omega
      case neg =>
      have q2 : (s.k == 2) = false := by simpa using k2
      by_cases k3 : s.k = 3
      case pos =>
        rw [k3] at c0
        have BG := hide (Tick_a HEV.out.au HEV.out.kd.ok (by omega))
        clear q1 k1 q2 k2
        go_wp2_with fail
        refine Calls.mono BG.out ?_
        rintro e W5 ⟨u, L5, v', rfl, -, a5, k5, r5⟩
        have E5 := hide (HEV.out.next hNN HAG.out a5 k5 (HEV.out.kd.tick r5) (tl_tick HEV.out.tl r5) TGL.out)
        clear a5 k5 r5 BG c0 c2
        go_wp2_with fail
        go_roundw
        case rel => exact ⟨i + 1, by omega, by go_num, v', E5.out⟩
        case measure => simp [intOf]; omega
      case neg =>
        have q3 : (s.k == 3) = false := by simpa using k3
        have E5 : Hid (Ev w N st x ao b o cap pv ns (x 0).toNat A H hc M (i + 1) v wr) := ⟨HEV.out.au, HEV.out.kd.more (by omega), HEV.out.sd, HEV.out.be, HEV.out.tg, HEV.out.tl⟩
        clear c2
        go_wp2_with fail
        go_roundw
        case rel => exact ⟨i + 1, by omega, by go_num, v, E5.out⟩
        case measure => simp [intOf]; omega
    case neg =>
      obtain rfl : i = n := by omega
      have LM : Hid (Lim v ((mm : Int) - 0)) := fun k hk h1 => by
        have z := rm_max HEV.out.kd.ok hk h1
        rw [HEV.out.kd.lm, HEV.out.kd.rs, HMM.out] at z
        omega
      have E0 : Hid (Ev w N st x ao b o cap pv ns (x 0).toNat A H hc M (i + 0) v wr) := HEV.out
      clear HEV
      go_wp2_with fail
      go_loopw [10] (fun vi wr => ∃ k : Nat, k ≤ mm ∧ vi = .int .i64 (k : Int) ∧ ∃ v, Hid (Ev w N st x ao b o cap pv ns (x 0).toNat A H hc M (i + k) v wr) ∧ Hid (Lim v ((mm : Int) - (k : Int)))) (fun vi _ => mm - (intOf vi).toNat)
      case atStart => exact ⟨0, Nat.zero_le _, rfl, v, E0.out, LM.out⟩
      case round =>
        clear LM E0
        obtain ⟨k, hk, rfl, v, HEV, LM⟩ := hrel
        have BU := hide (Busy_a HEV.out.au HEV.out.kd.ok.n0 (by have := HEV.out.kd.ok.n16; omega))
        have KO := HEV.out.kd.now
        cases hb : busyL v.hs with
        | true =>
          have hkm : k < mm := by
            by_cases q : k < mm
            · exact q
            · rw [lim_idle HEV.out.kd.ok HEV.out.kd.fr LM.out (by omega)] at hb
              exact absurd hb (by decide)
          have hki : (k : Int) < (mm : Int) := by omega
          rw [hb] at BU
          clear hb
          go_wp2_with fail
          refine Calls.mono BU.out ?_
          rintro e W5 ⟨rfl, k5⟩
          have E5 := hide (HEV.out.same hNN HAG.out k5 TGL.out)
          have TI := hide (Tick_a E5.out.au E5.out.kd.ok (by omega))
          clear k5 BU
          go_wp2_with fail
          refine Calls.mono TI.out ?_
          rintro e W6 ⟨u, L6, v', rfl, -, a6, k6, r6⟩
          have E6 := hide (E5.out.next hNN HAG.out a6 k6 (E5.out.kd.tick r6) (tl_tick E5.out.tl r6) TGL.out)
          have L6' := hide (tick_lim r6 E5.out.kd.ok E5.out.kd.fr LM.out)
          clear a6 k6 r6 TI
          go_wp2_with fail
          go_roundw
          case rel => exact ⟨k + 1, by omega, by go_num, v', E6.out, by have z := L6'.out; rw [show (mm : Int) - (k : Int) - 1 = (mm : Int) - ((k + 1 : Nat) : Int) by omega] at z; exact z⟩
          case measure => simp [intOf]; omega
        | false =>
          have HBZ := hide hb
          rw [hb] at BU
          clear hb LM
          by_cases hkm : k < mm
          case pos =>
            have hki : (k : Int) < (mm : Int) := by omega
            go_wp2_with fail
            refine Calls.mono BU.out ?_
            rintro e W5 ⟨rfl, k5⟩
            have E5 := hide (HEV.out.same hNN HAG.out k5 TGL.out)
            clear k5 BU HEV hkm hki
            have BU2 := hide (Busy_a E5.out.au E5.out.kd.ok.n0 (by have := E5.out.kd.ok.n16; omega))
            rw [HBZ.out] at BU2
            go_wp2_with fail
            refine Calls.mono BU2.out ?_
            rintro e W6 ⟨rfl, k6⟩
            have E6 := hide (E5.out.same hNN HAG.out k6 TGL.out)
            have BG := hide (Begin_a E6.out.au E6.out.kd.ok 1 ⟨E6.out.kd.num.1, by have := E6.out.kd.num.2; omega⟩)
            clear k6 BU2 E5
            go_wp2_with fail
            refine Calls.mono BG.out ?_
            rintro e W7 ⟨u7, L7, er, v7, rfl, o7, a7, k7, r7⟩
            obtain ⟨rfl, rfl, rfl⟩ : L7 = begL v 1 v.hs.length ∧ er = 0 ∧ v7 = v.bg 1 v.hs.length := by
              rcases r7 with ⟨q, _⟩ | ⟨_, q, _⟩ | ⟨_, _, q⟩
              · rw [HBZ.out] at q
                exact absurd q (by decide)
              · exact absurd q (by decide)
              · exact q
            have E7 := hide (E6.out.next hNN HAG.out a7 k7 (E6.out.kd.beg r7) (tl_beg E6.out.tl r7) TGL.out)
            have UN := hide (bg_Un E6.out.kd 1 HBZ.out)
            have TD : Hid ((v.bg 1 v.hs.length).told = []) := E6.out.tl HBZ.out
            obtain ⟨hj0, hjl, hjs⟩ := some_holds HE.out
            obtain ⟨kj, hkj⟩ : ∃ kj, v.hs[hj0]? = some kj := ⟨_, List.getElem?_eq_getElem (by rw [E6.out.kd.len]; exact hjl)⟩
            have BP := beg_pos (ver := 1) (i := v.hs.length) (by rw [E6.out.kd.len]; exact hjl) hkj (by rw [E6.out.kd.sl hj0 kj hkj]; exact hjs)
            have LMR : Hid (v.lm * v.rs = (mm : Int)) := by rw [E6.out.kd.lm, E6.out.kd.rs]; exact HMM.out
            have HJ : Hid (∃ j, j < ns.length ∧ hdS st x ns (j : Int) ≠ []) := ⟨hj0, hjl, hjs⟩
            obtain ⟨ua, uc, rfl⟩ := own_sl o7
            obtain ⟨ln, hln⟩ : ∃ ln, ln = (begL v 1 v.hs.length).length := ⟨_, rfl⟩
            rw [← hln] at BP ⊢
            have ql : ((ln : Int) == 0) = false := by rw [beq_eq_false_iff_ne]; omega
            have ql2 : (ln == 0) = false := by rw [beq_eq_false_iff_ne]; omega
            rw [LMR.out] at UN
            have NUMX : Hid (1 ≤ (v.bg 1 v.hs.length).num) := by show 1 ≤ v.num + 1; have := E6.out.kd.num.1; omega
            clear o7 a7 k7 r7 BG E6 hkj hjl hjs hln LMR
            generalize v.bg 1 v.hs.length = vb at *
            go_wp2_with (go_at_call 9; refine Calls.mono (NU.out _ _) ?_; rintro e w' ⟨rfl, rfl⟩)
            have FS : Hid (F3 (x 0).toNat mm vb.num 0 vb) := ⟨fun _ => ⟨by have z := UN.out; rw [show (mm : Int) = (mm : Int) - ((0 : Nat) : Int) by omega] at z; exact z, TD.out, rfl⟩, fun q => by omega⟩
            have E8 : Hid (Ev w N st x ao b o cap pv ns (x 0).toNat A H hc M (i + k + 1 + 0) vb W7) := E7.out
            clear UN TD E7 BP ql ql2
            obtain ⟨i3, hi3⟩ : ∃ i3, i3 = i + k + 1 := ⟨_, rfl⟩
            rw [← hi3] at E8
            have hi3b : i3 ≤ 200000000000000 := by omega
            clear hi3
            go_loopw [13] (fun vi wr => ∃ k3 : Nat, k3 ≤ mm ∧ vi = .int .i64 (k3 : Int) ∧ ∃ v, Hid (Ev w N st x ao b o cap pv ns (x 0).toNat A H hc M (i3 + k3) v wr) ∧ Hid (F3 (x 0).toNat mm vb.num k3 v)) (fun vi _ => mm - (intOf vi).toNat)
            case atStart => exact ⟨0, Nat.zero_le _, rfl, vb, E8.out, FS.out⟩
            case round =>
              clear E8 FS
              obtain ⟨k3, hk3, rfl, v, HEV, F3V⟩ := hrel
              have BU := hide (Busy_a HEV.out.au HEV.out.kd.ok.n0 (by have := HEV.out.kd.ok.n16; omega))
              have KO := HEV.out.kd.now
              by_cases hkm : k3 < mm
              case pos =>
                have hki : (k3 : Int) < (mm : Int) := by omega
                rw [un_at HEV.out.kd (F3V.out.1 hkm).1 HJ.out] at BU
                go_wp2_with fail
                refine Calls.mono BU.out ?_
                rintro e W5 ⟨rfl, k5⟩
                have E5 := hide (HEV.out.same hNN HAG.out k5 TGL.out)
                have TI := hide (Tick_a E5.out.au E5.out.kd.ok (by omega))
                clear k5 BU
                go_wp2_with fail
                refine Calls.mono TI.out ?_
                rintro e W6 ⟨u, L6, v', rfl, -, a6, k6, r6⟩
                have E6 := hide (E5.out.next hNN HAG.out a6 k6 (E5.out.kd.tick r6) (tl_tick E5.out.tl r6) TGL.out)
                have F6 := hide (f3_step E5.out.kd HJ.out F3V.out hkm r6)
                clear a6 k6 r6 TI
                go_wp2_with fail
                go_roundw
                case rel => exact ⟨k3 + 1, by omega, by go_num, v', E6.out, F6.out⟩
                case measure => simp [intOf]; omega
              case neg =>
                have hki : ¬ (k3 : Int) < (mm : Int) := by omega
                obtain rfl : k3 = mm := by omega
                obtain ⟨en, al⟩ := F3V.out.2 rfl
                obtain ⟨d1, d2, d3⟩ := end_rep HEV.out.kd en al HJ.out
                have hjb : v.last.job ≠ 0 := by show v.jb ≠ 0; rw [en.jb]; have := NUMX.out; omega
                have RP := hide (Report_yes HEV.out.au HEV.out.kd.ok.n0 hjb (by show v.dl.length ≤ _; rw [d1]; simp) (by show v.ml.length ≤ _; rw [d2]; have := hldL_len st x ns ns.length; have := HEV.out.kd.len; have := HEV.out.kd.ok.n16; omega))
                have BZ : Hid (busyL v.hs = false) := en.idle
                have D1 : Hid (v.last.hs = []) := d1
                have D2 : Hid (v.last.ms = hldL st x ns ns.length) := d2
                have D3 : Hid (v.last.out = 3) := d3
                clear en al d1 d2 d3 hjb BU F3V
                go_wp2_with fail
                refine Calls.mono RP.out ?_
                rintro e W5 ⟨nh, nm, rfl, o1, o2, b5⟩
                rw [D1.out] at o1
                rw [D2.out] at o2
                obtain ⟨na, nc, rfl⟩ := own_sl o1
                obtain ⟨ma, mc, rfl⟩ := own_sl o2
                have k5 : Kp wr W5 non := Kp.of_below b5 non
                obtain ⟨R, hR⟩ : ∃ R, R = W5.heap.size := ⟨_, rfl⟩
                obtain ⟨W6, hW6⟩ : ∃ W6, W6 = W5.alloc (.cells (rpA v.last (.slice na 0 nc) (.slice ma (hldL st x ns ns.length).length mc)) 49) := ⟨_, rfl⟩
                have k6 : Kp W5 W6 non := by rw [hW6]; exact (Kp.refl W5 non).alloc _
                have m6 : W6.heap[R]? = some (.cells (rpA v.last (.slice na 0 nc) (.slice ma (hldL st x ns ns.length).length mc)) 49) := by rw [hW6, hR]; exact heap_last W5 _
                have E6 := hide (HEV.out.same hNN HAG.out (k5.trans k6 (fun _ f => f.elim)) TGL.out)
                have O6 : Hid (W6.ownsRow wr.heap.size 3 1 (.slice ma (hldL st x ns ns.length).length mc) (hldL st x ns ns.length).length (ints (hldL st x ns ns.length))) := own_kp o2 k6 (fun _ _ f => f)
                have SS : Hid (∀ X, Kp W6 X non → (fun X => X.cell? ⟨R, 2, none⟩ = some (.int .i64 3) ∧ X.cell? ⟨R, 3, none⟩ = some (.slice na 0 nc) ∧ X.cell? ⟨R, 4, none⟩ = some (.slice ma (hldL st x ns ns.length).length mc) ∧ X.heap[w.heap.size]? = some (.cells (clA st x (.slice ao ns.length cap)) 24)) X) := fun X hX => by
                  have mx := (hX.block _ (blk_lt m6) (fun f => f)).trans m6
                  refine ⟨?_, ?_, ?_, ?_⟩
                  · rw [cell_row mx]
                    show some (Value.int .i64 v.last.out) = _
                    rw [D3.out]
                  · rw [cell_row mx]; rfl
                  · rw [cell_row mx]; rfl
                  · exact (hX.block _ (blk_lt E6.out.sd.cl) (fun f => f)).trans E6.out.sd.cl
                have ONE : Hid ((rpA v.last (.slice na 0 nc) (.slice ma (hldL st x ns ns.length).length mc)).all (·.oneCell') = true) := rp_one _ ⟨_, _, _, rfl⟩ ⟨_, _, _, rfl⟩
                have HLE : Hid ((hldL st x ns ns.length).length ≤ 1000000) := by have := hldL_len st x ns ns.length; have := HEV.out.kd.len; have := HEV.out.kd.ok.n16; show _ ≤ _; omega
                have KV : Hid (Kp wr W6 non) := k5.trans k6 (fun _ f => f.elim)
                have HW6 := hide hW6
                have HR := hide hR
                clear o1 o2 b5 k5 k6 m6 RP HEV hW6 hR
                go_upto_region 34 with (refine wpList_stR rfl 49 (.tmp 14) (.tmp 118) rfl W5.heap.size rfl (rpA v.last (.slice na 0 nc) (.slice ma (hldL st x ns ns.length).length mc)) _ rfl _ (heap_last W5 _) rp_info rfl ONE.out ?_)
                rw [World.setRow_alloc_new, ← HW6.out, ← HR.out]
                clear HW6 HR
                generalize rpA v.last (.slice na 0 nc) (.slice ma (hldL st x ns ns.length).length mc) = rpv at *
                obtain ⟨mn, hmn⟩ : ∃ mn, mn = (hldL st x ns ns.length).length := ⟨_, rfl⟩
                rw [← hmn] at SS O6
                have HMN := hide hmn
                clear hmn
                have BU6 := hide (Busy_a (E6.out.au.kp0 ((Kp.refl W6 non).drew)) E6.out.kd.ok.n0 (by have := E6.out.kd.ok.n16; omega))
                rw [BZ.out] at BU6
                have C6 := hide (SS.out W6 (Kp.refl _ _))
                refine wp_region_held_drew (S := fun X => X.cell? ⟨R, 2, none⟩ = some (.int .i64 3) ∧ X.cell? ⟨R, 3, none⟩ = some (.slice na 0 nc) ∧ X.cell? ⟨R, 4, none⟩ = some (.slice ma mn mc) ∧ X.heap[w.heap.size]? = some (.cells (clA st x (.slice ao ns.length cap)) 24)) (by kernel_rfl) C6.out (fun hHeld => ?_)
                refine wpAnyH_take (i := 0) (v := (.pointer (some ⟨A, 0, none⟩))) rfl (by kernel_rfl) (by kernel_rfl) (by kernel_rfl) (fun _ _ _ h => h) (Or.inl ⟨by kernel_rfl, ?_⟩) (by assumption) ?_
                · intro w' hSw
                  (try dsimp only at hSw)
                  go_simp
                (try simp only [Act.put, List.getElem_toArray, List.getElem_cons_zero, List.getElem_cons_succ, List.setIfInBounds_toArray, List.set_cons_zero, List.set_cons_succ])
                refine wpAnyH_ready (rs := [1]) (by kernel_rfl) (by simp) ?_
                refine AllReadyH.cons rfl (fun K hK => ?_) AllReadyH.nil
                go_simp
                refine Calls.mono BU6.out ?_
                rintro e W9 ⟨rfl, k9⟩
                have K9 : Hid (Kp W6 W9 non) := ((Kp.refl W6 non).drew).trans k9 (fun _ f => f.elim)
                have C9 := hide (SS.out W9 K9.out)
                have E9 := hide (E6.out.same hNN HAG.out K9.out TGL.out)
                clear k9 BU6
                refine hK.out _ _ (C9.out) (fun hHeld => ?_)
                clear hK
                (try simp only [Act.put, List.setIfInBounds_toArray, List.set_cons_zero, List.set_cons_succ])
                refine wpAnyH_take (i := 2) (v := (.bool true)) rfl (by kernel_rfl) (by kernel_rfl) (by kernel_rfl) (fun _ _ _ h => h) (Or.inl ⟨by kernel_rfl, ?_⟩) (by assumption) ?_
                · intro w' hSw
                  (try dsimp only at hSw)
                  go_simp
                (try simp only [Act.put, List.getElem_toArray, List.getElem_cons_zero, List.getElem_cons_succ, List.setIfInBounds_toArray, List.set_cons_zero, List.set_cons_succ])
                refine wpAnyH_take (i := 3) (v := (.bool true)) rfl (by kernel_rfl) (by kernel_rfl) (by kernel_rfl) (fun _ _ _ h => h) (Or.inl ⟨by kernel_rfl, ?_⟩) (by assumption) ?_
                · intro w' hSw
                  (try dsimp only at hSw)
                  go_simp
                (try simp only [Act.put, List.getElem_toArray, List.getElem_cons_zero, List.getElem_cons_succ, List.setIfInBounds_toArray, List.set_cons_zero, List.set_cons_succ])
                refine wpAnyH_take (i := 4) (v := (.int .i64 0)) rfl (by kernel_rfl) (by kernel_rfl) (by kernel_rfl) (fun _ _ _ h => h) (Or.inl ⟨by kernel_rfl, ?_⟩) (by assumption) ?_
                · intro w' hSw
                  (try dsimp only at hSw)
                  go_simp
                (try simp only [Act.put, List.getElem_toArray, List.getElem_cons_zero, List.getElem_cons_succ, List.setIfInBounds_toArray, List.set_cons_zero, List.set_cons_succ])
                refine wpAnyH_ready (rs := [5]) (by kernel_rfl) (by simp) ?_
                refine AllReadyH.cons rfl (fun K hK => ?_) AllReadyH.nil
                go_simp
                refine Calls.mono (NU.out _ _) ?_
                rintro e w' ⟨rfl, rfl⟩
                refine hK.out _ _ (C9.out) (fun hHeld => ?_)
                clear hK
                (try simp only [Act.put, List.setIfInBounds_toArray, List.set_cons_zero, List.set_cons_succ])
                refine wpAnyH_take (i := 6) (v := (.bool true)) rfl (by kernel_rfl) (by kernel_rfl) (by kernel_rfl) (fun _ _ _ h => h) (Or.inl ⟨by kernel_rfl, ?_⟩) (by assumption) ?_
                · intro w' hSw
                  (try dsimp only at hSw)
                  go_simp
                (try simp only [Act.put, List.getElem_toArray, List.getElem_cons_zero, List.getElem_cons_succ, List.setIfInBounds_toArray, List.set_cons_zero, List.set_cons_succ])
                refine wpAnyH_take (i := 7) (v := (.bool true)) rfl (by kernel_rfl) (by kernel_rfl) (by kernel_rfl) (fun _ _ _ h => h) (Or.inl ⟨by kernel_rfl, ?_⟩) (by assumption) ?_
                · intro w' hSw
                  (try dsimp only at hSw)
                  go_simp
                (try simp only [Act.put, List.getElem_toArray, List.getElem_cons_zero, List.getElem_cons_succ, List.setIfInBounds_toArray, List.set_cons_zero, List.set_cons_succ])
                refine wpAnyH_take (i := 8) (v := (.bool true)) rfl (by kernel_rfl) (by kernel_rfl) (by kernel_rfl) (fun _ _ _ h => h) (Or.inl ⟨by kernel_rfl, ?_⟩) (by assumption) ?_
                · intro w' hSw
                  (try dsimp only at hSw)
                  go_simp
                (try simp only [Act.put, List.getElem_toArray, List.getElem_cons_zero, List.getElem_cons_succ, List.setIfInBounds_toArray, List.set_cons_zero, List.set_cons_succ])
                refine wpAnyH_take (i := 9) (v := (.pointer (some ⟨R, 2, none⟩))) rfl (by kernel_rfl) (by kernel_rfl) (by kernel_rfl) (fun _ _ _ h => h) (Or.inl ⟨by kernel_rfl, ?_⟩) (by assumption) ?_
                · intro w' hSw
                  (try dsimp only at hSw)
                  go_simp
                (try simp only [Act.put, List.getElem_toArray, List.getElem_cons_zero, List.getElem_cons_succ, List.setIfInBounds_toArray, List.set_cons_zero, List.set_cons_succ])
                refine wpAnyH_take (i := 10) (v := (.int .i64 3)) rfl (by kernel_rfl) (by kernel_rfl) (by kernel_rfl) (fun _ _ _ h => h) (Or.inl ⟨by kernel_rfl, ?_⟩) (by assumption) ?_
                · intro w' hSw
                  (try dsimp only at hSw)
                  (have z := hSw.1; go_simp)
                (try simp only [Act.put, List.getElem_toArray, List.getElem_cons_zero, List.getElem_cons_succ, List.setIfInBounds_toArray, List.set_cons_zero, List.set_cons_succ])
                refine wpAnyH_take (i := 11) (v := (.bool true)) rfl (by kernel_rfl) (by kernel_rfl) (by kernel_rfl) (fun _ _ _ h => h) (Or.inl ⟨by kernel_rfl, ?_⟩) (by assumption) ?_
                · intro w' hSw
                  (try dsimp only at hSw)
                  go_simp
                (try simp only [Act.put, List.getElem_toArray, List.getElem_cons_zero, List.getElem_cons_succ, List.setIfInBounds_toArray, List.set_cons_zero, List.set_cons_succ])
                refine wpAnyH_take (i := 12) (v := (.bool true)) rfl (by kernel_rfl) (by kernel_rfl) (by kernel_rfl) (fun _ _ _ h => h) (Or.inl ⟨by kernel_rfl, ?_⟩) (by assumption) ?_
                · intro w' hSw
                  (try dsimp only at hSw)
                  go_simp
                (try simp only [Act.put, List.getElem_toArray, List.getElem_cons_zero, List.getElem_cons_succ, List.setIfInBounds_toArray, List.set_cons_zero, List.set_cons_succ])
                refine wpAnyH_take (i := 13) (v := (.bool true)) rfl (by kernel_rfl) (by kernel_rfl) (by kernel_rfl) (fun _ _ _ h => h) (Or.inl ⟨by kernel_rfl, ?_⟩) (by assumption) ?_
                · intro w' hSw
                  (try dsimp only at hSw)
                  go_simp
                (try simp only [Act.put, List.getElem_toArray, List.getElem_cons_zero, List.getElem_cons_succ, List.setIfInBounds_toArray, List.set_cons_zero, List.set_cons_succ])
                refine wpAnyH_take (i := 14) (v := (.pointer (some ⟨R, 3, none⟩))) rfl (by kernel_rfl) (by kernel_rfl) (by kernel_rfl) (fun _ _ _ h => h) (Or.inl ⟨by kernel_rfl, ?_⟩) (by assumption) ?_
                · intro w' hSw
                  (try dsimp only at hSw)
                  go_simp
                (try simp only [Act.put, List.getElem_toArray, List.getElem_cons_zero, List.getElem_cons_succ, List.setIfInBounds_toArray, List.set_cons_zero, List.set_cons_succ])
                refine wpAnyH_take (i := 15) (v := (.slice na 0 nc)) rfl (by kernel_rfl) (by kernel_rfl) (by kernel_rfl) (fun _ _ _ h => h) (Or.inl ⟨by kernel_rfl, ?_⟩) (by assumption) ?_
                · intro w' hSw
                  (try dsimp only at hSw)
                  (have z := hSw.2.1; go_simp)
                (try simp only [Act.put, List.getElem_toArray, List.getElem_cons_zero, List.getElem_cons_succ, List.setIfInBounds_toArray, List.set_cons_zero, List.set_cons_succ])
                refine wpAnyH_take (i := 16) (v := (.int .i64 0)) rfl (by kernel_rfl) (by kernel_rfl) (by kernel_rfl) (fun _ _ _ h => h) (Or.inl ⟨by kernel_rfl, ?_⟩) (by assumption) ?_
                · intro w' hSw
                  (try dsimp only at hSw)
                  go_simp
                (try simp only [Act.put, List.getElem_toArray, List.getElem_cons_zero, List.getElem_cons_succ, List.setIfInBounds_toArray, List.set_cons_zero, List.set_cons_succ])
                refine wpAnyH_take (i := 17) (v := (.bool true)) rfl (by kernel_rfl) (by kernel_rfl) (by kernel_rfl) (fun _ _ _ h => h) (Or.inl ⟨by kernel_rfl, ?_⟩) (by assumption) ?_
                · intro w' hSw
                  (try dsimp only at hSw)
                  go_simp
                (try simp only [Act.put, List.getElem_toArray, List.getElem_cons_zero, List.getElem_cons_succ, List.setIfInBounds_toArray, List.set_cons_zero, List.set_cons_succ])
                refine wpAnyH_take (i := 18) (v := (.bool true)) rfl (by kernel_rfl) (by kernel_rfl) (by kernel_rfl) (fun _ _ _ h => h) (Or.inl ⟨by kernel_rfl, ?_⟩) (by assumption) ?_
                · intro w' hSw
                  (try dsimp only at hSw)
                  go_simp
                (try simp only [Act.put, List.getElem_toArray, List.getElem_cons_zero, List.getElem_cons_succ, List.setIfInBounds_toArray, List.set_cons_zero, List.set_cons_succ])
                refine wpAnyH_take (i := 19) (v := (.bool true)) rfl (by kernel_rfl) (by kernel_rfl) (by kernel_rfl) (fun _ _ _ h => h) (Or.inl ⟨by kernel_rfl, ?_⟩) (by assumption) ?_
                · intro w' hSw
                  (try dsimp only at hSw)
                  go_simp
                (try simp only [Act.put, List.getElem_toArray, List.getElem_cons_zero, List.getElem_cons_succ, List.setIfInBounds_toArray, List.set_cons_zero, List.set_cons_succ])
                refine wpAnyH_take (i := 20) (v := (.pointer (some ⟨R, 4, none⟩))) rfl (by kernel_rfl) (by kernel_rfl) (by kernel_rfl) (fun _ _ _ h => h) (Or.inl ⟨by kernel_rfl, ?_⟩) (by assumption) ?_
                · intro w' hSw
                  (try dsimp only at hSw)
                  go_simp
                (try simp only [Act.put, List.getElem_toArray, List.getElem_cons_zero, List.getElem_cons_succ, List.setIfInBounds_toArray, List.set_cons_zero, List.set_cons_succ])
                refine wpAnyH_take (i := 21) (v := (.slice ma mn mc)) rfl (by kernel_rfl) (by kernel_rfl) (by kernel_rfl) (fun _ _ _ h => h) (Or.inl ⟨by kernel_rfl, ?_⟩) (by assumption) ?_
                · intro w' hSw
                  (try dsimp only at hSw)
                  (have z := hSw.2.2.1; go_simp)
                (try simp only [Act.put, List.getElem_toArray, List.getElem_cons_zero, List.getElem_cons_succ, List.setIfInBounds_toArray, List.set_cons_zero, List.set_cons_succ])
                refine wpAnyH_take (i := 22) (v := (.agg (clA st x (.slice ao ns.length cap)))) rfl (by kernel_rfl) (by kernel_rfl) (by kernel_rfl) (fun _ _ _ h => h) (Or.inl ⟨by kernel_rfl, ?_⟩) (by assumption) ?_
                · intro w' hSw
                  (try dsimp only at hSw)
                  (exact exec_ldR 24 (.tmp 2) rfl rfl _ hSw.2.2.2 Tryd.underlying24 infoCl)
                (try simp only [Act.put, List.getElem_toArray, List.getElem_cons_zero, List.getElem_cons_succ, List.setIfInBounds_toArray, List.set_cons_zero, List.set_cons_succ])
                have HH := hide (holders_a N W9 st x ao b o cap pv ns E9.out.sd.nd E9.out.sd.le hs HE.out E9.out.tg)
                refine wpAnyH_ready (rs := [23]) (by kernel_rfl) (by simp) ?_
                refine AllReadyH.cons rfl (fun K hK => ?_) AllReadyH.nil
                go_simp
                refine Calls.mono HH.out ?_
                rintro e W10 ⟨uh, rfl, oh, b10⟩
                have k10 : Kp W9 W10 non := Kp.of_below b10 non
                have KX : Hid (Kp W6 W10 non) := K9.out.trans k10 (fun _ f => f.elim)
                have C10 := hide (SS.out W10 KX.out)
                have E10 := hide (E9.out.same hNN HAG.out k10 TGL.out)
                have OX : W10.ownsRow wr.heap.size 3 1 (.slice ma mn mc) (hldL st x ns ns.length).length (ints (hldL st x ns ns.length)) := by rw [HMN.out] at O6 ⊢; exact own_kp O6.out KX.out (fun _ _ f => f)
                have SM := hide (same_ints OX oh HLE.out)
                clear oh b10 k10 OX HH
                refine hK.out _ _ (C10.out) (fun hHeld => ?_)
                clear hK
                (try simp only [Act.put, List.setIfInBounds_toArray, List.set_cons_zero, List.set_cons_succ])
                refine wpAnyH_ready (rs := [24]) (by kernel_rfl) (by simp) ?_
                refine AllReadyH.cons rfl (fun K hK => ?_) AllReadyH.nil
                go_simp
                refine Calls.mono SM.out ?_
                rintro e W11 ⟨rfl, k11⟩
                have C11 := hide (SS.out W11 (KX.out.trans k11 (fun _ f => f.elim)))
                have E11 := hide (E10.out.same hNN HAG.out k11 TGL.out)
                clear k11 SM
                refine hK.out _ _ (C11.out) (fun hHeld => ?_)
                clear hK
                (try simp only [Act.put, List.setIfInBounds_toArray, List.set_cons_zero, List.set_cons_succ])
                refine wpAnyH_take (i := 25) (v := (.bool true)) rfl (by kernel_rfl) (by kernel_rfl) (by kernel_rfl) (fun _ _ _ h => h) (Or.inl ⟨by kernel_rfl, ?_⟩) (by assumption) ?_
                · intro w' hSw
                  (try dsimp only at hSw)
                  go_simp
                (try simp only [Act.put, List.getElem_toArray, List.getElem_cons_zero, List.getElem_cons_succ, List.setIfInBounds_toArray, List.set_cons_zero, List.set_cons_succ])
                refine wpAnyH_ready (rs := [26]) (by kernel_rfl) (by simp) ?_
                refine AllReadyH.cons rfl (fun K hK => ?_) AllReadyH.nil
                go_simp
                refine hK.out _ _ (C11.out) (fun hHeld => ?_)
                clear hK
                (try simp only [Act.put, List.setIfInBounds_toArray, List.set_cons_zero, List.set_cons_succ])
                refine wpAnyH_done (by kernel_rfl) ?_ _
                clear hHeld
                go_wp2_with fail
                go_ret
                exact ⟨rfl, E11.out.be⟩
          case neg =>
            have hki : ¬ (k : Int) < (mm : Int) := by omega
            have E5 := HEV
            clear BU HEV hkm
            have BU2 := hide (Busy_a E5.out.au E5.out.kd.ok.n0 (by have := E5.out.kd.ok.n16; omega))
            rw [HBZ.out] at BU2
            go_wp2_with fail
            refine Calls.mono BU2.out ?_
            rintro e W6 ⟨rfl, k6⟩
            have E6 := hide (E5.out.same hNN HAG.out k6 TGL.out)
            have BG := hide (Begin_a E6.out.au E6.out.kd.ok 1 ⟨E6.out.kd.num.1, by have := E6.out.kd.num.2; omega⟩)
            clear k6 BU2 E5
            go_wp2_with fail
            refine Calls.mono BG.out ?_
            rintro e W7 ⟨u7, L7, er, v7, rfl, o7, a7, k7, r7⟩
            obtain ⟨rfl, rfl, rfl⟩ : L7 = begL v 1 v.hs.length ∧ er = 0 ∧ v7 = v.bg 1 v.hs.length := by
              rcases r7 with ⟨q, _⟩ | ⟨_, q, _⟩ | ⟨_, _, q⟩
              · rw [HBZ.out] at q
                exact absurd q (by decide)
              · exact absurd q (by decide)
              · exact q
            have E7 := hide (E6.out.next hNN HAG.out a7 k7 (E6.out.kd.beg r7) (tl_beg E6.out.tl r7) TGL.out)
            have UN := hide (bg_Un E6.out.kd 1 HBZ.out)
            have TD : Hid ((v.bg 1 v.hs.length).told = []) := E6.out.tl HBZ.out
            obtain ⟨hj0, hjl, hjs⟩ := some_holds HE.out
            obtain ⟨kj, hkj⟩ : ∃ kj, v.hs[hj0]? = some kj := ⟨_, List.getElem?_eq_getElem (by rw [E6.out.kd.len]; exact hjl)⟩
            have BP := beg_pos (ver := 1) (i := v.hs.length) (by rw [E6.out.kd.len]; exact hjl) hkj (by rw [E6.out.kd.sl hj0 kj hkj]; exact hjs)
            have LMR : Hid (v.lm * v.rs = (mm : Int)) := by rw [E6.out.kd.lm, E6.out.kd.rs]; exact HMM.out
            have HJ : Hid (∃ j, j < ns.length ∧ hdS st x ns (j : Int) ≠ []) := ⟨hj0, hjl, hjs⟩
            obtain ⟨ua, uc, rfl⟩ := own_sl o7
            obtain ⟨ln, hln⟩ : ∃ ln, ln = (begL v 1 v.hs.length).length := ⟨_, rfl⟩
            rw [← hln] at BP ⊢
            have ql : ((ln : Int) == 0) = false := by rw [beq_eq_false_iff_ne]; omega
            have ql2 : (ln == 0) = false := by rw [beq_eq_false_iff_ne]; omega
            rw [LMR.out] at UN
            have NUMX : Hid (1 ≤ (v.bg 1 v.hs.length).num) := by show 1 ≤ v.num + 1; have := E6.out.kd.num.1; omega
            clear o7 a7 k7 r7 BG E6 hkj hjl hjs hln LMR
            generalize v.bg 1 v.hs.length = vb at *
            go_wp2_with (go_at_call 9; refine Calls.mono (NU.out _ _) ?_; rintro e w' ⟨rfl, rfl⟩)
            have FS : Hid (F3 (x 0).toNat mm vb.num 0 vb) := ⟨fun _ => ⟨by have z := UN.out; rw [show (mm : Int) = (mm : Int) - ((0 : Nat) : Int) by omega] at z; exact z, TD.out, rfl⟩, fun q => by omega⟩
            have E8 : Hid (Ev w N st x ao b o cap pv ns (x 0).toNat A H hc M (i + k + 1 + 0) vb W7) := E7.out
            clear UN TD E7 BP ql ql2
            obtain ⟨i3, hi3⟩ : ∃ i3, i3 = i + k + 1 := ⟨_, rfl⟩
            rw [← hi3] at E8
            have hi3b : i3 ≤ 200000000000000 := by omega
            clear hi3
            go_loopw [13] (fun vi wr => ∃ k3 : Nat, k3 ≤ mm ∧ vi = .int .i64 (k3 : Int) ∧ ∃ v, Hid (Ev w N st x ao b o cap pv ns (x 0).toNat A H hc M (i3 + k3) v wr) ∧ Hid (F3 (x 0).toNat mm vb.num k3 v)) (fun vi _ => mm - (intOf vi).toNat)
            case atStart => exact ⟨0, Nat.zero_le _, rfl, vb, E8.out, FS.out⟩
            case round =>
              clear E8 FS
              obtain ⟨k3, hk3, rfl, v, HEV, F3V⟩ := hrel
              have BU := hide (Busy_a HEV.out.au HEV.out.kd.ok.n0 (by have := HEV.out.kd.ok.n16; omega))
              have KO := HEV.out.kd.now
              by_cases hkm : k3 < mm
              case pos =>
                have hki : (k3 : Int) < (mm : Int) := by omega
                rw [un_at HEV.out.kd (F3V.out.1 hkm).1 HJ.out] at BU
                go_wp2_with fail
                refine Calls.mono BU.out ?_
                rintro e W5 ⟨rfl, k5⟩
                have E5 := hide (HEV.out.same hNN HAG.out k5 TGL.out)
                have TI := hide (Tick_a E5.out.au E5.out.kd.ok (by omega))
                clear k5 BU
                go_wp2_with fail
                refine Calls.mono TI.out ?_
                rintro e W6 ⟨u, L6, v', rfl, -, a6, k6, r6⟩
                have E6 := hide (E5.out.next hNN HAG.out a6 k6 (E5.out.kd.tick r6) (tl_tick E5.out.tl r6) TGL.out)
                have F6 := hide (f3_step E5.out.kd HJ.out F3V.out hkm r6)
                clear a6 k6 r6 TI
                go_wp2_with fail
                go_roundw
                case rel => exact ⟨k3 + 1, by omega, by go_num, v', E6.out, F6.out⟩
                case measure => simp [intOf]; omega
              case neg =>
                have hki : ¬ (k3 : Int) < (mm : Int) := by omega
                obtain rfl : k3 = mm := by omega
                obtain ⟨en, al⟩ := F3V.out.2 rfl
                obtain ⟨d1, d2, d3⟩ := end_rep HEV.out.kd en al HJ.out
                have hjb : v.last.job ≠ 0 := by show v.jb ≠ 0; rw [en.jb]; have := NUMX.out; omega
                have RP := hide (Report_yes HEV.out.au HEV.out.kd.ok.n0 hjb (by show v.dl.length ≤ _; rw [d1]; simp) (by show v.ml.length ≤ _; rw [d2]; have := hldL_len st x ns ns.length; have := HEV.out.kd.len; have := HEV.out.kd.ok.n16; omega))
                have BZ : Hid (busyL v.hs = false) := en.idle
                have D1 : Hid (v.last.hs = []) := d1
                have D2 : Hid (v.last.ms = hldL st x ns ns.length) := d2
                have D3 : Hid (v.last.out = 3) := d3
                clear en al d1 d2 d3 hjb BU F3V
                go_wp2_with fail
                refine Calls.mono RP.out ?_
                rintro e W5 ⟨nh, nm, rfl, o1, o2, b5⟩
                rw [D1.out] at o1
                rw [D2.out] at o2
                obtain ⟨na, nc, rfl⟩ := own_sl o1
                obtain ⟨ma, mc, rfl⟩ := own_sl o2
                have k5 : Kp wr W5 non := Kp.of_below b5 non
                obtain ⟨R, hR⟩ : ∃ R, R = W5.heap.size := ⟨_, rfl⟩
                obtain ⟨W6, hW6⟩ : ∃ W6, W6 = W5.alloc (.cells (rpA v.last (.slice na 0 nc) (.slice ma (hldL st x ns ns.length).length mc)) 49) := ⟨_, rfl⟩
                have k6 : Kp W5 W6 non := by rw [hW6]; exact (Kp.refl W5 non).alloc _
                have m6 : W6.heap[R]? = some (.cells (rpA v.last (.slice na 0 nc) (.slice ma (hldL st x ns ns.length).length mc)) 49) := by rw [hW6, hR]; exact heap_last W5 _
                have E6 := hide (HEV.out.same hNN HAG.out (k5.trans k6 (fun _ f => f.elim)) TGL.out)
                have O6 : Hid (W6.ownsRow wr.heap.size 3 1 (.slice ma (hldL st x ns ns.length).length mc) (hldL st x ns ns.length).length (ints (hldL st x ns ns.length))) := own_kp o2 k6 (fun _ _ f => f)
                have SS : Hid (∀ X, Kp W6 X non → (fun X => X.cell? ⟨R, 2, none⟩ = some (.int .i64 3) ∧ X.cell? ⟨R, 3, none⟩ = some (.slice na 0 nc) ∧ X.cell? ⟨R, 4, none⟩ = some (.slice ma (hldL st x ns ns.length).length mc) ∧ X.heap[w.heap.size]? = some (.cells (clA st x (.slice ao ns.length cap)) 24)) X) := fun X hX => by
                  have mx := (hX.block _ (blk_lt m6) (fun f => f)).trans m6
                  refine ⟨?_, ?_, ?_, ?_⟩
                  · rw [cell_row mx]
                    show some (Value.int .i64 v.last.out) = _
                    rw [D3.out]
                  · rw [cell_row mx]; rfl
                  · rw [cell_row mx]; rfl
                  · exact (hX.block _ (blk_lt E6.out.sd.cl) (fun f => f)).trans E6.out.sd.cl
                have ONE : Hid ((rpA v.last (.slice na 0 nc) (.slice ma (hldL st x ns ns.length).length mc)).all (·.oneCell') = true) := rp_one _ ⟨_, _, _, rfl⟩ ⟨_, _, _, rfl⟩
                have HLE : Hid ((hldL st x ns ns.length).length ≤ 1000000) := by have := hldL_len st x ns ns.length; have := HEV.out.kd.len; have := HEV.out.kd.ok.n16; show _ ≤ _; omega
                have KV : Hid (Kp wr W6 non) := k5.trans k6 (fun _ f => f.elim)
                have HW6 := hide hW6
                have HR := hide hR
                clear o1 o2 b5 k5 k6 m6 RP HEV hW6 hR
                go_upto_region 34 with (refine wpList_stR rfl 49 (.tmp 14) (.tmp 118) rfl W5.heap.size rfl (rpA v.last (.slice na 0 nc) (.slice ma (hldL st x ns ns.length).length mc)) _ rfl _ (heap_last W5 _) rp_info rfl ONE.out ?_)
                rw [World.setRow_alloc_new, ← HW6.out, ← HR.out]
                clear HW6 HR
                generalize rpA v.last (.slice na 0 nc) (.slice ma (hldL st x ns ns.length).length mc) = rpv at *
                obtain ⟨mn, hmn⟩ : ∃ mn, mn = (hldL st x ns ns.length).length := ⟨_, rfl⟩
                rw [← hmn] at SS O6
                have HMN := hide hmn
                clear hmn
                have BU6 := hide (Busy_a (E6.out.au.kp0 ((Kp.refl W6 non).drew)) E6.out.kd.ok.n0 (by have := E6.out.kd.ok.n16; omega))
                rw [BZ.out] at BU6
                have C6 := hide (SS.out W6 (Kp.refl _ _))
                refine wp_region_held_drew (S := fun X => X.cell? ⟨R, 2, none⟩ = some (.int .i64 3) ∧ X.cell? ⟨R, 3, none⟩ = some (.slice na 0 nc) ∧ X.cell? ⟨R, 4, none⟩ = some (.slice ma mn mc) ∧ X.heap[w.heap.size]? = some (.cells (clA st x (.slice ao ns.length cap)) 24)) (by kernel_rfl) C6.out (fun hHeld => ?_)
                refine wpAnyH_take (i := 0) (v := (.pointer (some ⟨A, 0, none⟩))) rfl (by kernel_rfl) (by kernel_rfl) (by kernel_rfl) (fun _ _ _ h => h) (Or.inl ⟨by kernel_rfl, ?_⟩) (by assumption) ?_
                · intro w' hSw
                  (try dsimp only at hSw)
                  go_simp
                (try simp only [Act.put, List.getElem_toArray, List.getElem_cons_zero, List.getElem_cons_succ, List.setIfInBounds_toArray, List.set_cons_zero, List.set_cons_succ])
                refine wpAnyH_ready (rs := [1]) (by kernel_rfl) (by simp) ?_
                refine AllReadyH.cons rfl (fun K hK => ?_) AllReadyH.nil
                go_simp
                refine Calls.mono BU6.out ?_
                rintro e W9 ⟨rfl, k9⟩
                have K9 : Hid (Kp W6 W9 non) := ((Kp.refl W6 non).drew).trans k9 (fun _ f => f.elim)
                have C9 := hide (SS.out W9 K9.out)
                have E9 := hide (E6.out.same hNN HAG.out K9.out TGL.out)
                clear k9 BU6
                refine hK.out _ _ (C9.out) (fun hHeld => ?_)
                clear hK
                (try simp only [Act.put, List.setIfInBounds_toArray, List.set_cons_zero, List.set_cons_succ])
                refine wpAnyH_take (i := 2) (v := (.bool true)) rfl (by kernel_rfl) (by kernel_rfl) (by kernel_rfl) (fun _ _ _ h => h) (Or.inl ⟨by kernel_rfl, ?_⟩) (by assumption) ?_
                · intro w' hSw
                  (try dsimp only at hSw)
                  go_simp
                (try simp only [Act.put, List.getElem_toArray, List.getElem_cons_zero, List.getElem_cons_succ, List.setIfInBounds_toArray, List.set_cons_zero, List.set_cons_succ])
                refine wpAnyH_take (i := 3) (v := (.bool true)) rfl (by kernel_rfl) (by kernel_rfl) (by kernel_rfl) (fun _ _ _ h => h) (Or.inl ⟨by kernel_rfl, ?_⟩) (by assumption) ?_
                · intro w' hSw
                  (try dsimp only at hSw)
                  go_simp
                (try simp only [Act.put, List.getElem_toArray, List.getElem_cons_zero, List.getElem_cons_succ, List.setIfInBounds_toArray, List.set_cons_zero, List.set_cons_succ])
                refine wpAnyH_take (i := 4) (v := (.int .i64 0)) rfl (by kernel_rfl) (by kernel_rfl) (by kernel_rfl) (fun _ _ _ h => h) (Or.inl ⟨by kernel_rfl, ?_⟩) (by assumption) ?_
                · intro w' hSw
                  (try dsimp only at hSw)
                  go_simp
                (try simp only [Act.put, List.getElem_toArray, List.getElem_cons_zero, List.getElem_cons_succ, List.setIfInBounds_toArray, List.set_cons_zero, List.set_cons_succ])
                refine wpAnyH_ready (rs := [5]) (by kernel_rfl) (by simp) ?_
                refine AllReadyH.cons rfl (fun K hK => ?_) AllReadyH.nil
                go_simp
                refine Calls.mono (NU.out _ _) ?_
                rintro e w' ⟨rfl, rfl⟩
                refine hK.out _ _ (C9.out) (fun hHeld => ?_)
                clear hK
                (try simp only [Act.put, List.setIfInBounds_toArray, List.set_cons_zero, List.set_cons_succ])
                refine wpAnyH_take (i := 6) (v := (.bool true)) rfl (by kernel_rfl) (by kernel_rfl) (by kernel_rfl) (fun _ _ _ h => h) (Or.inl ⟨by kernel_rfl, ?_⟩) (by assumption) ?_
                · intro w' hSw
                  (try dsimp only at hSw)
                  go_simp
                (try simp only [Act.put, List.getElem_toArray, List.getElem_cons_zero, List.getElem_cons_succ, List.setIfInBounds_toArray, List.set_cons_zero, List.set_cons_succ])
                refine wpAnyH_take (i := 7) (v := (.bool true)) rfl (by kernel_rfl) (by kernel_rfl) (by kernel_rfl) (fun _ _ _ h => h) (Or.inl ⟨by kernel_rfl, ?_⟩) (by assumption) ?_
                · intro w' hSw
                  (try dsimp only at hSw)
                  go_simp
                (try simp only [Act.put, List.getElem_toArray, List.getElem_cons_zero, List.getElem_cons_succ, List.setIfInBounds_toArray, List.set_cons_zero, List.set_cons_succ])
                refine wpAnyH_take (i := 8) (v := (.bool true)) rfl (by kernel_rfl) (by kernel_rfl) (by kernel_rfl) (fun _ _ _ h => h) (Or.inl ⟨by kernel_rfl, ?_⟩) (by assumption) ?_
                · intro w' hSw
                  (try dsimp only at hSw)
                  go_simp
                (try simp only [Act.put, List.getElem_toArray, List.getElem_cons_zero, List.getElem_cons_succ, List.setIfInBounds_toArray, List.set_cons_zero, List.set_cons_succ])
                refine wpAnyH_take (i := 9) (v := (.pointer (some ⟨R, 2, none⟩))) rfl (by kernel_rfl) (by kernel_rfl) (by kernel_rfl) (fun _ _ _ h => h) (Or.inl ⟨by kernel_rfl, ?_⟩) (by assumption) ?_
                · intro w' hSw
                  (try dsimp only at hSw)
                  go_simp
                (try simp only [Act.put, List.getElem_toArray, List.getElem_cons_zero, List.getElem_cons_succ, List.setIfInBounds_toArray, List.set_cons_zero, List.set_cons_succ])
                refine wpAnyH_take (i := 10) (v := (.int .i64 3)) rfl (by kernel_rfl) (by kernel_rfl) (by kernel_rfl) (fun _ _ _ h => h) (Or.inl ⟨by kernel_rfl, ?_⟩) (by assumption) ?_
                · intro w' hSw
                  (try dsimp only at hSw)
                  (have z := hSw.1; go_simp)
                (try simp only [Act.put, List.getElem_toArray, List.getElem_cons_zero, List.getElem_cons_succ, List.setIfInBounds_toArray, List.set_cons_zero, List.set_cons_succ])
                refine wpAnyH_take (i := 11) (v := (.bool true)) rfl (by kernel_rfl) (by kernel_rfl) (by kernel_rfl) (fun _ _ _ h => h) (Or.inl ⟨by kernel_rfl, ?_⟩) (by assumption) ?_
                · intro w' hSw
                  (try dsimp only at hSw)
                  go_simp
                (try simp only [Act.put, List.getElem_toArray, List.getElem_cons_zero, List.getElem_cons_succ, List.setIfInBounds_toArray, List.set_cons_zero, List.set_cons_succ])
                refine wpAnyH_take (i := 12) (v := (.bool true)) rfl (by kernel_rfl) (by kernel_rfl) (by kernel_rfl) (fun _ _ _ h => h) (Or.inl ⟨by kernel_rfl, ?_⟩) (by assumption) ?_
                · intro w' hSw
                  (try dsimp only at hSw)
                  go_simp
                (try simp only [Act.put, List.getElem_toArray, List.getElem_cons_zero, List.getElem_cons_succ, List.setIfInBounds_toArray, List.set_cons_zero, List.set_cons_succ])
                refine wpAnyH_take (i := 13) (v := (.bool true)) rfl (by kernel_rfl) (by kernel_rfl) (by kernel_rfl) (fun _ _ _ h => h) (Or.inl ⟨by kernel_rfl, ?_⟩) (by assumption) ?_
                · intro w' hSw
                  (try dsimp only at hSw)
                  go_simp
                (try simp only [Act.put, List.getElem_toArray, List.getElem_cons_zero, List.getElem_cons_succ, List.setIfInBounds_toArray, List.set_cons_zero, List.set_cons_succ])
                refine wpAnyH_take (i := 14) (v := (.pointer (some ⟨R, 3, none⟩))) rfl (by kernel_rfl) (by kernel_rfl) (by kernel_rfl) (fun _ _ _ h => h) (Or.inl ⟨by kernel_rfl, ?_⟩) (by assumption) ?_
                · intro w' hSw
                  (try dsimp only at hSw)
                  go_simp
                (try simp only [Act.put, List.getElem_toArray, List.getElem_cons_zero, List.getElem_cons_succ, List.setIfInBounds_toArray, List.set_cons_zero, List.set_cons_succ])
                refine wpAnyH_take (i := 15) (v := (.slice na 0 nc)) rfl (by kernel_rfl) (by kernel_rfl) (by kernel_rfl) (fun _ _ _ h => h) (Or.inl ⟨by kernel_rfl, ?_⟩) (by assumption) ?_
                · intro w' hSw
                  (try dsimp only at hSw)
                  (have z := hSw.2.1; go_simp)
                (try simp only [Act.put, List.getElem_toArray, List.getElem_cons_zero, List.getElem_cons_succ, List.setIfInBounds_toArray, List.set_cons_zero, List.set_cons_succ])
                refine wpAnyH_take (i := 16) (v := (.int .i64 0)) rfl (by kernel_rfl) (by kernel_rfl) (by kernel_rfl) (fun _ _ _ h => h) (Or.inl ⟨by kernel_rfl, ?_⟩) (by assumption) ?_
                · intro w' hSw
                  (try dsimp only at hSw)
                  go_simp
                (try simp only [Act.put, List.getElem_toArray, List.getElem_cons_zero, List.getElem_cons_succ, List.setIfInBounds_toArray, List.set_cons_zero, List.set_cons_succ])
                refine wpAnyH_take (i := 17) (v := (.bool true)) rfl (by kernel_rfl) (by kernel_rfl) (by kernel_rfl) (fun _ _ _ h => h) (Or.inl ⟨by kernel_rfl, ?_⟩) (by assumption) ?_
                · intro w' hSw
                  (try dsimp only at hSw)
                  go_simp
                (try simp only [Act.put, List.getElem_toArray, List.getElem_cons_zero, List.getElem_cons_succ, List.setIfInBounds_toArray, List.set_cons_zero, List.set_cons_succ])
                refine wpAnyH_take (i := 18) (v := (.bool true)) rfl (by kernel_rfl) (by kernel_rfl) (by kernel_rfl) (fun _ _ _ h => h) (Or.inl ⟨by kernel_rfl, ?_⟩) (by assumption) ?_
                · intro w' hSw
                  (try dsimp only at hSw)
                  go_simp
                (try simp only [Act.put, List.getElem_toArray, List.getElem_cons_zero, List.getElem_cons_succ, List.setIfInBounds_toArray, List.set_cons_zero, List.set_cons_succ])
                refine wpAnyH_take (i := 19) (v := (.bool true)) rfl (by kernel_rfl) (by kernel_rfl) (by kernel_rfl) (fun _ _ _ h => h) (Or.inl ⟨by kernel_rfl, ?_⟩) (by assumption) ?_
                · intro w' hSw
                  (try dsimp only at hSw)
                  go_simp
                (try simp only [Act.put, List.getElem_toArray, List.getElem_cons_zero, List.getElem_cons_succ, List.setIfInBounds_toArray, List.set_cons_zero, List.set_cons_succ])
                refine wpAnyH_take (i := 20) (v := (.pointer (some ⟨R, 4, none⟩))) rfl (by kernel_rfl) (by kernel_rfl) (by kernel_rfl) (fun _ _ _ h => h) (Or.inl ⟨by kernel_rfl, ?_⟩) (by assumption) ?_
                · intro w' hSw
                  (try dsimp only at hSw)
                  go_simp
                (try simp only [Act.put, List.getElem_toArray, List.getElem_cons_zero, List.getElem_cons_succ, List.setIfInBounds_toArray, List.set_cons_zero, List.set_cons_succ])
                refine wpAnyH_take (i := 21) (v := (.slice ma mn mc)) rfl (by kernel_rfl) (by kernel_rfl) (by kernel_rfl) (fun _ _ _ h => h) (Or.inl ⟨by kernel_rfl, ?_⟩) (by assumption) ?_
                · intro w' hSw
                  (try dsimp only at hSw)
                  (have z := hSw.2.2.1; go_simp)
                (try simp only [Act.put, List.getElem_toArray, List.getElem_cons_zero, List.getElem_cons_succ, List.setIfInBounds_toArray, List.set_cons_zero, List.set_cons_succ])
                refine wpAnyH_take (i := 22) (v := (.agg (clA st x (.slice ao ns.length cap)))) rfl (by kernel_rfl) (by kernel_rfl) (by kernel_rfl) (fun _ _ _ h => h) (Or.inl ⟨by kernel_rfl, ?_⟩) (by assumption) ?_
                · intro w' hSw
                  (try dsimp only at hSw)
                  (exact exec_ldR 24 (.tmp 2) rfl rfl _ hSw.2.2.2 Tryd.underlying24 infoCl)
                (try simp only [Act.put, List.getElem_toArray, List.getElem_cons_zero, List.getElem_cons_succ, List.setIfInBounds_toArray, List.set_cons_zero, List.set_cons_succ])
                have HH := hide (holders_a N W9 st x ao b o cap pv ns E9.out.sd.nd E9.out.sd.le hs HE.out E9.out.tg)
                refine wpAnyH_ready (rs := [23]) (by kernel_rfl) (by simp) ?_
                refine AllReadyH.cons rfl (fun K hK => ?_) AllReadyH.nil
                go_simp
                refine Calls.mono HH.out ?_
                rintro e W10 ⟨uh, rfl, oh, b10⟩
                have k10 : Kp W9 W10 non := Kp.of_below b10 non
                have KX : Hid (Kp W6 W10 non) := K9.out.trans k10 (fun _ f => f.elim)
                have C10 := hide (SS.out W10 KX.out)
                have E10 := hide (E9.out.same hNN HAG.out k10 TGL.out)
                have OX : W10.ownsRow wr.heap.size 3 1 (.slice ma mn mc) (hldL st x ns ns.length).length (ints (hldL st x ns ns.length)) := by rw [HMN.out] at O6 ⊢; exact own_kp O6.out KX.out (fun _ _ f => f)
                have SM := hide (same_ints OX oh HLE.out)
                clear oh b10 k10 OX HH
                refine hK.out _ _ (C10.out) (fun hHeld => ?_)
                clear hK
                (try simp only [Act.put, List.setIfInBounds_toArray, List.set_cons_zero, List.set_cons_succ])
                refine wpAnyH_ready (rs := [24]) (by kernel_rfl) (by simp) ?_
                refine AllReadyH.cons rfl (fun K hK => ?_) AllReadyH.nil
                go_simp
                refine Calls.mono SM.out ?_
                rintro e W11 ⟨rfl, k11⟩
                have C11 := hide (SS.out W11 (KX.out.trans k11 (fun _ f => f.elim)))
                have E11 := hide (E10.out.same hNN HAG.out k11 TGL.out)
                clear k11 SM
                refine hK.out _ _ (C11.out) (fun hHeld => ?_)
                clear hK
                (try simp only [Act.put, List.setIfInBounds_toArray, List.set_cons_zero, List.set_cons_succ])
                refine wpAnyH_take (i := 25) (v := (.bool true)) rfl (by kernel_rfl) (by kernel_rfl) (by kernel_rfl) (fun _ _ _ h => h) (Or.inl ⟨by kernel_rfl, ?_⟩) (by assumption) ?_
                · intro w' hSw
                  (try dsimp only at hSw)
                  go_simp
                (try simp only [Act.put, List.getElem_toArray, List.getElem_cons_zero, List.getElem_cons_succ, List.setIfInBounds_toArray, List.set_cons_zero, List.set_cons_succ])
                refine wpAnyH_ready (rs := [26]) (by kernel_rfl) (by simp) ?_
                refine AllReadyH.cons rfl (fun K hK => ?_) AllReadyH.nil
                go_simp
                refine hK.out _ _ (C11.out) (fun hHeld => ?_)
                clear hK
                (try simp only [Act.put, List.setIfInBounds_toArray, List.set_cons_zero, List.set_cons_succ])
                refine wpAnyH_done (by kernel_rfl) ?_ _
                clear hHeld
                go_wp2_with fail
                go_ret
                exact ⟨rfl, E11.out.be⟩
end Go.Proofs.YteiiolilpemimaaDoor.Cn
