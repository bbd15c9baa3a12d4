import Derived.Test.YtbmhllcbkeblfaaGEwWhole
namespace Go.Proofs.Ytbmhllcbkeblfaa.Cn
open Go.RowKit
def stW (w : World) (T : Nat) : Nat := match w.cell? ⟨T, 17, none⟩ with
  | some (.int _ n) => n.toNat
  | _ => 0
theorem St.fresh {N : Nat} {w0 w w' : World} {T X : Nat} {v : Ex} {Z : Zz} {t : Tk} {ov mv : Value} {A0 : Nat} {C : Array Value} (h : St N w0 w T X v Z t ov mv) (ha : w.heap[A0]? = some (.cells C 61)) (hN : N ≤ A0) (k : Kp w w' (fun k => k = A0)) : St N w0 w' T X v Z t ov mv := by
  have off := h.bo.off ha (by decide)
  refine ⟨⟨h.bo.ex.kp k (fun q e s => off (by rw [← s]; exact Or.inl e)), h.bo.tk.kp k (fun q e s => ?_), h.bo.ap⟩, h.ge, h.bel.trans (kp_bel k (fun q e => by rw [e]; exact hN) h.le), Nat.le_trans h.le k.size⟩
  rcases e with e | e | e
  · exact off (by rw [← s]; exact Or.inr (Or.inl e))
  · obtain ⟨c, hc⟩ := own_typ h.bo.tk.ov e
    rw [s, ha] at hc
    simp at hc
  · exact off (by rw [← s]; exact Or.inr (Or.inr e))
set_option maxHeartbeats 16000000 in
set_option maxRecDepth 100000 in
set_option linter.unusedSimpArgs false in
set_option linter.unusedVariables false in
theorem exportWhole_any (N : Nat) (w : World) (st : ByteArray) (x : Nat → Int) (ao : Option Addr) (b o cap : Nat) (pv : Nat → Value) (ns : List ND) (h : NsAt N w ao b o pv ns) (hN : N ≤ w.heap.size) (hs : st.size ≤ 9223372036854775807) (tao : Option Addr) (tbb too tcap : Nat) (tpv : Nat → Value) (tb : List (List Pr)) (tbl : TbAt w.heap.size w tao tbb too tpv tb) (hz : ∀ r ∈ tb, ∀ p ∈ r, p.k.size ≤ 281474976710656 ∧ p.v.size ≤ 281474976710656) (ver : Int) (aao : Option Addr) (ab aoo acap : Nat) (L : List ActP) (hL : RwAt 4 actA w.heap.size w aao ab aoo L) (hLl : L.length ≤ 100000000000000) :
    Calls Try.prog 4 #[.agg (clA st x (.slice ao ns.length cap)), .slice tao tb.length tcap, .int .i64 ver, .slice aao L.length acap] w fun e w' => e = .returned (.bool true) ∧ Below w.heap.size w w' := by
  have hps : ∀ (q : Nat) (hq : q < ns.length), ns[q].ps.length ≤ 17592186043904 := fun q hq => by
    obtain ⟨_, _, _, _, _, hp⟩ := h.ps q hq
    exact hp.len
  have hlen := h.len
  obtain ⟨W0, hW0, hX⟩ := boxed st x cap h hN
  have HX := hide (hX.stand hN)
  have B0 := hide hX.bel
  have TBL := hide ((tbl.below hX.bel).up hX.bel.size)
  have HL := hide ((hL.below hX.bel).up hX.bel.size)
  have NU := hide fun w n => num21 w n
  have HZ := hide hz
  have C0 : Hid (w.heap.size < W0.heap.size) := blk_lt hX.cl
  obtain ⟨c0, hc0⟩ : ∃ c0, c0 = w.heap.size := ⟨_, rfl⟩
  have HC0 := hide hc0
  have NW : Hid (∀ (W1 W2 : World) (vl : Value) (zs : List (Int × Value)), zs.length = ns.length → Tw (W2.heap.size + 2) W1 ns vl zs → ∃ ao' b' cap' pv', vl = .slice ao' ns.length cap' ∧ NsAt W1.heap.size W1 ao' b' 0 pv' ns) := fun W1 W2 vl zs hz ht => by
    obtain ⟨a, b, c, e1, e2⟩ := ht.nodes hz hlen hps
    exact ⟨a, b, c, _, e1, e2⟩
  obtain ⟨ll, hll⟩ : ∃ ll, ll = L.length := ⟨_, rfl⟩
  obtain ⟨tl, htl⟩ : ∃ tl, tl = tb.length := ⟨_, rfl⟩
  have HLL := hide hll
  have HTL := hide htl
  rw [← hll] at hLl ⊢
  rw [← htl]
  rw [← hc0] at HX B0 C0 ⊢
  have HNN : Hid (N ≤ c0) := by rw [hc0]; exact hN
  have CK := hide (check_any N W0 st x ao b o cap pv ns HX.out.nd HX.out.le hs)
  clear h tbl hz hL hps hlen hX hll htl hN hc0
  go_enter Try.func4, Try.ntmps4
  go_upto_region 1 with fail
  rw [← hW0, ← HC0.out]
  clear hW0
  go_wp2_with (refine Ytbmhllcbkeblfaa.wpList_loadCl rfl (.tmp 4) rfl c0 st x _ rfl HX.out.cl ?_)
  refine Calls.mono CK.out ?_
  rintro e W1 ⟨rfl, hb⟩
  have X1 := hide (HX.out.below hb)
  have B1 : Hid (Below W0.heap.size W0 W1) := hb
  clear hb CK
  by_cases he : errP st x ns = 0
  case neg =>
    have RF := hide (refused_any N W1 st x ao b o cap pv ns X1.out.nd X1.out.le hs he)
    obtain ⟨er, her⟩ : ∃ er, er = errP st x ns := ⟨_, rfl⟩
    rw [← her] at he ⊢
    clear her
    have q0 : (er != 0) = true := by simpa using he
    go_wp2_with (first | (go_at_call 6; refine Calls.mono (NU.out _ _) ?_; rintro e w' ⟨rfl, rfl⟩) | refine Ytbmhllcbkeblfaa.wpList_loadCl rfl (.tmp 4) rfl c0 st x _ rfl X1.out.cl ?_)
    refine Calls.mono RF.out ?_
    rintro e W2 ⟨rfl, hb⟩
    have B2 : Hid (Below c0 w W2) := (B0.out.trans (B1.out.mono (Nat.le_of_lt C0.out))).trans (hb.mono (Nat.le_trans (Nat.le_of_lt C0.out) B1.out.size))
    clear hb
    go_wp2_with fail
    go_ret
    exact ⟨rfl, B2.out⟩
  case pos =>
  have TW := hide (cluster_any N W1 st x ao b o cap pv ns X1.out.nd X1.out.le)
  have HE := hide he
  rw [he]
  go_wp2_with (first | (go_at_call 6; refine Calls.mono (NU.out _ _) ?_; rintro e w' ⟨rfl, rfl⟩) | refine Ytbmhllcbkeblfaa.wpList_loadCl rfl (.tmp 4) rfl c0 st x _ rfl X1.out.cl ?_)
  refine Calls.mono TW.out ?_
  rintro e W2 ⟨vl, zs, rfl, hzl, tw, b2⟩
  obtain ⟨ao', b', cap', pv', rfl, hn2⟩ := NW.out W2 W1 vl zs hzl tw
  have NWK := hide (New_ok W2.heap.size W2 st x ao' b' 0 cap' pv' ns hn2 (Nat.le_refl _) hs HE.out)
  have B2 : Hid (Below W0.heap.size W0 W2) := B1.out.trans (b2.mono B1.out.size)
  clear hzl tw b2 hn2 TW NW X1 B1
  go_wp2_with fail
  refine Calls.mono NWK.out ?_
  rintro e W3 ⟨X, rfl, Z0, xa, ge, b3⟩
  have B3 : Hid (Below W0.heap.size W0 W3) := B2.out.trans (b3.mono B2.out.size)
  have XA := hide xa
  have GE0 : Hid (∀ k, Ap X Z0 k → W0.heap.size ≤ k) := fun k e => Nat.le_trans B2.out.size (ge k e)
  have N3 : Hid (W0.heap.size ≤ W3.heap.size) := B3.out.size
  obtain ⟨v0, hv0⟩ : ∃ v0, v0 = newX st x ns (ptN ns) := ⟨_, rfl⟩
  have OK0 : Hid (Eok v0 (x 0).toNat 0) := by rw [hv0]; exact newX_ok HE.out
  have V0 : Hid (v0.rows = rowsP st x ns (ptN ns) ∧ v0.gw = x 17 ∧ busyB v0 = false ∧ v0.last.jb = 0) := by rw [hv0]; exact ⟨rfl, rfl, rfl, rfl⟩
  rw [← hv0] at XA
  clear xa ge b3 NWK B2 hv0
  obtain ⟨W4, hW4⟩ : ∃ W4, W4 = W3.alloc (.cells (tkA X tk0 (.slice none 0 0) (.slice none 0 0)) 57) := ⟨_, rfl⟩
  obtain ⟨T, hT⟩ : ∃ T, T = W3.heap.size := ⟨_, rfl⟩
  have S4 := St.begin XA.out GE0.out B3.out N3.out hW4
  rw [← hT] at S4
  have S4 := hide S4
  have HW4 := hide hW4
  have HT := hide hT
  clear hW4 hT XA GE0 B3 N3
  have l0 : 1 ≤ x 0 ∧ x 0 ≤ 16 := sfP_lim (errP_all he).2.1 0 (by omega)
  have l17 : 1 ≤ x 17 ∧ x 17 ≤ 1024 := by
    have e1 := sfP_lim (errP_all he).2.1 17 (by omega)
    have e2 : loS 17 = 1 := by rfl
    have e3 : hiS 17 ≤ 1024 := by decide
    omega
  have lP : 1 ≤ ptN ns ∧ ptN ns ≤ 64 := ⟨(errP_all he).2.2.2.1.p1, (errP_all he).2.2.2.1.p2⟩
  have l16 : Hid (ns.length ≤ 16) := (nfP_len (errP_all he).2.2.1).2
  obtain ⟨R, hR⟩ : ∃ R : Nat, x 0 = (R : Int) := ⟨(x 0).toNat, by omega⟩
  obtain ⟨P, hP⟩ : ∃ P, P = ptN ns := ⟨_, rfl⟩
  have HR := hide hR
  have HP := hide hP
  rw [← hP] at lP
  have hR0 : (x 0).toNat = R := by omega
  rw [hR0] at OK0
  have LM : Hid ((1 ≤ R ∧ R ≤ 16) ∧ (1 ≤ x 17 ∧ x 17 ≤ 1024) ∧ (1 ≤ P ∧ P ≤ 64)) := ⟨by omega, l17, lP⟩
  clear he l0 l17 lP hR hP hR0
  go_upto_region 7 with (first | (go_at_call 6; refine Calls.mono (NU.out _ _) ?_; rintro e w' ⟨rfl, rfl⟩) | refine wpList_blR rfl 57 #[(0, .tmp 38)] rfl (tkA X tk0 (.slice none 0 0) (.slice none 0 0)) (by kernel_rfl) ?_)
  rw [← HW4.out, ← HT.out]
  clear HW4 HT
  have BG := hide (Begin_x S4.out.bo.ex OK0.out (by omega) ver)
  go_wp2_with fail
  refine Calls.mono BG.out ?_
  rintro e W5 ⟨u, Z5, rfl, o5, l5⟩
  have S5 := hide (S4.out.lv l5)
  clear l5 BG S4
  by_cases hv : verB ver = true
  case neg =>
    have hv : verB ver = false := by simpa using hv
    have e1 : begE v0 ver = 80 := by unfold begE; rw [V0.out.2.2.1, hv]; rfl
    have e2 : begL v0 ver = [] := by unfold begL; rw [e1]; rfl
    have e3 : begX v0 ver = v0 := by unfold begX; rw [e1]; rfl
    rw [e2] at o5
    rw [e3] at S5
    rw [e1]
    have hu : ∃ a c, u = .slice a 0 c := own_sl o5
    obtain ⟨ua, uc, rfl⟩ := hu
    have BU := hide (Busy_x S5.out.bo.ex OK0.out.p1.1)
    rw [V0.out.2.2.1] at BU
    have BE5 : Hid (Below c0 w W5) := B0.out.trans (S5.out.bel.mono (Nat.le_of_lt C0.out))
    have hor : ver < 1 ∨ 999999 < ver := by
      unfold verB at hv
      have := of_decide_eq_false hv
      omega
    clear o5 e1 e2 e3 hv
    by_cases hv1 : ver < 1
    case pos =>
      go_wp2_with (first | (go_at_call 6; refine Calls.mono (NU.out _ _) ?_; rintro e w' ⟨rfl, rfl⟩) | (go_at_call 15; refine Calls.mono BU.out ?_; rintro e w' ⟨rfl, rfl⟩))
      go_ret
      exact ⟨rfl, BE5.out⟩
    case neg =>
      have hv2 : 999999 < ver := hor.resolve_left hv1
      clear hor
      go_wp2_with (first | (go_at_call 6; refine Calls.mono (NU.out _ _) ?_; rintro e w' ⟨rfl, rfl⟩) | (go_at_call 15; refine Calls.mono BU.out ?_; rintro e w' ⟨rfl, rfl⟩))
      go_ret
      exact ⟨rfl, BE5.out⟩
  case pos =>
  obtain ⟨t1, t2, t3, t4, t5, t6, t7, t8⟩ := beg_tj (tb := tb) OK0.out V0.out.2.2.1 hv V0.out.2.2.2
  have e1 : begE v0 ver = 0 := by unfold begE; rw [V0.out.2.2.1, hv]; rfl
  obtain ⟨v1, hv1⟩ : ∃ v1, v1 = begX v0 ver := ⟨_, rfl⟩
  rw [t2] at o5
  rw [e1]
  rw [← hv1] at t1 t3 t4 t5 t6 t7 t8 S5 o5
  have hu : ∃ a c, u = .slice a 1 c := own_sl o5
  obtain ⟨ua, uc, rfl⟩ := hu
  have HE5 := hide (hear_t S5.out.bo.tk o5 (by simp))
  have hvr : 1 ≤ ver ∧ ver ≤ 999999 := by unfold verB at hv; exact of_decide_eq_true hv
  have y1 : ¬ ver < 1 := by omega
  have y2 : ¬ 999999 < ver := by omega
  obtain ⟨KS, hKS⟩ : ∃ KS : Nat, x 17 + 1 ≤ (KS : Int) ∧ KS ≤ 1025 := ⟨(x 17 + 1).toNat, by have := LM.out; omega⟩
  have HKS := hide hKS
  have L5 : Hid (Lp tb ver R P KS (rowsP st x ns P) (x 17) v1 (hearT tk0 [askM v1]) 0) := by
    have r0 := V0.out.1
    rw [← HP.out] at r0
    refine ⟨rfl, Nat.le_refl _, fun m hm => absurd hm (by simp [hearT, tk0]), ⟨by rw [t7]; exact r0, by rw [t8]; exact V0.out.2.1⟩, Nat.zero_le _, Or.inl ⟨rfl, rfl, ?_, t3, Or.inl ⟨t4, ?_, ?_⟩, Nat.zero_le _, ?_⟩⟩
    · rw [Nat.zero_mul]; exact t1
    · show (0 : Int) = (v1.part : Int)
      rw [t4]; rfl
    · show (0 : Int) = (v1.left : Int)
      rw [t5]; rfl
    · have := LM.out
      exact Nat.mul_pos (by omega) (by omega)
  clear t1 t2 t3 t4 t5 t6 t7 t8 o5 hvr e1 hv1 hKS V0 OK0
  go_wp2_with fail
  refine Calls.mono HE5.out ?_
  rintro e W6 ⟨rfl, t6, k6⟩
  have S6 := hide (S5.out.talk k6 t6)
  have c12 : W6.cell? ⟨T, 12, none⟩ = some (.bool true) := (tk_cs S6.out.bo.tk.blk).1
  clear t6 k6 HE5 S5
  go_upto_region 12 with fail
  clear c12 y1 y2
  have X6 := hide (HX.out.below S6.out.bel)
  have PA := parts21_any N W6 st x ao b o cap pv ns X6.out.nd X6.out.le l16.out
  rw [← HP.out] at PA
  have PA := hide PA
  go_wp2_with (refine Ytbmhllcbkeblfaa.wpList_loadCl rfl (.tmp 4) rfl c0 st x _ rfl X6.out.cl ?_)
  refine Calls.mono PA.out ?_
  rintro e W7 ⟨rfl, hb⟩
  have S7 := hide (S6.out.same (Kp.of_below hb non))
  have X7 := hide (HX.out.below S7.out.bel)
  clear hb PA S6 X6
  obtain ⟨Q, hQ⟩ : ∃ Q, Q = 512 + R := ⟨_, rfl⟩
  obtain ⟨MM, hMM⟩ : ∃ MM, MM = P * Q := ⟨_, rfl⟩
  have QB : MM ≤ 33792 := by
    rw [hMM]
    have a := LM.out.2.2.2
    have b := LM.out.1.2
    exact Nat.le_trans (Nat.mul_le_mul a (show Q ≤ 528 by omega)) (by decide)
  have w1 : wrap64 (512 + (R : Int)) = (Q : Int) := by rw [hQ]; exact wrap_in (by have := LM.out.1.2; omega) (by have := LM.out.1.2; omega)
  have w2 : wrap64 ((P : Int) * (Q : Int)) = (MM : Int) := by rw [hMM, Int.natCast_mul, ← Int.natCast_mul, ← hMM]; exact wrap_in (by omega) (by omega)
  have r1 : W7.cell? ⟨c0, 1, none⟩ = some (.int .i64 (R : Int)) := by rw [← HR.out]; exact X7.out.cl.x 0 (by omega)
  have HMM : Hid (MM = P * (512 + R)) := by rw [hMM, hQ]; exact rfl
  have HQB := hide QB
  clear hQ hMM QB
  go_wp2_with fail
  rw [w2]
  clear w1 w2 r1 X7
  go_loopw [8, 16] (fun v8 v16 wr => v8 = .bool false ∧ ∃ (i : Nat) (v : Ex) (Z : Zz) (t : Tk) (ov mv : Value), Hid (St W0.heap.size W0 wr T X v Z t ov mv) ∧ Hid (Lp tb ver R P KS (rowsP st x ns P) (x 17) v t i)) (fun v8 v16 wr => MM + 1 - stW wr T)
  case atStart => exact ⟨rfl, 0, _, _, _, _, _, S7.out, L5.out⟩
  case round =>
    clear S7 L5
    obtain ⟨rfl, i, v, Z, t, ov, mv, S, LP⟩ := hrel
    rcases LP.out.go with ⟨g1, g2, g3, g4, g5, g6, g7⟩ | ⟨g1, g2, g3, g4, g5, g6, g7, g8⟩
    · have c12 : wr.cell? ⟨T, 12, none⟩ = some (.bool true) := by rw [← g1]; exact (tk_cs S.out.bo.tk.blk).1
      have c6 : wr.cell? ⟨T, 6, none⟩ = some (.int .i64 (v.part : Int)) := by
        have z := (tk_cs S.out.bo.tk.blk).2.1
        rw [g2] at z
        exact z
      have J := hide g3
      have G2 := hide g2
      have G4 := hide g4
      have SW : Hid (stW wr T = i) := by
        show _ = _
        unfold stW
        rw [(tk_cs S.out.bo.tk.blk).2.2.2.2.1, LP.out.st]
        exact Int.toNat_natCast i
      have G67 := hide (And.intro g6 g7)
      have iB : i < 33792 := by have := HQB.out; have := HMM.out; omega
      by_cases hpt : t.pt = (v.part : Int)
      · have c14 : wr.cell? ⟨T, 14, none⟩ = some (.int .i64 (v.part : Int)) := by rw [← hpt]; exact (tk_cs S.out.bo.tk.blk).2.2.1
        have TF : Hid (t.q = askM v ∧ t.old = t.old ∧ t.ms = t.ms ∧ t.pt = (v.part : Int) ∧ t.lf = (v.left : Int) ∧ t.st = (i : Int)) := ⟨g2, rfl, rfl, hpt, (by rcases g5 with ⟨_, _, z⟩ | ⟨z, _⟩; exact z; exact absurd hpt z), LP.out.st⟩
        clear g1 g2 g3 g4 g5 g6 g7 hpt
        go_upto_region 15 with fail
        clear c12
        go_quiet (fail)
        have kq := (Kp.refl wr non).drewN nq
        obtain ⟨wh, hwh⟩ : ∃ wh, wh = wr.drewN nq := ⟨_, rfl⟩
        rw [← hwh] at kq ⊢
        have SH := hide (S.out.same kq)
        clear kq hwh c6 c14
        obtain ⟨t1, ht1⟩ : ∃ t1, t1 = t := ⟨_, rfl⟩
        have OLD : Hid (t1.old = t.old ∧ t1.ms = t.ms) := by rw [ht1]; exact ⟨rfl, rfl⟩
        rw [← ht1] at SH TF
        clear ht1
        go_upto_region 18 with fail
        have SDh := hide (SH.out.same ((Kp.refl wh non).drew))
        have XD := hide (HX.out.below SDh.out.bel)
        have jv := J.out.ok.job J.out.b
        have hrows := LP.out.rw_.1
        have hpP : v.part < P := by
          have z := jv.pt
          rw [hrows, rowsP_len] at z
          exact z
        have AK := asks_any N wh.drew st x ao b o cap pv ns XD.out.nd XD.out.le hs HE.out v.part v.left (by rw [← HP.out]; exact hpP) (ownr v) 1 ver (v.rd.length : Int) (own_q J.out hrows) (by have := jv.lf; have := LM.out.1.2; omega)
        rw [← ask_q J.out] at AK
        obtain ⟨qq, hqq⟩ : ∃ qq, qq = askM v := ⟨_, rfl⟩
        rw [← hqq] at AK
        have AK := hide AK
        have QQ := hide hqq
        have RQ : Hid (∀ Y : World, Y.heap[T]? = some (.cells (tkA X t1 ov mv) 57) → Y.rangeAt T 1 (mgV qq).toList) := fun Y hY => by rw [hqq, ← TF.out.1]; exact tk_rng hY
        have TC : Hid (∀ Y : World, Y.heap[T]? = some (.cells (tkA X t1 ov mv) 57) → Y.cell? ⟨T, 17, none⟩ = some (.int .i64 (i : Int)) ∧ Y.cell? ⟨T, 15, none⟩ = some (.int .i64 (v.left : Int)) ∧ Y.cell? ⟨T, 4, none⟩ = some (.int .i64 1)) := fun Y hY => by
          obtain ⟨_, _, _, z1, z2, z3, _⟩ := tk_cs hY
          rw [TF.out.2.2.2.2.1] at z1
          rw [TF.out.2.2.2.2.2] at z2
          rw [TF.out.1] at z3
          rw [show (askM v).id = 1 from J.out.jb] at z3
          exact ⟨z2, z1, z3⟩
        have RSL := hide SH.out.bo.ex.ow.rsl
        have RW1 := hide J.out.ok.p1.1
        have JBB := hide J.out.b
        have BUY : Hid (∀ Y, Y.heap[X]? = some (.cells (exA v Z) 75) → Calls Try.prog 15 #[.pointer (some ⟨X, 0, none⟩)] Y fun e w' => e = .returned (.bool true) ∧ Y = w') := fun Y hY => by
          have z := Busy_b hY RW1.out RSL.out
          rw [JBB.out] at z
          exact z
        have iMM : ¬ (MM : Int) < (i : Int) := by have := G67.out.2; have := HMM.out; omega
        have IMM := hide iMM
        clear jv hrows hpP hqq iMM
        refine wp_region_held_drew (S := fun Y => ClAt Y c0 st x (.slice ao ns.length cap) ∧ Y.heap[T]? = some (.cells (tkA X t1 ov mv) 57) ∧ Y.heap[X]? = some (.cells (exA v Z) 75)) (by kernel_rfl) ⟨XD.out.cl, SH.out.bo.tk.blk, SH.out.bo.ex.blk⟩ (fun hHeld => ?_)
        refine wpAnyH_take (i := 0) (v := (.pointer (some ⟨T, 0, none⟩))) rfl (by kernel_rfl) (by kernel_rfl) (by kernel_rfl) (fun _ _ _ h => h) (Or.inl ⟨by kernel_rfl, ?_⟩) (by assumption) ?_
        · intro w' hSw
          (try dsimp only at hSw)
          go_simp
        (try simp only [Act.put, List.getElem_toArray, List.getElem_cons_zero, List.getElem_cons_succ, List.setIfInBounds_toArray, List.set_cons_zero, List.set_cons_succ])
        refine wpAnyH_take (i := 1) (v := (.pointer (some ⟨T, 0, none⟩))) rfl (by kernel_rfl) (by kernel_rfl) (by kernel_rfl) (fun _ _ _ h => h) (Or.inl ⟨by kernel_rfl, ?_⟩) (by assumption) ?_
        · intro w' hSw
          (try dsimp only at hSw)
          go_simp
        (try simp only [Act.put, List.getElem_toArray, List.getElem_cons_zero, List.getElem_cons_succ, List.setIfInBounds_toArray, List.set_cons_zero, List.set_cons_succ])
        refine wpAnyH_take (i := 2) (v := (.pointer (some ⟨T, 17, none⟩))) rfl (by kernel_rfl) (by kernel_rfl) (by kernel_rfl) (fun _ _ _ h => h) (Or.inl ⟨by kernel_rfl, ?_⟩) (by assumption) ?_
        · intro w' hSw
          (try dsimp only at hSw)
          go_simp
        (try simp only [Act.put, List.getElem_toArray, List.getElem_cons_zero, List.getElem_cons_succ, List.setIfInBounds_toArray, List.set_cons_zero, List.set_cons_succ])
        refine wpAnyH_take (i := 3) (v := (.int .i64 (i : Int))) rfl (by kernel_rfl) (by kernel_rfl) (by kernel_rfl) (fun _ _ _ h => h) (Or.inl ⟨by kernel_rfl, ?_⟩) (by assumption) ?_
        · intro w' hSw
          (try dsimp only at hSw)
          (have z := (TC.out _ hSw.2.1).1; go_simp)
        (try simp only [Act.put, List.getElem_toArray, List.getElem_cons_zero, List.getElem_cons_succ, List.setIfInBounds_toArray, List.set_cons_zero, List.set_cons_succ])
        refine wpAnyH_take (i := 4) (v := (.int .i64 (MM : Int))) rfl (by kernel_rfl) (by kernel_rfl) (by kernel_rfl) (fun _ _ _ h => h) (Or.inl ⟨by kernel_rfl, ?_⟩) (by assumption) ?_
        · intro w' hSw
          (try dsimp only at hSw)
          go_simp
        (try simp only [Act.put, List.getElem_toArray, List.getElem_cons_zero, List.getElem_cons_succ, List.setIfInBounds_toArray, List.set_cons_zero, List.set_cons_succ])
        refine wpAnyH_take (i := 5) (v := (.bool false)) rfl (by kernel_rfl) (by kernel_rfl) (by kernel_rfl) (fun _ _ _ h => h) (Or.inl ⟨by kernel_rfl, ?_⟩) (by assumption) ?_
        · intro w' hSw
          (try dsimp only at hSw)
          (have z := IMM.out; go_simp)
        (try simp only [Act.put, List.getElem_toArray, List.getElem_cons_zero, List.getElem_cons_succ, List.setIfInBounds_toArray, List.set_cons_zero, List.set_cons_succ])
        refine wpAnyH_take (i := 6) (v := (.bool false)) rfl (by kernel_rfl) (by kernel_rfl) (by kernel_rfl) (fun _ _ _ h => h) (Or.inl ⟨by kernel_rfl, ?_⟩) (by assumption) ?_
        · intro w' hSw
          (try dsimp only at hSw)
          go_simp
        (try simp only [Act.put, List.getElem_toArray, List.getElem_cons_zero, List.getElem_cons_succ, List.setIfInBounds_toArray, List.set_cons_zero, List.set_cons_succ])
        refine wpAnyH_take (i := 7) (v := (.pointer (some ⟨X, 0, none⟩))) rfl (by kernel_rfl) (by kernel_rfl) (by kernel_rfl) (fun _ _ _ h => h) (Or.inl ⟨by kernel_rfl, ?_⟩) (by assumption) ?_
        · intro w' hSw
          (try dsimp only at hSw)
          go_simp
        (try simp only [Act.put, List.getElem_toArray, List.getElem_cons_zero, List.getElem_cons_succ, List.setIfInBounds_toArray, List.set_cons_zero, List.set_cons_succ])
        refine wpAnyH_callTake (i := 8) (v := (.bool true)) rfl (by kernel_rfl) (by kernel_rfl) (by kernel_rfl) (fun _ _ _ h => h) (by kernel_rfl) 15 #[.pointer (some ⟨X, 0, none⟩)] (fun w' => by kernel_rfl) (fun w' hSw => BUY.out w' hSw.2.2) (by assumption) ?_
        (try simp only [Act.put, List.getElem_toArray, List.getElem_cons_zero, List.getElem_cons_succ, List.setIfInBounds_toArray, List.set_cons_zero, List.set_cons_succ])
        refine wpAnyH_take (i := 9) (v := (.bool false)) rfl (by kernel_rfl) (by kernel_rfl) (by kernel_rfl) (fun _ _ _ h => h) (Or.inl ⟨by kernel_rfl, ?_⟩) (by assumption) ?_
        · intro w' hSw
          (try dsimp only at hSw)
          go_simp
        (try simp only [Act.put, List.getElem_toArray, List.getElem_cons_zero, List.getElem_cons_succ, List.setIfInBounds_toArray, List.set_cons_zero, List.set_cons_succ])
        refine wpAnyH_take (i := 10) (v := (.bool false)) rfl (by kernel_rfl) (by kernel_rfl) (by kernel_rfl) (fun _ _ _ h => h) (Or.inl ⟨by kernel_rfl, ?_⟩) (by assumption) ?_
        · intro w' hSw
          (try dsimp only at hSw)
          go_simp
        (try simp only [Act.put, List.getElem_toArray, List.getElem_cons_zero, List.getElem_cons_succ, List.setIfInBounds_toArray, List.set_cons_zero, List.set_cons_succ])
        refine wpAnyH_take (i := 11) (v := (.bool false)) rfl (by kernel_rfl) (by kernel_rfl) (by kernel_rfl) (fun _ _ _ h => h) (Or.inl ⟨by kernel_rfl, ?_⟩) (by assumption) ?_
        · intro w' hSw
          (try dsimp only at hSw)
          go_simp
        (try simp only [Act.put, List.getElem_toArray, List.getElem_cons_zero, List.getElem_cons_succ, List.setIfInBounds_toArray, List.set_cons_zero, List.set_cons_succ])
        refine wpAnyH_take (i := 12) (v := (.agg (clA st x (.slice ao ns.length cap)))) rfl (by kernel_rfl) (by kernel_rfl) (by kernel_rfl) (fun _ _ _ h => h) (Or.inl ⟨by kernel_rfl, ?_⟩) (by assumption) ?_
        · intro w' hSw
          (try dsimp only at hSw)
          (exact exec_loadCl (.tmp 4) rfl rfl hSw.1)
        (try simp only [Act.put, List.getElem_toArray, List.getElem_cons_zero, List.getElem_cons_succ, List.setIfInBounds_toArray, List.set_cons_zero, List.set_cons_succ])
        refine wpAnyH_take (i := 13) (v := (.pointer (some ⟨T, 0, none⟩))) rfl (by kernel_rfl) (by kernel_rfl) (by kernel_rfl) (fun _ _ _ h => h) (Or.inl ⟨by kernel_rfl, ?_⟩) (by assumption) ?_
        · intro w' hSw
          (try dsimp only at hSw)
          go_simp
        (try simp only [Act.put, List.getElem_toArray, List.getElem_cons_zero, List.getElem_cons_succ, List.setIfInBounds_toArray, List.set_cons_zero, List.set_cons_succ])
        refine wpAnyH_take (i := 14) (v := (.pointer (some ⟨T, 0, none⟩))) rfl (by kernel_rfl) (by kernel_rfl) (by kernel_rfl) (fun _ _ _ h => h) (Or.inl ⟨by kernel_rfl, ?_⟩) (by assumption) ?_
        · intro w' hSw
          (try dsimp only at hSw)
          go_simp
        (try simp only [Act.put, List.getElem_toArray, List.getElem_cons_zero, List.getElem_cons_succ, List.setIfInBounds_toArray, List.set_cons_zero, List.set_cons_succ])
        refine wpAnyH_take (i := 15) (v := (.pointer (some ⟨T, 1, none⟩))) rfl (by kernel_rfl) (by kernel_rfl) (by kernel_rfl) (fun _ _ _ h => h) (Or.inl ⟨by kernel_rfl, ?_⟩) (by assumption) ?_
        · intro w' hSw
          (try dsimp only at hSw)
          go_simp
        (try simp only [Act.put, List.getElem_toArray, List.getElem_cons_zero, List.getElem_cons_succ, List.setIfInBounds_toArray, List.set_cons_zero, List.set_cons_succ])
        refine wpAnyH_take (i := 16) (v := (.agg (mgV qq))) rfl (by kernel_rfl) (by kernel_rfl) (by kernel_rfl) (fun _ _ _ h => h) (Or.inl ⟨by kernel_rfl, ?_⟩) (by assumption) ?_
        · intro w' hSw
          (try dsimp only at hSw)
          (exact exec_ldMm (.tmp 125) rfl rfl (RQ.out _ hSw.2.1))
        (try simp only [Act.put, List.getElem_toArray, List.getElem_cons_zero, List.getElem_cons_succ, List.setIfInBounds_toArray, List.set_cons_zero, List.set_cons_succ])
        refine wpAnyH_take (i := 17) (v := (.int .i64 ver)) rfl (by kernel_rfl) (by kernel_rfl) (by kernel_rfl) (fun _ _ _ h => h) (Or.inl ⟨by kernel_rfl, ?_⟩) (by assumption) ?_
        · intro w' hSw
          (try dsimp only at hSw)
          go_simp
        (try simp only [Act.put, List.getElem_toArray, List.getElem_cons_zero, List.getElem_cons_succ, List.setIfInBounds_toArray, List.set_cons_zero, List.set_cons_succ])
        refine wpAnyH_take (i := 18) (v := (.pointer (some ⟨T, 0, none⟩))) rfl (by kernel_rfl) (by kernel_rfl) (by kernel_rfl) (fun _ _ _ h => h) (Or.inl ⟨by kernel_rfl, ?_⟩) (by assumption) ?_
        · intro w' hSw
          (try dsimp only at hSw)
          go_simp
        (try simp only [Act.put, List.getElem_toArray, List.getElem_cons_zero, List.getElem_cons_succ, List.setIfInBounds_toArray, List.set_cons_zero, List.set_cons_succ])
        refine wpAnyH_take (i := 19) (v := (.pointer (some ⟨T, 0, none⟩))) rfl (by kernel_rfl) (by kernel_rfl) (by kernel_rfl) (fun _ _ _ h => h) (Or.inl ⟨by kernel_rfl, ?_⟩) (by assumption) ?_
        · intro w' hSw
          (try dsimp only at hSw)
          go_simp
        (try simp only [Act.put, List.getElem_toArray, List.getElem_cons_zero, List.getElem_cons_succ, List.setIfInBounds_toArray, List.set_cons_zero, List.set_cons_succ])
        refine wpAnyH_take (i := 20) (v := (.pointer (some ⟨T, 15, none⟩))) rfl (by kernel_rfl) (by kernel_rfl) (by kernel_rfl) (fun _ _ _ h => h) (Or.inl ⟨by kernel_rfl, ?_⟩) (by assumption) ?_
        · intro w' hSw
          (try dsimp only at hSw)
          go_simp
        (try simp only [Act.put, List.getElem_toArray, List.getElem_cons_zero, List.getElem_cons_succ, List.setIfInBounds_toArray, List.set_cons_zero, List.set_cons_succ])
        refine wpAnyH_take (i := 21) (v := (.int .i64 (v.left : Int))) rfl (by kernel_rfl) (by kernel_rfl) (by kernel_rfl) (fun _ _ _ h => h) (Or.inl ⟨by kernel_rfl, ?_⟩) (by assumption) ?_
        · intro w' hSw
          (try dsimp only at hSw)
          (have z := (TC.out _ hSw.2.1).2.1; go_simp)
        (try simp only [Act.put, List.getElem_toArray, List.getElem_cons_zero, List.getElem_cons_succ, List.setIfInBounds_toArray, List.set_cons_zero, List.set_cons_succ])
        refine wpAnyH_ready (rs := [22]) (by kernel_rfl) (by simp) ?_
        refine AllReadyH.cons rfl (fun K hK => ?_) AllReadyH.nil
        go_simp
        refine Calls.mono AK.out ?_
        rintro e Wk ⟨rfl, kb⟩
        have SK := hide (SDh.out.same (Kp.of_below kb non))
        have XK := hide (HX.out.below SK.out.bel)
        clear kb AK SDh XD
        refine hK.out _ _ (⟨XK.out.cl, SK.out.bo.tk.blk, SK.out.bo.ex.blk⟩) (fun hHeld => ?_)
        clear hK
        (try simp only [Act.put, List.setIfInBounds_toArray, List.set_cons_zero, List.set_cons_succ])
        refine wpAnyH_take (i := 23) (v := (.bool false)) rfl (by kernel_rfl) (by kernel_rfl) (by kernel_rfl) (fun _ _ _ h => h) (Or.inl ⟨by kernel_rfl, ?_⟩) (by assumption) ?_
        · intro w' hSw
          (try dsimp only at hSw)
          go_simp
        (try simp only [Act.put, List.getElem_toArray, List.getElem_cons_zero, List.getElem_cons_succ, List.setIfInBounds_toArray, List.set_cons_zero, List.set_cons_succ])
        refine wpAnyH_take (i := 24) (v := (.bool false)) rfl (by kernel_rfl) (by kernel_rfl) (by kernel_rfl) (fun _ _ _ h => h) (Or.inl ⟨by kernel_rfl, ?_⟩) (by assumption) ?_
        · intro w' hSw
          (try dsimp only at hSw)
          go_simp
        (try simp only [Act.put, List.getElem_toArray, List.getElem_cons_zero, List.getElem_cons_succ, List.setIfInBounds_toArray, List.set_cons_zero, List.set_cons_succ])
        refine wpAnyH_take (i := 25) (v := (.bool false)) rfl (by kernel_rfl) (by kernel_rfl) (by kernel_rfl) (fun _ _ _ h => h) (Or.inl ⟨by kernel_rfl, ?_⟩) (by assumption) ?_
        · intro w' hSw
          (try dsimp only at hSw)
          go_simp
        (try simp only [Act.put, List.getElem_toArray, List.getElem_cons_zero, List.getElem_cons_succ, List.setIfInBounds_toArray, List.set_cons_zero, List.set_cons_succ])
        refine wpAnyH_take (i := 26) (v := (.pointer (some ⟨T, 0, none⟩))) rfl (by kernel_rfl) (by kernel_rfl) (by kernel_rfl) (fun _ _ _ h => h) (Or.inl ⟨by kernel_rfl, ?_⟩) (by assumption) ?_
        · intro w' hSw
          (try dsimp only at hSw)
          go_simp
        (try simp only [Act.put, List.getElem_toArray, List.getElem_cons_zero, List.getElem_cons_succ, List.setIfInBounds_toArray, List.set_cons_zero, List.set_cons_succ])
        refine wpAnyH_take (i := 27) (v := (.pointer (some ⟨T, 0, none⟩))) rfl (by kernel_rfl) (by kernel_rfl) (by kernel_rfl) (fun _ _ _ h => h) (Or.inl ⟨by kernel_rfl, ?_⟩) (by assumption) ?_
        · intro w' hSw
          (try dsimp only at hSw)
          go_simp
        (try simp only [Act.put, List.getElem_toArray, List.getElem_cons_zero, List.getElem_cons_succ, List.setIfInBounds_toArray, List.set_cons_zero, List.set_cons_succ])
        refine wpAnyH_take (i := 28) (v := (.pointer (some ⟨T, 1, none⟩))) rfl (by kernel_rfl) (by kernel_rfl) (by kernel_rfl) (fun _ _ _ h => h) (Or.inl ⟨by kernel_rfl, ?_⟩) (by assumption) ?_
        · intro w' hSw
          (try dsimp only at hSw)
          go_simp
        (try simp only [Act.put, List.getElem_toArray, List.getElem_cons_zero, List.getElem_cons_succ, List.setIfInBounds_toArray, List.set_cons_zero, List.set_cons_succ])
        refine wpAnyH_take (i := 29) (v := (.pointer (some ⟨T, 4, none⟩))) rfl (by kernel_rfl) (by kernel_rfl) (by kernel_rfl) (fun _ _ _ h => h) (Or.inl ⟨by kernel_rfl, ?_⟩) (by assumption) ?_
        · intro w' hSw
          (try dsimp only at hSw)
          go_simp
        (try simp only [Act.put, List.getElem_toArray, List.getElem_cons_zero, List.getElem_cons_succ, List.setIfInBounds_toArray, List.set_cons_zero, List.set_cons_succ])
        refine wpAnyH_take (i := 30) (v := (.int .i64 1)) rfl (by kernel_rfl) (by kernel_rfl) (by kernel_rfl) (fun _ _ _ h => h) (Or.inl ⟨by kernel_rfl, ?_⟩) (by assumption) ?_
        · intro w' hSw
          (try dsimp only at hSw)
          (have z := (TC.out _ hSw.2.1).2.2; go_simp)
        (try simp only [Act.put, List.getElem_toArray, List.getElem_cons_zero, List.getElem_cons_succ, List.setIfInBounds_toArray, List.set_cons_zero, List.set_cons_succ])
        refine wpAnyH_take (i := 31) (v := (.bool false)) rfl (by kernel_rfl) (by kernel_rfl) (by kernel_rfl) (fun _ _ _ h => h) (Or.inl ⟨by kernel_rfl, ?_⟩) (by assumption) ?_
        · intro w' hSw
          (try dsimp only at hSw)
          go_simp
        (try simp only [Act.put, List.getElem_toArray, List.getElem_cons_zero, List.getElem_cons_succ, List.setIfInBounds_toArray, List.set_cons_zero, List.set_cons_succ])
        refine wpAnyH_ready (rs := [32]) (by kernel_rfl) (by simp) ?_
        refine AllReadyH.cons rfl (fun K hK => ?_) AllReadyH.nil
        go_simp
        refine hK.out _ _ (⟨XK.out.cl, SK.out.bo.tk.blk, SK.out.bo.ex.blk⟩) (fun hHeld => ?_)
        clear hK
        (try simp only [Act.put, List.setIfInBounds_toArray, List.set_cons_zero, List.set_cons_succ])
        refine wpAnyH_done (by kernel_rfl) ?_ _
        clear hHeld RQ BUY RSL RW1 JBB IMM
        obtain ⟨A0, hA0⟩ : ∃ A0, A0 = Wk.heap.size := ⟨_, rfl⟩
        obtain ⟨Wa, hWa⟩ : ∃ Wa, Wa = Wk.alloc (.cells (actA ⟨0, 0, 0, 0⟩) 61) := ⟨_, rfl⟩
        have SAa := hide (SK.out.same (w' := Wa) (by rw [hWa]; exact (Kp.refl Wk non).alloc _))
        have AA : Hid (Wa.heap[A0]? = some (.cells (actA ⟨0, 0, 0, 0⟩) 61)) := by rw [hWa, hA0]; exact heap_last _ _
        have HSa : Hid (Wa.setRow A0 (actA ⟨0, 0, 0, 0⟩) = Wa) := by rw [hWa, hA0]; exact World.setRow_alloc_new _ _ _ _
        have HAa := hide hA0
        have HWa := hide hWa
        have AI := hide act_info
        have AO0 := hide (act_one ⟨0, 0, 0, 0⟩)
        clear hWa hA0
        have c17 : Wa.cell? ⟨T, 17, none⟩ = some (.int .i64 (i : Int)) := (TC.out _ SAa.out.bo.tk.blk).1
        go_upto_region 21 with (first | refine wpList_blR rfl 61 #[] rfl (actA ⟨0, 0, 0, 0⟩) (by kernel_rfl) ?_ | (refine wpList_stR rfl 61 (.tmp 16) (.tmp 143) rfl A0 (by rw [HAa.out]; rfl) (actA ⟨0, 0, 0, 0⟩) #[.int .i64 0, .int .i64 0, .int .i64 0, .int .i64 0] rfl _ (by have z := AA.out; rw [HWa.out] at z; exact z) AI.out rfl AO0.out ?_; rw [show (Wk.alloc (.cells #[.int .i64 0, .int .i64 0, .int .i64 0, .int .i64 0] 61)).setRow A0 (actA ⟨0, 0, 0, 0⟩) = Wa by have z := HSa.out; rw [HWa.out] at z ⊢; exact z]))
        rw [← HAa.out]
        by_cases hil : i < ll
        · have hii : (i : Int) < (ll : Int) := by omega
          have hiL : i < L.length := by rw [← HLL.out]; exact hil
          have LB := HL.out.below SAa.out.bel
          have e8 := LB.at0 (by omega)
          subst e8
          obtain ⟨a, ha⟩ : ∃ a, a = L[i] := ⟨_, rfl⟩
          have RA : Hid (Wa.rangeAt ab (aoo + i * 4) (actA a).toList) := fun j u hj => by
            rw [ha] at hj
            exact LB.c i hiL j u (by simpa using hj)
          have hlb : L.length ≤ 9223372036854775807 := LB.len
          have AO := hide (act_one a)
          obtain ⟨Wb, hWb⟩ : ∃ Wb, Wb = Wa.setRow A0 (actA a) := ⟨_, rfl⟩
          have kb : Kp Wa Wb (fun k => k = A0) := by rw [hWb]; exact (Kp.refl Wa (fun k => k = A0)).row (Or.inl rfl) _
          have AB : Hid (Wb.heap[A0]? = some (.cells (actA a) 61)) := by rw [hWb]; exact setRow_heap _ _ _ _ _ _ AA.out
          have SB := hide (SAa.out.fresh AA.out (by rw [HAa.out]; exact SK.out.le) kb)
          have HWb := hide hWb
          have AAa := hide AA.out
          clear hWb kb LB hiL ha
          go_upto_region 23 with (first | refine wpList_load_mid rfl 61 (.tmp 156) rfl ab (aoo + i * 4) rfl (actA a).toList _ RA.out Try.underlying61 rfl AI.out ?_ | (refine wpList_stR rfl 61 (.tmp 16) (.tmp 157) rfl A0 rfl (actA a) _ rfl _ AAa.out AI.out rfl AO.out ?_; rw [← HWb.out]))
          clear c17 hii hlb HWb AAa
          have d17 : Wb.cell? ⟨T, 17, none⟩ = some (.int .i64 (i : Int)) := (TC.out _ SB.out.bo.tk.blk).1
          have g17 := fz_row SB.out.bo.tk.blk 17
          have ew := wrap_in (x := (i : Int) + 1) (by omega) (by omega)
          obtain ⟨t2, ht2⟩ : ∃ t2 : Tk, t2 = { t1 with st := (i : Int) + 1 } := ⟨_, rfl⟩
          obtain ⟨Wc, hWc⟩ : ∃ Wc, Wc = Wb.setCell ⟨T, 17, none⟩ (.int .i64 ((i : Int) + 1)) := ⟨_, rfl⟩
          have SC := hide (SB.out.set 17 (.int .i64 ((i : Int) + 1)) hWc (t' := t2) (by rw [ht2]; rfl) (by rw [ht2]) (by rw [ht2]))
          have AC : Hid (Wc.heap[A0]? = some (.cells (actA a) 61)) := by
            have k : Kp Wb Wc (fun k => k = T) := by rw [hWc]; exact (Kp.refl Wb (fun k => k = T)).set (Or.inl rfl) _ _
            exact (k.block _ (blk_lt AB.out) (fun e => by
              have z := AB.out
              rw [e, SB.out.bo.tk.blk] at z
              simp at z)).trans AB.out
          have T2 : Hid (t2.q = askM v ∧ t2.old = t.old ∧ t2.ms = t.ms ∧ t2.pt = (v.part : Int) ∧ t2.lf = (v.left : Int) ∧ t2.st = ((i + 1 : Nat) : Int)) := by
            rw [ht2]
            exact ⟨TF.out.1, OLD.out.1, OLD.out.2, TF.out.2.2.2.1, TF.out.2.2.2.2.1, rfl⟩
          have HWc := hide hWc
          clear hWc ht2
          go_upto_region 24 with fail
          rw [← HWc.out]
          clear HWc d17 g17 ew
          have XC := hide (HX.out.below SC.out.bel)
          have J2 : Tj tb ver R (1 + i * KS) v t2.old t2.ms := by rw [T2.out.2.1, T2.out.2.2.1]; exact J.out
          have AT := act_t (ao := tao) (b := tbb) (o := too) (cap := tcap) (pv := tpv) (K := KS) ⟨SC.out.bo, SC.out.ge, Below.refl _ _, SC.out.le⟩ (TBL.out.below SC.out.bel) J2 st x (.slice ao ns.length cap) a T2.out.1 T2.out.2.2.2.2.1 HR.out LP.out.rw_.2.symm G4.out (by rw [LP.out.rw_.2]; exact HKS.out.1) (by have z := Nat.mul_le_mul (Nat.le_of_lt iB) HKS.out.2; omega) (by rw [T2.out.2.1]; have := LP.out.ol; omega) (fun m hm => by
            rcases hm with z | z
            · rw [T2.out.2.1] at z
              exact LP.out.sz m z
            · rw [z]; exact right_sz HZ.out _)
          rw [← HTL.out] at AT
          have AT := hide AT
          clear J2
          go_wp2_with (first | refine Ytbmhllcbkeblfaa.wpList_loadCl rfl (.tmp 4) rfl c0 st x _ rfl XC.out.cl ?_ | refine wpList_ldR rfl _ (.tmp 16) rfl A0 rfl _ _ AC.out Try.underlying61 AI.out ?_)
          refine Calls.mono AT.out ?_
          rintro e Wd ⟨rfl, v', Z', t', ov', mv', s', ac'⟩
          have SD : Hid (St W0.heap.size W0 Wd T X v' Z' t' ov' mv') := ⟨s'.bo, s'.ge, SC.out.bel.trans s'.bel, s'.le⟩
          have LP' := hide (LP.out.next HZ.out (rowsP_len _ _ _ _) G67.out.2 G67.out.1 T2.out.2.1 T2.out.2.2.2.1 T2.out.2.2.2.2.2 ac')
          have SW' : Hid (stW Wd T = i + 1) := by
            show _ = _
            unfold stW
            rw [(tk_cs SD.out.bo.tk.blk).2.2.2.2.1, LP'.out.st]
            exact Int.toNat_natCast _
          clear s' ac' AT SC AC T2 XC AB SB
          go_wp2_with fail
          go_roundw
          case rel => exact ⟨rfl, i + 1, v', Z', t', ov', mv', SD.out, LP'.out⟩
          case measure =>
            have z1 := SW.out
            have z2 := SW'.out
            have z3 := G67.out.2
            have z4 := HMM.out
            show MM + 1 - stW Wd T < MM + 1 - stW wr T
            omega
        · have hii : ¬ (i : Int) < (ll : Int) := by omega
          obtain ⟨a, ha⟩ : ∃ a : ActP, a = ⟨0, 0, 0, 0⟩ := ⟨_, rfl⟩
          have SB := hide SAa.out
          have AB := hide AA.out
          rw [← ha] at AB
          obtain ⟨Wb, hWb⟩ : ∃ Wb, Wb = Wa := ⟨_, rfl⟩
          have AO := hide (act_one a)
          go_upto_region 23 with fail
          rw [← hWb] at SB AB ⊢
          clear c17 hii hWb ha
          have d17 : Wb.cell? ⟨T, 17, none⟩ = some (.int .i64 (i : Int)) := (TC.out _ SB.out.bo.tk.blk).1
          have g17 := fz_row SB.out.bo.tk.blk 17
          have ew := wrap_in (x := (i : Int) + 1) (by omega) (by omega)
          obtain ⟨t2, ht2⟩ : ∃ t2 : Tk, t2 = { t1 with st := (i : Int) + 1 } := ⟨_, rfl⟩
          obtain ⟨Wc, hWc⟩ : ∃ Wc, Wc = Wb.setCell ⟨T, 17, none⟩ (.int .i64 ((i : Int) + 1)) := ⟨_, rfl⟩
          have SC := hide (SB.out.set 17 (.int .i64 ((i : Int) + 1)) hWc (t' := t2) (by rw [ht2]; rfl) (by rw [ht2]) (by rw [ht2]))
          have AC : Hid (Wc.heap[A0]? = some (.cells (actA a) 61)) := by
            have k : Kp Wb Wc (fun k => k = T) := by rw [hWc]; exact (Kp.refl Wb (fun k => k = T)).set (Or.inl rfl) _ _
            exact (k.block _ (blk_lt AB.out) (fun e => by
              have z := AB.out
              rw [e, SB.out.bo.tk.blk] at z
              simp at z)).trans AB.out
          have T2 : Hid (t2.q = askM v ∧ t2.old = t.old ∧ t2.ms = t.ms ∧ t2.pt = (v.part : Int) ∧ t2.lf = (v.left : Int) ∧ t2.st = ((i + 1 : Nat) : Int)) := by
            rw [ht2]
            exact ⟨TF.out.1, OLD.out.1, OLD.out.2, TF.out.2.2.2.1, TF.out.2.2.2.2.1, rfl⟩
          have HWc := hide hWc
          clear hWc ht2
          go_upto_region 24 with fail
          rw [← HWc.out]
          clear HWc d17 g17 ew
          have XC := hide (HX.out.below SC.out.bel)
          have J2 : Tj tb ver R (1 + i * KS) v t2.old t2.ms := by rw [T2.out.2.1, T2.out.2.2.1]; exact J.out
          have AT := act_t (ao := tao) (b := tbb) (o := too) (cap := tcap) (pv := tpv) (K := KS) ⟨SC.out.bo, SC.out.ge, Below.refl _ _, SC.out.le⟩ (TBL.out.below SC.out.bel) J2 st x (.slice ao ns.length cap) a T2.out.1 T2.out.2.2.2.2.1 HR.out LP.out.rw_.2.symm G4.out (by rw [LP.out.rw_.2]; exact HKS.out.1) (by have z := Nat.mul_le_mul (Nat.le_of_lt iB) HKS.out.2; omega) (by rw [T2.out.2.1]; have := LP.out.ol; omega) (fun m hm => by
            rcases hm with z | z
            · rw [T2.out.2.1] at z
              exact LP.out.sz m z
            · rw [z]; exact right_sz HZ.out _)
          rw [← HTL.out] at AT
          have AT := hide AT
          clear J2
          go_wp2_with (first | refine Ytbmhllcbkeblfaa.wpList_loadCl rfl (.tmp 4) rfl c0 st x _ rfl XC.out.cl ?_ | refine wpList_ldR rfl _ (.tmp 16) rfl A0 rfl _ _ AC.out Try.underlying61 AI.out ?_)
          refine Calls.mono AT.out ?_
          rintro e Wd ⟨rfl, v', Z', t', ov', mv', s', ac'⟩
          have SD : Hid (St W0.heap.size W0 Wd T X v' Z' t' ov' mv') := ⟨s'.bo, s'.ge, SC.out.bel.trans s'.bel, s'.le⟩
          have LP' := hide (LP.out.next HZ.out (rowsP_len _ _ _ _) G67.out.2 G67.out.1 T2.out.2.1 T2.out.2.2.2.1 T2.out.2.2.2.2.2 ac')
          have SW' : Hid (stW Wd T = i + 1) := by
            show _ = _
            unfold stW
            rw [(tk_cs SD.out.bo.tk.blk).2.2.2.2.1, LP'.out.st]
            exact Int.toNat_natCast _
          clear s' ac' AT SC AC T2 XC AB SB
          go_wp2_with fail
          go_roundw
          case rel => exact ⟨rfl, i + 1, v', Z', t', ov', mv', SD.out, LP'.out⟩
          case measure =>
            have z1 := SW.out
            have z2 := SW'.out
            have z3 := G67.out.2
            have z4 := HMM.out
            show MM + 1 - stW Wd T < MM + 1 - stW wr T
            omega
      · obtain ⟨pt, hptt⟩ : ∃ pt, pt = t.pt := ⟨_, rfl⟩
        have c14 : wr.cell? ⟨T, 14, none⟩ = some (.int .i64 pt) := by rw [hptt]; exact (tk_cs S.out.bo.tk.blk).2.2.1
        have hne : ((v.part : Int) != pt) = true := by rw [hptt]; simp; exact fun z => hpt z.symm
        have lf0 : v.left = 0 := by rcases g5 with ⟨_, z, _⟩ | ⟨_, z⟩; exact absurd z hpt; exact z
        have LF0 := hide lf0
        have QS := hide g2
        clear g1 g2 g3 g4 g5 g6 g7 hpt hptt lf0
        go_upto_region 15 with fail
        clear c12
        go_quiet (fail)
        have kq := (Kp.refl wr non).drewN nq
        obtain ⟨wq, hwq⟩ : ∃ wq, wq = wr.drewN nq := ⟨_, rfl⟩
        rw [← hwq] at kq ⊢
        have SQ := hide (S.out.same kq)
        clear kq hwq c6 c14
        obtain ⟨lf, hlf⟩ : ∃ lf, lf = t.lf := ⟨_, rfl⟩
        have c15 : wq.cell? ⟨T, 15, none⟩ = some (.int .i64 lf) := by rw [hlf]; exact (tk_cs SQ.out.bo.tk.blk).2.2.2.1
        have f15 := fz_row SQ.out.bo.tk.blk 15
        clear hlf
        obtain ⟨w8, hw8⟩ : ∃ w8, w8 = wq.setCell ⟨T, 15, none⟩ (.int .i64 0) := ⟨_, rfl⟩
        have S8 := hide (SQ.out.set 15 (.int .i64 0) hw8 (t' := { t with lf := 0 }) rfl rfl rfl)
        have HW8 := hide hw8
        clear hw8
        go_upto_region 17 with fail
        rw [← HW8.out]
        clear HW8 c15 f15 hne
        have c6 : w8.cell? ⟨T, 6, none⟩ = some (.int .i64 (v.part : Int)) := by
          have z := (tk_cs S8.out.bo.tk.blk).2.1
          rw [show ({ t with lf := 0 } : Tk).q = askM v from QS.out] at z
          exact z
        have c14 : w8.cell? ⟨T, 14, none⟩ = some (.int .i64 t.pt) := (tk_cs S8.out.bo.tk.blk).2.2.1
        have f14 := fz_row S8.out.bo.tk.blk 14
        obtain ⟨wh, hwh⟩ : ∃ wh, wh = w8.setCell ⟨T, 14, none⟩ (.int .i64 (v.part : Int)) := ⟨_, rfl⟩
        obtain ⟨t1, ht1⟩ : ∃ t1 : Tk, t1 = { t with lf := 0, pt := (v.part : Int) } := ⟨_, rfl⟩
        have SH := hide (S8.out.set 14 (.int .i64 (v.part : Int)) hwh (t' := t1) (by rw [ht1]; rfl) (by rw [ht1]) (by rw [ht1]))
        have TF : Hid (t1.q = askM v ∧ t1.old = t1.old ∧ t1.ms = t1.ms ∧ t1.pt = (v.part : Int) ∧ t1.lf = (v.left : Int) ∧ t1.st = (i : Int)) := by rw [ht1]; exact ⟨QS.out, rfl, rfl, rfl, by rw [LF0.out]; rfl, LP.out.st⟩
        have OLD : Hid (t1.old = t.old ∧ t1.ms = t.ms) := by rw [ht1]; exact ⟨rfl, rfl⟩
        have HWh := hide hwh
        clear hwh ht1 QS LF0 S8 SQ
        go_upto_region 18 with fail
        rw [← HWh.out]
        clear HWh c6 c14 f14
        have SDh := hide (SH.out.same ((Kp.refl wh non).drew))
        have XD := hide (HX.out.below SDh.out.bel)
        have jv := J.out.ok.job J.out.b
        have hrows := LP.out.rw_.1
        have hpP : v.part < P := by
          have z := jv.pt
          rw [hrows, rowsP_len] at z
          exact z
        have AK := asks_any N wh.drew st x ao b o cap pv ns XD.out.nd XD.out.le hs HE.out v.part v.left (by rw [← HP.out]; exact hpP) (ownr v) 1 ver (v.rd.length : Int) (own_q J.out hrows) (by have := jv.lf; have := LM.out.1.2; omega)
        rw [← ask_q J.out] at AK
        obtain ⟨qq, hqq⟩ : ∃ qq, qq = askM v := ⟨_, rfl⟩
        rw [← hqq] at AK
        have AK := hide AK
        have QQ := hide hqq
        have RQ : Hid (∀ Y : World, Y.heap[T]? = some (.cells (tkA X t1 ov mv) 57) → Y.rangeAt T 1 (mgV qq).toList) := fun Y hY => by rw [hqq, ← TF.out.1]; exact tk_rng hY
        have TC : Hid (∀ Y : World, Y.heap[T]? = some (.cells (tkA X t1 ov mv) 57) → Y.cell? ⟨T, 17, none⟩ = some (.int .i64 (i : Int)) ∧ Y.cell? ⟨T, 15, none⟩ = some (.int .i64 (v.left : Int)) ∧ Y.cell? ⟨T, 4, none⟩ = some (.int .i64 1)) := fun Y hY => by
          obtain ⟨_, _, _, z1, z2, z3, _⟩ := tk_cs hY
          rw [TF.out.2.2.2.2.1] at z1
          rw [TF.out.2.2.2.2.2] at z2
          rw [TF.out.1] at z3
          rw [show (askM v).id = 1 from J.out.jb] at z3
          exact ⟨z2, z1, z3⟩
        have RSL := hide SH.out.bo.ex.ow.rsl
        have RW1 := hide J.out.ok.p1.1
        have JBB := hide J.out.b
        have BUY : Hid (∀ Y, Y.heap[X]? = some (.cells (exA v Z) 75) → Calls Try.prog 15 #[.pointer (some ⟨X, 0, none⟩)] Y fun e w' => e = .returned (.bool true) ∧ Y = w') := fun Y hY => by
          have z := Busy_b hY RW1.out RSL.out
          rw [JBB.out] at z
          exact z
        have iMM : ¬ (MM : Int) < (i : Int) := by have := G67.out.2; have := HMM.out; omega
        have IMM := hide iMM
        clear jv hrows hpP hqq iMM
        refine wp_region_held_drew (S := fun Y => ClAt Y c0 st x (.slice ao ns.length cap) ∧ Y.heap[T]? = some (.cells (tkA X t1 ov mv) 57) ∧ Y.heap[X]? = some (.cells (exA v Z) 75)) (by kernel_rfl) ⟨XD.out.cl, SH.out.bo.tk.blk, SH.out.bo.ex.blk⟩ (fun hHeld => ?_)
        refine wpAnyH_take (i := 0) (v := (.pointer (some ⟨T, 0, none⟩))) rfl (by kernel_rfl) (by kernel_rfl) (by kernel_rfl) (fun _ _ _ h => h) (Or.inl ⟨by kernel_rfl, ?_⟩) (by assumption) ?_
        · intro w' hSw
          (try dsimp only at hSw)
          go_simp
        (try simp only [Act.put, List.getElem_toArray, List.getElem_cons_zero, List.getElem_cons_succ, List.setIfInBounds_toArray, List.set_cons_zero, List.set_cons_succ])
        refine wpAnyH_take (i := 1) (v := (.pointer (some ⟨T, 0, none⟩))) rfl (by kernel_rfl) (by kernel_rfl) (by kernel_rfl) (fun _ _ _ h => h) (Or.inl ⟨by kernel_rfl, ?_⟩) (by assumption) ?_
        · intro w' hSw
          (try dsimp only at hSw)
          go_simp
        (try simp only [Act.put, List.getElem_toArray, List.getElem_cons_zero, List.getElem_cons_succ, List.setIfInBounds_toArray, List.set_cons_zero, List.set_cons_succ])
        refine wpAnyH_take (i := 2) (v := (.pointer (some ⟨T, 17, none⟩))) rfl (by kernel_rfl) (by kernel_rfl) (by kernel_rfl) (fun _ _ _ h => h) (Or.inl ⟨by kernel_rfl, ?_⟩) (by assumption) ?_
        · intro w' hSw
          (try dsimp only at hSw)
          go_simp
        (try simp only [Act.put, List.getElem_toArray, List.getElem_cons_zero, List.getElem_cons_succ, List.setIfInBounds_toArray, List.set_cons_zero, List.set_cons_succ])
        refine wpAnyH_take (i := 3) (v := (.int .i64 (i : Int))) rfl (by kernel_rfl) (by kernel_rfl) (by kernel_rfl) (fun _ _ _ h => h) (Or.inl ⟨by kernel_rfl, ?_⟩) (by assumption) ?_
        · intro w' hSw
          (try dsimp only at hSw)
          (have z := (TC.out _ hSw.2.1).1; go_simp)
        (try simp only [Act.put, List.getElem_toArray, List.getElem_cons_zero, List.getElem_cons_succ, List.setIfInBounds_toArray, List.set_cons_zero, List.set_cons_succ])
        refine wpAnyH_take (i := 4) (v := (.int .i64 (MM : Int))) rfl (by kernel_rfl) (by kernel_rfl) (by kernel_rfl) (fun _ _ _ h => h) (Or.inl ⟨by kernel_rfl, ?_⟩) (by assumption) ?_
        · intro w' hSw
          (try dsimp only at hSw)
          go_simp
        (try simp only [Act.put, List.getElem_toArray, List.getElem_cons_zero, List.getElem_cons_succ, List.setIfInBounds_toArray, List.set_cons_zero, List.set_cons_succ])
        refine wpAnyH_take (i := 5) (v := (.bool false)) rfl (by kernel_rfl) (by kernel_rfl) (by kernel_rfl) (fun _ _ _ h => h) (Or.inl ⟨by kernel_rfl, ?_⟩) (by assumption) ?_
        · intro w' hSw
          (try dsimp only at hSw)
          (have z := IMM.out; go_simp)
        (try simp only [Act.put, List.getElem_toArray, List.getElem_cons_zero, List.getElem_cons_succ, List.setIfInBounds_toArray, List.set_cons_zero, List.set_cons_succ])
        refine wpAnyH_take (i := 6) (v := (.bool false)) rfl (by kernel_rfl) (by kernel_rfl) (by kernel_rfl) (fun _ _ _ h => h) (Or.inl ⟨by kernel_rfl, ?_⟩) (by assumption) ?_
        · intro w' hSw
          (try dsimp only at hSw)
          go_simp
        (try simp only [Act.put, List.getElem_toArray, List.getElem_cons_zero, List.getElem_cons_succ, List.setIfInBounds_toArray, List.set_cons_zero, List.set_cons_succ])
        refine wpAnyH_take (i := 7) (v := (.pointer (some ⟨X, 0, none⟩))) rfl (by kernel_rfl) (by kernel_rfl) (by kernel_rfl) (fun _ _ _ h => h) (Or.inl ⟨by kernel_rfl, ?_⟩) (by assumption) ?_
        · intro w' hSw
          (try dsimp only at hSw)
          go_simp
        (try simp only [Act.put, List.getElem_toArray, List.getElem_cons_zero, List.getElem_cons_succ, List.setIfInBounds_toArray, List.set_cons_zero, List.set_cons_succ])
        refine wpAnyH_callTake (i := 8) (v := (.bool true)) rfl (by kernel_rfl) (by kernel_rfl) (by kernel_rfl) (fun _ _ _ h => h) (by kernel_rfl) 15 #[.pointer (some ⟨X, 0, none⟩)] (fun w' => by kernel_rfl) (fun w' hSw => BUY.out w' hSw.2.2) (by assumption) ?_
        (try simp only [Act.put, List.getElem_toArray, List.getElem_cons_zero, List.getElem_cons_succ, List.setIfInBounds_toArray, List.set_cons_zero, List.set_cons_succ])
        refine wpAnyH_take (i := 9) (v := (.bool false)) rfl (by kernel_rfl) (by kernel_rfl) (by kernel_rfl) (fun _ _ _ h => h) (Or.inl ⟨by kernel_rfl, ?_⟩) (by assumption) ?_
        · intro w' hSw
          (try dsimp only at hSw)
          go_simp
        (try simp only [Act.put, List.getElem_toArray, List.getElem_cons_zero, List.getElem_cons_succ, List.setIfInBounds_toArray, List.set_cons_zero, List.set_cons_succ])
        refine wpAnyH_take (i := 10) (v := (.bool false)) rfl (by kernel_rfl) (by kernel_rfl) (by kernel_rfl) (fun _ _ _ h => h) (Or.inl ⟨by kernel_rfl, ?_⟩) (by assumption) ?_
        · intro w' hSw
          (try dsimp only at hSw)
          go_simp
        (try simp only [Act.put, List.getElem_toArray, List.getElem_cons_zero, List.getElem_cons_succ, List.setIfInBounds_toArray, List.set_cons_zero, List.set_cons_succ])
        refine wpAnyH_take (i := 11) (v := (.bool false)) rfl (by kernel_rfl) (by kernel_rfl) (by kernel_rfl) (fun _ _ _ h => h) (Or.inl ⟨by kernel_rfl, ?_⟩) (by assumption) ?_
        · intro w' hSw
          (try dsimp only at hSw)
          go_simp
        (try simp only [Act.put, List.getElem_toArray, List.getElem_cons_zero, List.getElem_cons_succ, List.setIfInBounds_toArray, List.set_cons_zero, List.set_cons_succ])
        refine wpAnyH_take (i := 12) (v := (.agg (clA st x (.slice ao ns.length cap)))) rfl (by kernel_rfl) (by kernel_rfl) (by kernel_rfl) (fun _ _ _ h => h) (Or.inl ⟨by kernel_rfl, ?_⟩) (by assumption) ?_
        · intro w' hSw
          (try dsimp only at hSw)
          (exact exec_loadCl (.tmp 4) rfl rfl hSw.1)
        (try simp only [Act.put, List.getElem_toArray, List.getElem_cons_zero, List.getElem_cons_succ, List.setIfInBounds_toArray, List.set_cons_zero, List.set_cons_succ])
        refine wpAnyH_take (i := 13) (v := (.pointer (some ⟨T, 0, none⟩))) rfl (by kernel_rfl) (by kernel_rfl) (by kernel_rfl) (fun _ _ _ h => h) (Or.inl ⟨by kernel_rfl, ?_⟩) (by assumption) ?_
        · intro w' hSw
          (try dsimp only at hSw)
          go_simp
        (try simp only [Act.put, List.getElem_toArray, List.getElem_cons_zero, List.getElem_cons_succ, List.setIfInBounds_toArray, List.set_cons_zero, List.set_cons_succ])
        refine wpAnyH_take (i := 14) (v := (.pointer (some ⟨T, 0, none⟩))) rfl (by kernel_rfl) (by kernel_rfl) (by kernel_rfl) (fun _ _ _ h => h) (Or.inl ⟨by kernel_rfl, ?_⟩) (by assumption) ?_
        · intro w' hSw
          (try dsimp only at hSw)
          go_simp
        (try simp only [Act.put, List.getElem_toArray, List.getElem_cons_zero, List.getElem_cons_succ, List.setIfInBounds_toArray, List.set_cons_zero, List.set_cons_succ])
        refine wpAnyH_take (i := 15) (v := (.pointer (some ⟨T, 1, none⟩))) rfl (by kernel_rfl) (by kernel_rfl) (by kernel_rfl) (fun _ _ _ h => h) (Or.inl ⟨by kernel_rfl, ?_⟩) (by assumption) ?_
        · intro w' hSw
          (try dsimp only at hSw)
          go_simp
        (try simp only [Act.put, List.getElem_toArray, List.getElem_cons_zero, List.getElem_cons_succ, List.setIfInBounds_toArray, List.set_cons_zero, List.set_cons_succ])
        refine wpAnyH_take (i := 16) (v := (.agg (mgV qq))) rfl (by kernel_rfl) (by kernel_rfl) (by kernel_rfl) (fun _ _ _ h => h) (Or.inl ⟨by kernel_rfl, ?_⟩) (by assumption) ?_
        · intro w' hSw
          (try dsimp only at hSw)
          (exact exec_ldMm (.tmp 125) rfl rfl (RQ.out _ hSw.2.1))
        (try simp only [Act.put, List.getElem_toArray, List.getElem_cons_zero, List.getElem_cons_succ, List.setIfInBounds_toArray, List.set_cons_zero, List.set_cons_succ])
        refine wpAnyH_take (i := 17) (v := (.int .i64 ver)) rfl (by kernel_rfl) (by kernel_rfl) (by kernel_rfl) (fun _ _ _ h => h) (Or.inl ⟨by kernel_rfl, ?_⟩) (by assumption) ?_
        · intro w' hSw
          (try dsimp only at hSw)
          go_simp
        (try simp only [Act.put, List.getElem_toArray, List.getElem_cons_zero, List.getElem_cons_succ, List.setIfInBounds_toArray, List.set_cons_zero, List.set_cons_succ])
        refine wpAnyH_take (i := 18) (v := (.pointer (some ⟨T, 0, none⟩))) rfl (by kernel_rfl) (by kernel_rfl) (by kernel_rfl) (fun _ _ _ h => h) (Or.inl ⟨by kernel_rfl, ?_⟩) (by assumption) ?_
        · intro w' hSw
          (try dsimp only at hSw)
          go_simp
        (try simp only [Act.put, List.getElem_toArray, List.getElem_cons_zero, List.getElem_cons_succ, List.setIfInBounds_toArray, List.set_cons_zero, List.set_cons_succ])
        refine wpAnyH_take (i := 19) (v := (.pointer (some ⟨T, 0, none⟩))) rfl (by kernel_rfl) (by kernel_rfl) (by kernel_rfl) (fun _ _ _ h => h) (Or.inl ⟨by kernel_rfl, ?_⟩) (by assumption) ?_
        · intro w' hSw
          (try dsimp only at hSw)
          go_simp
        (try simp only [Act.put, List.getElem_toArray, List.getElem_cons_zero, List.getElem_cons_succ, List.setIfInBounds_toArray, List.set_cons_zero, List.set_cons_succ])
        refine wpAnyH_take (i := 20) (v := (.pointer (some ⟨T, 15, none⟩))) rfl (by kernel_rfl) (by kernel_rfl) (by kernel_rfl) (fun _ _ _ h => h) (Or.inl ⟨by kernel_rfl, ?_⟩) (by assumption) ?_
        · intro w' hSw
          (try dsimp only at hSw)
          go_simp
        (try simp only [Act.put, List.getElem_toArray, List.getElem_cons_zero, List.getElem_cons_succ, List.setIfInBounds_toArray, List.set_cons_zero, List.set_cons_succ])
        refine wpAnyH_take (i := 21) (v := (.int .i64 (v.left : Int))) rfl (by kernel_rfl) (by kernel_rfl) (by kernel_rfl) (fun _ _ _ h => h) (Or.inl ⟨by kernel_rfl, ?_⟩) (by assumption) ?_
        · intro w' hSw
          (try dsimp only at hSw)
          (have z := (TC.out _ hSw.2.1).2.1; go_simp)
        (try simp only [Act.put, List.getElem_toArray, List.getElem_cons_zero, List.getElem_cons_succ, List.setIfInBounds_toArray, List.set_cons_zero, List.set_cons_succ])
        refine wpAnyH_ready (rs := [22]) (by kernel_rfl) (by simp) ?_
        refine AllReadyH.cons rfl (fun K hK => ?_) AllReadyH.nil
        go_simp
        refine Calls.mono AK.out ?_
        rintro e Wk ⟨rfl, kb⟩
        have SK := hide (SDh.out.same (Kp.of_below kb non))
        have XK := hide (HX.out.below SK.out.bel)
        clear kb AK SDh XD
        refine hK.out _ _ (⟨XK.out.cl, SK.out.bo.tk.blk, SK.out.bo.ex.blk⟩) (fun hHeld => ?_)
        clear hK
        (try simp only [Act.put, List.setIfInBounds_toArray, List.set_cons_zero, List.set_cons_succ])
        refine wpAnyH_take (i := 23) (v := (.bool false)) rfl (by kernel_rfl) (by kernel_rfl) (by kernel_rfl) (fun _ _ _ h => h) (Or.inl ⟨by kernel_rfl, ?_⟩) (by assumption) ?_
        · intro w' hSw
          (try dsimp only at hSw)
          go_simp
        (try simp only [Act.put, List.getElem_toArray, List.getElem_cons_zero, List.getElem_cons_succ, List.setIfInBounds_toArray, List.set_cons_zero, List.set_cons_succ])
        refine wpAnyH_take (i := 24) (v := (.bool false)) rfl (by kernel_rfl) (by kernel_rfl) (by kernel_rfl) (fun _ _ _ h => h) (Or.inl ⟨by kernel_rfl, ?_⟩) (by assumption) ?_
        · intro w' hSw
          (try dsimp only at hSw)
          go_simp
        (try simp only [Act.put, List.getElem_toArray, List.getElem_cons_zero, List.getElem_cons_succ, List.setIfInBounds_toArray, List.set_cons_zero, List.set_cons_succ])
        refine wpAnyH_take (i := 25) (v := (.bool false)) rfl (by kernel_rfl) (by kernel_rfl) (by kernel_rfl) (fun _ _ _ h => h) (Or.inl ⟨by kernel_rfl, ?_⟩) (by assumption) ?_
        · intro w' hSw
          (try dsimp only at hSw)
          go_simp
        (try simp only [Act.put, List.getElem_toArray, List.getElem_cons_zero, List.getElem_cons_succ, List.setIfInBounds_toArray, List.set_cons_zero, List.set_cons_succ])
        refine wpAnyH_take (i := 26) (v := (.pointer (some ⟨T, 0, none⟩))) rfl (by kernel_rfl) (by kernel_rfl) (by kernel_rfl) (fun _ _ _ h => h) (Or.inl ⟨by kernel_rfl, ?_⟩) (by assumption) ?_
        · intro w' hSw
          (try dsimp only at hSw)
          go_simp
        (try simp only [Act.put, List.getElem_toArray, List.getElem_cons_zero, List.getElem_cons_succ, List.setIfInBounds_toArray, List.set_cons_zero, List.set_cons_succ])
        refine wpAnyH_take (i := 27) (v := (.pointer (some ⟨T, 0, none⟩))) rfl (by kernel_rfl) (by kernel_rfl) (by kernel_rfl) (fun _ _ _ h => h) (Or.inl ⟨by kernel_rfl, ?_⟩) (by assumption) ?_
        · intro w' hSw
          (try dsimp only at hSw)
          go_simp
        (try simp only [Act.put, List.getElem_toArray, List.getElem_cons_zero, List.getElem_cons_succ, List.setIfInBounds_toArray, List.set_cons_zero, List.set_cons_succ])
        refine wpAnyH_take (i := 28) (v := (.pointer (some ⟨T, 1, none⟩))) rfl (by kernel_rfl) (by kernel_rfl) (by kernel_rfl) (fun _ _ _ h => h) (Or.inl ⟨by kernel_rfl, ?_⟩) (by assumption) ?_
        · intro w' hSw
          (try dsimp only at hSw)
          go_simp
        (try simp only [Act.put, List.getElem_toArray, List.getElem_cons_zero, List.getElem_cons_succ, List.setIfInBounds_toArray, List.set_cons_zero, List.set_cons_succ])
        refine wpAnyH_take (i := 29) (v := (.pointer (some ⟨T, 4, none⟩))) rfl (by kernel_rfl) (by kernel_rfl) (by kernel_rfl) (fun _ _ _ h => h) (Or.inl ⟨by kernel_rfl, ?_⟩) (by assumption) ?_
        · intro w' hSw
          (try dsimp only at hSw)
          go_simp
        (try simp only [Act.put, List.getElem_toArray, List.getElem_cons_zero, List.getElem_cons_succ, List.setIfInBounds_toArray, List.set_cons_zero, List.set_cons_succ])
        refine wpAnyH_take (i := 30) (v := (.int .i64 1)) rfl (by kernel_rfl) (by kernel_rfl) (by kernel_rfl) (fun _ _ _ h => h) (Or.inl ⟨by kernel_rfl, ?_⟩) (by assumption) ?_
        · intro w' hSw
          (try dsimp only at hSw)
          (have z := (TC.out _ hSw.2.1).2.2; go_simp)
        (try simp only [Act.put, List.getElem_toArray, List.getElem_cons_zero, List.getElem_cons_succ, List.setIfInBounds_toArray, List.set_cons_zero, List.set_cons_succ])
        refine wpAnyH_take (i := 31) (v := (.bool false)) rfl (by kernel_rfl) (by kernel_rfl) (by kernel_rfl) (fun _ _ _ h => h) (Or.inl ⟨by kernel_rfl, ?_⟩) (by assumption) ?_
        · intro w' hSw
          (try dsimp only at hSw)
          go_simp
        (try simp only [Act.put, List.getElem_toArray, List.getElem_cons_zero, List.getElem_cons_succ, List.setIfInBounds_toArray, List.set_cons_zero, List.set_cons_succ])
        refine wpAnyH_ready (rs := [32]) (by kernel_rfl) (by simp) ?_
        refine AllReadyH.cons rfl (fun K hK => ?_) AllReadyH.nil
        go_simp
        refine hK.out _ _ (⟨XK.out.cl, SK.out.bo.tk.blk, SK.out.bo.ex.blk⟩) (fun hHeld => ?_)
        clear hK
        (try simp only [Act.put, List.setIfInBounds_toArray, List.set_cons_zero, List.set_cons_succ])
        refine wpAnyH_done (by kernel_rfl) ?_ _
        clear hHeld RQ BUY RSL RW1 JBB IMM
        obtain ⟨A0, hA0⟩ : ∃ A0, A0 = Wk.heap.size := ⟨_, rfl⟩
        obtain ⟨Wa, hWa⟩ : ∃ Wa, Wa = Wk.alloc (.cells (actA ⟨0, 0, 0, 0⟩) 61) := ⟨_, rfl⟩
        have SAa := hide (SK.out.same (w' := Wa) (by rw [hWa]; exact (Kp.refl Wk non).alloc _))
        have AA : Hid (Wa.heap[A0]? = some (.cells (actA ⟨0, 0, 0, 0⟩) 61)) := by rw [hWa, hA0]; exact heap_last _ _
        have HSa : Hid (Wa.setRow A0 (actA ⟨0, 0, 0, 0⟩) = Wa) := by rw [hWa, hA0]; exact World.setRow_alloc_new _ _ _ _
        have HAa := hide hA0
        have HWa := hide hWa
        have AI := hide act_info
        have AO0 := hide (act_one ⟨0, 0, 0, 0⟩)
        clear hWa hA0
        have c17 : Wa.cell? ⟨T, 17, none⟩ = some (.int .i64 (i : Int)) := (TC.out _ SAa.out.bo.tk.blk).1
        go_upto_region 21 with (first | refine wpList_blR rfl 61 #[] rfl (actA ⟨0, 0, 0, 0⟩) (by kernel_rfl) ?_ | (refine wpList_stR rfl 61 (.tmp 16) (.tmp 143) rfl A0 (by rw [HAa.out]; rfl) (actA ⟨0, 0, 0, 0⟩) #[.int .i64 0, .int .i64 0, .int .i64 0, .int .i64 0] rfl _ (by have z := AA.out; rw [HWa.out] at z; exact z) AI.out rfl AO0.out ?_; rw [show (Wk.alloc (.cells #[.int .i64 0, .int .i64 0, .int .i64 0, .int .i64 0] 61)).setRow A0 (actA ⟨0, 0, 0, 0⟩) = Wa by have z := HSa.out; rw [HWa.out] at z ⊢; exact z]))
        rw [← HAa.out]
        by_cases hil : i < ll
        · have hii : (i : Int) < (ll : Int) := by omega
          have hiL : i < L.length := by rw [← HLL.out]; exact hil
          have LB := HL.out.below SAa.out.bel
          have e8 := LB.at0 (by omega)
          subst e8
          obtain ⟨a, ha⟩ : ∃ a, a = L[i] := ⟨_, rfl⟩
          have RA : Hid (Wa.rangeAt ab (aoo + i * 4) (actA a).toList) := fun j u hj => by
            rw [ha] at hj
            exact LB.c i hiL j u (by simpa using hj)
          have hlb : L.length ≤ 9223372036854775807 := LB.len
          have AO := hide (act_one a)
          obtain ⟨Wb, hWb⟩ : ∃ Wb, Wb = Wa.setRow A0 (actA a) := ⟨_, rfl⟩
          have kb : Kp Wa Wb (fun k => k = A0) := by rw [hWb]; exact (Kp.refl Wa (fun k => k = A0)).row (Or.inl rfl) _
          have AB : Hid (Wb.heap[A0]? = some (.cells (actA a) 61)) := by rw [hWb]; exact setRow_heap _ _ _ _ _ _ AA.out
          have SB := hide (SAa.out.fresh AA.out (by rw [HAa.out]; exact SK.out.le) kb)
          have HWb := hide hWb
          have AAa := hide AA.out
          clear hWb kb LB hiL ha
          go_upto_region 23 with (first | refine wpList_load_mid rfl 61 (.tmp 156) rfl ab (aoo + i * 4) rfl (actA a).toList _ RA.out Try.underlying61 rfl AI.out ?_ | (refine wpList_stR rfl 61 (.tmp 16) (.tmp 157) rfl A0 rfl (actA a) _ rfl _ AAa.out AI.out rfl AO.out ?_; rw [← HWb.out]))
          clear c17 hii hlb HWb AAa
          have d17 : Wb.cell? ⟨T, 17, none⟩ = some (.int .i64 (i : Int)) := (TC.out _ SB.out.bo.tk.blk).1
          have g17 := fz_row SB.out.bo.tk.blk 17
          have ew := wrap_in (x := (i : Int) + 1) (by omega) (by omega)
          obtain ⟨t2, ht2⟩ : ∃ t2 : Tk, t2 = { t1 with st := (i : Int) + 1 } := ⟨_, rfl⟩
          obtain ⟨Wc, hWc⟩ : ∃ Wc, Wc = Wb.setCell ⟨T, 17, none⟩ (.int .i64 ((i : Int) + 1)) := ⟨_, rfl⟩
          have SC := hide (SB.out.set 17 (.int .i64 ((i : Int) + 1)) hWc (t' := t2) (by rw [ht2]; rfl) (by rw [ht2]) (by rw [ht2]))
          have AC : Hid (Wc.heap[A0]? = some (.cells (actA a) 61)) := by
            have k : Kp Wb Wc (fun k => k = T) := by rw [hWc]; exact (Kp.refl Wb (fun k => k = T)).set (Or.inl rfl) _ _
            exact (k.block _ (blk_lt AB.out) (fun e => by
              have z := AB.out
              rw [e, SB.out.bo.tk.blk] at z
              simp at z)).trans AB.out
          have T2 : Hid (t2.q = askM v ∧ t2.old = t.old ∧ t2.ms = t.ms ∧ t2.pt = (v.part : Int) ∧ t2.lf = (v.left : Int) ∧ t2.st = ((i + 1 : Nat) : Int)) := by
            rw [ht2]
            exact ⟨TF.out.1, OLD.out.1, OLD.out.2, TF.out.2.2.2.1, TF.out.2.2.2.2.1, rfl⟩
          have HWc := hide hWc
          clear hWc ht2
          go_upto_region 24 with fail
          rw [← HWc.out]
          clear HWc d17 g17 ew
          have XC := hide (HX.out.below SC.out.bel)
          have J2 : Tj tb ver R (1 + i * KS) v t2.old t2.ms := by rw [T2.out.2.1, T2.out.2.2.1]; exact J.out
          have AT := act_t (ao := tao) (b := tbb) (o := too) (cap := tcap) (pv := tpv) (K := KS) ⟨SC.out.bo, SC.out.ge, Below.refl _ _, SC.out.le⟩ (TBL.out.below SC.out.bel) J2 st x (.slice ao ns.length cap) a T2.out.1 T2.out.2.2.2.2.1 HR.out LP.out.rw_.2.symm G4.out (by rw [LP.out.rw_.2]; exact HKS.out.1) (by have z := Nat.mul_le_mul (Nat.le_of_lt iB) HKS.out.2; omega) (by rw [T2.out.2.1]; have := LP.out.ol; omega) (fun m hm => by
            rcases hm with z | z
            · rw [T2.out.2.1] at z
              exact LP.out.sz m z
            · rw [z]; exact right_sz HZ.out _)
          rw [← HTL.out] at AT
          have AT := hide AT
          clear J2
          go_wp2_with (first | refine Ytbmhllcbkeblfaa.wpList_loadCl rfl (.tmp 4) rfl c0 st x _ rfl XC.out.cl ?_ | refine wpList_ldR rfl _ (.tmp 16) rfl A0 rfl _ _ AC.out Try.underlying61 AI.out ?_)
          refine Calls.mono AT.out ?_
          rintro e Wd ⟨rfl, v', Z', t', ov', mv', s', ac'⟩
          have SD : Hid (St W0.heap.size W0 Wd T X v' Z' t' ov' mv') := ⟨s'.bo, s'.ge, SC.out.bel.trans s'.bel, s'.le⟩
          have LP' := hide (LP.out.next HZ.out (rowsP_len _ _ _ _) G67.out.2 G67.out.1 T2.out.2.1 T2.out.2.2.2.1 T2.out.2.2.2.2.2 ac')
          have SW' : Hid (stW Wd T = i + 1) := by
            show _ = _
            unfold stW
            rw [(tk_cs SD.out.bo.tk.blk).2.2.2.2.1, LP'.out.st]
            exact Int.toNat_natCast _
          clear s' ac' AT SC AC T2 XC AB SB
          go_wp2_with fail
          go_roundw
          case rel => exact ⟨rfl, i + 1, v', Z', t', ov', mv', SD.out, LP'.out⟩
          case measure =>
            have z1 := SW.out
            have z2 := SW'.out
            have z3 := G67.out.2
            have z4 := HMM.out
            show MM + 1 - stW Wd T < MM + 1 - stW wr T
            omega
        · have hii : ¬ (i : Int) < (ll : Int) := by omega
          obtain ⟨a, ha⟩ : ∃ a : ActP, a = ⟨0, 0, 0, 0⟩ := ⟨_, rfl⟩
          have SB := hide SAa.out
          have AB := hide AA.out
          rw [← ha] at AB
          obtain ⟨Wb, hWb⟩ : ∃ Wb, Wb = Wa := ⟨_, rfl⟩
          have AO := hide (act_one a)
          go_upto_region 23 with fail
          rw [← hWb] at SB AB ⊢
          clear c17 hii hWb ha
          have d17 : Wb.cell? ⟨T, 17, none⟩ = some (.int .i64 (i : Int)) := (TC.out _ SB.out.bo.tk.blk).1
          have g17 := fz_row SB.out.bo.tk.blk 17
          have ew := wrap_in (x := (i : Int) + 1) (by omega) (by omega)
          obtain ⟨t2, ht2⟩ : ∃ t2 : Tk, t2 = { t1 with st := (i : Int) + 1 } := ⟨_, rfl⟩
          obtain ⟨Wc, hWc⟩ : ∃ Wc, Wc = Wb.setCell ⟨T, 17, none⟩ (.int .i64 ((i : Int) + 1)) := ⟨_, rfl⟩
          have SC := hide (SB.out.set 17 (.int .i64 ((i : Int) + 1)) hWc (t' := t2) (by rw [ht2]; rfl) (by rw [ht2]) (by rw [ht2]))
          have AC : Hid (Wc.heap[A0]? = some (.cells (actA a) 61)) := by
            have k : Kp Wb Wc (fun k => k = T) := by rw [hWc]; exact (Kp.refl Wb (fun k => k = T)).set (Or.inl rfl) _ _
            exact (k.block _ (blk_lt AB.out) (fun e => by
              have z := AB.out
              rw [e, SB.out.bo.tk.blk] at z
              simp at z)).trans AB.out
          have T2 : Hid (t2.q = askM v ∧ t2.old = t.old ∧ t2.ms = t.ms ∧ t2.pt = (v.part : Int) ∧ t2.lf = (v.left : Int) ∧ t2.st = ((i + 1 : Nat) : Int)) := by
            rw [ht2]
            exact ⟨TF.out.1, OLD.out.1, OLD.out.2, TF.out.2.2.2.1, TF.out.2.2.2.2.1, rfl⟩
          have HWc := hide hWc
          clear hWc ht2
          go_upto_region 24 with fail
          rw [← HWc.out]
          clear HWc d17 g17 ew
          have XC := hide (HX.out.below SC.out.bel)
          have J2 : Tj tb ver R (1 + i * KS) v t2.old t2.ms := by rw [T2.out.2.1, T2.out.2.2.1]; exact J.out
          have AT := act_t (ao := tao) (b := tbb) (o := too) (cap := tcap) (pv := tpv) (K := KS) ⟨SC.out.bo, SC.out.ge, Below.refl _ _, SC.out.le⟩ (TBL.out.below SC.out.bel) J2 st x (.slice ao ns.length cap) a T2.out.1 T2.out.2.2.2.2.1 HR.out LP.out.rw_.2.symm G4.out (by rw [LP.out.rw_.2]; exact HKS.out.1) (by have z := Nat.mul_le_mul (Nat.le_of_lt iB) HKS.out.2; omega) (by rw [T2.out.2.1]; have := LP.out.ol; omega) (fun m hm => by
            rcases hm with z | z
            · rw [T2.out.2.1] at z
              exact LP.out.sz m z
            · rw [z]; exact right_sz HZ.out _)
          rw [← HTL.out] at AT
          have AT := hide AT
          clear J2
          go_wp2_with (first | refine Ytbmhllcbkeblfaa.wpList_loadCl rfl (.tmp 4) rfl c0 st x _ rfl XC.out.cl ?_ | refine wpList_ldR rfl _ (.tmp 16) rfl A0 rfl _ _ AC.out Try.underlying61 AI.out ?_)
          refine Calls.mono AT.out ?_
          rintro e Wd ⟨rfl, v', Z', t', ov', mv', s', ac'⟩
          have SD : Hid (St W0.heap.size W0 Wd T X v' Z' t' ov' mv') := ⟨s'.bo, s'.ge, SC.out.bel.trans s'.bel, s'.le⟩
          have LP' := hide (LP.out.next HZ.out (rowsP_len _ _ _ _) G67.out.2 G67.out.1 T2.out.2.1 T2.out.2.2.2.1 T2.out.2.2.2.2.2 ac')
          have SW' : Hid (stW Wd T = i + 1) := by
            show _ = _
            unfold stW
            rw [(tk_cs SD.out.bo.tk.blk).2.2.2.2.1, LP'.out.st]
            exact Int.toNat_natCast _
          clear s' ac' AT SC AC T2 XC AB SB
          go_wp2_with fail
          go_roundw
          case rel => exact ⟨rfl, i + 1, v', Z', t', ov', mv', SD.out, LP'.out⟩
          case measure =>
            have z1 := SW.out
            have z2 := SW'.out
            have z3 := G67.out.2
            have z4 := HMM.out
            show MM + 1 - stW Wd T < MM + 1 - stW wr T
            omega
    · have c12 : wr.cell? ⟨T, 12, none⟩ = some (.bool false) := by rw [← g1]; exact (tk_cs S.out.bo.tk.blk).1
      clear g1
      have RP := hide (Report_x S.out.bo.ex g8.p1.1 (by rw [g3]; decide) (by have := g8.ll; omega))
      have ML := hide g8.ll
      have PL : Hid (v.last.ps = whl tb t.ms P) := by
        have z := g6
        rw [LP.out.rw_.1, rowsP_len] at z
        exact z
      have G := hide (And.intro g2 (And.intro g3 (And.intro g4 (And.intro g5 (And.intro g7 g8.p1)))))
      clear g2 g3 g4 g5 g6 g7 g8
      go_wp2_with fail
      refine Calls.mono RP.out ?_
      rintro e Wr ⟨u1, u2, rfl, o1, o2, kr⟩
      have SR := hide (S.out.same kr)
      obtain ⟨RB, hRB⟩ : ∃ RB, RB = Wr.heap.size := ⟨_, rfl⟩
      obtain ⟨la, hla⟩ : ∃ la, la = v.last := ⟨_, rfl⟩
      rw [← hla] at o1 o2 ML PL G ⊢
      obtain ⟨p1, pc1, hu1⟩ := own_sl o1
      obtain ⟨p2, pc2, hu2⟩ := own_sl o2
      obtain ⟨n1, hn1⟩ : ∃ n1, n1 = la.ps.length := ⟨_, rfl⟩
      obtain ⟨n2, hn2⟩ : ∃ n2, n2 = la.ms.length := ⟨_, rfl⟩
      rw [← hn1] at o1 hu1
      rw [← hn2] at o2 hu2
      subst hu1 hu2
      obtain ⟨We, hWe⟩ : ∃ We, We = Wr.alloc (.cells (toA la (.slice p1 n1 pc1) (.slice p2 n2 pc2)) 49) := ⟨_, rfl⟩
      have ke : Kp Wr We non := by rw [hWe]; exact (Kp.refl Wr non).alloc _
      have SE := hide (SR.out.same ke)
      have re : Hid (We.heap[RB]? = some (.cells (toA la (.slice p1 n1 pc1) (.slice p2 n2 pc2)) 49)) := by rw [hWe, hRB]; exact heap_last _ _
      have HAL : Hid ((Wr.alloc (.cells #[.int .i64 0, .int .i64 0, .slice none 0 0, .slice none 0 0] 49)).heap[RB]? = some (.cells #[.int .i64 0, .int .i64 0, .slice none 0 0, .slice none 0 0] 49)) := by rw [hRB]; exact heap_last _ _
      have HST : Hid ((Wr.alloc (.cells #[.int .i64 0, .int .i64 0, .slice none 0 0, .slice none 0 0] 49)).setRow RB (toA la (.slice p1 n1 pc1) (.slice p2 n2 pc2)) = We) := by rw [hWe, hRB]; exact World.setRow_alloc_new _ _ _ _
      have TIN := hide to_info
      have ON := hide (to_one la (a := .slice p1 n1 pc1) (b := .slice p2 n2 pc2) ⟨_, _, _, rfl⟩ ⟨_, _, _, rfl⟩)
      have O1 : Hid (We.ownsRow wr.heap.size 86 2 (.slice p1 n1 pc1) n1 (prs la.ps)) := own_kp o1 ke (fun _ _ f => f)
      have O2 : Hid (We.ownsRow wr.heap.size 3 1 (.slice p2 n2 pc2) n2 (ints la.ms)) := own_kp o2 ke (fun _ _ f => f)
      have HN1 := hide hn1
      have HN2 := hide hn2
      have HRB := hide hRB
      clear o1 o2 kr ke hWe hRB hla hn1 hn2 RP c12
      go_upto_region 27 with (refine wpList_stR rfl 49 (.tmp 17) (.tmp 174) rfl RB (by rw [HRB.out]; rfl) (toA la (.slice p1 n1 pc1) (.slice p2 n2 pc2)) #[.int .i64 0, .int .i64 0, .slice none 0 0, .slice none 0 0] rfl _ HAL.out TIN.out rfl ON.out ?_; rw [HST.out])
      (try rw [← HRB.out])
      clear HAL HST TIN ON HRB
      have RSL := hide SE.out.bo.ex.ow.rsl
      have BUY : Hid (∀ Y, Y.heap[X]? = some (.cells (exA v Z) 75) → Calls Try.prog 15 #[.pointer (some ⟨X, 0, none⟩)] Y fun e w' => e = .returned (.bool false) ∧ Y = w') := fun Y hY => by
        have z := Busy_b hY G.out.2.2.2.2.2.1 RSL.out
        rw [G.out.1] at z
        exact z
      have CR : Hid (∀ Y : World, Y.heap[RB]? = some (.cells (toA la (.slice p1 n1 pc1) (.slice p2 n2 pc2)) 49) → Y.cell? ⟨RB, 0, none⟩ = some (.int .i64 1) ∧ Y.cell? ⟨RB, 1, none⟩ = some (.int .i64 ver) ∧ Y.cell? ⟨RB, 2, none⟩ = some (.slice p1 n1 pc1) ∧ Y.cell? ⟨RB, 3, none⟩ = some (.slice p2 n2 pc2)) := fun Y hY => by
        rw [← G.out.2.2.1, ← G.out.2.1]
        exact ⟨by rw [cell_row hY]; rfl, by rw [cell_row hY]; rfl, by rw [cell_row hY]; rfl, by rw [cell_row hY]; rfl⟩
      obtain ⟨m1, mc1, hmv⟩ := own_sl SE.out.bo.tk.mv
      obtain ⟨mn, hmn⟩ : ∃ mn, mn = t.ms.length := ⟨_, rfl⟩
      rw [← hmn] at hmv
      have HMV := hide hmv
      have CM : Hid (∀ Y : World, Y.heap[T]? = some (.cells (tkA X t ov mv) 57) → Y.cell? ⟨T, 16, none⟩ = some (.slice m1 mn mc1)) := fun Y hY => by rw [← HMV.out]; exact (tk_cs hY).2.2.2.2.2.2
      have HMN := hide hmn
      have MSB : Hid (t.ms.length ≤ 64) := by rw [← G.out.2.2.2.1]; exact ML.out.2
      have SS : Hid (∀ Y, Kp We Y non → Y.heap[RB]? = some (.cells (toA la (.slice p1 n1 pc1) (.slice p2 n2 pc2)) 49) ∧ Y.heap[X]? = some (.cells (exA v Z) 75) ∧ Y.heap[T]? = some (.cells (tkA X t ov mv) 57)) := fun Y hk => ⟨hk.blk0 re.out, (SE.out.same hk).bo.ex.blk, (SE.out.same hk).bo.tk.blk⟩
      have SI : Hid (∀ Y, Kp We Y non → Calls Try.prog 20 #[.slice p2 n2 pc2, .slice m1 mn mc1] Y fun e w' => e = .returned (.bool true) ∧ Kp Y w' non) := fun Y hk => by
        have a := own_kp O2.out hk (fun _ _ f => f)
        have b := (SE.out.same hk).bo.tk.mv
        rw [HMV.out] at b
        rw [G.out.2.2.2.1] at a
        have e : n2 = mn := by rw [HN2.out, G.out.2.2.2.1, HMN.out]
        rw [e] at a ⊢
        rw [← HMN.out] at b
        exact sameI_x HMN.out.symm a b (by rw [HMN.out]; have := MSB.out; omega)
      have WH : Hid (∀ Y, Kp We Y non → Calls Try.prog 22 #[.slice tao tl tcap, .int .i64 (P : Int), .slice m1 mn mc1] Y fun e w' => ∃ u, e = .returned u ∧ w'.ownsRow Y.heap.size 86 2 u (whl tb t.ms P).length (prs (whl tb t.ms P)) ∧ Kp Y w' non) := fun Y hk => by
        have s := SE.out.same hk
        have b := s.bo.tk.mv
        rw [HMV.out] at b
        have z := whole_t (cap := tcap) (TBL.out.below s.bel) s.le P (by have := LM.out.2.2.2; omega) (mv := .slice m1 mn mc1) (ms := t.ms) b (by have := MSB.out; omega) G.out.2.2.2.2.1.1 G.out.2.2.2.2.1.2
        rw [← HTL.out] at z
        exact z
      have SP : Hid (∀ (Y Y0 : World) (u : Value), Kp We Y non → Y.ownsRow Y0.heap.size 86 2 u (whl tb t.ms P).length (prs (whl tb t.ms P)) → Calls Try.prog 21 #[.slice p1 n1 pc1, u] Y fun e w' => e = .returned (.bool true) ∧ Kp Y w' non) := fun Y Y0 u hk ho => by
        have a := own_kp O1.out hk (fun _ _ f => f)
        rw [← PL.out, ← HN1.out] at ho
        exact sameP_x HN1.out.symm a ho (by rw [HN1.out]; have := ML.out.1; omega)
      have BEE : Hid (Below W0.heap.size W0 We) := SE.out.bel
      clear hmv hmn O1 O2 SR SE S
      refine wp_region_held_drew (S := fun Y => Y.heap[RB]? = some (.cells (toA la (.slice p1 n1 pc1) (.slice p2 n2 pc2)) 49) ∧ Y.heap[X]? = some (.cells (exA v Z) 75) ∧ Y.heap[T]? = some (.cells (tkA X t ov mv) 57)) (by kernel_rfl) (SS.out _ ((Kp.refl We non).drew)) (fun hHeld => ?_)
      refine wpAnyH_take (i := 0) (v := (.pointer (some ⟨X, 0, none⟩))) rfl (by kernel_rfl) (by kernel_rfl) (by kernel_rfl) (fun _ _ _ h => h) (Or.inl ⟨by kernel_rfl, ?_⟩) (by assumption) ?_
      · intro w' hSw
        (try dsimp only at hSw)
        go_simp
      (try simp only [Act.put, List.getElem_toArray, List.getElem_cons_zero, List.getElem_cons_succ, List.setIfInBounds_toArray, List.set_cons_zero, List.set_cons_succ])
      refine wpAnyH_callTake (i := 1) (v := (.bool false)) rfl (by kernel_rfl) (by kernel_rfl) (by kernel_rfl) (fun _ _ _ h => h) (by kernel_rfl) 15 #[.pointer (some ⟨X, 0, none⟩)] (fun w' => by kernel_rfl) (fun w' hSw => BUY.out w' hSw.2.1) (by assumption) ?_
      (try simp only [Act.put, List.getElem_toArray, List.getElem_cons_zero, List.getElem_cons_succ, List.setIfInBounds_toArray, List.set_cons_zero, List.set_cons_succ])
      refine wpAnyH_take (i := 2) (v := (.bool true)) rfl (by kernel_rfl) (by kernel_rfl) (by kernel_rfl) (fun _ _ _ h => h) (Or.inl ⟨by kernel_rfl, ?_⟩) (by assumption) ?_
      · intro w' hSw
        (try dsimp only at hSw)
        go_simp
      (try simp only [Act.put, List.getElem_toArray, List.getElem_cons_zero, List.getElem_cons_succ, List.setIfInBounds_toArray, List.set_cons_zero, List.set_cons_succ])
      refine wpAnyH_take (i := 3) (v := (.bool true)) rfl (by kernel_rfl) (by kernel_rfl) (by kernel_rfl) (fun _ _ _ h => h) (Or.inl ⟨by kernel_rfl, ?_⟩) (by assumption) ?_
      · intro w' hSw
        (try dsimp only at hSw)
        go_simp
      (try simp only [Act.put, List.getElem_toArray, List.getElem_cons_zero, List.getElem_cons_succ, List.setIfInBounds_toArray, List.set_cons_zero, List.set_cons_succ])
      refine wpAnyH_take (i := 4) (v := (.int .i64 0)) rfl (by kernel_rfl) (by kernel_rfl) (by kernel_rfl) (fun _ _ _ h => h) (Or.inl ⟨by kernel_rfl, ?_⟩) (by assumption) ?_
      · intro w' hSw
        (try dsimp only at hSw)
        go_simp
      (try simp only [Act.put, List.getElem_toArray, List.getElem_cons_zero, List.getElem_cons_succ, List.setIfInBounds_toArray, List.set_cons_zero, List.set_cons_succ])
      refine wpAnyH_callTake (i := 5) (v := (.int .i64 0)) rfl (by kernel_rfl) (by kernel_rfl) (by kernel_rfl) (fun _ _ _ h => h) (by kernel_rfl) 6 #[.int .i64 0] (fun w' => by kernel_rfl) (fun w' hSw => NU.out w' 0) (by assumption) ?_
      (try simp only [Act.put, List.getElem_toArray, List.getElem_cons_zero, List.getElem_cons_succ, List.setIfInBounds_toArray, List.set_cons_zero, List.set_cons_succ])
      refine wpAnyH_take (i := 6) (v := (.bool true)) rfl (by kernel_rfl) (by kernel_rfl) (by kernel_rfl) (fun _ _ _ h => h) (Or.inl ⟨by kernel_rfl, ?_⟩) (by assumption) ?_
      · intro w' hSw
        (try dsimp only at hSw)
        go_simp
      (try simp only [Act.put, List.getElem_toArray, List.getElem_cons_zero, List.getElem_cons_succ, List.setIfInBounds_toArray, List.set_cons_zero, List.set_cons_succ])
      refine wpAnyH_take (i := 7) (v := (.bool true)) rfl (by kernel_rfl) (by kernel_rfl) (by kernel_rfl) (fun _ _ _ h => h) (Or.inl ⟨by kernel_rfl, ?_⟩) (by assumption) ?_
      · intro w' hSw
        (try dsimp only at hSw)
        go_simp
      (try simp only [Act.put, List.getElem_toArray, List.getElem_cons_zero, List.getElem_cons_succ, List.setIfInBounds_toArray, List.set_cons_zero, List.set_cons_succ])
      refine wpAnyH_take (i := 8) (v := (.bool true)) rfl (by kernel_rfl) (by kernel_rfl) (by kernel_rfl) (fun _ _ _ h => h) (Or.inl ⟨by kernel_rfl, ?_⟩) (by assumption) ?_
      · intro w' hSw
        (try dsimp only at hSw)
        go_simp
      (try simp only [Act.put, List.getElem_toArray, List.getElem_cons_zero, List.getElem_cons_succ, List.setIfInBounds_toArray, List.set_cons_zero, List.set_cons_succ])
      refine wpAnyH_take (i := 9) (v := (.pointer (some ⟨RB, 0, none⟩))) rfl (by kernel_rfl) (by kernel_rfl) (by kernel_rfl) (fun _ _ _ h => h) (Or.inl ⟨by kernel_rfl, ?_⟩) (by assumption) ?_
      · intro w' hSw
        (try dsimp only at hSw)
        go_simp
      (try simp only [Act.put, List.getElem_toArray, List.getElem_cons_zero, List.getElem_cons_succ, List.setIfInBounds_toArray, List.set_cons_zero, List.set_cons_succ])
      refine wpAnyH_take (i := 10) (v := (.int .i64 1)) rfl (by kernel_rfl) (by kernel_rfl) (by kernel_rfl) (fun _ _ _ h => h) (Or.inl ⟨by kernel_rfl, ?_⟩) (by assumption) ?_
      · intro w' hSw
        (try dsimp only at hSw)
        (have z := (CR.out _ hSw.1).1; go_simp)
      (try simp only [Act.put, List.getElem_toArray, List.getElem_cons_zero, List.getElem_cons_succ, List.setIfInBounds_toArray, List.set_cons_zero, List.set_cons_succ])
      refine wpAnyH_take (i := 11) (v := (.bool true)) rfl (by kernel_rfl) (by kernel_rfl) (by kernel_rfl) (fun _ _ _ h => h) (Or.inl ⟨by kernel_rfl, ?_⟩) (by assumption) ?_
      · intro w' hSw
        (try dsimp only at hSw)
        go_simp
      (try simp only [Act.put, List.getElem_toArray, List.getElem_cons_zero, List.getElem_cons_succ, List.setIfInBounds_toArray, List.set_cons_zero, List.set_cons_succ])
      refine wpAnyH_take (i := 12) (v := (.bool true)) rfl (by kernel_rfl) (by kernel_rfl) (by kernel_rfl) (fun _ _ _ h => h) (Or.inl ⟨by kernel_rfl, ?_⟩) (by assumption) ?_
      · intro w' hSw
        (try dsimp only at hSw)
        go_simp
      (try simp only [Act.put, List.getElem_toArray, List.getElem_cons_zero, List.getElem_cons_succ, List.setIfInBounds_toArray, List.set_cons_zero, List.set_cons_succ])
      refine wpAnyH_take (i := 13) (v := (.bool true)) rfl (by kernel_rfl) (by kernel_rfl) (by kernel_rfl) (fun _ _ _ h => h) (Or.inl ⟨by kernel_rfl, ?_⟩) (by assumption) ?_
      · intro w' hSw
        (try dsimp only at hSw)
        go_simp
      (try simp only [Act.put, List.getElem_toArray, List.getElem_cons_zero, List.getElem_cons_succ, List.setIfInBounds_toArray, List.set_cons_zero, List.set_cons_succ])
      refine wpAnyH_take (i := 14) (v := (.pointer (some ⟨RB, 1, none⟩))) rfl (by kernel_rfl) (by kernel_rfl) (by kernel_rfl) (fun _ _ _ h => h) (Or.inl ⟨by kernel_rfl, ?_⟩) (by assumption) ?_
      · intro w' hSw
        (try dsimp only at hSw)
        go_simp
      (try simp only [Act.put, List.getElem_toArray, List.getElem_cons_zero, List.getElem_cons_succ, List.setIfInBounds_toArray, List.set_cons_zero, List.set_cons_succ])
      refine wpAnyH_take (i := 15) (v := (.int .i64 ver)) rfl (by kernel_rfl) (by kernel_rfl) (by kernel_rfl) (fun _ _ _ h => h) (Or.inl ⟨by kernel_rfl, ?_⟩) (by assumption) ?_
      · intro w' hSw
        (try dsimp only at hSw)
        (have z := (CR.out _ hSw.1).2.1; go_simp)
      (try simp only [Act.put, List.getElem_toArray, List.getElem_cons_zero, List.getElem_cons_succ, List.setIfInBounds_toArray, List.set_cons_zero, List.set_cons_succ])
      refine wpAnyH_take (i := 16) (v := (.int .i64 ver)) rfl (by kernel_rfl) (by kernel_rfl) (by kernel_rfl) (fun _ _ _ h => h) (Or.inl ⟨by kernel_rfl, ?_⟩) (by assumption) ?_
      · intro w' hSw
        (try dsimp only at hSw)
        go_simp
      (try simp only [Act.put, List.getElem_toArray, List.getElem_cons_zero, List.getElem_cons_succ, List.setIfInBounds_toArray, List.set_cons_zero, List.set_cons_succ])
      refine wpAnyH_take (i := 17) (v := (.bool true)) rfl (by kernel_rfl) (by kernel_rfl) (by kernel_rfl) (fun _ _ _ h => h) (Or.inl ⟨by kernel_rfl, ?_⟩) (by assumption) ?_
      · intro w' hSw
        (try dsimp only at hSw)
        go_simp
      (try simp only [Act.put, List.getElem_toArray, List.getElem_cons_zero, List.getElem_cons_succ, List.setIfInBounds_toArray, List.set_cons_zero, List.set_cons_succ])
      refine wpAnyH_take (i := 18) (v := (.bool true)) rfl (by kernel_rfl) (by kernel_rfl) (by kernel_rfl) (fun _ _ _ h => h) (Or.inl ⟨by kernel_rfl, ?_⟩) (by assumption) ?_
      · intro w' hSw
        (try dsimp only at hSw)
        go_simp
      (try simp only [Act.put, List.getElem_toArray, List.getElem_cons_zero, List.getElem_cons_succ, List.setIfInBounds_toArray, List.set_cons_zero, List.set_cons_succ])
      refine wpAnyH_take (i := 19) (v := (.bool true)) rfl (by kernel_rfl) (by kernel_rfl) (by kernel_rfl) (fun _ _ _ h => h) (Or.inl ⟨by kernel_rfl, ?_⟩) (by assumption) ?_
      · intro w' hSw
        (try dsimp only at hSw)
        go_simp
      (try simp only [Act.put, List.getElem_toArray, List.getElem_cons_zero, List.getElem_cons_succ, List.setIfInBounds_toArray, List.set_cons_zero, List.set_cons_succ])
      refine wpAnyH_take (i := 20) (v := (.pointer (some ⟨RB, 3, none⟩))) rfl (by kernel_rfl) (by kernel_rfl) (by kernel_rfl) (fun _ _ _ h => h) (Or.inl ⟨by kernel_rfl, ?_⟩) (by assumption) ?_
      · intro w' hSw
        (try dsimp only at hSw)
        go_simp
      (try simp only [Act.put, List.getElem_toArray, List.getElem_cons_zero, List.getElem_cons_succ, List.setIfInBounds_toArray, List.set_cons_zero, List.set_cons_succ])
      refine wpAnyH_take (i := 21) (v := (.slice p2 n2 pc2)) rfl (by kernel_rfl) (by kernel_rfl) (by kernel_rfl) (fun _ _ _ h => h) (Or.inl ⟨by kernel_rfl, ?_⟩) (by assumption) ?_
      · intro w' hSw
        (try dsimp only at hSw)
        (have z := (CR.out _ hSw.1).2.2.2; go_simp)
      (try simp only [Act.put, List.getElem_toArray, List.getElem_cons_zero, List.getElem_cons_succ, List.setIfInBounds_toArray, List.set_cons_zero, List.set_cons_succ])
      refine wpAnyH_take (i := 22) (v := (.pointer (some ⟨T, 0, none⟩))) rfl (by kernel_rfl) (by kernel_rfl) (by kernel_rfl) (fun _ _ _ h => h) (Or.inl ⟨by kernel_rfl, ?_⟩) (by assumption) ?_
      · intro w' hSw
        (try dsimp only at hSw)
        go_simp
      (try simp only [Act.put, List.getElem_toArray, List.getElem_cons_zero, List.getElem_cons_succ, List.setIfInBounds_toArray, List.set_cons_zero, List.set_cons_succ])
      refine wpAnyH_take (i := 23) (v := (.pointer (some ⟨T, 0, none⟩))) rfl (by kernel_rfl) (by kernel_rfl) (by kernel_rfl) (fun _ _ _ h => h) (Or.inl ⟨by kernel_rfl, ?_⟩) (by assumption) ?_
      · intro w' hSw
        (try dsimp only at hSw)
        go_simp
      (try simp only [Act.put, List.getElem_toArray, List.getElem_cons_zero, List.getElem_cons_succ, List.setIfInBounds_toArray, List.set_cons_zero, List.set_cons_succ])
      refine wpAnyH_take (i := 24) (v := (.pointer (some ⟨T, 16, none⟩))) rfl (by kernel_rfl) (by kernel_rfl) (by kernel_rfl) (fun _ _ _ h => h) (Or.inl ⟨by kernel_rfl, ?_⟩) (by assumption) ?_
      · intro w' hSw
        (try dsimp only at hSw)
        go_simp
      (try simp only [Act.put, List.getElem_toArray, List.getElem_cons_zero, List.getElem_cons_succ, List.setIfInBounds_toArray, List.set_cons_zero, List.set_cons_succ])
      refine wpAnyH_take (i := 25) (v := (.slice m1 mn mc1)) rfl (by kernel_rfl) (by kernel_rfl) (by kernel_rfl) (fun _ _ _ h => h) (Or.inl ⟨by kernel_rfl, ?_⟩) (by assumption) ?_
      · intro w' hSw
        (try dsimp only at hSw)
        (have z := CM.out _ hSw.2.2; go_simp)
      (try simp only [Act.put, List.getElem_toArray, List.getElem_cons_zero, List.getElem_cons_succ, List.setIfInBounds_toArray, List.set_cons_zero, List.set_cons_succ])
      refine wpAnyH_ready (rs := [26]) (by kernel_rfl) (by simp) ?_
      refine AllReadyH.cons rfl (fun K hK => ?_) AllReadyH.nil
      go_simp
      refine Calls.mono (SI.out _ ((Kp.refl We non).drew)) ?_
      rintro e Y1 ⟨rfl, k1⟩
      have K1 : Hid (Kp We Y1 non) := ((Kp.refl We non).drew).trans k1 (fun _ f => f.elim)
      clear k1
      refine hK.out _ _ ((SS.out _ K1.out)) (fun hHeld => ?_)
      clear hK
      (try simp only [Act.put, List.setIfInBounds_toArray, List.set_cons_zero, List.set_cons_succ])
      refine wpAnyH_take (i := 27) (v := (.bool true)) rfl (by kernel_rfl) (by kernel_rfl) (by kernel_rfl) (fun _ _ _ h => h) (Or.inl ⟨by kernel_rfl, ?_⟩) (by assumption) ?_
      · intro w' hSw
        (try dsimp only at hSw)
        go_simp
      (try simp only [Act.put, List.getElem_toArray, List.getElem_cons_zero, List.getElem_cons_succ, List.setIfInBounds_toArray, List.set_cons_zero, List.set_cons_succ])
      refine wpAnyH_take (i := 28) (v := (.bool true)) rfl (by kernel_rfl) (by kernel_rfl) (by kernel_rfl) (fun _ _ _ h => h) (Or.inl ⟨by kernel_rfl, ?_⟩) (by assumption) ?_
      · intro w' hSw
        (try dsimp only at hSw)
        go_simp
      (try simp only [Act.put, List.getElem_toArray, List.getElem_cons_zero, List.getElem_cons_succ, List.setIfInBounds_toArray, List.set_cons_zero, List.set_cons_succ])
      refine wpAnyH_take (i := 29) (v := (.pointer (some ⟨RB, 2, none⟩))) rfl (by kernel_rfl) (by kernel_rfl) (by kernel_rfl) (fun _ _ _ h => h) (Or.inl ⟨by kernel_rfl, ?_⟩) (by assumption) ?_
      · intro w' hSw
        (try dsimp only at hSw)
        go_simp
      (try simp only [Act.put, List.getElem_toArray, List.getElem_cons_zero, List.getElem_cons_succ, List.setIfInBounds_toArray, List.set_cons_zero, List.set_cons_succ])
      refine wpAnyH_take (i := 30) (v := (.slice p1 n1 pc1)) rfl (by kernel_rfl) (by kernel_rfl) (by kernel_rfl) (fun _ _ _ h => h) (Or.inl ⟨by kernel_rfl, ?_⟩) (by assumption) ?_
      · intro w' hSw
        (try dsimp only at hSw)
        (have z := (CR.out _ hSw.1).2.2.1; go_simp)
      (try simp only [Act.put, List.getElem_toArray, List.getElem_cons_zero, List.getElem_cons_succ, List.setIfInBounds_toArray, List.set_cons_zero, List.set_cons_succ])
      refine wpAnyH_take (i := 31) (v := (.slice tao tl tcap)) rfl (by kernel_rfl) (by kernel_rfl) (by kernel_rfl) (fun _ _ _ h => h) (Or.inl ⟨by kernel_rfl, ?_⟩) (by assumption) ?_
      · intro w' hSw
        (try dsimp only at hSw)
        go_simp
      (try simp only [Act.put, List.getElem_toArray, List.getElem_cons_zero, List.getElem_cons_succ, List.setIfInBounds_toArray, List.set_cons_zero, List.set_cons_succ])
      refine wpAnyH_take (i := 32) (v := (.int .i64 (P : Int))) rfl (by kernel_rfl) (by kernel_rfl) (by kernel_rfl) (fun _ _ _ h => h) (Or.inl ⟨by kernel_rfl, ?_⟩) (by assumption) ?_
      · intro w' hSw
        (try dsimp only at hSw)
        go_simp
      (try simp only [Act.put, List.getElem_toArray, List.getElem_cons_zero, List.getElem_cons_succ, List.setIfInBounds_toArray, List.set_cons_zero, List.set_cons_succ])
      refine wpAnyH_take (i := 33) (v := (.pointer (some ⟨T, 0, none⟩))) rfl (by kernel_rfl) (by kernel_rfl) (by kernel_rfl) (fun _ _ _ h => h) (Or.inl ⟨by kernel_rfl, ?_⟩) (by assumption) ?_
      · intro w' hSw
        (try dsimp only at hSw)
        go_simp
      (try simp only [Act.put, List.getElem_toArray, List.getElem_cons_zero, List.getElem_cons_succ, List.setIfInBounds_toArray, List.set_cons_zero, List.set_cons_succ])
      refine wpAnyH_take (i := 34) (v := (.pointer (some ⟨T, 0, none⟩))) rfl (by kernel_rfl) (by kernel_rfl) (by kernel_rfl) (fun _ _ _ h => h) (Or.inl ⟨by kernel_rfl, ?_⟩) (by assumption) ?_
      · intro w' hSw
        (try dsimp only at hSw)
        go_simp
      (try simp only [Act.put, List.getElem_toArray, List.getElem_cons_zero, List.getElem_cons_succ, List.setIfInBounds_toArray, List.set_cons_zero, List.set_cons_succ])
      refine wpAnyH_take (i := 35) (v := (.pointer (some ⟨T, 16, none⟩))) rfl (by kernel_rfl) (by kernel_rfl) (by kernel_rfl) (fun _ _ _ h => h) (Or.inl ⟨by kernel_rfl, ?_⟩) (by assumption) ?_
      · intro w' hSw
        (try dsimp only at hSw)
        go_simp
      (try simp only [Act.put, List.getElem_toArray, List.getElem_cons_zero, List.getElem_cons_succ, List.setIfInBounds_toArray, List.set_cons_zero, List.set_cons_succ])
      refine wpAnyH_take (i := 36) (v := (.slice m1 mn mc1)) rfl (by kernel_rfl) (by kernel_rfl) (by kernel_rfl) (fun _ _ _ h => h) (Or.inl ⟨by kernel_rfl, ?_⟩) (by assumption) ?_
      · intro w' hSw
        (try dsimp only at hSw)
        (have z := CM.out _ hSw.2.2; go_simp)
      (try simp only [Act.put, List.getElem_toArray, List.getElem_cons_zero, List.getElem_cons_succ, List.setIfInBounds_toArray, List.set_cons_zero, List.set_cons_succ])
      refine wpAnyH_ready (rs := [37]) (by kernel_rfl) (by simp) ?_
      refine AllReadyH.cons rfl (fun K hK => ?_) AllReadyH.nil
      go_simp
      refine Calls.mono (WH.out _ K1.out) ?_
      rintro e Y2 ⟨u3, rfl, o3, k2⟩
      have K2 : Hid (Kp We Y2 non) := K1.out.trans k2 (fun _ f => f.elim)
      have SP2 := hide (SP.out _ _ u3 K2.out o3)
      clear k2 o3
      refine hK.out _ _ ((SS.out _ K2.out)) (fun hHeld => ?_)
      clear hK
      (try simp only [Act.put, List.setIfInBounds_toArray, List.set_cons_zero, List.set_cons_succ])
      refine wpAnyH_ready (rs := [38]) (by kernel_rfl) (by simp) ?_
      refine AllReadyH.cons rfl (fun K hK => ?_) AllReadyH.nil
      go_simp
      refine Calls.mono SP2.out ?_
      rintro e Y3 ⟨rfl, k3⟩
      have K3 : Hid (Kp We Y3 non) := K2.out.trans k3 (fun _ f => f.elim)
      clear k3 SP2
      refine hK.out _ _ ((SS.out _ K3.out)) (fun hHeld => ?_)
      clear hK
      (try simp only [Act.put, List.setIfInBounds_toArray, List.set_cons_zero, List.set_cons_succ])
      refine wpAnyH_take (i := 39) (v := (.bool true)) rfl (by kernel_rfl) (by kernel_rfl) (by kernel_rfl) (fun _ _ _ h => h) (Or.inl ⟨by kernel_rfl, ?_⟩) (by assumption) ?_
      · intro w' hSw
        (try dsimp only at hSw)
        go_simp
      (try simp only [Act.put, List.getElem_toArray, List.getElem_cons_zero, List.getElem_cons_succ, List.setIfInBounds_toArray, List.set_cons_zero, List.set_cons_succ])
      refine wpAnyH_ready (rs := [40]) (by kernel_rfl) (by simp) ?_
      refine AllReadyH.cons rfl (fun K hK => ?_) AllReadyH.nil
      go_simp
      refine hK.out _ _ ((SS.out _ K3.out)) (fun hHeld => ?_)
      clear hK
      (try simp only [Act.put, List.setIfInBounds_toArray, List.set_cons_zero, List.set_cons_succ])
      refine wpAnyH_done (by kernel_rfl) ?_ _
      clear hHeld
      go_wp2_with fail
      go_ret
      exact ⟨rfl, (B0.out.trans (BEE.out.mono (Nat.le_of_lt C0.out))).trans ((K3.out.below).mono (Nat.le_trans (Nat.le_of_lt C0.out) BEE.out.size))⟩
end Go.Proofs.Ytbmhllcbkeblfaa.Cn
