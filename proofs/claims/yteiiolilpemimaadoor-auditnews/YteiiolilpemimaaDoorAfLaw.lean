import Derived.Test.YteiiolilpemimaaDoorAfWant
import Derived.Test.YteiiolilpemimaaDoorGAfQue
import Derived.Test.YteiiolilpemimaaDoorGAfTold
import Derived.Test.YteiiolilpemimaaDoorAeLaw
import Derived.Test.YteiiolilpemimaaDoorGGcApp
import Derived.Deep.DeepCutAuto
namespace Go.Proofs.YteiiolilpemimaaDoor.Cn
open Go.RowKit
theorem slS_le {st : ByteArray} {x : Nat → Int} {ns : List ND} (h : ∀ j : Nat, (hdS st x ns (j : Int)).length ≤ 64) (i : Nat) : slS st x ns i ≤ i * 64 := by
  induction i with
  | zero => simp [slS]
  | succ i ih =>
    show slS st x ns i + _ ≤ _
    have := h i
    omega
theorem Op.len {v : Au} {O : List Mg} (h : Op v O) (h16 : v.hs.length ≤ 16) : O.length ≤ 16 := by
  have : (O.map fun m => m.td.toNat).length ≤ 16 := by
    refine nodup_len _ ?_ ?_
    · have hn := h.c
      unfold List.Nodup at hn ⊢
      rw [List.pairwise_map] at hn ⊢
      refine List.Pairwise.imp_of_mem (fun {a b} ha hb hab => ?_) hn
      obtain ⟨q, k, s, _, _, _, rfl⟩ := h.a a ha
      obtain ⟨q', k', s', _, _, _, rfl⟩ := h.a b hb
      intro e
      apply hab
      show (q : Int) = (q' : Int)
      have e' : ((q : Int)).toNat = ((q' : Int)).toNat := e
      omega
    · intro z hz
      obtain ⟨m, hm, rfl⟩ := List.mem_map.1 hz
      obtain ⟨q, k, s, hk, _, _, rfl⟩ := h.a m hm
      have := (List.getElem?_eq_some_iff.1 hk).1
      show ((q : Int)).toNat < 16
      omega
  rwa [List.length_map] at this
/-- the lists of all nodes, in memory -/
structure Lx (W : World) (st : ByteArray) (x : Nat → Int) (ns : List ND) (b0 : Nat) (u : Value) (vs : List Value) : Prop where
  own : W.ownsRow b0 26 1 u ns.length vs
  ls : LsAt W st x ns vs
theorem Lx.kp {W W' : World} {st : ByteArray} {x : Nat → Int} {ns : List ND} {b0 : Nat} {u : Value} {vs : List Value} {S : Nat → Prop} (h : Lx W st x ns b0 u vs) (hk : Kp W W' S) (hS : ∀ k C t fr, W.heap[k]? = some (.cells C t fr) → (t = 3 ∨ t = 26) → ¬ S k) : Lx W' st x ns b0 u vs :=
  ⟨own_kp h.own hk (fun k e => by
    obtain ⟨cur, hc⟩ := own_typ h.own e
    exact hS k _ _ _ hc (Or.inr rfl)), h.ls.kp hk (fun k cur hc => hS k _ _ _ hc (Or.inl rfl))⟩
theorem Lx.kp0 {W W' : World} {st : ByteArray} {x : Nat → Int} {ns : List ND} {b0 : Nat} {u : Value} {vs : List Value} (h : Lx W st x ns b0 u vs) (hk : Kp W W' non) : Lx W' st x ns b0 u vs := h.kp hk (fun _ _ _ _ _ _ f => f)
theorem Lx.aus {W W' : World} {st : ByteArray} {x : Nat → Int} {ns : List ND} {b0 : Nat} {u : Value} {vs : List Value} {A H hc M : Nat} {v : Au} (h : Lx W st x ns b0 u vs) (ha : AuAt W A H hc M v) (hk : Kp W W' (AuS A H M)) : Lx W' st x ns b0 u vs := h.kp hk (fun k C t fr hc ht => ha.not hc (by rcases ht with rfl | rfl <;> decide) (by rcases ht with rfl | rfl <;> decide))
theorem wpList_ldRG {w : World} {ops : Array Oper} {rest : List Oper} {o : Oper} {a : Act} {Q : Exit → Act → World → Prop} (ty : TypeId) (x : Operand) (ho : o.op = .load ty x) (hw : Region.wanted o (yielded ops a.tmps) = true) (b : Nat) (hx : a.eval x = .pointer (some ⟨b, 0, none⟩)) (t : TypeId) (A : Array Value) (hO : w.heap[b]? = some (.cells A t)) {fs} (hu : Tryd.prog.underlying ty = some (.struct fs)) (hi : (Tryd.prog.info? ty).map (·.size) = some A.size)
    (h : wpList Tryd.prog ops Q rest (a.put o.dst (.agg A)) w) : wpList Tryd.prog ops Q (o :: rest) a w := by
  have hl : (Instr.loadAt ty (.pointer (some ⟨b, 0, none⟩))).run Tryd.prog w = .ok (.agg A) w := by
    simp only [Instr.loadAt, Instr.sureAddr, Sem.run_bind, Sem.run_pure, Result.andThen]
    exact run_loadVar_row _ _ t ty A (0, 0) _ hO hu rfl hi
  refine wpList_step fun K hK => ?_
  rw [if_pos hw]
  unfold Oper.wp execOp
  simp only [ho, Sem.run_bind, Sem.run_pure, Result.andThen_ok, hx, hl]
  exact hK _ _ h
theorem Ev.grow {w : World} {N : Nat} {st : ByteArray} {x : Nat → Int} {ao : Option Addr} {b o cap : Nat} {pv : Nat → Value} {ns : List ND} {n A H hc M i : Nat} {v : Au} {wr w' : World} {u : Value} {m : Nat} {xs : List Value} (h : Ev w N st x ao b o cap pv ns n A H hc M i v wr) (hN : N ≤ w.heap.size) (ho : wr.ownsRow w.heap.size 41 11 u m xs) (hk : Kp wr w' (fun k => some k = u.ownBlock)) (hg : 0 < w.heap.size) : Ev w N st x ao b o cap pv ns n A H hc M i v w' := by
  have ge : ∀ k, some k = u.ownBlock → w.heap.size ≤ k := fun k e => own_ge ho e.symm
  have ty : ∀ {k : Nat} {C : Array Value} {t : TypeId} {fr : Nat × Nat}, wr.heap[k]? = some (.cells C t fr) → t ≠ 41 → ¬ some k = u.ownBlock := fun {k C t fr} hc ht e => by
    obtain ⟨cur, hc'⟩ := own_typ ho e.symm
    rw [hc] at hc'
    simp at hc'
    exact ht hc'.2.1
  refine ⟨h.au.kp hk (fun k hk' e => ?_), h.kd, ⟨(hk.block _ (blk_lt h.sd.cl) (ty h.sd.cl (by decide))).trans h.sd.cl, h.sd.nd.below ⟨hk.os, hk.tape, hk.output, hk.size, fun k hk' => hk.block k (Nat.lt_of_lt_of_le hk' h.sd.le) (fun e => by have := ge k e; omega)⟩, Nat.le_trans h.sd.le hk.size⟩, h.be.trans ⟨hk.os, hk.tape, hk.output, hk.size, fun k hk' => hk.block k (Nat.lt_of_lt_of_le hk' h.be.size) (fun e => by have := ge k e; omega)⟩, fun m hm => (hk.cell h.tg.lt (fun e => by have := ge _ e; omega)).trans (h.tg m hm), h.tl⟩
  obtain ⟨cur, hc'⟩ := own_typ ho e.symm
  rcases hk' with hk' | ⟨C, t, fr, hc, ht⟩
  · exact h.au.not hc' (by decide) (by decide) hk'
  · rw [hc] at hc'
    simp at hc'
    rcases ht with rfl | rfl
    · exact absurd hc'.2.1 (by decide)
    · exact absurd hc'.2.1 (by decide)
theorem Lx.grow {W W' : World} {st : ByteArray} {x : Nat → Int} {ns : List ND} {b0 b1 m : Nat} {u u1 : Value} {vs xs : List Value} (h : Lx W st x ns b0 u vs) (ho : W.ownsRow b1 41 11 u1 m xs) (hk : Kp W W' (fun k => some k = u1.ownBlock)) : Lx W' st x ns b0 u vs := h.kp hk (fun k C t fr hc ht e => by
  obtain ⟨cur, hc'⟩ := own_typ ho e.symm
  rw [hc] at hc'
  simp at hc'
  rcases ht with rfl | rfl
  · exact absurd hc'.2.1 (by decide)
  · exact absurd hc'.2.1 (by decide))
set_option maxHeartbeats 16000000 in
set_option maxRecDepth 100000 in
set_option linter.unusedSimpArgs false in
set_option linter.unusedVariables false in
theorem tells_any (N : Nat) (w : World) (st : ByteArray) (x : Nat → Int) (ao : Option Addr) (b o cap : Nat) (pv : Nat → Value) (ns : List ND) (h : NsAt N w ao b o pv ns) (hN : N ≤ w.heap.size) (hs : st.size ≤ 9223372036854775807) (hT : TabG w) (ao2 : Option Addr) (bb oo cap2 : Nat) (ys : List Ce) (hR : RwAt 5 ceV w.heap.size w ao2 bb oo ys) (ver : Int) (ao3 : Option Addr) (b3 o3 cap3 : Nat) (PK : List Int) (hP : RwAt 1 (fun n : Int => #[Value.int .i64 n]) w.heap.size w ao3 b3 o3 PK) :
    Calls Tryd.prog 3 #[.agg (clA st x (.slice ao ns.length cap)), .slice ao2 ys.length cap2, .int .i64 ver, .slice ao3 PK.length cap3] w fun e w' => e = .returned (.bool true) ∧ Below w.heap.size w w' := by
  have hps : ∀ (q : Nat) (hq : q < ns.length), ns[q].ps.length ≤ 17592186043904 := fun q hq => by
    obtain ⟨_, _, _, _, _, hp⟩ := h.ps q hq
    exact hp.len
  have hlen := h.len
  obtain ⟨W0, hW0, hX⟩ := boxed st x cap h hN
  have HX := hide (hX.stand hN)
  have B0 := hide hX.bel
  have T0 := hide (hT.below hX.bel)
  have TGL : Hid (0 < w.heap.size) := hT.lt
  clear hX h hT
  have TW := hide (twin19_any N W0 st x ao b o cap pv ns HX.out.nd HX.out.le)
  have NU := hide fun w n => num19 w n
  have HRR := hide hR
  have HPP := hide hP
  have NW : Hid (∀ W1 vl zs, zs.length = ns.length → Tw (W0.heap.size + 2) W1 ns vl zs → ∃ ao' b' cap' pv', vl = .slice ao' ns.length cap' ∧ NsAt W1.heap.size W1 ao' b' 0 pv' ns) := fun W1 vl zs hz ht => by
    obtain ⟨a, b, c, e1, e2⟩ := ht.nodes hz hlen hps
    exact ⟨a, b, c, _, e1, e2⟩
  obtain ⟨pn, hpn⟩ : ∃ pn, pn = PK.length := ⟨_, rfl⟩
  have HPN := hide hpn
  obtain ⟨yn, hyn⟩ : ∃ yn, yn = ys.length := ⟨_, rfl⟩
  have HYN := hide hyn
  rw [← hpn, ← hyn]
  clear hR hP hps hlen hpn hyn
  go_enter Tryd.func3, Tryd.ntmps3
  go_upto_region 1 with fail
  rw [← hW0]
  clear hW0
  go_wp2_with (refine YteiiolilpemimaaDoor.wpList_loadCl rfl (.tmp 4) rfl w.heap.size st x _ rfl HX.out.cl ?_)
  refine Calls.mono TW.out ?_
  rintro e W1 ⟨vl, zs, rfl, hz, tw, b1⟩
  obtain ⟨ao', b', cap', pv', rfl, hn1⟩ := NW.out W1 vl zs hz tw
  have N1 := hide hn1
  have X1 := hide (HX.out.below b1)
  have B1 := hide (B0.out.trans (b1.mono B0.out.size))
  have T1 := hide (T0.out.below b1)
  clear hz tw b1 hn1 TW NW HX B0 T0
  by_cases he : errP st x ns = 0
  case neg =>
    have NN := hide (New_no W1.heap.size W1 st x ao' b' 0 cap' pv' ns N1.out (Nat.le_refl _) hs he)
    obtain ⟨er, her⟩ : ∃ er, er = errP st x ns := ⟨_, rfl⟩
    have HER := hide her
    rw [← her] at NN he
    clear her
    go_wp2_with fail
    refine Calls.mono NN.out ?_
    rintro e W2 ⟨rfl, b2⟩
    have CK := hide (rcheck_any N W2 st x ao b o cap pv ns (X1.out.below b2).nd (X1.out.below b2).le hs (T1.out.below b2))
    have X2 := hide (X1.out.below b2)
    have B2 := hide (B1.out.trans (b2.mono B1.out.size))
    rw [← HER.out] at CK
    clear b2 NN
    go_wp2_with (refine YteiiolilpemimaaDoor.wpList_loadCl rfl (.tmp 4) rfl w.heap.size st x _ rfl X2.out.cl ?_)
    refine Calls.mono CK.out ?_
    rintro e W3 ⟨rfl, b3'⟩
    have B3 := hide (B2.out.trans (b3'.mono B2.out.size))
    clear b3' CK
    have q0 : (er != 0) = true := by simpa using he
    have q1 : (er == er) = true := by simp
    go_wp2_with (go_at_call 9; refine Calls.mono (NU.out _ _) ?_; rintro e w' ⟨rfl, rfl⟩)
    go_ret
    exact ⟨rfl, B3.out⟩
  case pos =>
  have NN := hide (New_ok W1.heap.size W1 st x ao' b' 0 cap' pv' ns N1.out (Nat.le_refl _) hs he)
  go_wp2_with fail
  refine Calls.mono NN.out ?_
  rintro e W2 ⟨A, rfl, H, hc, M, v0, a2, hA2, nv, b2⟩
  have KD := hide (nv.kd he)
  have AU := hide a2
  have NV := hide nv
  have TL : Hid (Tl0 v0) := fun _ => nv.z.2.2.2.1
  have HAG : Hid (w.heap.size ≤ A ∧ w.heap.size ≤ H ∧ w.heap.size ≤ M) := ⟨Nat.le_trans B1.out.size hA2.1, Nat.le_trans B1.out.size hA2.2.1, Nat.le_trans B1.out.size hA2.2.2⟩
  have CK := hide (rcheck_any N W2 st x ao b o cap pv ns (X1.out.below b2).nd (X1.out.below b2).le hs (T1.out.below b2))
  have X2 := hide (X1.out.below b2)
  have B2 := hide (B1.out.trans (b2.mono B1.out.size))
  have T2 := hide (T1.out.below b2)
  rw [he] at CK
  clear a2 hA2 nv b2 NN N1 X1 B1 T1
  go_wp2_with (refine YteiiolilpemimaaDoor.wpList_loadCl rfl (.tmp 4) rfl w.heap.size st x _ rfl X2.out.cl ?_)
  refine Calls.mono CK.out ?_
  rintro e W3 ⟨rfl, b3'⟩
  have k3 : Kp W2 W3 non := Kp.of_below b3' non
  have E3 : Hid (Ev w N st x ao b o cap pv ns (x 0).toNat A H hc M 0 v0 W3) := ⟨AU.out.kp0 k3, KD.out, X2.out.below b3', B2.out.trans (b3'.mono B2.out.size), T2.out.below b3', TL.out⟩
  have HE := hide he
  have HSS := hide hs
  have HNN := hide hN
  clear k3 b3' CK AU X2 B2 T2 he hs
  by_cases hv1 : ver < 1
  case pos =>
    go_wp2_with (go_at_call 9; refine Calls.mono (NU.out _ _) ?_; rintro e w' ⟨rfl, rfl⟩)
    go_ret
    exact ⟨rfl, E3.out.be⟩
  case neg =>
  by_cases hv2 : 999999 < ver
  case pos =>
    go_wp2_with (go_at_call 9; refine Calls.mono (NU.out _ _) ?_; rintro e w' ⟨rfl, rfl⟩)
    go_ret
    exact ⟨rfl, E3.out.be⟩
  case neg =>
  have BG := hide (Begin_a E3.out.au E3.out.kd.ok ver ⟨E3.out.kd.num.1, by have := E3.out.kd.num.2; omega⟩)
  have HVV := hide (And.intro hv1 hv2)
  go_wp2_with (go_at_call 9; refine Calls.mono (NU.out _ _) ?_; rintro e w' ⟨rfl, rfl⟩)
  refine Calls.mono BG.out ?_
  rintro e W4 ⟨u4, L4, er, v4, rfl, o4, a4, k4, r4⟩
  have hb0 : busyL v0.hs = false := by
    unfold busyL
    rw [List.any_eq_false]
    intro k hk
    obtain ⟨j, hj⟩ := List.mem_iff_getElem?.1 hk
    have := (NV.out.hs j k hj).2.1
    simp [this]
  have hiv : isV ver = true := by
    unfold isV
    rw [Bool.and_eq_true, decide_eq_true_eq, decide_eq_true_eq]
    omega
  obtain ⟨rfl, rfl, rfl⟩ : L4 = begL v0 ver v0.hs.length ∧ er = 0 ∧ v4 = v0.bg ver v0.hs.length := by
    rcases r4 with ⟨q, _⟩ | ⟨_, q, _⟩ | ⟨_, _, q⟩
    · rw [hb0] at q
      exact absurd q (by decide)
    · rw [hiv] at q
      exact absurd q (by decide)
    · exact q
  have E4 := hide (E3.out.next hN HAG.out a4 k4 (E3.out.kd.beg r4) (tl_beg E3.out.tl r4) TGL.out)
  have DS : Hid (Ds (hdN st x ns) ns.length (v0.bg ver v0.hs.length).hs) := ⟨E4.out.kd.len, fun j k hj => E4.out.kd.sl j k hj⟩
  have SA4 : Hid (Sa ys ver (x 0).toNat (v0.bg ver v0.hs.length) (begL v0 ver v0.hs.length) 0) := by
    refine Sa.start (uq_of HE.out E3.out.kd.sl) NV.out.z.2.1 NV.out.z.2.2.2.1 (fun k hk => ?_) ?_
    · obtain ⟨j, hj⟩ := List.mem_iff_getElem?.1 hk
      exact (NV.out.hs j k hj).2.1
    · obtain ⟨j, hjl, hjs⟩ := some_holds HE.out
      have hj2 : j < (v0.bg ver v0.hs.length).hs.length := by rw [E4.out.kd.len]; exact hjl
      have hk := List.getElem?_eq_getElem hj2
      refine un_busy (bg_Un E3.out.kd ver hb0) hk ?_
      rw [E4.out.kd.sl j _ hk]
      exact hjs
  have O4 : Hid (W4.ownsRow w.heap.size 41 11 u4 (begL v0 ver v0.hs.length).length (mgs (begL v0 ver v0.hs.length))) := own_base o4 E3.out.be.size
  obtain ⟨u4a, u4c, rfl⟩ := own_sl o4
  clear o4 a4 k4 r4 hb0 hiv BG E3 NV
  generalize begL v0 ver v0.hs.length = O at *
  generalize v0.bg ver v0.hs.length = v1 at *
  have LI := hide (lists_a N W4 st x ao b o cap pv ns E4.out.sd.nd E4.out.sd.le HSS.out HE.out E4.out.tg)
  go_wp2_with (first | (go_at_call 9; refine Calls.mono (NU.out _ _) ?_; rintro e w' ⟨rfl, rfl⟩) | refine YteiiolilpemimaaDoor.wpList_loadCl rfl (.tmp 4) rfl w.heap.size st x _ rfl E4.out.sd.cl ?_)
  refine Calls.mono LI.out ?_
  rintro e W5 ⟨u5, vs, rfl, o5, ls5, b5⟩
  have k5 : Kp W4 W5 non := Kp.of_below b5 non
  have E5 := hide (E4.out.same hN HAG.out k5 TGL.out)
  have LX5 : Hid (Lx W5 st x ns w.heap.size u5 vs) := ⟨own_base o5 E4.out.be.size, ls5⟩
  have O5 : Hid (W5.ownsRow w.heap.size 41 11 (.slice u4a O.length u4c) O.length (mgs O)) := own_kp O4.out k5 (fun _ _ f => f)
  obtain ⟨u5a, u5c, rfl⟩ := own_sl o5
  obtain ⟨cn, hcn⟩ : ∃ cn, cn = ns.length := ⟨_, rfl⟩
  have HCN := hide hcn
  have hcn16 : cn ≤ 16 := by rw [hcn, ← E5.out.kd.len]; exact E5.out.kd.ok.n16
  have VL : Hid (vs.length = cn) := by show vs.length = cn; have := o5.1; rw [hcn]; omega
  have LN : Hid (∀ j : Nat, (hdS st x ns (j : Int)).length ≤ 64) := fun j => by
    unfold hdS
    split
    · exact Nat.le_trans (hdL_len _ _ _ _) (errP_all HE.out).2.2.2.1.p2
    · simp
  rw [← hcn]
  have LX6 : Hid (Lx W5 st x ns w.heap.size (.slice u5a cn u5c) vs) := by rw [hcn]; exact LX5.out
  clear o5 ls5 b5 k5 LI E4 O4 hcn LX5
  have LX5 := LX6
  clear LX6
  go_wp2_with fail
  go_loopw [16, 17] (fun v16 v17 wr => ∃ i : Nat, i ≤ cn ∧ v17 = .int .i64 (i : Int) ∧ v16 = .int .i64 (slS st x ns i : Int) ∧ W5 = wr) (fun _ v17 _ => cn - (intOf v17).toNat)
  case atStart => exact ⟨0, Nat.zero_le _, rfl, rfl, rfl⟩
  case round =>
    obtain ⟨i, hi, rfl, rfl, rfl⟩ := hrel
    have SB := slS_le LN.out i
    by_cases hin : i < cn
    case pos =>
      have hii : (i : Int) < (cn : Int) := by omega
      obtain ⟨vi, hvi⟩ : ∃ vi, vs[i]? = some vi := ⟨_, List.getElem?_eq_getElem (by have := VL.out; omega)⟩
      have lq := LX5.out.ls i vi hvi
      obtain ⟨a1, n1, rfl⟩ := own_sl lq
      obtain ⟨g, c', eu, qg, -⟩ := own_at LX5.out.own hvi
      have ed : (ptsL (hdS st x ns (i : Int))).length = (hdS st x ns (i : Int)).length := by unfold ptsL; rw [List.length_map]
      rw [ed] at qg
      have SS : Hid (slS st x ns (i + 1) = slS st x ns i + (hdS st x ns (i : Int)).length) := rfl
      have l64 := LN.out i
      generalize (hdS st x ns (i : Int)).length = ln at *
      generalize slS st x ns i = si at *
      injection eu with eu _ ec
      subst eu
      clear ec hvi lq ed
      go_wp2_with fail
      go_roundw
      case rel => exact ⟨i + 1, by omega, by go_num, by rw [SS.out]; simp⟩
      case measure => simp [intOf]; omega
    case neg =>
      obtain rfl : i = cn := by omega
      have hii : ¬ (i : Int) < (i : Int) := by omega
      obtain ⟨SL, hSL⟩ : ∃ SL, SL = slS st x ns i := ⟨_, rfl⟩
      have HSL := hide hSL
      rw [← hSL] at SB ⊢
      clear hSL
      have SLB := hide SB
      have CNT : Hid (∀ v c O, Kd st x ns (x 0).toNat 1 v → Sa ys ver (x 0).toNat v O c → c ≤ SL) := fun v c O hk ha => by
        have z := ha.count (fun k hk' h1 => (hk.ok.hk k hk').pl h1)
        rw [sl_sum hk.sl, hk.len, ← HCN.out, ← HSL.out] at z
        exact z
      go_wp2_with fail
      go_loopw [12, 15, 18] (fun v12 v15 v18 wr => ∃ (c : Nat) (v : Au) (O : List Mg) (oa : Option Addr) (oc : Nat), v18 = .int .i64 (c : Int) ∧ v15 = .int .i64 (c : Int) ∧ v12 = .slice oa O.length oc ∧ Hid (wr.ownsRow w.heap.size 41 11 (.slice oa O.length oc) O.length (mgs O)) ∧ Hid (Ev w N st x ao b o cap pv ns (x 0).toNat A H hc M 1 v wr) ∧ Hid (Sa ys ver (x 0).toNat v O c) ∧ Hid (Ds (hdN st x ns) ns.length v.hs) ∧ Hid (Lx wr st x ns w.heap.size (.slice u5a i u5c) vs)) (fun _ _ v18 _ => SL + 1 - (intOf v18).toNat)
      case atStart => exact ⟨0, v1, O, u4a, u4c, rfl, rfl, rfl, O5.out, E5.out, SA4.out, DS.out, LX5.out⟩
      case round =>
        clear O5 E5 SA4 DS LX5 SB
        obtain ⟨c, v, O, oa, oc, rfl, rfl, rfl, HO, HEV, HSA, HDS, HLX⟩ := hrel
        have hcS := CNT.out v c O HEV.out.kd HSA.out
        have hSB := SLB.out
        by_cases hO : O = []
        case pos =>
          subst hO
          have rw9 := HSA.out.last HDS.out
          obtain ⟨DL, hDL⟩ : ∃ DL, DL = v.dl := ⟨_, rfl⟩
          obtain ⟨ML, hML⟩ : ∃ ML, ML = v.ml := ⟨_, rfl⟩
          have hjb : v.last.job ≠ 0 := by show v.jb ≠ 0; rw [rw9.jb]; decide
          have DLB : DL.length ≤ 64 := by rw [hDL, rw9.dl]; exact difN_len _ 64
          have MLB : ML.length ≤ 16 := by rw [hML, rw9.ml]; have z := missW_len ys (hdN st x ns) ns.length; have z2 := HEV.out.kd.len; have z3 := HEV.out.kd.ok.n16; omega
          have RP := hide (Report_yes HEV.out.au HEV.out.kd.ok.n0 hjb (by show v.dl.length ≤ _; rw [← hDL]; omega) (by show v.ml.length ≤ _; rw [← hML]; omega))
          obtain ⟨P, hP⟩ : ∃ P : Rp, P = ⟨1, ver, outO DL.length ML.length, [], []⟩ := ⟨_, rfl⟩
          have EQ : Hid (∀ a b, rpA v.last a b = rpA P a b) := fun a b => by
            show (#[.int .i64 v.jb, .int .i64 v.jv, .int .i64 v.jo, a, b] : Array Value) = _
            rw [rw9.jb, rw9.jv, rw9.jo, ← hDL, ← hML, hP]
            rfl
          have EDH : Hid (v.last.hs = DL) := hDL.symm
          have EMS : Hid (v.last.ms = ML) := hML.symm
          have WDL : Hid (difW (cellW ys (hdN st x ns) ns.length) = DL) := by rw [hDL]; exact rw9.dl.symm
          have WML : Hid (missW ys (hdN st x ns) ns.length = ML) := by rw [hML]; exact rw9.ml.symm
          have BZ : Hid (busyL v.hs = false) := rw9.idle
          have ALL : Hid (ML = [] → c = SL) := fun e => by
            have z := rw9.al (by rw [← hML]; exact e)
            rw [sl_sum HEV.out.kd.sl, HEV.out.kd.len, ← HCN.out, ← HSL.out] at z
            exact z
          have HPE := hide hP
          clear rw9 hDL hML hjb hP
          have ho0 : ¬ (0 : Int) < (([] : List Mg).length : Int) := by simp
          go_wp2_with fail
          refine Calls.mono RP.out ?_
          rintro e W6 ⟨nh, nm, rfl, o1, o2, b6⟩
          rw [EDH.out] at o1
          rw [EMS.out] at o2
          rw [EQ.out]
          have NH : Hid (∃ a n c, nh = .slice a n c) := by obtain ⟨a, c, e⟩ := own_sl o1; exact ⟨a, _, c, e⟩
          have NM : Hid (∃ a n c, nm = .slice a n c) := by obtain ⟨a, c, e⟩ := own_sl o2; exact ⟨a, _, c, e⟩
          obtain ⟨W7, hW7⟩ : ∃ W7, W7 = W6.alloc (.cells (rpA P nh nm) 49) := ⟨_, rfl⟩
          obtain ⟨R1, hR1⟩ : ∃ R1, R1 = W6.heap.size := ⟨_, rfl⟩
          have k6 : Kp wr W6 non := Kp.of_below b6 non
          have k76 : Kp W6 W7 non := by rw [hW7]; exact (Kp.refl W6 non).alloc _
          have E7 := hide (HEV.out.same HNN.out HAG.out (k6.trans k76 (fun _ f => f.elim)) TGL.out)
          have A7 : Hid (W7.heap[R1]? = some (.cells (rpA P nh nm) 49)) := by rw [hW7, hR1]; exact heap_last W6 _
          have D7 := hide (own_kp o1 k76 (fun _ _ f => f))
          have N7 := hide (own_kp o2 k76 (fun _ _ f => f))
          have WA := hide (want_a N W7 st x ao b o cap pv ns E7.out.sd.nd E7.out.sd.le HSS.out HE.out E7.out.tg w.heap.size ao2 bb oo cap2 ys (HRR.out.below E7.out.be) E7.out.be.size ver)
          rw [← HYN.out, WDL.out, WML.out, ← HPE.out] at WA
          clear o1 o2 b6 k6 k76 RP HEV HSA HDS HLX HO EQ EDH EMS
          go_upto_region 46 with (refine wpList_stR rfl 49 (.tmp 27) (.tmp 209) rfl W6.heap.size rfl (rpA P nh nm) _ rfl _ (heap_last _ _) rp_info rfl (rp_one _ NH.out NM.out) ?_)
          rw [World.setRow_alloc_new, ← hW7, ← hR1]
          clear hW7 hR1
          go_wp2_with (refine YteiiolilpemimaaDoor.wpList_loadCl rfl (.tmp 4) rfl w.heap.size st x _ rfl E7.out.sd.cl ?_)
          refine Calls.mono WA.out ?_
          rintro e W8 ⟨dv, mv, rfl, o1, o2, b8⟩
          have NH2 : Hid (∃ a n c, dv = .slice a n c) := by obtain ⟨a, c, e⟩ := own_sl o1; exact ⟨a, _, c, e⟩
          obtain ⟨ma, mc, rfl⟩ := own_sl o2
          obtain ⟨W9, hW9⟩ : ∃ W9, W9 = W8.alloc (.cells (rpA P dv (.slice ma ML.length mc)) 49) := ⟨_, rfl⟩
          obtain ⟨R2, hR2⟩ : ∃ R2, R2 = W8.heap.size := ⟨_, rfl⟩
          have k8 : Kp W7 W8 non := Kp.of_below b8 non
          have k98 : Kp W8 W9 non := by rw [hW9]; exact (Kp.refl W8 non).alloc _
          have k97 : Kp W7 W9 non := k8.trans k98 (fun _ f => f.elim)
          have E9 := hide (E7.out.same HNN.out HAG.out k97 TGL.out)
          have A9 : Hid (W9.heap[R1]? = some (.cells (rpA P nh nm) 49)) := (k97.block _ (blk_lt A7.out) (fun f => f)).trans A7.out
          have B9 : Hid (W9.heap[R2]? = some (.cells (rpA P dv (.slice ma ML.length mc)) 49)) := by rw [hW9, hR2]; exact heap_last W8 _
          have D9 := hide (own_kp D7.out k97 (fun _ _ f => f))
          have N9 := hide (own_kp N7.out k97 (fun _ _ f => f))
          have D9b := hide (own_kp o1 k98 (fun _ _ f => f))
          have N9b := hide (own_kp o2 k98 (fun _ _ f => f))
          clear o1 o2 b8 k8 k98 k97 WA E7 A7 D7 N7
          go_upto_region 47 with (refine wpList_stR rfl 49 (.tmp 29) (.tmp 214) rfl W8.heap.size rfl (rpA P dv (.slice ma ML.length mc)) _ rfl _ (heap_last _ _) rp_info rfl (rp_one _ NH2.out ⟨_, _, _, rfl⟩) ?_)
          rw [World.setRow_alloc_new, ← hW9, ← hR2]
          clear hW9 hR2
          have BU := hide (Busy_a E9.out.au E9.out.kd.ok.n0 (by have := E9.out.kd.ok.n16; omega))
          rw [BZ.out] at BU
          have FIN : Hid (∀ X, Kp W9 X non → X.heap[R1]? = some (.cells (rpA P nh nm) 49) ∧ X.heap[R2]? = some (.cells (rpA P dv (.slice ma ML.length mc)) 49) ∧ (Calls Tryd.prog 19 #[.agg (rpA P nh nm), .agg (rpA P dv (.slice ma ML.length mc))] X fun e w' => e = .returned (.bool true) ∧ Kp X w' non)) := fun X hX => ⟨(hX.block _ (blk_lt A9.out) (fun f => f)).trans A9.out, (hX.block _ (blk_lt B9.out) (fun f => f)).trans B9.out, sameRep_a P (own_kp D9.out hX (fun _ _ f => f)) (own_kp D9b.out hX (fun _ _ f => f)) (own_kp N9.out hX (fun _ _ f => f)) (own_kp N9b.out hX (fun _ _ f => f)) (by omega) (by omega)⟩
          clear A9 B9 D9 N9 D9b N9b
          have END : Hid (ML.length = 0 → c = SL) := fun e => ALL.out (List.length_eq_zero_iff.1 e)
          clear ALL
          go_wp2_with fail
          refine Calls.mono BU.out ?_
          rintro e W10 ⟨rfl, k10⟩
          obtain ⟨r1, r2, sr⟩ := FIN.out W10 k10
          have K10 := hide k10
          have R1H := hide r1
          have R2H := hide r2
          have SRH := hide sr
          clear k10 r1 r2 sr BU
          go_wp2_with (first | (go_at_call 9; refine Calls.mono (NU.out _ _) ?_; rintro e w' ⟨rfl, rfl⟩) | refine wpList_ldRG 49 (.tmp 27) rfl (by kernel_rfl) R1 rfl _ (rpA P nh nm) R1H.out Tryd.underlying49 rp_info ?_ | refine wpList_ldRG 49 (.tmp 29) rfl (by kernel_rfl) R2 rfl _ (rpA P dv (.slice ma ML.length mc)) R2H.out Tryd.underlying49 rp_info ?_)
          refine Calls.mono SRH.out ?_
          rintro e W11 ⟨rfl, k11⟩
          have KF := hide (K10.out.trans k11 (fun _ f => f.elim))
          have r3 := (FIN.out W11 KF.out).2.1
          have c4 : W11.cell? ⟨R2, 4, none⟩ = some (.slice ma ML.length mc) := by rw [cell_row r3]; rfl
          have BE : Hid (Below w.heap.size w W11) := (E9.out.same HNN.out HAG.out KF.out TGL.out).be
          clear k11 r3
          by_cases hm0 : 0 < ML.length
          case pos =>
            have hm0i : (0 : Int) < (ML.length : Int) := by omega
            go_wp2_with fail
            go_ret
            exact ⟨rfl, BE.out⟩
          case neg =>
            have hm0i : ¬ (0 : Int) < (ML.length : Int) := by omega
            have ecs : c = SL := END.out (by omega)
            subst ecs
            have qz : ((c : Int) == (c : Int)) = true := by simp
            go_wp2_with fail
            go_ret
            exact ⟨rfl, BE.out⟩
        case neg =>
          have hOl : 0 < O.length := List.length_pos_iff.2 hO
          have hOi : (0 : Int) < (O.length : Int) := by omega
          have hbz := HSA.out.more hO
          have BU := hide (Busy_a HEV.out.au HEV.out.kd.ok.n0 (by have := HEV.out.kd.ok.n16; omega))
          rw [hbz] at BU
          have hcSi : ¬ (SL : Int) < (c : Int) := by omega
          have HO6B : O.length ≤ 16 := HSA.out.op.len HEV.out.kd.ok.n16
          have HOL := hide hOl
          clear hO hOl hbz
          obtain ⟨on, hon⟩ : ∃ on, on = O.length := ⟨_, rfl⟩
          have HON := hide hon
          rw [← hon] at HO hOi HO6B ⊢
          clear hon
          go_upto_region 24 with (go_at_call 12; refine Calls.mono BU.out ?_; rintro e W6 ⟨rfl, k6⟩)
          have E6 := hide (HEV.out.same HNN.out HAG.out k6 TGL.out)
          have O6 := hide (own_kp HO.out k6 (fun _ _ f => f))
          have L6 := hide (HLX.out.kp0 k6)
          clear k6 BU HEV HO HLX
          obtain ⟨pk, hpk⟩ : ∃ pk : Int, pk = PK.getD c 0 := ⟨_, rfl⟩
          obtain ⟨cd, hcd⟩ : ∃ cd : Bool, cd = (decide (c < pn) && decide (0 ≤ pk)) := ⟨_, rfl⟩
          have HCD := hide hcd
          have PC : Hid (c < pn → ao3 = some ⟨b3, o3, none⟩ ∧ W6.cell? ⟨b3, o3 + c, none⟩ = some (.int .i64 pk)) := fun hc => by
            have hcl : c < PK.length := by rw [← HPN.out]; exact hc
            refine ⟨HPP.out.at0 (by omega), ?_⟩
            have z := (HPP.out.below E6.out.be).c c hcl 0 (.int .i64 PK[c]) rfl
            rw [hpk, List.getD_eq_getElem?_getD, List.getElem?_eq_getElem hcl]
            simpa using z
          clear hpk hcd
          go_cut [113] (fun v wx => v = .bool cd ∧ W6 = wx)
          case first =>
            by_cases hc1 : c < pn
            case neg =>
              have hc1i : ¬ (c : Int) < (pn : Int) := by omega
              have ecd : cd = false := by rw [HCD.out, decide_eq_false hc1]; rfl
              subst ecd
              go_wp2_with fail
              go_meet
              exact ⟨rfl, rfl⟩
            case pos =>
              have hc1i : (c : Int) < (pn : Int) := by omega
              obtain ⟨rfl, pc⟩ := PC.out hc1
              by_cases hz : 0 ≤ pk
              case neg =>
                have ecd : cd = false := by rw [HCD.out, decide_eq_false hz, Bool.and_false]
                subst ecd
                go_wp2_with fail
                go_meet
                exact ⟨rfl, rfl⟩
              case pos =>
                have ecd : cd = true := by rw [HCD.out, decide_eq_true hz, decide_eq_true hc1]; rfl
                subst ecd
                go_wp2_with fail
                go_meet
                exact ⟨rfl, rfl⟩
          case rest =>
            obtain ⟨rfl, rfl⟩ := hcut
            go_upto_if 113 with fail
            go_cut [19, 20] (fun v19 v20 wx => ∃ (at' : Nat) (tw : Bool), v19 = .int .i64 (at' : Int) ∧ v20 = .bool tw ∧ at' < on ∧ W6 = wx)
            case first =>
              cases cd
              case false =>
                go_wp2_with fail
                go_meet
                exact ⟨0, false, rfl, rfl, by have := HOL.out; rw [HON.out]; exact this, rfl⟩
              case true =>
                have hq := HCD.out.symm
                rw [Bool.and_eq_true, decide_eq_true_eq, decide_eq_true_eq] at hq
                obtain ⟨hc1, hz⟩ := hq
                have hc1i : (c : Int) < (pn : Int) := by omega
                obtain ⟨rfl, pc⟩ := PC.out hc1
                have t0 : 0 ≤ pk.tmod (on : Int) := Int.tmod_nonneg _ hz
                have t1 : pk.tmod (on : Int) < (on : Int) := Int.tmod_lt_of_pos _ hOi
                have hon47 : (on : Int) < 9223372036854775808 := by have := HO6B; omega
                obtain ⟨ta, hta⟩ : ∃ ta : Int, ta = pk.tmod (on : Int) := ⟨_, rfl⟩
                obtain ⟨tb, htb⟩ : ∃ tb : Int, tb = pk.tmod 3 := ⟨_, rfl⟩
                have HTA := hide hta
                have HTB := hide htb
                rw [← hta] at t0 t1
                clear hta htb hz
                go_wp2_with (first | (refine YteiiolilpemimaaDoor.wpList_remi rfl (.tmp 117) (.tmp 119) rfl pk (on : Int) rfl rfl hOi hon47 ?_; rw [← HTA.out]) | (refine YteiiolilpemimaaDoor.wpList_remi rfl (.tmp 124) (.const (.int .i64 3)) rfl pk 3 rfl rfl (by omega) (by omega) ?_; rw [← HTB.out]))
                go_meet
                refine ⟨ta.toNat, _, ?_, rfl, by omega, rfl⟩
                rw [Int.toNat_of_nonneg t0]
            case rest =>
              obtain ⟨at', tw, rfl, rfl, hat, rfl⟩ := hcut
              have hatL : at' < O.length := by rw [← HON.out]; exact hat
              obtain ⟨m, hm⟩ : ∃ m, m = O[at'] := ⟨_, rfl⟩
              have hmo : O[at']? = some m := by rw [hm]; exact List.getElem?_eq_getElem hatL
              obtain ⟨qn, k, s, hk, h1, hsl, hmq⟩ := HSA.out.op.a m (List.mem_of_getElem? hmo)
              have hm2 : m = ⟨13, 66, (qn : Int), 1, 0, (s.1 : Int), ver, 0, 0, ⟨#[]⟩, ⟨#[]⟩⟩ := by rw [hmq]; unfold qM; rw [HSA.out.nm, HSA.out.ve]
              have HMO := hide hmo
              have HM2 := hide hm2
              have hqn : qn < ns.length := by have z := (List.getElem?_eq_some_iff.1 hk).1; rw [E6.out.kd.len] at z; exact z
              have hslq : (hdS st x ns (qn : Int))[k.pl]? = some s := by rw [← E6.out.kd.sl qn k hk]; exact hsl
              have HQS := hide (And.intro hqn hslq)
              have e0 : (mgs O)[at' * 11 + 0]? = some (.int .i64 m.kind) := by rw [mgs_at O at' hatL 0 (by omega), ← hm]; rfl
              obtain ⟨g, c9, e9, -, -⟩ := own_at O6.out e0
              injection e9 with e9 _ ec
              subst e9
              subst ec
              have RG : Hid (W6.rangeAt g (at' * 11) (mgV m).toList) := fun j u hj => by
                have hj11 : j < 11 := by have := (List.getElem?_eq_some_iff.1 hj).1; simpa [mgV] using this
                have e1 : (mgs O)[at' * 11 + j]? = some u := by rw [mgs_at O at' hatL j hj11, ← hm]; simpa using hj
                obtain ⟨g', c', e', q', -⟩ := own_at O6.out e1
                injection e' with e' _ _
                injection e' with e'
                injection e' with e' _ _
                rw [e']
                exact q'
              have hatI : (at' : Int) < (on : Int) := by omega
              obtain ⟨W7, hW7⟩ : ∃ W7, W7 = W6.alloc (.cells (mgV m) 41) := ⟨_, rfl⟩
              obtain ⟨Q, hQ⟩ : ∃ Q, Q = W6.heap.size := ⟨_, rfl⟩
              have k7 : Kp W6 W7 non := by rw [hW7]; exact (Kp.refl W6 non).alloc _
              have M7 : Hid (MgAt W7 Q m) := by rw [hW7, hQ]; exact MgAt.new W6 m
              have E7 := hide (E6.out.same HNN.out HAG.out k7 TGL.out)
              have L7 := hide (L6.out.kp0 k7)
              have O7 : W7.ownsRow w.heap.size 41 11 (.slice (some ⟨g, 0, none⟩) O.length oc) O.length (mgs O) := by rw [← HON.out]; exact own_kp O6.out k7 (fun _ _ f => f)
              have WO := hide (without_a O7 (by rw [← HON.out]; omega) at')
              rw [← HON.out] at WO
              clear O7 k7 hm hmo hmq hm2 hk h1 hsl hqn hslq e0 hatL E6 L6 O6 PC HCD
              go_upto_region 28 with (first | refine wpList_load_mid rfl 41 (.tmp 129) rfl g (at' * 11) rfl (mgV m).toList _ RG.out Tryd.underlying41 rfl mg_info ?_ | refine wpList_stR rfl 41 (.tmp 21) (.tmp 130) rfl W6.heap.size rfl (mgV m) _ rfl _ (heap_last _ _) mg_info rfl (mg_one _) ?_)
              rw [World.setRow_alloc_new, ← hW7, ← hQ]
              clear hW7 hQ RG
              go_wp2_with fail
              refine Calls.mono WO.out ?_
              rintro e W8 ⟨uo, rfl, o8, k8⟩
              have E8 := hide (E7.out.same HNN.out HAG.out k8 TGL.out)
              have L8 := hide (L7.out.kp0 k8)
              have M8 : Hid (MgAt W8 Q m) := M7.out.keep k8 (fun f => f)
              have O8 := hide (own_base o8 E7.out.be.size)
              have QU := hide (question_a L8.out.own L8.out.ls (by rw [VL.out, HCN.out]) qn k.pl s HQS.out.1 (by rw [← HCN.out]; omega) HQS.out.2 (by have := LN.out qn; omega) ver)
              rw [← HM2.out] at QU
              obtain ⟨ua, uc, rfl⟩ := own_sl o8
              clear o8 k8 WO E7 L7 M7
              obtain ⟨eo, heo⟩ : ∃ eo, eo = O.eraseIdx at' := ⟨_, rfl⟩
              have HEO := hide heo
              rw [← heo] at O8 ⊢
              clear heo
              go_wp2_with (refine wpList_ldM rfl (.tmp 21) rfl m Q rfl M8.out ?_)
              refine Calls.mono QU.out ?_
              rintro e W9 ⟨rfl, k9⟩
              have E9 := hide (E8.out.same HNN.out HAG.out k9 TGL.out)
              have L9 := hide (L8.out.kp0 k9)
              have M9 : Hid (MgAt W9 Q m) := M8.out.keep k9 (fun f => f)
              have O9 := hide (own_kp O8.out k9 (fun _ _ f => f))
              clear k9 QU E8 L8 M8 O8
              have TO := hide (told_a w.heap.size W9 ao2 bb oo cap2 ys (HRR.out.below E9.out.be) E9.out.be.size m.td m.sq)
              rw [← HYN.out] at TO
              obtain ⟨ce, hce⟩ : ∃ ce, ce = tellC ys m.td m.sq := ⟨_, rfl⟩
              have HCE := hide hce
              rw [← hce] at TO
              clear hce
              obtain ⟨-, -, c2, -, -, c5, -⟩ := M9.out.cells
              go_wp2_with fail
              refine Calls.mono TO.out ?_
              rintro e W10 ⟨rfl, k10⟩
              obtain ⟨W11, hW11⟩ : ∃ W11, W11 = W10.alloc (.cells (ceV ce) 45) := ⟨_, rfl⟩
              obtain ⟨X, hXX⟩ : ∃ X, X = W10.heap.size := ⟨_, rfl⟩
              have k11 : Kp W9 W11 non := by rw [hW11]; exact k10.alloc _
              have C11 : Hid (W11.heap[X]? = some (.cells (ceV ce) 45)) := by rw [hW11, hXX]; exact heap_last W10 _
              have E11 := hide (E9.out.same HNN.out HAG.out k11 TGL.out)
              have L11 := hide (L9.out.kp0 k11)
              have M11 : Hid (MgAt W11 Q m) := M9.out.keep k11 (fun f => f)
              have O11 := hide (own_kp O9.out k11 (fun _ _ f => f))
              clear k10 k11 TO E9 L9 M9 O9 c2 c5
              go_upto_region 33 with (refine wpList_stR rfl 45 (.tmp 22) (.tmp 146) rfl W10.heap.size rfl (ceV ce) _ rfl _ (heap_last _ _) ce_info rfl (ce_one _) ?_)
              rw [World.setRow_alloc_new, ← hW11, ← hXX]
              clear hW11 hXX
              obtain ⟨-, f1, f2, f3, -, f5, f6, -⟩ := M11.out.cells
              have x2 : W11.cell? ⟨X, 2, none⟩ = some (.int .i64 ce.en) := by rw [cell_row C11.out]; rfl
              have x3 : W11.cell? ⟨X, 3, none⟩ = some (.int .i64 ce.er) := by rw [cell_row C11.out]; rfl
              have x4 : W11.cell? ⟨X, 4, none⟩ = some (.string ce.dg) := by rw [cell_row C11.out]; rfl
              obtain ⟨am, ham⟩ : ∃ am, am = ansM ys m := ⟨_, rfl⟩
              have HAM : Hid (am = ⟨14, m.td, m.fr, m.id, 0, m.sq, m.ver, ce.en, ce.er, ⟨#[]⟩, ce.dg⟩) := by show am = _; rw [ham, HCE.out]; rfl
              have HAMS := hide ham
              clear ham
              obtain ⟨W12, hW12⟩ : ∃ W12, W12 = W11.alloc (.cells (mgV am) 41) := ⟨_, rfl⟩
              obtain ⟨Z, hZ⟩ : ∃ Z, Z = W11.heap.size := ⟨_, rfl⟩
              have k12 : Kp W11 W12 non := by rw [hW12]; exact (Kp.refl W11 non).alloc _
              have M12 : Hid (MgAt W12 Z am) := by rw [hW12, hZ]; exact MgAt.new W11 _
              have E12 := hide (E11.out.same HNN.out HAG.out k12 TGL.out)
              have L12 := hide (L11.out.kp0 k12)
              have O12 := hide (own_kp O11.out k12 (fun _ _ f => f))
              have OZ : Hid (∀ kk, (Value.slice ua eo.length uc).ownBlock = some kk → kk < Z) := fun kk e => by
                obtain ⟨cur, hc'⟩ := own_typ O11.out e
                rw [hZ]
                exact blk_lt hc'
              have TK := hide (Take_a E12.out.au E12.out.kd.ok am)
              clear k12 E11 L11 O11 M11 C11
              go_wp2_with (at_builtin; fail)
              rw [show (#[.int .i64 14, .int .i64 m.td, .int .i64 m.fr, .int .i64 m.id, .int .i64 0, .int .i64 m.sq, .int .i64 m.ver, .int .i64 ce.en, .int .i64 ce.er, .string ⟨#[]⟩, .string ce.dg] : Array Value) = mgV am by rw [HAM.out]; rfl, ← hW12, ← hZ]
              clear hW12 hZ f1 f2 f3 f5 f6 x2 x3 x4
              refine Calls.mono TK.out ?_
              rintro e W13 ⟨ul, L, v', rfl, ol, a13, k13, t13⟩
              obtain ⟨sa', l1, nb⟩ := HSA.out.take HMO.out (by rw [← HAMS.out]; exact t13)
              have E13 := hide (E12.out.next HNN.out HAG.out a13 k13 (E12.out.kd.take t13) (tl_take E12.out.tl t13) TGL.out)
              have ty13 : ∀ {k' : Nat} {C : Array Value}, W12.heap[k']? = some (.cells C 41) → ¬ AuS A H M k' := fun hc' => E12.out.au.not hc' (by decide) (by decide)
              have L13 := hide (L12.out.aus E12.out.au k13)
              have M13 : Hid (MgAt W13 Z am) := M12.out.keep k13 (ty13 M12.out)
              have O13 := hide (own_kp O12.out k13 (fun kk e => by
                obtain ⟨cur, hc'⟩ := own_typ O12.out e
                exact ty13 hc'))
              have OL := hide (own_base ol E12.out.be.size)
              have SA13 := hide sa'
              have HL1 := hide l1
              have HNB : Hid (ansB v' am = false) := by rw [HAMS.out]; exact nb
              have DS13 : Hid (Ds (hdN st x ns) ns.length v'.hs) := ⟨E13.out.kd.len, fun j k hj => E13.out.kd.sl j k hj⟩
              rw [← HEO.out] at SA13
              have EOL : Hid (eo.length ≤ 16) := by show eo.length ≤ 16; rw [HEO.out]; have := List.length_eraseIdx_le O at'; have := HON.out; omega
              obtain ⟨la, lc, rfl⟩ := own_sl ol
              have hll : ¬ (1 : Int) < (L.length : Int) := by omega
              clear ol a13 k13 t13 sa' l1 nb ty13 TK E12 L12 M12 O12 HSA HDS HAM HCE HMO HM2 HQS
              go_wp2_with (go_at_call 9; refine Calls.mono (NU.out _ _) ?_; rintro e w' ⟨rfl, rfl⟩)
              go_loopw [12, 26] (fun v12 v26 wr => ∃ j : Nat, v26 = .int .i64 (j : Int) ∧ ((j = 0 ∧ v12 = .slice ua eo.length uc ∧ W13 = wr) ∨ (j = L.length ∧ ∃ oa' oc', v12 = .slice oa' (eo ++ L).length oc' ∧ Hid (wr.ownsRow w.heap.size 41 11 (.slice oa' (eo ++ L).length oc') (eo ++ L).length (mgs (eo ++ L))) ∧ Hid (MgAt wr Z am) ∧ Hid (Ev w N st x ao b o cap pv ns (x 0).toNat A H hc M 1 v' wr) ∧ Hid (Lx wr st x ns w.heap.size (.slice u5a i u5c) vs)))) (fun _ v26 _ => 2 - (intOf v26).toNat)
              case atStart => exact ⟨0, rfl, Or.inl ⟨rfl, rfl, rfl⟩⟩
              case round =>
                obtain ⟨j, rfl, hor⟩ := hrel
                have hL1 := HL1.out
                by_cases hjl : j < L.length
                case pos =>
                  rcases hor with ⟨rfl, rfl, rfl⟩ | ⟨hjj, _⟩
                  case inr => omega
                  obtain ⟨m1, rfl⟩ : ∃ m1, L = [m1] := List.length_eq_one_iff.1 (by omega)
                  have e0 : (mgs [m1])[0 * 11 + 0]? = some (.int .i64 m1.kind) := mgs_at [m1] 0 (by simp) 0 (by omega)
                  obtain ⟨g1, c9, e9, -, -⟩ := own_at OL.out e0
                  injection e9 with e9 _ ec
                  subst e9
                  subst ec
                  have RG : Hid (W13.rangeAt g1 0 (mgV m1).toList) := fun jj u hj => by
                    have e1 : (mgs [m1])[jj]? = some u := by rw [mgs_one]; exact hj
                    obtain ⟨g', c', e', q', -⟩ := own_at OL.out e1
                    injection e' with e' _ _
                    injection e' with e'
                    injection e' with e' _ _
                    rw [e', Nat.zero_add]
                    exact q'
                  go_wp2_with (first
                    | refine wpList_load_mid rfl 41 (.tmp 187) rfl g1 0 rfl (mgV m1).toList _ RG.out Tryd.underlying41 rfl mg_info ?_
                    | refine wpList_bsM rfl (.tmp 188) rfl m1 rfl ?_
                    | (at_builtin
                       refine wpList_apM rfl (.tmp 184) (.tmp 189) rfl w.heap.size _ eo rfl (own_kp O13.out ((Kp.refl W13 non).alloc _) (fun _ _ f => f)) W13.heap.size m1 rfl (heap_last _ _) (by have := EOL.out; omega) (by rw [World.size_alloc]; have := E13.out.be.size; omega) ?_
                       intro v9 w3 o2 g2))
                  have k9 : Kp W13 w3 (fun kk => some kk = (Value.slice ua eo.length uc).ownBlock) := ((Kp.refl W13 _).alloc _).trans (Kp.of_grown g2) (fun _ e => Or.inl e)
                  have EG := hide (E13.out.grow HNN.out O13.out k9 TGL.out)
                  have LG := hide (L13.out.grow O13.out k9)
                  have MG : Hid (MgAt w3 Z am) := M13.out.keep k9 (fun e => by have := OZ.out Z e.symm; omega)
                  obtain ⟨oa', oc', rfl⟩ := own_sl o2
                  have OG : Hid (w3.ownsRow w.heap.size 41 11 (.slice oa' (eo.length + 1) oc') (eo.length + 1) (mgs (eo ++ [m1]))) := o2
                  clear k9 o2 g2 RG
                  go_roundw
                  case rel => exact ⟨1, rfl, Or.inr ⟨rfl, oa', oc', rfl, OG.out, MG.out, EG.out, LG.out⟩⟩
                  case measure => simp [intOf]
                case neg =>
                  have HFN : ∃ oa' oc', u12 = .slice oa' (eo ++ L).length oc' ∧ Hid (wr.ownsRow w.heap.size 41 11 (.slice oa' (eo ++ L).length oc') (eo ++ L).length (mgs (eo ++ L))) ∧ Hid (MgAt wr Z am) ∧ Hid (Ev w N st x ao b o cap pv ns (x 0).toNat A H hc M 1 v' wr) ∧ Hid (Lx wr st x ns w.heap.size (.slice u5a i u5c) vs) := by
                    rcases hor with ⟨rfl, rfl, rfl⟩ | ⟨_, z⟩
                    · have hL0 : L = [] := List.length_eq_zero_iff.1 (by omega)
                      subst hL0
                      refine ⟨ua, uc, by rw [List.append_nil], ?_, M13, E13, L13⟩
                      rw [List.append_nil]
                      exact O13
                    · exact z
                  have hjli : ¬ (j : Int) < (L.length : Int) := by omega
                  clear hor E13 L13 M13 O13 OL
                  obtain ⟨oa', oc', rfl, HO9, HM9, HE9, HL9⟩ := HFN
                  obtain ⟨On, hOn⟩ : ∃ On, On = eo ++ L := ⟨_, rfl⟩
                  rw [← hOn] at HO9 SA13 ⊢
                  clear hOn
                  cases tw
                  case false =>
                    clear HM9
                    go_wp2_with fail
                    go_roundw
                    case rel => exact ⟨c + 1, v', On, oa', oc', by go_num, by go_num, rfl, HO9.out, HE9.out, SA13.out, DS13.out, HL9.out⟩
                    case measure => simp [intOf]; omega
                  case true =>
                    have TK2 := hide (Take_a HE9.out.au HE9.out.kd.ok am)
                    go_wp2_with (refine wpList_ldM rfl (.tmp 23) rfl am Z rfl HM9.out ?_)
                    refine Calls.mono TK2.out ?_
                    rintro e W14 ⟨u14, L14, v14, rfl, ol, a14, k14, t14⟩
                    obtain ⟨rfl, rfl⟩ : L14 = [] ∧ v14 = v' := by
                      rcases t14 with ⟨_, q1, q2⟩ | ⟨q, _⟩
                      · exact ⟨q1, q2⟩
                      · rw [HNB.out] at q
                        exact absurd q (by decide)
                    have E14 := hide (HE9.out.next HNN.out HAG.out a14 k14 HE9.out.kd HE9.out.tl TGL.out)
                    have L14 := hide (HL9.out.aus HE9.out.au k14)
                    have O14 := hide (own_kp HO9.out k14 (fun kk e => by
                      obtain ⟨cur, hc'⟩ := own_typ HO9.out e
                      exact HE9.out.au.not hc' (by decide) (by decide)))
                    obtain ⟨za, zc, rfl⟩ := own_sl ol
                    clear ol a14 k14 t14 TK2 HE9 HL9 HO9 HM9
                    go_wp2_with (go_at_call 9; refine Calls.mono (NU.out _ _) ?_; rintro e w' ⟨rfl, rfl⟩)
                    go_roundw
                    case rel => exact ⟨c + 1, v14, On, oa', oc', by go_num, by go_num, rfl, O14.out, E14.out, SA13.out, DS13.out, L14.out⟩
                    case measure => simp [intOf]; omega
end Go.Proofs.YteiiolilpemimaaDoor.Cn
