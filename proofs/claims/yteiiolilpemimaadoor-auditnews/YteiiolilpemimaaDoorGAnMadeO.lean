import Derived.Test.YteiiolilpemimaaDoorGAnMade
import Derived.Test.YteiiolilpemimaaDoorGGhHold
import Derived.Test.YteiiolilpemimaaDoorGAfQue
import Derived.Test.YteiiolilpemimaaDoorAfLaw
namespace Go.Proofs.YteiiolilpemimaaDoor.Cn
open Go.RowKit
set_option maxHeartbeats 16000000 in
set_option maxRecDepth 100000 in
set_option linter.unusedSimpArgs false in
set_option linter.unusedVariables false in
theorem made_ok (N : Nat) (w : World) (st : ByteArray) (x : Nat → Int) (ao : Option Addr) (b o cap : Nat) (pv : Nat → Value) (ns : List ND) (h : NsAt N w ao b o pv ns) (hN : N ≤ w.heap.size) (hs : st.size ≤ 9223372036854775807) (he : errP st x ns = 0) (hT : TabG w) :
    Calls Tryd.prog 23 #[.agg (clA st x (.slice ao ns.length cap))] w fun e w' => (∃ p, e = .returned (.tuple #[.pointer p, .bool true])) ∧ Below w.heap.size w w' := by
  have hps : ∀ (q : Nat) (hq : q < ns.length), ns[q].ps.length ≤ 17592186043904 := fun q hq => by
    obtain ⟨_, _, _, _, _, hp⟩ := h.ps q hq
    exact hp.len
  have hlen := h.len
  obtain ⟨W0, hW0, hX⟩ := boxed st x cap h hN
  have HX := hide (hX.stand hN)
  have B0 := hide hX.bel
  have T0 := hide (hT.below hX.bel)
  clear hX h hT
  have TW := hide (twin19_apart N W0 st x ao b o cap pv ns HX.out.nd HX.out.le)
  have NU := hide fun w n => numF w n
  have NW : Hid (∀ B W1 vl zs, zs.length = ns.length → Tw B W1 ns vl zs → ∃ ao' b' cap' pv', vl = .slice ao' ns.length cap' ∧ NsAt W1.heap.size W1 ao' b' 0 pv' ns) := fun B W1 vl zs hz ht => by
    obtain ⟨a, b, c, e1, e2⟩ := ht.nodes hz hlen hps
    exact ⟨a, b, c, _, e1, e2⟩
  have HPS := hide hps
  have HLEN := hide hlen
  clear hps hlen
  go_enter Tryd.func23, Tryd.ntmps23
  go_upto_region 1 with fail
  rw [← hW0]
  clear hW0
  go_wp2_with (refine wpList_loadCl rfl (.tmp 1) rfl w.heap.size st x _ rfl HX.out.cl ?_)
  refine Calls.mono TW.out ?_
  rintro e W1 ⟨vl, zs, rfl, hz, tw, ap, b1⟩
  obtain ⟨ao1, -, cap1, -, rfl, -⟩ := NW.out _ W1 vl zs hz tw
  obtain ⟨W2, hW2⟩ : ∃ W2, W2 = ((W1.alloc (.cells #[.string ⟨#[]⟩, .int .i64 0, .int .i64 0, .int .i64 0, .int .i64 0, .int .i64 0, .int .i64 0, .int .i64 0, .int .i64 0, .int .i64 0, .int .i64 0, .int .i64 0, .int .i64 0, .int .i64 0, .int .i64 0, .int .i64 0, .int .i64 0, .int .i64 0, .int .i64 0, .int .i64 0, .int .i64 0, .int .i64 0, .slice none 0 0] 24)).setRow W1.heap.size (clA st x (.slice ao1 ns.length cap1))) := ⟨_, rfl⟩
  have R1 : Hid (ClAt (W1.alloc (.cells #[.string ⟨#[]⟩, .int .i64 0, .int .i64 0, .int .i64 0, .int .i64 0, .int .i64 0, .int .i64 0, .int .i64 0, .int .i64 0, .int .i64 0, .int .i64 0, .int .i64 0, .int .i64 0, .int .i64 0, .int .i64 0, .int .i64 0, .int .i64 0, .int .i64 0, .int .i64 0, .int .i64 0, .int .i64 0, .int .i64 0, .slice none 0 0] 24)) W1.heap.size ⟨#[]⟩ zx (.slice none 0 0)) := new_cl W1 ⟨#[]⟩ zx (.slice none 0 0)
  have b2 : Below W1.heap.size W1 W2 := by rw [hW2]; exact below_setRow ((Below.refl _ W1).alloc (Nat.le_refl _) _) (Nat.le_refl _) _
  have C2 : Hid (ClAt W2 W1.heap.size st x (.slice ao1 ns.length cap1)) := by rw [hW2]; exact setRow_heap _ W1.heap.size _ _ 24 _ R1.out
  have b02 : Hid (Below W0.heap.size W0 W2) := b1.trans (b2.mono b1.size)
  have tw2 := tw.keep b2
  have M2 : Mk W0.heap.size W2 ns (.slice ao1 ns.length cap1) zs [] := ⟨own_lowX tw2.row (by omega), hz, tw2.z, fun q hq hq' f hf => by simp at hf, fun q hq hq' _ => own_lowX (tw2.p q hq hq') (by omega), ap⟩
  have MK := hide (marked_a W0.heap.size W2 st x ns (.slice ao1 ns.length cap1) zs M2 b02.out.size HPS.out HLEN.out)
  clear tw2 M2 tw ap b1 b2 hz
  go_wp2_with (first | (refine wpList_store_row rfl 24 (.tmp 4) (.tmp 13) rfl W1.heap.size (clA st x (.slice ao1 ns.length cap1)) rfl rfl 24 _ R1.out infoCl rfl (clA_one st x rfl) ?_; rw [← hW2]; clear hW2) | (refine wpList_loadCl rfl (.tmp 4) rfl W1.heap.size st x _ rfl C2.out ?_))
  refine Calls.mono MK.out ?_
  rintro e W3 ⟨fv, rfl, mr⟩
  obtain ⟨zs3, fs, hfl, m3, f3, bo3⟩ := mr
  have b03 : Hid (Below W0.heap.size W0 W3) := b02.out.trans bo3.be
  have C3 : Hid (ClAt W3 W1.heap.size st x (.slice ao1 ns.length cap1)) := (bo3.oth W1.heap.size _ _ _ C2.out (by decide) (by decide)).trans C2.out
  obtain ⟨ao', b', cap', pv', ev, hn3⟩ := NW.out _ W3 _ zs3 m3.len (m3.tw hfl)
  injection ev with ev1 ev2 ev3
  clear ev2
  subst ev1
  subst ev3
  have N3 := hide hn3
  have FS : Hid (fs.length = ns.length) := hfl
  have F3 : Hid (W3.ownsRow W2.heap.size 26 1 fv fs.length fs) := f3
  have HZ3 : Hid (zs3.length = ns.length) := m3.len
  have AP3 : Hid (ApZ zs3) := m3.ap
  have TW3 : Hid (Tw W0.heap.size W3 ns (.slice ao1 ns.length cap1) zs3) := m3.tw hfl
  have L3 : Hid (∀ (q : Nat) (hq : q < fs.length) (hq' : q < ns.length), W3.ownsRow W0.heap.size 3 1 fs[q] (ns[q].ps.length + 8) (ints (ns[q].ps ++ mk8 8))) := fun q hq hq' => (m3.lo q (by rw [m3.len]; exact hq') hq' fs[q] (List.getElem?_eq_getElem hq)).1
  clear m3 f3 bo3 hfl hn3 MK C2 b02
  have NN := hide (New_ok W3.heap.size W3 st x ao1 b' 0 cap1 pv' ns N3.out (Nat.le_refl _) hs he)
  have HE := hide he
  clear he
  go_wp2_with (refine wpList_loadCl rfl (.tmp 4) rfl W1.heap.size st x _ rfl C3.out ?_)
  refine Calls.mono NN.out ?_
  rintro e W4 ⟨A, rfl, H4, hc4, M4, v4, -, -, -, b4⟩
  have K4 : Hid (Below W3.heap.size W3 W4) := b4
  have X4 := hide (HX.out.below (b03.out.trans (b4.mono b03.out.size)))
  have T4 := hide (T0.out.below (b03.out.trans (b4.mono b03.out.size)))
  have TV := hide (twin19_any N W4 st x ao b o cap pv ns X4.out.nd X4.out.le)
  clear b4 NN
  go_wp2_with (refine wpList_loadCl rfl (.tmp 1) rfl w.heap.size st x _ rfl X4.out.cl ?_)
  refine Calls.mono TV.out ?_
  rintro e W5 ⟨vl5, zs5, rfl, hz5, tw5, b5⟩
  obtain ⟨ao5, b5', cap5, pv5, rfl, hn5⟩ := NW.out _ W5 vl5 zs5 hz5 tw5
  have K5 : Hid (Below W3.heap.size W3 W5) := K4.out.trans (b5.mono K4.out.size)
  have RN := hide (rnew_ok W5.heap.size W5 st x ao5 b5' 0 cap5 pv5 ns hn5 (Nat.le_refl _) hs HE.out (T4.out.below b5))
  clear hz5 tw5 hn5 b5 TV
  go_wp2_with fail
  refine Calls.mono RN.out ?_
  rintro e W6 ⟨BB, rfl, L6, sv6, -, -, -, -, b6⟩
  have K6 : Hid (Below W3.heap.size W3 W6) := K5.out.trans (b6.mono K5.out.size)
  have X6 := hide (HX.out.below (b03.out.trans (K6.out.mono b03.out.size)))
  have C6 : Hid (ClAt W6 W1.heap.size st x (.slice ao1 ns.length cap1)) := C3.out.below K6.out
  have TW6 : Hid (Tw W0.heap.size W6 ns (.slice ao1 ns.length cap1) zs3) := TW3.out.keep K6.out
  have k6 : Kp W3 W6 non := Kp.of_below K6.out non
  have hNW : N ≤ W6.heap.size := X6.out.le
  have SN := hide (same_nodes (st1 := st) (st2 := st) (x1 := x) (x2 := x) (c1 := cap1) (c2 := cap) ((N3.out.below K6.out).more k6.size) (X6.out.nd.more hNW) (Nat.le_refl _))
  have ST := hide fun X (hX : Kp W6 X non) => stay_a (st1 := st) (x1 := x) (c1 := cap) (own_kp (own_kp F3.out k6 (fun _ _ f => f)) hX (fun _ _ f => f)) FS.out (fun q hq hq' => own_kp (own_kp (L3.out q hq hq') k6 (fun _ _ f => f)) hX (fun _ _ f => f)) (X6.out.nd.below (hX.below.mono hNW)) (Nat.le_trans hNW hX.size)
  have B6 : Hid (Below w.heap.size w W6) := B0.out.trans ((b03.out.trans (K6.out.mono b03.out.size)).mono B0.out.size)
  clear b6 RN k6 K4 K5 X4 T4 hNW
  go_wp2_with (first | (go_at_call 9; refine Calls.mono (NU.out _ _) ?_; rintro e w' ⟨rfl, rfl⟩) | (refine wpList_loadClX (.tmp 4) rfl (by kernel_rfl) W1.heap.size st x _ rfl C6.out ?_) | (refine wpList_loadClX (.tmp 1) rfl (by kernel_rfl) w.heap.size st x _ rfl X6.out.cl ?_))
  refine Calls.mono SN.out ?_
  rintro e W7 ⟨rfl, k7⟩
  have K7 := hide k7
  have X7 := hide (X6.out.cl.below (k7.below))
  have S7 := hide (ST.out W7 k7)
  clear k7 SN ST
  go_wp2_with (refine wpList_loadClX (.tmp 1) rfl (by kernel_rfl) w.heap.size st x _ rfl X7.out ?_)
  refine Calls.mono S7.out ?_
  rintro e W8 ⟨rfl, k8⟩
  have k68 : Kp W6 W8 non := K7.out.trans k8 (fun _ f => f.elim)
  have hzz := HZ3.out
  have O8 : Hid (Ow w W0.heap.size W1.heap.size st x ns (.slice ao1 ns.length cap1) zs3 0 W8) := (show Ow w W0.heap.size W1.heap.size st x ns (.slice ao1 ns.length cap1) zs3 0 W6 from ⟨C6.out, B6.out, ⟨zs3, rfl, TW6.out.row, fun _ _ _ _ => rfl⟩, fun q hq hq' _ => TW6.out.p q hq hq', fun hq hq' => ⟨ns[0].ps, rfl, TW6.out.p 0 hq hq'⟩⟩).kp k68
  have hB0 : Hid (w.heap.size ≤ W0.heap.size) := B0.out.size
  obtain ⟨n, hn⟩ : ∃ n, n = ns.length := ⟨_, rfl⟩
  have HN := hide hn
  rw [← hn] at O8 ⊢
  have hlen42 := HLEN.out
  rw [← hn] at hlen42
  clear k8 k68 K7 S7 X7 hzz TW6 TW3 C6 X6 K6 C3 N3 F3 L3 FS b03 hn
  generalize W1.heap.size = D at *
  go_wp2_with fail
  go_loopw [10] (fun vi wr => ∃ i : Nat, i ≤ n ∧ vi = .int .i64 (i : Int) ∧ Hid (Ow w W0.heap.size D st x ns (.slice ao1 n cap1) zs3 i wr)) (fun vi _ => n - (intOf vi).toNat)
  case atStart => exact ⟨0, Nat.zero_le _, rfl, O8.out⟩
  case round =>
    clear O8
    obtain ⟨i, hi, rfl, HO⟩ := hrel
    have c22 : wr.cell? ⟨D, 22, none⟩ = some (.slice ao1 n cap1) := HO.out.cl.nv
    by_cases hin : i < n
    case neg =>
      obtain rfl : i = n := by omega
      have hii : ¬ (i : Int) < (i : Int) := by omega
      go_wp2_with fail
      go_ret2
      exact ⟨⟨_, rfl⟩, HO.out.be.alloc HO.out.be.size _⟩
    case pos =>
      have hii : (i : Int) < (n : Int) := by omega
      have hiz : i < zs3.length := by rw [HZ3.out, ← HN.out]; exact hin
      have hiN : i < ns.length := by rw [← HN.out]; exact hin
      go_wp2_with fail
      clear c22
      generalize wr = wo at *
      go_loopw [11] (fun vj wr => ∃ j : Nat, j ≤ ns[i].ps.length ∧ vj = .int .i64 (j : Int) ∧ Hid (Ow w W0.heap.size D st x ns (.slice ao1 n cap1) zs3 i wr)) (fun vj _ => ns[i].ps.length - (intOf vj).toNat)
      case atStart => exact ⟨0, Nat.zero_le _, rfl, HO.out⟩
      case round =>
        clear HO
        obtain ⟨j, hj, rfl, HJ⟩ := hrel
        have c22 : wr.cell? ⟨D, 22, none⟩ = some (.slice ao1 n cap1) := HJ.out.cl.nv
        obtain ⟨zs', r1, r2, r3⟩ := HJ.out.row
        have hz' : i < zs'.length := by omega
        obtain ⟨g0, c0', eg, n2, f2⟩ := own_at r2 (ndc_at zs' i hz').2
        obtain ⟨g0', c0'', eg', n1, f1⟩ := own_at r2 (ndc_at zs' i hz').1
        injection eg with eg eg2 eg3
        injection eg' with eg' eg2' eg3'
        rw [eg] at eg'
        simp only [Option.some.injEq, Addr.mk.injEq, and_true] at eg'
        subst eg'
        clear eg3 eg3' eg2' eg2
        subst eg
        rw [r3 i hz' hiz (Nat.le_refl _)] at n1 n2
        obtain ⟨L, hL, hown⟩ := HJ.out.me hiz hiN
        obtain ⟨pa, pc, hp⟩ := own_sl hown
        rw [hp] at n2
        have HP := hide hp
        have hpl : ns[i].ps.length ≤ 17592186043904 := HPS.out i hiN
        obtain ⟨m, hm⟩ : ∃ m, m = ns[i].ps.length := ⟨_, rfl⟩
        have HM := hide hm
        rw [← hm] at hj n2 hpl ⊢
        by_cases hjm : j < m
        case pos =>
          have hjj : (j : Int) < (m : Int) := by omega
          have hjL : j < L.length := by omega
          obtain ⟨g, gc, e, q1, q2⟩ := own_at hown (ints_at2 L j hjL)
          rw [hp] at e
          injection e with e e2 e3
          clear e2 e3
          subst e
          have SET := hide (HJ.out.list hB0.out AP3.out hiz hiN hp j 63)
          clear hown hp hm r1 r2 r3 n1 f1 f2
          go_wp2_with fail
          go_roundw
          case rel => exact ⟨j + 1, by omega, by go_num, SET.out⟩
          case measure => simp [intOf]; omega
        case neg =>
          obtain rfl : j = m := by omega
          have hjj : ¬ (j : Int) < (j : Int) := by omega
          have hln : n = zs3.length := HN.out.trans HZ3.out.symm
          have NOD := hide (HJ.out.node hB0.out hiz (g := g0) (c := cap1) (by rw [hln]))
          clear hown hp hm r1 r2 r3 hln
          go_wp2_with (refine wpList_blR rfl 78 #[] rfl #[.int .i64 0, .slice none 0 0] (by kernel_rfl) ?_)
          go_roundw
          case rel => exact ⟨i + 1, by omega, by go_num, NOD.out⟩
          case measure => simp [intOf]; omega
end Go.Proofs.YteiiolilpemimaaDoor.Cn
namespace Go.Proofs.YteiiolilpemimaaDoor.Cn
open Go.RowKit
set_option maxHeartbeats 8000000 in
set_option maxRecDepth 100000 in
set_option linter.unusedSimpArgs false in
set_option linter.unusedVariables false in
theorem Begin_nil (w : World) (ver : Int) :
    Calls Tryd.prog 10 #[.pointer none, .int .i64 ver] w fun e w' => e = .returned (.tuple #[.slice none 0 0, .int .i64 2]) ∧ w = w' := by
  have NO := hide none_nil
  go_enter Tryd.func10, Tryd.ntmps10
  go_wp2_with (go_at_call 30; refine Calls.mono (NO.out _) ?_; rintro e w' ⟨rfl, rfl⟩)
  go_ret2
  exact ⟨rfl, rfl⟩
set_option maxHeartbeats 8000000 in
set_option maxRecDepth 100000 in
set_option linter.unusedSimpArgs false in
set_option linter.unusedVariables false in
theorem Tick_nil (w : World)  :
    Calls Tryd.prog 20 #[.pointer none] w fun e w' => e = .returned (.tuple #[.slice none 0 0, .int .i64 2]) ∧ w = w' := by
  have NO := hide none_nil
  go_enter Tryd.func20, Tryd.ntmps20
  go_wp2_with (go_at_call 30; refine Calls.mono (NO.out _) ?_; rintro e w' ⟨rfl, rfl⟩)
  go_ret2
  exact ⟨rfl, rfl⟩
set_option maxHeartbeats 8000000 in
set_option maxRecDepth 100000 in
set_option linter.unusedSimpArgs false in
set_option linter.unusedVariables false in
theorem Take_nil (w : World) (m : Mg) :
    Calls Tryd.prog 16 #[.pointer none, .agg (mgV m)] w fun e w' => e = .returned (.tuple #[.slice none 0 0, .int .i64 2]) ∧ Kp w w' non := by
  have NO := hide none_nil
  obtain ⟨W0, hW0⟩ : ∃ W0, W0 = w.alloc (.cells (mgV m) 41) := ⟨_, rfl⟩
  have K0 : Hid (Kp w W0 non) := by rw [hW0]; exact (Kp.refl w non).alloc _
  go_enter Tryd.func16, Tryd.ntmps16
  go_upto_region 1 with fail
  rw [← hW0]
  clear hW0
  go_wp2_with (go_at_call 30; refine Calls.mono (NO.out _) ?_; rintro e w' ⟨rfl, rfl⟩)
  go_ret2
  exact ⟨rfl, K0.out⟩
set_option maxHeartbeats 8000000 in
set_option maxRecDepth 100000 in
set_option linter.unusedSimpArgs false in
set_option linter.unusedVariables false in
theorem Report_nil (w : World) :
    Calls Tryd.prog 17 #[.pointer none] w fun e w' => e = .returned (.tuple #[.agg (rpA rp0 (.slice none 0 0) (.slice none 0 0)), .int .i64 2]) ∧ Kp w w' non := by
  have NO := hide none_nil
  obtain ⟨W0, hW0⟩ : ∃ W0, W0 = w.alloc (.cells (rpA rp0 (.slice none 0 0) (.slice none 0 0)) 49) := ⟨_, rfl⟩
  have K0 : Hid (Kp w W0 non) := by rw [hW0]; exact (Kp.refl w non).alloc _
  have m0 : Hid (W0.heap[w.heap.size]? = some (.cells (rpA rp0 (.slice none 0 0) (.slice none 0 0)) 49)) := by rw [hW0]; exact heap_last w _
  go_enter Tryd.func17, Tryd.ntmps17
  go_upto_region 1 with fail
  rw [show (#[.int .i64 0, .int .i64 0, .int .i64 0, .slice none 0 0, .slice none 0 0] : Array Value) = rpA rp0 (.slice none 0 0) (.slice none 0 0) from rfl]
  rw [← hW0]
  clear hW0
  go_wp2_with (first | (go_at_call 30; refine Calls.mono (NO.out _) ?_; rintro e w' ⟨rfl, rfl⟩) | refine wpList_blR rfl 49 #[] rfl (rpA rp0 (.slice none 0 0) (.slice none 0 0)) (by kernel_rfl) ?_ | refine wpList_stR rfl 49 (.tmp 2) (.tmp 8) rfl w.heap.size rfl (rpA rp0 (.slice none 0 0) (.slice none 0 0)) _ rfl _ m0.out rp_info rfl (by simp [rpA, Value.oneCell']) ?_)
  refine bodyPost_ret (v := .tuple #[.agg (rpA rp0 (.slice none 0 0) (.slice none 0 0)), .int .i64 2]) (res_row2 Tryd.results17 _ _ _ w.heap.size rfl _ rfl _ (setRow_heap _ _ _ _ _ _ m0.out) Tryd.underlying49 rp_info) rfl ⟨rfl, ?_⟩
  exact K0.out.row (Or.inr (Nat.le_refl _)) _
end Go.Proofs.YteiiolilpemimaaDoor.Cn
namespace Go.Proofs.YteiiolilpemimaaDoor.Cn
open Go.RowKit
set_option maxHeartbeats 16000000 in
set_option maxRecDepth 100000 in
set_option linter.unusedSimpArgs false in
set_option linter.unusedVariables false in
/-- the law, if made answers true -/
theorem news_of (w : World) (st : ByteArray) (x : Nat → Int) (vl : Value) (hm : Calls Tryd.prog 23 #[.agg (clA st x vl)] (w.alloc (.cells (clA st x vl) 24)) fun e w' => (∃ p, e = .returned (.tuple #[.pointer p, .bool true])) ∧ Below w.heap.size (w.alloc (.cells (clA st x vl) 24)) w') :
    Calls Tryd.prog 5 #[.agg (clA st x vl)] w fun e w' => e = .returned (.bool true) ∧ Below w.heap.size w w' := by
  obtain ⟨W0, hW0⟩ : ∃ W0, W0 = w.alloc (.cells (clA st x vl) 24) := ⟨_, rfl⟩
  have B0 : Hid (Below w.heap.size w W0) := by rw [hW0]; exact (Below.refl _ _).alloc (Nat.le_refl _) _
  have C0 : Hid (ClAt W0 w.heap.size st x vl) := by rw [hW0]; exact new_cl _ _ _ _
  rw [← hW0] at hm
  have MD := hide hm
  have NU := hide fun w n => numF w n
  have NB := hide Begin_nil
  have NK := hide Take_nil
  have NT := hide Tick_nil
  have NR := hide Report_nil
  have NO := hide Busy_nil
  have SR := hide fun (X : World) => sameRep_a (w := X) (b1 := 0) (b2 := 0) (b3 := 0) (b4 := 0) (d1 := .slice none 0 0) (d2 := .slice none 0 0) (m1 := .slice none 0 0) (m2 := .slice none 0 0) (DL := []) (ML := []) rp0 (World.ownsRow_nil _ _ _ _) (World.ownsRow_nil _ _ _ _) (World.ownsRow_nil _ _ _ _) (World.ownsRow_nil _ _ _ _) (by simp) (by simp)
  clear hm
  go_enter Tryd.func5, Tryd.ntmps5
  go_upto_region 1 with fail
  rw [← hW0]
  clear hW0
  go_wp2_with (refine wpList_loadCl rfl (.tmp 1) rfl w.heap.size st x _ rfl C0.out ?_)
  refine Calls.mono MD.out ?_
  rintro e W1 ⟨⟨p, rfl⟩, b1⟩
  have B1 : Hid (Below w.heap.size w W1) := B0.out.trans b1
  clear b1 MD C0 B0
  go_wp2_with fail
  refine Calls.mono (NB.out _ _) ?_
  rintro e W2 ⟨rfl, rfl⟩
  go_wp2_with (refine wpList_blR rfl 41 #[] rfl (mgV mg0) (by kernel_rfl) ?_)
  refine Calls.mono (NK.out _ _) ?_
  rintro e W2 ⟨rfl, k2⟩
  have B2 : Hid (Below w.heap.size w W2) := B1.out.trans (k2.below.mono B1.out.size)
  clear k2 B1
  go_wp2_with fail
  refine Calls.mono (NT.out _) ?_
  rintro e W3 ⟨rfl, rfl⟩
  go_wp2_with fail
  refine Calls.mono (NR.out _) ?_
  rintro e W4 ⟨rfl, k4⟩
  have B4 : Hid (Below w.heap.size w W4) := B2.out.trans (k4.below.mono B2.out.size)
  clear k4 B2
  obtain ⟨W5, hW5⟩ : ∃ W5, W5 = (W4.alloc (.cells #[.int .i64 0, .int .i64 0, .int .i64 0, .slice none 0 0, .slice none 0 0] 49)).setRow W4.heap.size (rpA rp0 (.slice none 0 0) (.slice none 0 0)) := ⟨_, rfl⟩
  have z4 : Hid ((W4.alloc (.cells #[.int .i64 0, .int .i64 0, .int .i64 0, .slice none 0 0, .slice none 0 0] 49)).heap[W4.heap.size]? = some (.cells #[.int .i64 0, .int .i64 0, .int .i64 0, .slice none 0 0, .slice none 0 0] 49)) := heap_last _ _
  have R5 : Hid (W5.heap[W4.heap.size]? = some (.cells (rpA rp0 (.slice none 0 0) (.slice none 0 0)) 49)) := by rw [hW5]; exact setRow_heap _ _ _ _ _ _ z4.out
  have B5 : Hid (Below w.heap.size w W5) := by
    have b : Below W4.heap.size W4 W5 := by rw [hW5]; exact below_setRow ((Below.refl _ _).alloc (Nat.le_refl _) _) (Nat.le_refl _) _
    exact B4.out.trans (b.mono B4.out.size)
  clear B4
  go_wp2_with (first | (refine wpList_store_row rfl 49 (.tmp 12) (.tmp 38) rfl W4.heap.size (rpA rp0 (.slice none 0 0) (.slice none 0 0)) rfl rfl 49 _ z4.out rp_info rfl (rp_one _ ⟨_, _, _, rfl⟩ ⟨_, _, _, rfl⟩) ?_; rw [← hW5]; clear hW5) | (go_at_call 9; refine Calls.mono (NU.out _ _) ?_; rintro e w' ⟨rfl, rfl⟩) | (go_at_call 12; refine Calls.mono (NO.out _) ?_; rintro e w' ⟨rfl, rfl⟩) | (refine wpList_ldRG 49 (.tmp 12) rfl (by kernel_rfl) W4.heap.size rfl _ (rpA rp0 (.slice none 0 0) (.slice none 0 0)) R5.out Tryd.underlying49 rp_info ?_) | (refine wpList_blRG 49 #[] rfl (by kernel_rfl) (rpA rp0 (.slice none 0 0) (.slice none 0 0)) (by kernel_rfl) ?_))
  refine Calls.mono (SR.out _) ?_
  rintro e W6 ⟨rfl, k6⟩
  have B6 : Hid (Below w.heap.size w W6) := B5.out.trans (k6.below.mono B5.out.size)
  clear k6
  go_wp2_with fail
  go_ret
  exact ⟨rfl, B6.out⟩
end Go.Proofs.YteiiolilpemimaaDoor.Cn
namespace Go.Proofs.YteiiolilpemimaaDoor.Cn
open Go.RowKit
theorem news_any (N : Nat) (w : World) (st : ByteArray) (x : Nat → Int) (ao : Option Addr) (b o cap : Nat) (pv : Nat → Value) (ns : List ND) (h : NsAt N w ao b o pv ns) (hN : N ≤ w.heap.size) (hs : st.size ≤ 9223372036854775807) (hT : TabG w) :
    Calls Tryd.prog 5 #[.agg (clA st x (.slice ao ns.length cap))] w fun e w' => e = .returned (.bool true) ∧ Below w.heap.size w w' := by
  refine news_of w st x _ ?_
  obtain ⟨W0, hW0, hX⟩ := boxed st x cap h hN
  rw [← hW0]
  have S0 := hX.stand hN
  have T0 := hT.below hX.bel
  have hsz := hX.bel.size
  by_cases he : errP st x ns = 0
  · refine Calls.mono (made_ok N W0 st x ao b o cap pv ns S0.nd S0.le hs he T0) ?_
    rintro e w' ⟨hp, hb⟩
    exact ⟨hp, hb.mono hsz⟩
  · refine Calls.mono (made_no N W0 st x ao b o cap pv ns S0.nd S0.le hs he T0) ?_
    rintro e w' ⟨rfl, hb⟩
    exact ⟨⟨_, rfl⟩, hb.mono hsz⟩
end Go.Proofs.YteiiolilpemimaaDoor.Cn
