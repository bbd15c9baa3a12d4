import Derived.Test.YteiiolilpemimaaDoorAnStay
import Derived.Test.YteiiolilpemimaaDoorGAfTold
import Derived.Test.YteiiolilpemimaaDoorAnRef
import Derived.Test.YteiiolilpemimaaDoorGGhHold
namespace Go.Proofs.YteiiolilpemimaaDoor.Cn
open Go.RowKit
theorem wpList_loadClX {w : World} {ops : Array Oper} {rest : List Oper} {o : Oper} {a : Act} {Q : Exit → Act → World → Prop} (p : Operand) (ho : o.op = .load 24 p) (hw : Region.wanted o (yielded ops a.tmps) = true) (b : Nat) (st : ByteArray) (x : Nat → Int) (nv : Value) (hx : a.eval p = .pointer (some ⟨b, 0, none⟩)) (hO : ClAt w b st x nv)
    (h : wpList Tryd.prog ops Q rest (a.put o.dst (.agg (clA st x nv))) w) : wpList Tryd.prog ops Q (o :: rest) a w := by
  refine wpList_step fun K hK => ?_
  rw [if_pos hw]
  unfold Oper.wp execOp
  simp only [ho, Sem.run_bind, Sem.run_pure, Result.andThen_ok, hx, run_loadCl w b st x nv hO]
  exact hK _ _ h
theorem own_lowX {w : World} {b1 b2 n sz : Nat} {t : TypeId} {v : Value} {xs : List Value} (h : w.ownsRow b1 t sz v n xs) (hb : b2 ≤ b1) : w.ownsRow b2 t sz v n xs := by
  refine ⟨h.1, h.2.imp id ?_⟩
  rintro ⟨g, cap, cur, h1, h2, h3⟩
  exact ⟨g, cap, cur, h1, by omega, h3⟩
theorem NsAt.more {N M : Nat} {w : World} {ao : Option Addr} {b o : Nat} {pv : Nat → Value} {ns : List ND} (h : NsAt N w ao b o pv ns) (hm : N ≤ M) : NsAt M w ao b o pv ns :=
  ⟨h.at0, fun e => Nat.lt_of_lt_of_le (h.lt e) hm, h.cz, h.cp, fun q hq => (h.ps q hq).more hm, h.len, h.nl⟩
/-- the beginning of a list of its own -/
theorem own_cut {w : World} {base e g n m cap : Nat} {xs : List Value} (h : w.ownsRow base e 1 (.slice (some ⟨g, 0, none⟩) n cap) n xs) (hm : m ≤ n) : w.ownsRow base e 1 (.slice (some ⟨g, 0, none⟩) m cap) m (xs.take m) := by
  have hl := h.1
  refine ⟨by rw [List.length_take]; omega, ?_⟩
  rcases h.2 with ⟨hv, _⟩ | ⟨g', cap', cur, hv, h1, h2, h3, h4, h5, h6⟩
  · injection hv with hv _ _
    simp at hv
  · injection hv with hv e2 e3
    clear e2
    simp only [Option.some.injEq, Addr.mk.injEq, and_true] at hv
    subst hv
    subst e3
    refine Or.inr ⟨g, cap, cur, rfl, h1, h2, by omega, h4, h5, ?_⟩
    rw [← h6, List.take_take, Nat.mul_one, Nat.mul_one, Nat.min_eq_left hm]
/-- marked lists hold what they held -/
theorem Mk.tw {b0 : Nat} {W : World} {ns : List ND} {vl : Value} {zs : List (Int × Value)} {fs : List Value} (h : Mk b0 W ns vl zs fs) (hf : fs.length = ns.length) : Tw b0 W ns vl zs := by
  refine ⟨h.row, h.z, fun q hq hq' => ?_⟩
  obtain ⟨f, hfq⟩ : ∃ f, fs[q]? = some f := ⟨_, List.getElem?_eq_getElem (by rw [hf]; exact hq')⟩
  obtain ⟨h1, g, cap, rfl, e2⟩ := h.lo q hq hq' f hfq
  rw [e2]
  have z := own_cut h1 (Nat.le_add_right _ 8)
  have e : (ints (ns[q].ps ++ mk8 8)).take ns[q].ps.length = ints ns[q].ps := by
    unfold ints
    rw [List.map_append, ← List.length_map (f := fun (i : Int) => Value.int .i64 i), List.take_left]
  rw [e] at z
  exact z
set_option maxHeartbeats 16000000 in
set_option maxRecDepth 100000 in
set_option linter.unusedSimpArgs false in
set_option linter.unusedVariables false in
theorem made_no (N : Nat) (w : World) (st : ByteArray) (x : Nat → Int) (ao : Option Addr) (b o cap : Nat) (pv : Nat → Value) (ns : List ND) (h : NsAt N w ao b o pv ns) (hN : N ≤ w.heap.size) (hs : st.size ≤ 9223372036854775807) (he : errP st x ns ≠ 0) (hT : TabG w) :
    Calls Tryd.prog 23 #[.agg (clA st x (.slice ao ns.length cap))] w fun e w' => e = .returned (.tuple #[.pointer none, .bool true]) ∧ Below w.heap.size w w' := by
  have hps : ∀ (q : Nat) (hq : q < ns.length), ns[q].ps.length ≤ 17592186043904 := fun q hq => by
    obtain ⟨_, _, _, _, _, hp⟩ := h.ps q hq
    exact hp.len
  have hlen := h.len
  obtain ⟨W0, hW0, hX⟩ := boxed st x cap h hN
  have HX := hide (hX.stand hN)
  have B0 := hide hX.bel
  have T0 := hide (hT.below hX.bel)
  clear hX h hT
  have TW := hide (twin19_apart N W0 st x ao b o cap pv ns HX.out.nd HX.out.le)
  have NU := hide fun w n => numF w n
  have NW : Hid (∀ B W1 vl zs, zs.length = ns.length → Tw B W1 ns vl zs → ∃ ao' b' cap' pv', vl = .slice ao' ns.length cap' ∧ NsAt W1.heap.size W1 ao' b' 0 pv' ns) := fun B W1 vl zs hz ht => by
    obtain ⟨a, b, c, e1, e2⟩ := ht.nodes hz hlen hps
    exact ⟨a, b, c, _, e1, e2⟩
  have HPS := hide hps
  have HLEN := hide hlen
  clear hps hlen
  go_enter Tryd.func23, Tryd.ntmps23
  go_upto_region 1 with fail
  rw [← hW0]
  clear hW0
  go_wp2_with (refine wpList_loadCl rfl (.tmp 1) rfl w.heap.size st x _ rfl HX.out.cl ?_)
  refine Calls.mono TW.out ?_
  rintro e W1 ⟨vl, zs, rfl, hz, tw, ap, b1⟩
  obtain ⟨ao1, -, cap1, -, rfl, -⟩ := NW.out _ W1 vl zs hz tw
  obtain ⟨W2, hW2⟩ : ∃ W2, W2 = ((W1.alloc (.cells #[.string ⟨#[]⟩, .int .i64 0, .int .i64 0, .int .i64 0, .int .i64 0, .int .i64 0, .int .i64 0, .int .i64 0, .int .i64 0, .int .i64 0, .int .i64 0, .int .i64 0, .int .i64 0, .int .i64 0, .int .i64 0, .int .i64 0, .int .i64 0, .int .i64 0, .int .i64 0, .int .i64 0, .int .i64 0, .int .i64 0, .slice none 0 0] 24)).setRow W1.heap.size (clA st x (.slice ao1 ns.length cap1))) := ⟨_, rfl⟩
  have R1 : Hid (ClAt (W1.alloc (.cells #[.string ⟨#[]⟩, .int .i64 0, .int .i64 0, .int .i64 0, .int .i64 0, .int .i64 0, .int .i64 0, .int .i64 0, .int .i64 0, .int .i64 0, .int .i64 0, .int .i64 0, .int .i64 0, .int .i64 0, .int .i64 0, .int .i64 0, .int .i64 0, .int .i64 0, .int .i64 0, .int .i64 0, .int .i64 0, .int .i64 0, .slice none 0 0] 24)) W1.heap.size ⟨#[]⟩ zx (.slice none 0 0)) := new_cl W1 ⟨#[]⟩ zx (.slice none 0 0)
  have b2 : Below W1.heap.size W1 W2 := by rw [hW2]; exact below_setRow ((Below.refl _ W1).alloc (Nat.le_refl _) _) (Nat.le_refl _) _
  have C2 : Hid (ClAt W2 W1.heap.size st x (.slice ao1 ns.length cap1)) := by rw [hW2]; exact setRow_heap _ W1.heap.size _ _ 24 _ R1.out
  have b02 : Hid (Below W0.heap.size W0 W2) := b1.trans (b2.mono b1.size)
  have tw2 := tw.keep b2
  have M2 : Mk W0.heap.size W2 ns (.slice ao1 ns.length cap1) zs [] := ⟨own_lowX tw2.row (by omega), hz, tw2.z, fun q hq hq' f hf => by simp at hf, fun q hq hq' _ => own_lowX (tw2.p q hq hq') (by omega), ap⟩
  have MK := hide (marked_a W0.heap.size W2 st x ns (.slice ao1 ns.length cap1) zs M2 b02.out.size HPS.out HLEN.out)
  clear tw2 M2 tw ap b1 b2 hz
  go_wp2_with (first | (refine wpList_store_row rfl 24 (.tmp 4) (.tmp 13) rfl W1.heap.size (clA st x (.slice ao1 ns.length cap1)) rfl rfl 24 _ R1.out infoCl rfl (clA_one st x rfl) ?_; rw [← hW2]; clear hW2) | (refine wpList_loadCl rfl (.tmp 4) rfl W1.heap.size st x _ rfl C2.out ?_))
  refine Calls.mono MK.out ?_
  rintro e W3 ⟨fv, rfl, mr⟩
  obtain ⟨zs3, fs, hfl, m3, f3, bo3⟩ := mr
  have b03 : Hid (Below W0.heap.size W0 W3) := b02.out.trans bo3.be
  have C3 : Hid (ClAt W3 W1.heap.size st x (.slice ao1 ns.length cap1)) := (bo3.oth W1.heap.size _ _ _ C2.out (by decide) (by decide)).trans C2.out
  obtain ⟨ao', b', cap', pv', ev, hn3⟩ := NW.out _ W3 _ zs3 m3.len (m3.tw hfl)
  injection ev with ev1 ev2 ev3
  clear ev2
  subst ev1
  subst ev3
  have N3 := hide hn3
  have FS : Hid (fs.length = ns.length) := hfl
  have F3 : Hid (W3.ownsRow W2.heap.size 26 1 fv fs.length fs) := f3
  have L3 : Hid (∀ (q : Nat) (hq : q < fs.length) (hq' : q < ns.length), W3.ownsRow W0.heap.size 3 1 fs[q] (ns[q].ps.length + 8) (ints (ns[q].ps ++ mk8 8))) := fun q hq hq' => (m3.lo q (by rw [m3.len]; exact hq') hq' fs[q] (List.getElem?_eq_getElem hq)).1
  clear m3 f3 bo3 hfl hn3 MK C2 b02
  have NN := hide (New_no W3.heap.size W3 st x ao1 b' 0 cap1 pv' ns N3.out (Nat.le_refl _) hs he)
  obtain ⟨er, her⟩ : ∃ er, er = errP st x ns := ⟨_, rfl⟩
  have HER := hide her
  have HE := hide he
  rw [← her] at NN
  clear her he
  go_wp2_with (refine wpList_loadCl rfl (.tmp 4) rfl W1.heap.size st x _ rfl C3.out ?_)
  refine Calls.mono NN.out ?_
  rintro e W4 ⟨rfl, b4⟩
  have K4 : Hid (Below W3.heap.size W3 W4) := b4
  have X4 := hide (HX.out.below (b03.out.trans (b4.mono b03.out.size)))
  have T4 := hide (T0.out.below (b03.out.trans (b4.mono b03.out.size)))
  have TV := hide (twin19_any N W4 st x ao b o cap pv ns X4.out.nd X4.out.le)
  clear b4 NN
  go_wp2_with (refine wpList_loadCl rfl (.tmp 1) rfl w.heap.size st x _ rfl X4.out.cl ?_)
  refine Calls.mono TV.out ?_
  rintro e W5 ⟨vl5, zs5, rfl, hz5, tw5, b5⟩
  obtain ⟨ao5, b5', cap5, pv5, rfl, hn5⟩ := NW.out _ W5 vl5 zs5 hz5 tw5
  have K5 : Hid (Below W3.heap.size W3 W5) := K4.out.trans (b5.mono K4.out.size)
  have RN := hide (rnew_no W5.heap.size W5 st x ao5 b5' 0 cap5 pv5 ns hn5 (Nat.le_refl _) hs HE.out (T4.out.below b5))
  rw [← HER.out] at RN
  clear hz5 tw5 hn5 b5 TV
  go_wp2_with fail
  refine Calls.mono RN.out ?_
  rintro e W6 ⟨rfl, b6⟩
  have K6 : Hid (Below W3.heap.size W3 W6) := K5.out.trans (b6.mono K5.out.size)
  have X6 := hide (HX.out.below (b03.out.trans (K6.out.mono b03.out.size)))
  have C6 : Hid (ClAt W6 W1.heap.size st x (.slice ao1 ns.length cap1)) := C3.out.below K6.out
  have k6 : Kp W3 W6 non := Kp.of_below K6.out non
  have hNW : N ≤ W6.heap.size := X6.out.le
  have SN := hide (same_nodes (st1 := st) (st2 := st) (x1 := x) (x2 := x) (c1 := cap1) (c2 := cap) ((N3.out.below K6.out).more k6.size) (X6.out.nd.more hNW) (Nat.le_refl _))
  have ST := hide fun X (hX : Kp W6 X non) => stay_a (st1 := st) (x1 := x) (c1 := cap) (own_kp (own_kp F3.out k6 (fun _ _ f => f)) hX (fun _ _ f => f)) FS.out (fun q hq hq' => own_kp (own_kp (L3.out q hq hq') k6 (fun _ _ f => f)) hX (fun _ _ f => f)) (X6.out.nd.below (hX.below.mono hNW)) (Nat.le_trans hNW hX.size)
  have B6 : Hid (Below w.heap.size w W6) := B0.out.trans ((b03.out.trans (K6.out.mono b03.out.size)).mono B0.out.size)
  clear b6 RN k6 K4 K5 X4 T4 hNW
  have q1 : (er != er) = false := by simp
  go_wp2_with (first | (go_at_call 9; refine Calls.mono (NU.out _ _) ?_; rintro e w' ⟨rfl, rfl⟩) | (refine wpList_loadClX (.tmp 4) rfl (by kernel_rfl) W1.heap.size st x _ rfl C6.out ?_) | (refine wpList_loadClX (.tmp 1) rfl (by kernel_rfl) w.heap.size st x _ rfl X6.out.cl ?_))
  refine Calls.mono SN.out ?_
  rintro e W7 ⟨rfl, k7⟩
  have K7 := hide k7
  have X7 := hide (X6.out.cl.below (k7.below))
  have S7 := hide (ST.out W7 k7)
  clear k7 SN ST
  go_wp2_with (refine wpList_loadClX (.tmp 1) rfl (by kernel_rfl) w.heap.size st x _ rfl X7.out ?_)
  refine Calls.mono S7.out ?_
  rintro e W8 ⟨rfl, k8⟩
  have K8 := hide k8
  clear k8
  go_wp2_with fail
  go_ret2
  exact ⟨rfl, B6.out.trans (((K7.out.trans K8.out (fun _ f => f.elim)).below).mono B6.out.size)⟩
end Go.Proofs.YteiiolilpemimaaDoor.Cn
namespace Go.Proofs.YteiiolilpemimaaDoor.Cn
open Go.RowKit
/-- the lists that are written over, behind i nodes -/
structure Ow (w : World) (b0 D : Nat) (st : ByteArray) (x : Nat → Int) (ns : List ND) (vl : Value) (zs : List (Int × Value)) (i : Nat) (W : World) : Prop where
  cl : ClAt W D st x vl
  be : Below w.heap.size w W
  row : ∃ zs' : List (Int × Value), zs'.length = zs.length ∧ W.ownsRow b0 78 2 vl zs.length (ndc zs') ∧ ∀ (q : Nat) (h : q < zs'.length) (h' : q < zs.length), i ≤ q → zs'[q] = zs[q]
  ls : ∀ (q : Nat) (hq : q < zs.length) (hq' : q < ns.length), i < q → W.ownsRow b0 3 1 zs[q].2 ns[q].ps.length (ints ns[q].ps)
  me : ∀ (hq : i < zs.length) (hq' : i < ns.length), ∃ L : List Int, L.length = ns[i].ps.length ∧ W.ownsRow b0 3 1 zs[i].2 ns[i].ps.length (ints L)
section
variable {w W : World} {b0 D : Nat} {st : ByteArray} {x : Nat → Int} {ns : List ND} {vl : Value} {zs : List (Int × Value)} {i : Nat}
theorem Ow.kp {W' : World} (h : Ow w b0 D st x ns vl zs i W) (hk : Kp W W' non) : Ow w b0 D st x ns vl zs i W' := by
  obtain ⟨zs', r1, r2, r3⟩ := h.row
  exact ⟨(hk.block _ (blk_lt h.cl) (fun f => f)).trans h.cl, h.be.trans (hk.below.mono h.be.size), ⟨zs', r1, own_kp r2 hk (fun _ _ f => f), r3⟩, fun q hq hq' hl => own_kp (h.ls q hq hq' hl) hk (fun _ _ f => f), fun hq hq' => by
    obtain ⟨L, l1, l2⟩ := h.me hq hq'
    exact ⟨L, l1, own_kp l2 hk (fun _ _ f => f)⟩⟩
theorem ints_set (L : List Int) (j : Nat) (z : Int) : (ints L).set j (.int .i64 z) = ints (L.set j z) := by
  unfold ints
  rw [List.map_set]
theorem Ow.list (h : Ow w b0 D st x ns vl zs i W) (hb : w.heap.size ≤ b0) (hap : ApZ zs) (hi : i < zs.length) (hi' : i < ns.length) {g m c : Nat} (hg : zs[i].2 = .slice (some ⟨g, 0, none⟩) m c) (j : Nat) (z : Int) : Ow w b0 D st x ns vl zs i (W.setCell ⟨g, j, none⟩ (.int .i64 z)) := by
  obtain ⟨zs', r1, r2, r3⟩ := h.row
  obtain ⟨L, l1, l2⟩ := h.me hi hi'
  have ho : zs[i].2.ownBlock = some g := by rw [hg]; rfl
  obtain ⟨cur, ht⟩ := own_typ l2 ho
  have hbg := own_ge l2 ho
  have k : Kp W (W.setCell ⟨g, j, none⟩ (.int .i64 z)) (fun b => b = g) := (Kp.refl W (fun b => b = g)).set (Or.inl rfl) _ _
  have ty : ∀ {b : Nat} {C : Array Value} {t : TypeId} {fr : Nat × Nat}, W.heap[b]? = some (.cells C t fr) → t ≠ 3 → b ≠ g := fun {b C t fr} hc hn e => by
    rw [e, ht] at hc
    simp at hc
    exact hn hc.2.1.symm
  refine ⟨(k.block _ (blk_lt h.cl) (ty h.cl (by decide))).trans h.cl, h.be.trans ⟨k.os, k.tape, k.output, k.size, fun b hb' => k.block b (Nat.lt_of_lt_of_le hb' h.be.size) (fun e => by omega)⟩, ⟨zs', r1, own_kp r2 k (fun b e => by
    obtain ⟨cur, hc⟩ := own_typ r2 e
    exact ty hc (by decide)), r3⟩, fun q hq hq' hl => own_kp (h.ls q hq hq' hl) k (fun b e e' => hap q i hq hi b (by omega) e (by rw [e']; exact ho)), fun _ _ => ⟨L.set j z, by rw [List.length_set]; exact l1, ?_⟩⟩
  rw [← ints_set]
  have hm : m = ns[i].ps.length := by
    obtain ⟨a, c', e⟩ := own_sl l2
    rw [hg] at e
    injection e
  subst hm
  rw [hg] at l2 ⊢
  exact own_setZ l2 j _
theorem ndc_put1 {zs : List (Int × Value)} {i : Nat} (h : i < zs.length) (u : Int) : ndc (zs.set i (u, zs[i].2)) = (ndc zs).set (i * 2) (.int .i64 u) := by
  induction zs generalizing i with
  | nil => simp at h
  | cons a r ih =>
    cases i with
    | zero => rfl
    | succ i =>
      have h' : i < r.length := by simpa using h
      have := ih h'
      unfold ndc at *
      rw [List.set_cons_succ, List.flatMap_cons, List.flatMap_cons, show (i + 1) * 2 = [Value.int .i64 a.1, a.2].length + i * 2 by simp; omega, List.set_append_right _ _ (by omega), Nat.add_sub_cancel_left]
      rw [show (a :: r)[i + 1].2 = r[i].2 from rfl, this]
theorem Ow.node (h : Ow w b0 D st x ns vl zs i W) (hb : w.heap.size ≤ b0) (hi : i < zs.length) {g c : Nat} (hg : vl = .slice (some ⟨g, 0, none⟩) zs.length c) : Ow w b0 D st x ns vl zs (i + 1) ((W.setCell ⟨g, i * 2, none⟩ (.int .i64 0)).setCell ⟨g, i * 2 + 1, none⟩ (.slice none 0 0)) := by
  obtain ⟨zs', r1, r2, r3⟩ := h.row
  have ho : vl.ownBlock = some g := by rw [hg]; rfl
  obtain ⟨cur, ht⟩ := own_typ r2 ho
  have hbg := own_ge r2 ho
  have k : Kp W ((W.setCell ⟨g, i * 2, none⟩ (.int .i64 0)).setCell ⟨g, i * 2 + 1, none⟩ (.slice none 0 0)) (fun b => b = g) := ((Kp.refl W (fun b => b = g)).set (Or.inl rfl) _ _).set (Or.inl rfl) _ _
  have ty : ∀ {b : Nat} {C : Array Value} {t : TypeId} {fr : Nat × Nat}, W.heap[b]? = some (.cells C t fr) → t ≠ 78 → b ≠ g := fun {b C t fr} hc hn e => by
    rw [e, ht] at hc
    simp at hc
    exact hn hc.2.1.symm
  have hz : i < zs'.length := by omega
  refine ⟨(k.block _ (blk_lt h.cl) (ty h.cl (by decide))).trans h.cl, h.be.trans ⟨k.os, k.tape, k.output, k.size, fun b hb' => k.block b (Nat.lt_of_lt_of_le hb' h.be.size) (fun e => by omega)⟩, ⟨(zs'.set i (0, zs'[i].2)).set i (0, .slice none 0 0), by rw [List.length_set, List.length_set]; exact r1, ?_, fun q hq hq' hl => ?_⟩, fun q hq hq' hl => own_kp (h.ls q hq hq' (by omega)) k (fun b e => ?_), fun hq hq' => ⟨ns[i + 1].ps, rfl, own_kp (h.ls (i + 1) hq hq' (by omega)) k (fun b e => ?_)⟩⟩
  · have z2 := ndc_put (zs := zs'.set i (0, zs'[i].2)) (i := i) (by rw [List.length_set]; exact hz) (.slice none 0 0)
    rw [List.getElem_set_self] at z2
    rw [z2, ndc_put1 hz]
    rw [hg] at r2 ⊢
    exact own_setZ (own_setZ r2 _ _) _ _
  · rw [List.getElem_set_ne (by omega), List.getElem_set_ne (by omega)]
    exact r3 q (by omega) hq' (by omega)
  · obtain ⟨cur, hc⟩ := own_typ (h.ls q hq hq' (by omega)) e
    exact ty hc (by decide)
  · obtain ⟨cur, hc⟩ := own_typ (h.ls (i + 1) hq hq' (by omega)) e
    exact ty hc (by decide)
end
end Go.Proofs.YteiiolilpemimaaDoor.Cn
