import Derived.Test.YtndfhpfhgdamgaaGreatDoorGRfServes
import Derived.Test.YtndfhpfhgdamgaaGreatDoorGGcTwin
import Derived.Test.YtndfhpfhgdamgaaGreatDoorRows
import Derived.ProofKit
import Derived.OpenShut
import Derived.JoinedOf
import Derived.SizedLaws
import Derived.Lib.SmallJoins
import Derived.Deep.SlicePairs
import Derived.Deep.DeepHandedRow
namespace Go.Proofs.YtndfhpfhgdamgaaGreatDoor.Cn
open Go.RowKit
/-- the mask is another -/
theorem StX.putm {w : World} {base B ob oc : Nat} {ow : List Int} {M D : Int} {wv : Value} {Y : List Lt} (h : StX w base B ob oc ow M D wv Y) (M' : Int) : StX (w.setCell ⟨B, 1, none⟩ (.int .i64 M')) base B ob oc ow M' D wv Y ∧ Kp w (w.setCell ⟨B, 1, none⟩ (.int .i64 M')) (fun j => j = B) := by
  have k2 : Kp w (w.setCell ⟨B, 1, none⟩ (.int .i64 M')) (fun j => j = B) := (Kp.refl w (fun j => j = B)).set (Or.inl rfl) _ _
  have n1 : wv.ownBlock ≠ some B := own_not h.way h.blk (by decide)
  refine ⟨⟨?_, h.ge, fun i hi => (k2.cell (World.block_lt_of_cell? w _ (h.own i hi)) (fun q => ?_)).trans (h.own i hi), h.lt, own_kp h.way k2 (fun j e q => n1 (q ▸ e))⟩, k2⟩
  · rw [heap_setCell _ _ _ _ _ _ _ h.blk]; rfl
  · have h1 := h.lt
    have h2 := h.ge
    replace q : ob = B := q
    omega
/-- between two gets, behind i of them -/
def Lv (W : World) (B ob oc : Nat) (ow : List Int) (D : Int) (R : Nat) (c : Cl) (i : Nat) (wr : World) : Prop := ∃ M S v wv Y m, StX wr W.heap.size B ob oc ow M D wv Y ∧ RtAt wr S R c [] v ∧ (∀ k, S k → W.heap.size ≤ k) ∧ Ok c [] v m ∧ m ≤ i * 32768 ∧ v.last ≤ (i : Int) ∧ v.now ≤ (i : Int) * 16384 ∧ v.d.now = v.now ∧ Below W.heap.size W wr
theorem Lv.below {W : World} {B ob oc : Nat} {ow : List Int} {D : Int} {R : Nat} {c : Cl} {i : Nat} {wr : World} (h : Lv W B ob oc ow D R c i wr) : Below W.heap.size W wr := by
  obtain ⟨M, S, v, wv, Y, m, a1, a2, a3, a4, a5, a6, a7, a8, a9⟩ := h
  exact a9
theorem Lv.open {W : World} {B ob oc : Nat} {ow : List Int} {D : Int} {R : Nat} {c : Cl} {i : Nat} {wr : World} (h : Lv W B ob oc ow D R c i wr) : Calls Tryz.prog 17 #[.pointer (some ⟨R, 0, none⟩)] wr fun e w' => e = .returned (.int .i64 0) ∧ wr = w' := by
  obtain ⟨M, S, v, wv, Y, m, a1, a2, a3, a4, a5, a6, a7, a8, a9⟩ := h
  exact Open_any a2
theorem Lv.mask {W : World} {B ob oc : Nat} {ow : List Int} {D : Int} {R : Nat} {c : Cl} {i : Nat} {wr : World} (h : Lv W B ob oc ow D R c i wr) : ∃ M0, wr.cell? ⟨B, 1, none⟩ = some (.int .i64 M0) ∧ wr.frozen? ⟨B, 1, none⟩ = false := by
  obtain ⟨M, S, v, wv, Y, m, a1, _⟩ := h
  exact ⟨M, a1.cells.2.1, a1.fz 1⟩
/-- one get more -/
theorem Lv.serve {W : World} {B ob oc : Nat} {ow : List Int} {D : Int} {R : Nat} {c : Cl} {i : Nat} {wr : World} (h : Lv W B ob oc ow D R c i wr) (hi : i ≤ 2147483648) (h3 : 3 ≤ W.heap.size) (hT : TabD W) (key : ByteArray) (hk : ¬ (key.size = 0 ∨ 255 < key.size)) (how : ow = ownsOf c key) (hD0 : 0 ≤ D) (hD : D < c.x 17) (tk : Int) (htk : tk = c.x 0 * c.x 17) (M : Int) :
    Calls Tryz.prog 16 #[.pointer (some ⟨B, 0, none⟩), .pointer (some ⟨R, 0, none⟩), .string key, .int .i64 tk] (wr.setCell ⟨B, 1, none⟩ (.int .i64 M)) fun e w' => e = .returned (.bool true) ∧ Lv W B ob oc ow D R c (i + 1) w' := by
  obtain ⟨M0, S, v, wv, Y, m, a1, a2, a3, a4, a5, a6, a7, a8, a9⟩ := h
  obtain ⟨x1, k1⟩ := a1.putm M
  obtain ⟨nB, nW⟩ := a1.not a2
  have hb := hbase a1
  have b1 : Below W.heap.size W (wr.setCell ⟨B, 1, none⟩ (.int .i64 M)) := a9.trans (k1.toBelow (fun k e => by rw [e]; exact a1.ge) hb)
  have r1 := a2.kp k1 (fun k q e => nB (e ▸ q))
  obtain ⟨o1, o2, o3, o4, o5, o6⟩ := owns_ok a4.err key
  have hwt := a4.wt
  have ht2 : tk ≤ 16384 := by
    have b : c.x 0 * c.x 17 ≤ 16 * 1024 := Int.mul_le_mul o5 hwt.2 (by omega) (by omega)
    omega
  refine Calls.mono (serves_any x1 r1 a3 h3 a4 (tab_kp hT (Kp.of_below b1 non) (fun _ f => f.elim)) key hk how hD0 hD (by omega) (by omega) (by omega) a8 tk htk) ?_
  rintro e w' ⟨rfl, S', v', wv', Y', m', z1, z2, z3, z4, z5, z6, z7, z8, z9⟩
  exact ⟨rfl, M, S', v', wv', Y', m', z1, z2, z3, z4, by omega, by rw [z6]; omega, by omega, z8, b1.trans z9⟩
theorem may_bad {key : ByteArray} (hk : key.size = 0 ∨ 255 < key.size) : mayE 0 [key] = 32 := by
  have : badK key = true := decide_eq_true hk
  simp [mayE, this]
theorem rv_ok {st : ByteArray} {x : Nat → Int} {ns : List ND} (he : errP st x ns = 0) (hs : st.size ≤ 9223372036854775807) : Ok ⟨st, x, ns⟩ [] ⟨Dt.new ns.length (x 18) (x 19), 0, 0⟩ 0 := by
  obtain ⟨a1, a2, a3, a4, a5, a6⟩ := errP_all he
  have l18 : 1 ≤ x 18 ∧ x 18 ≤ 64 := sfP_lim a2 18 (by omega)
  have l19 : 1 ≤ x 19 ∧ x 19 ≤ 1024 := sfP_lim a2 19 (by omega)
  have hnl := nfP_len a3
  have hf : (Dt.new ns.length (x 18) (x 19)).fits := ⟨hnl.1, hnl.2, l18.1, l18.2, l19.1, l19.2, Int.le_refl 0⟩
  refine ⟨he, hs, ⟨hf, fun _ => Int.le_refl 0, fun _ => Int.le_refl 0, Int.le_refl 0⟩, fun _ => ?_, rfl, Int.le_refl 0, Int.le_refl 0, fun g hg => absurd hg (by simp), List.Pairwise.nil, fun g hg => absurd hg (by simp), fun g hg => absurd hg (by simp), fun g hg => absurd hg (by simp), by simp⟩
  show (0 : Int) ≤ 0 + x 19
  omega
theorem delay_ok {dl gw : Int} (h : 1 ≤ gw) : 0 ≤ (dl.tmod gw + gw).tmod gw ∧ (dl.tmod gw + gw).tmod gw < gw ∧ -gw < dl.tmod gw ∧ dl.tmod gw < gw := by
  have h1 : -gw < dl.tmod gw := Int.lt_tmod_of_pos dl (by omega)
  have h2 : dl.tmod gw < gw := Int.tmod_lt_of_pos dl (by omega)
  exact ⟨Int.tmod_nonneg _ (by omega), Int.tmod_lt_of_pos _ (by omega), h1, h2⟩
theorem place_info : (Tryz.prog.info? 39).map (·.size) = some 3 := by kernel_rfl
theorem place_one (p c : Int) (h : ByteArray) : (plA p c h).all (·.oneCell') = true := by simp [plA, Value.oneCell']
set_option maxHeartbeats 16000000 in
set_option maxRecDepth 100000 in
set_option linter.unusedSimpArgs false in
set_option linter.unusedVariables false in
theorem failover_any (N : Nat) (w : World) (st : ByteArray) (x : Nat → Int) (ao : Option Addr) (b o cap : Nat) (pv : Nat → Value) (ns : List ND) (h : NsAt N w ao b o pv ns) (hN : N ≤ w.heap.size) (hs : st.size ≤ 9223372036854775807) (hT : TabD w) (h3 : 3 ≤ w.heap.size) (key : ByteArray) (hks : key.size ≤ 9223372036854775807) (ao2 : Option Addr) (mb mo mcap : Nat) (L : List Int) (hL : IsAt w ao2 mb mo L) (dl : Int) (hdl : tkOk dl) :
    Calls Tryz.prog 3 #[.agg (clA st x (.slice ao ns.length cap)), .string key, .slice ao2 L.length mcap, .int .i64 dl] w fun e w' => e = .returned (.bool true) ∧ Below w.heap.size w w' := by
  obtain ⟨W0, hW0, hX⟩ := boxed st x cap h hN
  have HX := hide (hX.stand hN)
  have B0 := hide hX.bel
  clear hX h
  have BY := hide fun w n => beyond_any w n
  have NU := hide fun w n => num_r w n
  have CK := hide (YtndfhpfhgdamgaaGreatDoor.check_any N W0 st x ao b o cap pv ns HX.out.nd HX.out.le hs)
  have HT := hide hT
  have HLL := hide hL
  obtain ⟨n, hn⟩ : ∃ n, n = L.length := ⟨_, rfl⟩
  have HN := hide hn
  have hlen := hL.len
  rw [← hn] at hlen ⊢
  clear hL hn hT
  go_enter Tryz.func3, Tryz.ntmps3
  go_upto_region 1 with fail
  rw [← hW0]
  clear hW0
  go_wp2_with fail
  refine Calls.mono (BY.out _ _) ?_
  rintro e w' ⟨rfl, rfl⟩
  by_cases hbe : (2147483647 : Int) < (n : Int)
  case pos =>
    have q0 : decide ((2147483647 : Int) < (n : Int)) = true := decide_eq_true hbe
    go_wp2_with fail
    go_ret
    exact ⟨rfl, B0.out⟩
  case neg =>
  have q0 : decide ((2147483647 : Int) < (n : Int)) = false := decide_eq_false hbe
  go_wp2_with (refine wpList_loadCl rfl (.tmp 4) rfl w.heap.size st x _ rfl HX.out.cl ?_)
  refine Calls.mono CK.out ?_
  rintro e W1 ⟨rfl, hb⟩
  have X1 := hide (HX.out.below hb)
  have B1 := hide (B0.out.trans (hb.mono B0.out.size))
  clear hb HX CK
  by_cases he : errP st x ns = 0
  case neg =>
    have RF := hide (refused_any N W1 st x ao b o cap pv ns X1.out.nd X1.out.le hs he)
    generalize errP st x ns = er at *
    have q1 : (er != 0) = true := by simp [he]
    go_wp2_with (first | (go_at_call 8; refine Calls.mono (NU.out _ _) ?_; rintro e w' ⟨rfl, rfl⟩) | (refine wpList_loadCl rfl (.tmp 4) rfl w.heap.size st x _ rfl X1.out.cl ?_) | (go_at_call 10; refine Calls.mono RF.out ?_; rintro e W2 ⟨rfl, hb2⟩; have B2 := hide (B1.out.trans (hb2.mono B1.out.size)); clear hb2))
    go_ret
    exact ⟨rfl, B2.out⟩
  case pos =>
  obtain ⟨a1, a2, a3, a4, a5, a6⟩ := errP_all he
  have hss : st.size ≤ 281474976710656 := by have := nm_size a1; omega
  have hnl := nfP_len a3
  have hps := ps_small a4
  have CLU : Hid (∀ W, Stand N w.heap.size W st x ao b o cap pv ns → Calls Tryz.prog 12 #[.agg (clA st x (.slice ao ns.length cap))] W fun e w' => ∃ ao' cap', e = .returned (.agg (clA st x (.slice ao' ns.length cap'))) ∧ Below W.heap.size W w' ∧ Calls Tryz.prog 11 #[.agg (clA st x (.slice ao' ns.length cap'))] w' fun e w2 => ∃ R S, e = .returned (.tuple #[.pointer (some ⟨R, 0, none⟩), .int .i64 0]) ∧ RtAt w2 S R ⟨st, x, ns⟩ [] ⟨Dt.new ns.length (x 18) (x 19), 0, 0⟩ ∧ Below w'.heap.size w' w2 ∧ ∀ k, S k → w'.heap.size ≤ k) := fun W hW => by
    refine Calls.mono (cluster_any N W st x ao b o cap pv ns hW.nd hW.le hps (by omega)) ?_
    rintro e w' ⟨vl, zs, rfl, hl, tw, hb⟩
    obtain ⟨ao', b', cap', hv, nd⟩ := tw.nodes hl (by omega) (fun q hq => Nat.le_trans (hps q hq) (by omega))
    subst hv
    exact ⟨ao', cap', rfl, hb, New_r w'.heap.size w' st x ao' b' 0 cap' _ ns nd (Nat.le_refl _) hss he⟩
  have q1 : (errP st x ns != 0) = false := by simp [he]
  have HE := hide he
  rw [he]
  by_cases hkb : key.size = 0 ∨ 255 < key.size
  case pos =>
    have q5 : (decide ((key.size : Int) < 1) || decide ((255 : Int) < (key.size : Int))) = true := by
      rw [Bool.or_eq_true, decide_eq_true_eq, decide_eq_true_eq]
      omega
    have HKB := hide hkb
    have CU := hide (CLU.out W1 X1.out)
    have GNO : Hid (∀ W2 R S, RtAt W2 S R ⟨st, x, ns⟩ [] ⟨Dt.new ns.length (x 18) (x 19), 0, 0⟩ → Calls Tryz.prog 13 #[.pointer (some ⟨R, 0, none⟩), .string key] W2 fun e w' => e = .returned (.tuple #[.int .i64 0, .slice none 0 0, .int .i64 32]) ∧ Kp W2 w' non) := fun W2 R S r => by
      have := Get_no r (by simp) key hks (by show mayE 0 [key] ≠ 0; rw [may_bad hkb]; decide)
      rw [show mayE ([] : List Gp).length [key] = 32 from may_bad hkb] at this
      exact this
    have hk0 : (key.size : Int) < 1 ∨ (255 : Int) < (key.size : Int) := by omega
    clear CLU a1 a2 a3 a4 a5 a6 hps hkb he
    rcases hk0 with z | z
    all_goals
      go_wp2_with (first | (go_at_call 8; refine Calls.mono (NU.out _ _) ?_; rintro e w' ⟨rfl, rfl⟩) | (refine wpList_loadCl rfl (.tmp 4) rfl w.heap.size st x _ rfl X1.out.cl ?_))
      refine Calls.mono CU.out ?_
      rintro e W2 ⟨ao', cap', rfl, hb2, nw⟩
      have NW := hide nw
      have B2 := hide (B1.out.trans (hb2.mono B1.out.size))
      clear nw hb2 CU
      go_wp2_with fail
      refine Calls.mono NW.out ?_
      rintro e W3 ⟨R, S, rfl, r3, b3, s3⟩
      have B3 := hide (B2.out.trans (b3.mono B2.out.size))
      have GN := hide (GNO.out W3 R S r3)
      clear r3 b3 s3 NW GNO
      go_wp2_with (go_at_call 8; refine Calls.mono (NU.out _ _) ?_; rintro e w' ⟨rfl, rfl⟩)
      refine Calls.mono GN.out ?_
      rintro e W4 ⟨rfl, k4⟩
      have B4 : Hid (Below w.heap.size w W4) := B3.out.trans (k4.below.mono B3.out.size)
      clear k4 GN
      go_wp2_with (go_at_call 8; refine Calls.mono (NU.out _ _) ?_; rintro e w' ⟨rfl, rfl⟩)
      go_ret
      exact ⟨rfl, B4.out⟩
  case neg =>
  obtain ⟨o1, o2, o3, o4, o5, o6⟩ := owns_ok (c := ⟨st, x, ns⟩) he key
  have hkl : ¬ (key.size : Int) < 1 := by omega
  have hkg : ¬ (255 : Int) < (key.size : Int) := by omega
  have lw : 1 ≤ x 17 ∧ x 17 ≤ 1024 := sfP_lim a2 17 (by omega)
  obtain ⟨ow, how⟩ : ∃ ow, ow = ownsOf ⟨st, x, ns⟩ key := ⟨_, rfl⟩
  rw [← how] at o1 o2 o3
  have ol16 : ow.length ≤ 16 := by have : (ow.length : Int) = x 0 := o1; have : x 0 ≤ 16 := o5; omega
  have ol1 : 1 ≤ ow.length := by have : (ow.length : Int) = x 0 := o1; have : 1 ≤ x 0 := o4; omega
  have T1 : TabD W1 := tab_kp HT.out (Kp.of_below B1.out non) (fun _ f => f.elim)
  have LO := locate_any N W1 st x ao b o cap pv ns key X1.out.nd X1.out.le hs hks T1
  rw [lcE_ok he hkb, show lcV st x ns key = plA (lcP ns key) (lcC x key) (lcH x key) from if_pos (lcE_ok he hkb)] at LO
  have LOC := hide LO
  have OWS : Hid (∀ W, Stand N w.heap.size W st x ao b o cap pv ns → Calls Tryz.prog 15 #[.agg (clA st x (.slice ao ns.length cap)), .int .i64 (lcP ns key)] W fun e w' => ∃ u, e = .returned (.tuple #[u, .int .i64 0]) ∧ w'.ownsRow W.heap.size 3 1 u ow.length (ints ow) ∧ Below W.heap.size W w') := fun W hW => by
    have := Owners_any N W st x ao b o cap pv ns (lcP ns key) hW.nd hW.le hs
    rw [show rdE st x ns (lcP ns key) = 0 from o6] at this
    have hl : ow.length = (wkE st x ns (lcP ns key)).length := by rw [how]; unfold ownsOf; rw [owL_len]
    rw [hl, how]
    exact this
  have OX0 : Hid ((ow.length : Int) = x 0) := o1
  obtain ⟨pp, hpp⟩ : ∃ pp, pp = lcP ns key := ⟨_, rfl⟩
  rw [← hpp] at LOC OWS
  generalize lcC x key = pc at *
  generalize lcH x key = ph at *
  have HOW := hide how
  have HKB := hide hkb
  clear LO T1 o1 o2 o3 o6 a1 a2 a3 a4 a5 a6 hps hpp he hkb how
  go_wp2_with (first | (go_at_call 8; refine Calls.mono (NU.out _ _) ?_; rintro e w' ⟨rfl, rfl⟩) | (refine wpList_loadCl rfl (.tmp 4) rfl w.heap.size st x _ rfl X1.out.cl ?_))
  refine Calls.mono LOC.out ?_
  rintro e W2 ⟨rfl, hb2⟩
  have X2 := hide (X1.out.below hb2)
  have B2 := hide (B1.out.trans (hb2.mono B1.out.size))
  clear hb2 LOC
  obtain ⟨PB, hPB⟩ : ∃ PB, PB = W2.heap.size := ⟨_, rfl⟩
  obtain ⟨W3, hW3⟩ : ∃ W3, W3 = W2.alloc (.cells (plA pp pc ph) 39) := ⟨_, rfl⟩
  have b3 : Below W2.heap.size W2 W3 := by rw [hW3]; exact (Below.refl _ _).alloc (Nat.le_refl _) _
  have P3 : W3.heap[PB]? = some (.cells (plA pp pc ph) 39) := by rw [hW3, hPB]; exact heap_last _ _
  have p0 : W3.cell? ⟨PB, 0, none⟩ = some (.int .i64 pp) := by rw [cell_row P3]; rfl
  have X3 := hide (X2.out.below b3)
  have B3 := hide (B2.out.trans (b3.mono B2.out.size))
  have OW3 := hide (OWS.out W3 X3.out)
  have HPB := hide hPB
  clear b3 P3 hPB OWS
  go_upto_region 12 with (refine wpList_stR rfl 39 (.tmp 14) (.tmp 67) rfl W2.heap.size rfl (plA pp pc ph) (plA 0 0 ⟨#[]⟩) rfl _ (heap_last W2 _) place_info rfl (place_one _ _ _) ?_)
  rw [World.setRow_alloc_new, ← hW3, ← HPB.out]
  clear hW3
  go_wp2_with (refine wpList_loadCl rfl (.tmp 4) rfl w.heap.size st x _ rfl X3.out.cl ?_)
  refine Calls.mono OW3.out ?_
  rintro e W4 ⟨u, rfl, ou, hb4⟩
  have X4 := hide (X3.out.below hb4)
  have B4 := hide (B3.out.trans (hb4.mono B3.out.size))
  obtain ⟨ob, oc, hu⟩ := own_g ou (by omega)
  subst hu
  have OCELL : Hid (∀ W, Below W4.heap.size W4 W → ∀ i, i < ow.length → W.cell? ⟨ob, i, none⟩ = some (.int .i64 (atL ow i))) := fun W hW i hi => by
    obtain ⟨_, ao', b', cap', hv', his, hbb⟩ := own_is ou (by omega)
    have hb0 := hbb ob rfl
    subst hb0
    have := his.cell i hi
    rw [Nat.zero_add] at this
    rw [atL_get hi, hW.cell (World.block_lt_of_cell? W4 _ this)]
    exact this
  have OLT : Hid (ob < W4.heap.size) := own_lt ou rfl
  have CU := hide (CLU.out W4 X4.out)
  clear ou hb4 OW3 p0 CLU
  go_wp2_with (refine wpList_loadCl rfl (.tmp 4) rfl w.heap.size st x _ rfl X4.out.cl ?_)
  refine Calls.mono CU.out ?_
  rintro e W5 ⟨ao', cap', rfl, hb5, nw⟩
  have X5 := hide (X4.out.below hb5)
  have B5 := hide (B4.out.trans (hb5.mono B4.out.size))
  have NW := hide nw
  have B45 := hide hb5
  clear nw hb5 CU
  go_wp2_with fail
  refine Calls.mono NW.out ?_
  rintro e W6 ⟨R, S, rfl, r6, b6, s6⟩
  have B56 := hide b6
  have R6 := hide r6
  have S6 := hide s6
  have X6 := hide (X5.out.below b6)
  clear r6 b6 s6 NW
  obtain ⟨x0, hx0⟩ : ∃ x0, x0 = x 0 := ⟨_, rfl⟩
  obtain ⟨gw, hgw⟩ : ∃ gw, gw = x 17 := ⟨_, rfl⟩
  have c1 : W6.cell? ⟨w.heap.size, 1, none⟩ = some (.int .i64 (ow.length : Int)) := by rw [OX0.out]; exact X6.out.cl.x 0 (by omega)
  have c18 : W6.cell? ⟨w.heap.size, 18, none⟩ = some (.int .i64 gw) := by rw [hgw]; exact X6.out.cl.x 17 (by omega)
  have CC : Hid (∀ W, Below W5.heap.size W5 W → W.cell? ⟨w.heap.size, 1, none⟩ = some (.int .i64 x0) ∧ W.cell? ⟨w.heap.size, 18, none⟩ = some (.int .i64 gw)) := fun W hW => ⟨by rw [hx0]; exact (X5.out.cl.below hW).x 0 (by omega), by rw [hgw]; exact (X5.out.cl.below hW).x 17 (by omega)⟩
  have hg0 : Hid (0 < gw) := by rw [hgw]; show (0 : Int) < x 17; omega
  have hg1 : Hid (gw ≤ 1024) := by rw [hgw]; exact lw.2
  obtain ⟨D, hD⟩ : ∃ D, D = (dl.tmod gw + gw).tmod gw := ⟨_, rfl⟩
  have HDD := hide hD
  have dk := delay_ok (dl := dl) (gw := gw) (by have := hg0.out; omega)
  have HA : Hid (-9223372036854775808 ≤ dl.tmod gw + gw ∧ dl.tmod gw + gw < 9223372036854775808) := by have := hg1.out; show _ ∧ _; omega
  have HD0 : Hid (0 ≤ D ∧ D < x 17) := by rw [hD, ← hgw]; exact ⟨dk.1, dk.2.1⟩
  obtain ⟨tk, htk⟩ : ∃ tk, tk = x0 * gw := ⟨_, rfl⟩
  have hx1 : 1 ≤ x0 ∧ x0 ≤ 16 := by rw [hx0]; exact ⟨o4, o5⟩
  have htk2 : 0 ≤ tk ∧ tk ≤ 16384 := by
    have p1 := hg0.out
    have p2 := hg1.out
    rw [htk]
    refine ⟨Int.mul_nonneg (by omega) (by omega), ?_⟩
    have := Int.mul_le_mul hx1.2 p2 (by omega) (by omega)
    omega
  have HTK := hide htk
  have HTK2 : Hid (tk = x 0 * x 17) := by rw [htk, hx0, hgw]; rfl
  have TW5 : Hid (TabD W5) := tab_kp HT.out (Kp.of_below B5.out non) (fun _ f => f.elim)
  have H35 : Hid (3 ≤ W5.heap.size) := Nat.le_trans h3 B5.out.size
  have LS : Hid (∀ (WS : World) (B : Nat), B = W6.heap.size → WS = W6.drew.alloc (.cells (stA (.slice (some ⟨ob, 0, none⟩) ow.length oc) 0 D (.slice none 0 0)) 47) → Lv W5 B ob oc ow D R ⟨st, x, ns⟩ 0 WS) := fun WS B hB hWS => by
    have kS : Kp W6 WS non := by rw [hWS]; exact ((Kp.refl W6 non).drew).alloc _
    have bS : Below W5.heap.size W5 WS := B56.out.trans (kS.below.mono B56.out.size)
    refine ⟨0, S, _, .slice none 0 0, [], 0, ⟨?_, ?_, OCELL.out WS (B45.out.trans (bS.mono B45.out.size)), Nat.lt_of_lt_of_le OLT.out B45.out.size, World.ownsRow_nil _ _ _ _⟩, R6.out.kp kS (fun _ _ f => f), S6.out, rv_ok HE.out hs, Nat.zero_le _, by show (0 : Int) ≤ _; omega, by show (0 : Int) ≤ _; omega, rfl, bS⟩
    · rw [hWS, hB]
      exact heap_last _ _
    · rw [hB]
      exact B56.out.size
  have MC : Hid (∀ W, Below W5.heap.size W5 W → ∀ i (hi : i < L.length), W.cell? ⟨mb, mo + i, none⟩ = some (.int .i64 L[i])) := fun W hW i hi => by
    have := HLL.out.cell i hi
    rw [(B5.out.trans (hW.mono B5.out.size)).cell (World.block_lt_of_cell? w _ this)]
    exact this
  have SV : Hid (∀ B (i : Nat) wr M, Lv W5 B ob oc ow D R ⟨st, x, ns⟩ i wr → i ≤ 2147483648 → Calls Tryz.prog 16 #[.pointer (some ⟨B, 0, none⟩), .pointer (some ⟨R, 0, none⟩), .string key, .int .i64 tk] (wr.setCell ⟨B, 1, none⟩ (.int .i64 M)) fun e w' => e = .returned (.bool true) ∧ Lv W5 B ob oc ow D R ⟨st, x, ns⟩ (i + 1) w') := fun B i wr M hv hi => hv.serve hi H35.out TW5.out key HKB.out HOW.out HD0.out.1 HD0.out.2 tk HTK2.out M
  have HKN : Hid (∀ B (i : Nat) wr M, Lv W5 B ob oc ow D R ⟨st, x, ns⟩ i wr → (wr.setCell ⟨B, 1, none⟩ (.int .i64 M)).cell? ⟨w.heap.size, 1, none⟩ = some (.int .i64 x0) ∧ (wr.setCell ⟨B, 1, none⟩ (.int .i64 M)).cell? ⟨w.heap.size, 18, none⟩ = some (.int .i64 gw)) := fun B i wr M hv => by
    obtain ⟨M0, S', v', wv', Y', m', z1, z⟩ := hv
    exact CC.out _ (z.2.2.2.2.2.2.2.trans ((z1.putm M).2.toBelow (fun k e => by rw [e]; exact z1.ge) (hbase z1)))
  have BW : Hid (∀ W, Below W5.heap.size W5 W → Below w.heap.size w W) := fun W hW => B5.out.trans (hW.mono B5.out.size)
  have hol : (ow.length : Int) < 100 := by omega
  have C18 : Hid (W6.cell? ⟨w.heap.size, 18, none⟩ = some (.int .i64 gw)) := c18
  have CBL : Hid (w.heap.size < W6.heap.size) := World.block_lt_of_cell? W6 _ c18
  clear X1 X2 X3 X4 X5 X6 hgw hx0 hD dk lw o4 o5 htk OX0 HE hss hnl
  go_upto_region 16 with (first | (go_at_call 8; refine Calls.mono (NU.out _ _) ?_; rintro e w' ⟨rfl, rfl⟩))
  clear c1 c18
  refine wp_region_held_drew (S := fun X => X.cell? ⟨w.heap.size, 18, none⟩ = some (.int .i64 gw)) (by kernel_rfl) C18.out (fun hHeld => ?_)
  refine wpAnyH_take (i := 0) (v := (.slice (some ⟨ob, 0, none⟩) ow.length oc)) rfl (by kernel_rfl) (by kernel_rfl) (by kernel_rfl) (fun _ _ _ h => h) (Or.inl ⟨by rfl, ?_⟩) (by assumption) ?_
  · intro w' hSw
    (try dsimp only at hSw)
    go_simp
  (try simp only [Act.put, List.getElem_toArray, List.getElem_cons_zero, List.getElem_cons_succ, List.setIfInBounds_toArray, List.set_cons_zero, List.set_cons_succ])
  refine wpAnyH_take (i := 1) (v := (.int .i64 dl)) rfl (by kernel_rfl) (by kernel_rfl) (by kernel_rfl) (fun _ _ _ h => h) (Or.inl ⟨by rfl, ?_⟩) (by assumption) ?_
  · intro w' hSw
    (try dsimp only at hSw)
    go_simp
  (try simp only [Act.put, List.getElem_toArray, List.getElem_cons_zero, List.getElem_cons_succ, List.setIfInBounds_toArray, List.set_cons_zero, List.set_cons_succ])
  refine wpAnyH_take (i := 2) (v := (.pointer (some ⟨w.heap.size, 18, none⟩))) rfl (by kernel_rfl) (by kernel_rfl) (by kernel_rfl) (fun _ _ _ h => h) (Or.inl ⟨by rfl, ?_⟩) (by assumption) ?_
  · intro w' hSw
    (try dsimp only at hSw)
    go_simp
  (try simp only [Act.put, List.getElem_toArray, List.getElem_cons_zero, List.getElem_cons_succ, List.setIfInBounds_toArray, List.set_cons_zero, List.set_cons_succ])
  refine wpAnyH_take (i := 3) (v := (.int .i64 gw)) rfl (by kernel_rfl) (by kernel_rfl) (by kernel_rfl) (fun _ _ _ h => h) (Or.inl ⟨by rfl, ?_⟩) (by assumption) ?_
  · intro w' hSw
    (try dsimp only at hSw)
    go_simp
  (try simp only [Act.put, List.getElem_toArray, List.getElem_cons_zero, List.getElem_cons_succ, List.setIfInBounds_toArray, List.set_cons_zero, List.set_cons_succ])
  refine wpAnyH_take (i := 4) (v := (.int .i64 (dl.tmod gw))) rfl (by kernel_rfl) (by kernel_rfl) (by kernel_rfl) (fun _ _ _ h => h) (Or.inl ⟨by rfl, ?_⟩) (by assumption) ?_
  · intro w' hSw
    (try dsimp only at hSw)
    (exact exec_remi (.tmp 107) (.tmp 109) rfl (by kernel_rfl) (by kernel_rfl) hg0.out (by have := hg1.out; omega))
  (try simp only [Act.put, List.getElem_toArray, List.getElem_cons_zero, List.getElem_cons_succ, List.setIfInBounds_toArray, List.set_cons_zero, List.set_cons_succ])
  refine wpAnyH_take (i := 5) (v := (.pointer (some ⟨w.heap.size, 18, none⟩))) rfl (by kernel_rfl) (by kernel_rfl) (by kernel_rfl) (fun _ _ _ h => h) (Or.inl ⟨by rfl, ?_⟩) (by assumption) ?_
  · intro w' hSw
    (try dsimp only at hSw)
    go_simp
  (try simp only [Act.put, List.getElem_toArray, List.getElem_cons_zero, List.getElem_cons_succ, List.setIfInBounds_toArray, List.set_cons_zero, List.set_cons_succ])
  refine wpAnyH_take (i := 6) (v := (.int .i64 gw)) rfl (by kernel_rfl) (by kernel_rfl) (by kernel_rfl) (fun _ _ _ h => h) (Or.inl ⟨by rfl, ?_⟩) (by assumption) ?_
  · intro w' hSw
    (try dsimp only at hSw)
    go_simp
  (try simp only [Act.put, List.getElem_toArray, List.getElem_cons_zero, List.getElem_cons_succ, List.setIfInBounds_toArray, List.set_cons_zero, List.set_cons_succ])
  refine wpAnyH_take (i := 7) (v := (.int .i64 (dl.tmod gw + gw))) rfl (by kernel_rfl) (by kernel_rfl) (by kernel_rfl) (fun _ _ _ h => h) (Or.inl ⟨by rfl, ?_⟩) (by assumption) ?_
  · intro w' hSw
    (try dsimp only at hSw)
    (exact exec_addii (.tmp 110) (.tmp 112) rfl (by kernel_rfl) (by kernel_rfl) HA.out.1 HA.out.2)
  (try simp only [Act.put, List.getElem_toArray, List.getElem_cons_zero, List.getElem_cons_succ, List.setIfInBounds_toArray, List.set_cons_zero, List.set_cons_succ])
  refine wpAnyH_take (i := 8) (v := (.pointer (some ⟨w.heap.size, 18, none⟩))) rfl (by kernel_rfl) (by kernel_rfl) (by kernel_rfl) (fun _ _ _ h => h) (Or.inl ⟨by rfl, ?_⟩) (by assumption) ?_
  · intro w' hSw
    (try dsimp only at hSw)
    go_simp
  (try simp only [Act.put, List.getElem_toArray, List.getElem_cons_zero, List.getElem_cons_succ, List.setIfInBounds_toArray, List.set_cons_zero, List.set_cons_succ])
  refine wpAnyH_take (i := 9) (v := (.int .i64 gw)) rfl (by kernel_rfl) (by kernel_rfl) (by kernel_rfl) (fun _ _ _ h => h) (Or.inl ⟨by rfl, ?_⟩) (by assumption) ?_
  · intro w' hSw
    (try dsimp only at hSw)
    go_simp
  (try simp only [Act.put, List.getElem_toArray, List.getElem_cons_zero, List.getElem_cons_succ, List.setIfInBounds_toArray, List.set_cons_zero, List.set_cons_succ])
  refine wpAnyH_take (i := 10) (v := (.int .i64 D)) rfl (by kernel_rfl) (by kernel_rfl) (by kernel_rfl) (fun _ _ _ h => h) (Or.inl ⟨by rfl, ?_⟩) (by assumption) ?_
  · intro w' hSw
    (try dsimp only at hSw)
    (rw [HDD.out]; exact exec_remi (.tmp 113) (.tmp 115) rfl (by kernel_rfl) (by kernel_rfl) hg0.out (by have := hg1.out; omega))
  (try simp only [Act.put, List.getElem_toArray, List.getElem_cons_zero, List.getElem_cons_succ, List.setIfInBounds_toArray, List.set_cons_zero, List.set_cons_succ])
  refine wpAnyH_take (i := 11) (v := (.agg (stA (.slice (some ⟨ob, 0, none⟩) ow.length oc) 0 D (.slice none 0 0)))) rfl (by kernel_rfl) (by kernel_rfl) (by kernel_rfl) (fun _ _ _ h => h) (Or.inl ⟨by rfl, ?_⟩) (by assumption) ?_
  · intro w' hSw
    (try dsimp only at hSw)
    (exact exec_blR 47 _ rfl _ (by kernel_rfl))
  (try simp only [Act.put, List.getElem_toArray, List.getElem_cons_zero, List.getElem_cons_succ, List.setIfInBounds_toArray, List.set_cons_zero, List.set_cons_succ])
  obtain ⟨B, hB⟩ : ∃ B, B = W6.heap.size := ⟨_, rfl⟩
  obtain ⟨WS, hWS⟩ : ∃ WS, WS = W6.drew.alloc (.cells (stA (.slice (some ⟨ob, 0, none⟩) ow.length oc) 0 D (.slice none 0 0)) 47) := ⟨_, rfl⟩
  have LV0 := hide (LS.out WS B hB hWS)
  have CS : Hid (WS.cell? ⟨w.heap.size, 18, none⟩ = some (.int .i64 gw)) := (CC.out WS LV0.out.below).2
  have HB := hide hB
  clear hB LS
  refine wpAnyH_ready (rs := [12]) (by kernel_rfl) (by simp) ?_
  refine AllReadyH.cons rfl (fun K hK => ?_) AllReadyH.nil
  go_simp
  change K _ (W6.drew.alloc (.cells (stA (.slice (some ⟨ob, 0, none⟩) ow.length oc) 0 D (.slice none 0 0)) 47))
  rw [← hWS, ← HB.out]
  clear hWS HB
  refine hK.out _ _ (CS.out) (fun hHeld => ?_)
  clear hK
  (try simp only [Act.put, List.setIfInBounds_toArray, List.set_cons_zero, List.set_cons_succ])
  refine wpAnyH_ready (rs := [13]) (by kernel_rfl) (by simp) ?_
  refine AllReadyH.cons rfl (fun K hK => ?_) AllReadyH.nil
  go_simp
  refine hK.out _ _ (CS.out) (fun hHeld => ?_)
  clear hK
  (try simp only [Act.put, List.setIfInBounds_toArray, List.set_cons_zero, List.set_cons_succ])
  refine wpAnyH_done (by kernel_rfl) ?_ _
  clear CS C18 hHeld
  go_wp2_with fail
  go_loopw [21, 22] (fun vi _ wr => ∃ i : Nat, i ≤ n ∧ vi = .int .i64 (i : Int) ∧ Hid (Lv W5 B ob oc ow D R ⟨st, x, ns⟩ i wr)) (fun vi _ _ => n - (intOf vi).toNat)
  case atStart => exact ⟨0, Nat.zero_le _, rfl, LV0.out⟩
  case round =>
    obtain ⟨i, hi, rfl, HV⟩ := hrel
    obtain ⟨M0, m1, f1⟩ := HV.out.mask
    by_cases hin : i < n
    case pos =>
      have hii : (i : Int) < (n : Int) := by omega
      have hiL : i < L.length := by rw [← HN.out]; exact hin
      have e8 := HLL.out.at0 (by omega)
      have mc := MC.out wr HV.out.below i hiL
      subst e8
      generalize L[i] = mi at *
      have SE := hide (SV.out B i wr mi HV.out (by omega))
      obtain ⟨k1, k18⟩ := HKN.out B i wr mi HV.out
      have SE1 := SE
      obtain ⟨WM, hWM⟩ : ∃ WM, WM = wr.setCell ⟨B, 1, none⟩ (.int .i64 mi) := ⟨_, rfl⟩
      rw [← hWM] at SE1 k1 k18
      go_upto_region 21 with fail
      rw [← hWM]
      clear hWM m1 f1 mc SE
      go_wp2_with (refine wpList_muli rfl (.tmp 136) (.tmp 138) rfl x0 gw tk rfl rfl HTK.out.symm (by omega) (by omega) ?_)
      refine Calls.mono SE1.out ?_
      rintro e W7 ⟨rfl, l7⟩
      have L7 := hide l7
      clear l7 SE1 k1 k18
      go_wp2_with fail
      exact ⟨⟨i + 1, by omega, by go_num, L7.out⟩, by simp [intOf]; omega⟩
    case neg =>
      have SE := hide (SV.out B i wr 0 HV.out (by omega))
      obtain ⟨k1, k18⟩ := HKN.out B i wr 0 HV.out
      have SE1 := SE
      obtain ⟨WM, hWM⟩ : ∃ WM, WM = wr.setCell ⟨B, 1, none⟩ (.int .i64 0) := ⟨_, rfl⟩
      rw [← hWM] at SE1 k1 k18
      have hii : ¬ (i : Int) < (n : Int) := by omega
      go_upto_region 25 with fail
      rw [← hWM]
      clear hWM m1 f1 SE
      go_wp2_with (refine wpList_muli rfl (.tmp 150) (.tmp 152) rfl x0 gw tk rfl rfl HTK.out.symm (by omega) (by omega) ?_)
      refine Calls.mono SE1.out ?_
      rintro e W7 ⟨rfl, l7⟩
      have OP := hide l7.open
      have B7 := hide (BW.out W7 l7.below)
      clear l7 SE1 k1 k18
      go_wp2_with (go_at_call 17; refine Calls.mono OP.out ?_; rintro e w' ⟨rfl, rfl⟩)
      go_ret
      exact ⟨rfl, B7.out⟩
end Go.Proofs.YtndfhpfhgdamgaaGreatDoor.Cn
namespace Go.Proofs.YtndfhpfhgdamgaaGreatDoor
open Go.ChangeShapes Go.WideShapes Go.ChangeAt Go.RowKit Go.Deep
theorem cellsI : Tryz.prog.cellsOf 3 = 1 := by kernel_rfl
theorem cellsS9 : Tryz.prog.cellsOf 9 = 1 := by kernel_rfl
theorem cellsNd : Tryz.prog.cellsOf 87 = 2 := by kernel_rfl
theorem cellsPl : Tryz.prog.cellsOf 25 = 1 := by kernel_rfl
theorem cellsNl : Tryz.prog.cellsOf 22 = 1 := by kernel_rfl
theorem cellsCl : Tryz.prog.cellsOf 24 = 23 := by kernel_rfl
theorem bytesI : Tryz.prog.bytesOf 3 = 8 := by kernel_rfl
theorem bytesNd : Tryz.prog.bytesOf 87 = 32 := by kernel_rfl
theorem laidOutP : laidOutB Tryz.prog = true := by kernel_rfl
theorem add_plainT (b o j : Nat) : (⟨b, o, none⟩ : Addr).add j = ⟨b, o + j, none⟩ := Addr.add_mid b o j
theorem all_mem {H : Type} {P : Program} {e : TypeId} {d : DataW H} {n : Nat} (hn : n ∈ d.weights P e) : ∀ {l : List (DataW H)}, d ∈ l → n ∈ DataW.weightsAll P e l
  | [], h => by cases h
  | c :: r, h => by
    simp only [DataW.weightsAll, List.mem_append]
    rcases List.mem_cons.1 h with rfl | h
    · exact Or.inl hn
    · exact Or.inr (all_mem hn h)
set_option maxRecDepth 100000 in
/-- a node's list that is handed in -/
theorem open_ps {H : Type} {enc : TypeId × Value → H} {w : World} {base fuel : Nat} {spare : Nat → Bool} {held : Bool} {v : Value} {x : DataW H × List MemPlace} (h : DataW.trod enc Tryz.prog w base spare held fuel 25 [v] = some x) (hw : ∀ n ∈ x.1.weights Tryz.prog 25, n ≤ reachBytes) :
    ∃ L : List Int, Pv w.heap.size w v L ∧ ∀ c, v = .slice none L.length c → c = 0 := by
  rcases open_slice1 Tryz.underlying25 cellsI h with ⟨h0, _⟩ | ⟨a, len, cap, m, n, V, D, Pl, hv, hb, hl, hm, hmm, hx, hc⟩
  · simp only [List.cons.injEq, and_true] at h0
    subst h0
    refine ⟨[], ⟨none, 0, 0, 0, rfl, ⟨fun q => absurd q (by simp), fun q => absurd q (by simp), (fun q hq => absurd hq (by simp)), Nat.zero_le _⟩⟩, fun c hc => ?_⟩
    injection hc with _ _ h3
    exact h3.symm
  · simp only [List.cons.injEq, and_true] at hv
    subst hv
    have hlm : len ≤ m := by rw [hmm]; split <;> omega
    have hwl : len * 8 ≤ reachBytes := by
      have := hw ((len + (m - len)) * 8) (by rw [hx]; simp [DataW.weights, Tryz.underlying25, bytesI])
      omega
    have each : ∀ i, i < len → ∃ y : Int, V i = .int .i64 y := fun i hi => by
      obtain ⟨y, f, _, _⟩ := DataW.trod_int Tryz.underlying3 (hc i (by omega)).2
      simp only [List.cons.injEq, and_true] at f
      exact ⟨y, f⟩
    obtain ⟨q, hq⟩ := choose_lt each
    have hplen : ((List.range len).map q).length = len := by simp
    obtain ⟨b, off, spot⟩ := a
    have hspot : 0 < len → spot = none := fun h => by simpa [Addr.add] using World.cell?_spot (hc 0 (by omega)).1
    have cell : ∀ (i : Nat) (hi : i < ((List.range len).map q).length), w.cell? ⟨b, off + i, none⟩ = some (.int .i64 ((List.range len).map q)[i]) := by
      intro i hi
      have hi' : i < len := by rw [hplen] at hi; exact hi
      have e := (hc i (by omega)).1
      rw [hspot (by omega), add_plainT, hq i hi'] at e
      rw [e, List.getElem_map, List.getElem_range]
    refine ⟨(List.range len).map q, ⟨some ⟨b, off, spot⟩, b, off, cap, by rw [hplen], ⟨fun z => ?_, fun z => ?_, cell, ?_⟩⟩, fun c hc => by cases hc⟩
    · rw [hplen] at z
      rw [hspot z]
    · exact World.block_lt_of_cell? w _ (cell 0 z)
    · rw [hplen]
      rw [show reachBytes = 140737488351232 from rfl] at hwl
      omega
set_option maxRecDepth 100000 in
/-- the nodes that are handed in -/
theorem open_nodes {H : Type} {enc : TypeId × Value → H} {w : World} {base fuel : Nat} {spare : Nat → Bool} {held : Bool} {v : Value} {x : DataW H × List MemPlace} (h : DataW.trod enc Tryz.prog w base spare held fuel 22 [v] = some x) (hw : ∀ n ∈ x.1.weights Tryz.prog 22, n ≤ reachBytes) :
    ∃ (ns : List ND) (ao : Option Addr) (b o cap : Nat) (pv : Nat → Value), v = .slice ao ns.length cap ∧ NsAt w.heap.size w ao b o pv ns := by
  rcases open_slice_pairs Tryz.underlying22 Tryz.underlying87 cellsNd rfl rfl cellsI cellsPl h with ⟨h0, _⟩ | ⟨a, len, cap, m, n, V0, V1, D0, D1, P0, P1, hv, hb, hl, hm, hmm, hx, hc⟩
  · simp only [List.cons.injEq, and_true] at h0
    subst h0
    exact ⟨[], none, 0, 0, 0, fun _ => .slice none 0 0, rfl, ⟨fun q => absurd q (by simp), fun q => absurd q (by simp), (fun q hq => absurd hq (by simp)), (fun q hq => absurd hq (by simp)), (fun q hq => absurd hq (by simp)), Nat.zero_le _, (fun q hq => absurd hq (by simp))⟩⟩
  · simp only [List.cons.injEq, and_true] at hv
    subst hv
    have hlm : len ≤ m := by rw [hmm]; split <;> omega
    have hwl : len * 32 ≤ reachBytes := by
      have := hw ((len + (m - len)) * 32) (by rw [hx]; simp [DataW.weights, Tryz.underlying22, bytesNd])
      omega
    have each : ∀ i, i < len → ∃ y : ND, V0 i = .int .i64 y.z ∧ Pv w.heap.size w (V1 i) y.ps ∧ ∀ c, V1 i = .slice none y.ps.length c → c = 0 := fun i hi => by
      obtain ⟨_, _, t0, t1⟩ := hc i (by omega)
      obtain ⟨y, f, _, _⟩ := DataW.trod_int Tryz.underlying3 t0
      simp only [List.cons.injEq, and_true] at f
      obtain ⟨L, hL, hn⟩ := open_ps t1 fun n hn => hw n (by
        rw [hx]
        simp only [DataW.weights, Tryz.underlying22]
        refine List.mem_cons_of_mem _ (List.mem_append_left _ (all_mem (d := DataW.agg [D0 i, D1 i]) ?_ (List.mem_map.2 ⟨i, List.mem_range.2 hi, rfl⟩)))
        simp only [DataW.weights, Tryz.underlying87]
        exact DataW.weights_mem_each (j := 1) rfl rfl n hn)
      exact ⟨⟨y, L⟩, f, hL, hn⟩
    obtain ⟨q, hq⟩ := choose_lt each
    have hplen : ((List.range len).map q).length = len := by simp
    obtain ⟨b, off, spot⟩ := a
    have hspot : 0 < len → spot = none := fun h => by simpa [Addr.add] using World.cell?_spot (hc 0 (by omega)).1
    have at0 : ∀ (i : Nat) (hi : i < ((List.range len).map q).length), i < len ∧ ((List.range len).map q)[i] = q i := fun i hi => ⟨by rw [hplen] at hi; exact hi, by rw [List.getElem_map, List.getElem_range]⟩
    have c0 : ∀ (i : Nat) (hi : i < ((List.range len).map q).length), w.cell? ⟨b, off + i * 2, none⟩ = some (.int .i64 ((List.range len).map q)[i].z) := by
      intro i hi
      obtain ⟨hi', e'⟩ := at0 i hi
      have e := (hc i (by omega)).1
      rw [hspot (by omega), add_plainT, (hq i hi').1] at e
      rw [e, e']
    have c1 : ∀ (i : Nat) (hi : i < ((List.range len).map q).length), w.cell? ⟨b, off + i * 2 + 1, none⟩ = some (V1 i) := by
      intro i hi
      obtain ⟨hi', e'⟩ := at0 i hi
      have e := (hc i (by omega)).2.1
      rw [hspot (by omega), add_plainT] at e
      rw [← Nat.add_assoc] at e
      exact e
    refine ⟨(List.range len).map q, some ⟨b, off, spot⟩, b, off, cap, V1, by rw [hplen], ⟨fun z => ?_, fun z => ?_, c0, c1, fun i hi => ?_, ?_, fun i hi c hcc => ?_⟩⟩
    · rw [hplen] at z
      rw [hspot z]
    · exact World.block_lt_of_cell? w _ (c0 0 z)
    · obtain ⟨hi', e'⟩ := at0 i hi
      rw [e']
      exact (hq i hi').2.1
    · rw [hplen]
      rw [show reachBytes = 140737488351232 from rfl] at hwl
      omega
    · obtain ⟨hi', e'⟩ := at0 i hi
      rw [e'] at hcc
      exact (hq i hi').2.2 c hcc
theorem list23 {α : Type} {l : List α} (h : l.length = 23) : ∃ a0 a1 a2 a3 a4 a5 a6 a7 a8 a9 a10 a11 a12 a13 a14 a15 a16 a17 a18 a19 a20 a21 a22, l = [a0, a1, a2, a3, a4, a5, a6, a7, a8, a9, a10, a11, a12, a13, a14, a15, a16, a17, a18, a19, a20, a21, a22] := by
  match l, h with
  | [a0, a1, a2, a3, a4, a5, a6, a7, a8, a9, a10, a11, a12, a13, a14, a15, a16, a17, a18, a19, a20, a21, a22], _ => exact ⟨a0, a1, a2, a3, a4, a5, a6, a7, a8, a9, a10, a11, a12, a13, a14, a15, a16, a17, a18, a19, a20, a21, a22, rfl⟩
theorem array23 {α : Type} {l : Array α} (h : l.size = 23) : ∃ a0 a1 a2 a3 a4 a5 a6 a7 a8 a9 a10 a11 a12 a13 a14 a15 a16 a17 a18 a19 a20 a21 a22, l = #[a0, a1, a2, a3, a4, a5, a6, a7, a8, a9, a10, a11, a12, a13, a14, a15, a16, a17, a18, a19, a20, a21, a22] := by
  obtain ⟨l⟩ := l
  obtain ⟨a0, a1, a2, a3, a4, a5, a6, a7, a8, a9, a10, a11, a12, a13, a14, a15, a16, a17, a18, a19, a20, a21, a22, h⟩ := list23 (l := l) (by simpa using h)
  exact ⟨a0, a1, a2, a3, a4, a5, a6, a7, a8, a9, a10, a11, a12, a13, a14, a15, a16, a17, a18, a19, a20, a21, a22, by rw [h]⟩
set_option maxRecDepth 100000 in
set_option maxHeartbeats 4000000 in
/-- a definition that is handed in -/
theorem open_cl {H : Type} {enc : TypeId × Value → H} {w : World} {r : Reach} {b0 base : Nat} {spare : Nat → Bool} {held : Bool} {v : Value} {d : DataW H} {p : List MemPlace} (hv : Value.okWide Tryz.prog w r b0 24 v) (h : DataW.Trod enc Tryz.prog w base spare held 24 v d p) (hw : ∀ n ∈ d.weights Tryz.prog 24, n ≤ reachBytes) :
    ∃ (st : ByteArray) (x : Nat → Int) (ns : List ND) (ao : Option Addr) (b o cap : Nat) (pv : Nat → Value), v = .agg (clA st x (.slice ao ns.length cap)) ∧ NsAt w.heap.size w ao b o pv ns ∧ st.size ≤ 9223372036854775807 := by
  obtain ⟨cs, rfl, hsz⟩ := okWide_struct Tryz.underlying24 hv
  obtain ⟨a0, a1, a2, a3, a4, a5, a6, a7, a8, a9, a10, a11, a12, a13, a14, a15, a16, a17, a18, a19, a20, a21, a22, rfl⟩ := array23 (hsz.trans cellsCl)
  obtain ⟨fuel, hf⟩ := h
  obtain ⟨xs, n, _, hx, _, hxl, hq⟩ := DataW.trod_struct Tryz.underlying24 hf
  obtain ⟨y0, y1, y2, y3, y4, y5, y6, y7, y8, y9, y10, y11, y12, y13, y14, y15, y16, y17, y18, y19, y20, y21, y22, rfl⟩ := list23 hxl
  have g0 := hq 0 _ rfl
  have g1 := hq 1 _ rfl
  have g2 := hq 2 _ rfl
  have g3 := hq 3 _ rfl
  have g4 := hq 4 _ rfl
  have g5 := hq 5 _ rfl
  have g6 := hq 6 _ rfl
  have g7 := hq 7 _ rfl
  have g8 := hq 8 _ rfl
  have g9 := hq 9 _ rfl
  have g10 := hq 10 _ rfl
  have g11 := hq 11 _ rfl
  have g12 := hq 12 _ rfl
  have g13 := hq 13 _ rfl
  have g14 := hq 14 _ rfl
  have g15 := hq 15 _ rfl
  have g16 := hq 16 _ rfl
  have g17 := hq 17 _ rfl
  have g18 := hq 18 _ rfl
  have g19 := hq 19 _ rfl
  have g20 := hq 20 _ rfl
  have g21 := hq 21 _ rfl
  have g22 := hq 22 _ rfl
  clear hq hf hv
  simp [Value.cells, cellsI, cellsS9, cellsNl] at g0 g1 g2 g3 g4 g5 g6 g7 g8 g9 g10 g11 g12 g13 g14 g15 g16 g17 g18 g19 g20 g21 g22
  obtain ⟨s0, f0, z0, w0⟩ := DataW.trod_string Tryz.underlying9 g0
  obtain ⟨n1, f1, z1, w1⟩ := DataW.trod_int Tryz.underlying3 g1
  obtain ⟨n2, f2, z2, w2⟩ := DataW.trod_int Tryz.underlying3 g2
  obtain ⟨n3, f3, z3, w3⟩ := DataW.trod_int Tryz.underlying3 g3
  obtain ⟨n4, f4, z4, w4⟩ := DataW.trod_int Tryz.underlying3 g4
  obtain ⟨n5, f5, z5, w5⟩ := DataW.trod_int Tryz.underlying3 g5
  obtain ⟨n6, f6, z6, w6⟩ := DataW.trod_int Tryz.underlying3 g6
  obtain ⟨n7, f7, z7, w7⟩ := DataW.trod_int Tryz.underlying3 g7
  obtain ⟨n8, f8, z8, w8⟩ := DataW.trod_int Tryz.underlying3 g8
  obtain ⟨n9, f9, z9, w9⟩ := DataW.trod_int Tryz.underlying3 g9
  obtain ⟨n10, f10, z10, w10⟩ := DataW.trod_int Tryz.underlying3 g10
  obtain ⟨n11, f11, z11, w11⟩ := DataW.trod_int Tryz.underlying3 g11
  obtain ⟨n12, f12, z12, w12⟩ := DataW.trod_int Tryz.underlying3 g12
  obtain ⟨n13, f13, z13, w13⟩ := DataW.trod_int Tryz.underlying3 g13
  obtain ⟨n14, f14, z14, w14⟩ := DataW.trod_int Tryz.underlying3 g14
  obtain ⟨n15, f15, z15, w15⟩ := DataW.trod_int Tryz.underlying3 g15
  obtain ⟨n16, f16, z16, w16⟩ := DataW.trod_int Tryz.underlying3 g16
  obtain ⟨n17, f17, z17, w17⟩ := DataW.trod_int Tryz.underlying3 g17
  obtain ⟨n18, f18, z18, w18⟩ := DataW.trod_int Tryz.underlying3 g18
  obtain ⟨n19, f19, z19, w19⟩ := DataW.trod_int Tryz.underlying3 g19
  obtain ⟨n20, f20, z20, w20⟩ := DataW.trod_int Tryz.underlying3 g20
  obtain ⟨n21, f21, z21, w21⟩ := DataW.trod_int Tryz.underlying3 g21
  simp only [List.cons.injEq, and_true] at f0 f1 f2 f3 f4 f5 f6 f7 f8 f9 f10 f11 f12 f13 f14 f15 f16 f17 f18 f19 f20 f21
  subst f0 f1 f2 f3 f4 f5 f6 f7 f8 f9 f10 f11 f12 f13 f14 f15 f16 f17 f18 f19 f20 f21
  simp only [Prod.mk.injEq] at hx
  obtain ⟨ns, ao, b, o, cap, pv, hv, hN⟩ := open_nodes g22 fun n hn => hw n (by
    rw [hx.1]
    simp only [DataW.weights, Tryz.underlying24]
    exact DataW.weights_mem_each (j := 22) rfl rfl n hn)
  subst hv
  refine ⟨s0, fun i => [n1, n2, n3, n4, n5, n6, n7, n8, n9, n10, n11, n12, n13, n14, n15, n16, n17, n18, n19, n20, n21][i]?.getD 0, ns, ao, b, o, cap, pv, rfl, hN, ?_⟩
  have := w0
  unfold maxLen at this
  omega
end Go.Proofs.YtndfhpfhgdamgaaGreatDoor
