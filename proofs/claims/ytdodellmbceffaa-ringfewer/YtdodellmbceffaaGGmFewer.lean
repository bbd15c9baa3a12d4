import Derived.Test.YtdodellmbceffaaGGmMade
import Derived.Test.YtdodellmbceffaaRows
import Derived.ProofKit
import Derived.OpenShut
import Derived.JoinedOf
import Derived.SizedLaws
import Derived.Lib.SmallJoins
import Derived.Deep.SlicePairs
import Derived.Deep.DeepHandedRow
namespace Go.Proofs.Ytdodellmbceffaa
open Go.RowKit
theorem num_any (n : Int) (w : World) : Calls Try.prog 10 #[.int .i64 n] w fun e w' => e = .returned (.int .i64 n) ∧ w = w' := by
  go_enter Try.func10, Try.ntmps10
  go_wp2_with fail
  go_ret
  exact ⟨rfl, rfl⟩
theorem ClAt.set0 {w : World} {b : Nat} {st : ByteArray} {x : Nat → Int} {nv : Value} (h : ClAt w b st x nv) (y : Int) : ClAt (w.setCell ⟨b, 1, none⟩ (.int .i64 y)) b st (upd x 0 y) nv := by
  unfold ClAt at *
  simp only [World.setCell, Array.getElem?_modify, if_true, h, Option.map_some]
  rfl
theorem ClAt.fz {w : World} {b : Nat} {st : ByteArray} {x : Nat → Int} {nv : Value} (h : ClAt w b st x nv) (i : Nat) : w.frozen? ⟨b, i, none⟩ = false := by
  unfold World.frozen?
  rw [show w.heap[b]? = _ from h]
  simp
/-- twin and Owners one behind the other -/
structure Two (st : ByteArray) (x : Nat → Int) (ns : List ND) (cB dB : Nat) (y : Int) (W : World) : Prop where
  c : ∃ ao b cap pv N, ClAt W cB st x (.slice ao ns.length cap) ∧ NsAt N W ao b 0 pv ns ∧ N ≤ W.heap.size
  d : ∃ ao b cap pv N, ClAt W dB st (upd x 0 y) (.slice ao ns.length cap) ∧ NsAt N W ao b 0 pv ns ∧ N ≤ W.heap.size
theorem Two.below {st : ByteArray} {x : Nat → Int} {ns : List ND} {cB dB : Nat} {y : Int} {W W' : World} (h : Two st x ns cB dB y W) (hb : Below W.heap.size W W') : Two st x ns cB dB y W' := by
  obtain ⟨⟨ao, b, cap, pv, N, h1, h2, h3⟩, ⟨ao', b', cap', pv', N', k1, k2, k3⟩⟩ := h
  exact ⟨⟨ao, b, cap, pv, N, h1.below hb, h2.below (hb.mono h3), Nat.le_trans h3 hb.size⟩, ⟨ao', b', cap', pv', N', k1.below hb, k2.below (hb.mono k3), Nat.le_trans k3 hb.size⟩⟩
theorem wk_pre {x : Nat → Int} {ns : List ND} {p y : Int} (k : Nat) (h : k < (wk (upd x 0 y) ns p).length) (h' : k < (wk x ns p).length) : (wk (upd x 0 y) ns p)[k] = (wk x ns p)[k] := by
  simp only [wk, wkR, upd_at, List.getElem_take]
set_option maxHeartbeats 16000000 in
set_option maxRecDepth 100000 in
set_option linter.unusedSimpArgs false in
set_option linter.unusedVariables false in
theorem fewer_any (N : Nat) (w : World) (a b c d : Int) (H Z M : List Int) (aH : Option Addr) (bH oH cH : Nat) (aZ : Option Addr) (bZ oZ cZ : Nat) (aM : Option Addr) (bM oM cM : Nat) (fw : Int) (hH : PsAt N w aH bH oH H) (hZ : PsAt N w aZ bZ oZ Z) (hM : PsAt N w aM bM oM M) (hN : N ≤ w.heap.size) :
    Calls Try.prog 3 #[.agg #[.int .i64 a, .int .i64 b, .int .i64 c, .int .i64 d, .slice aH H.length cH, .slice aZ Z.length cZ, .slice aM M.length cM], .int .i64 fw] w fun e w' => e = .returned (.bool true) ∧ Below w.heap.size w w' := by
  obtain ⟨W0, hW0⟩ : ∃ W0, W0 = w.alloc (.cells #[.int .i64 a, .int .i64 b, .int .i64 c, .int .i64 d, .slice aH H.length cH, .slice aZ Z.length cZ, .slice aM M.length cM] 24) := ⟨_, rfl⟩
  have B0 : Hid (Below w.heap.size w W0) := by rw [hW0]; exact (Below.refl _ _).alloc (Nat.le_refl _) _
  have hb : W0.heap[w.heap.size]? = some (.cells #[.int .i64 a, .int .i64 b, .int .i64 c, .int .i64 d, .slice aH H.length cH, .slice aZ Z.length cZ, .slice aM M.length cM] 24) := by rw [hW0]; exact heap_last _ _
  have bn := B0.out.mono hN
  have MA := hide (made_any N W0 a b c d H Z M aH bH oH cH aZ bZ oZ cZ aM bM oM cM (hH.below bn) (hZ.below bn) (hM.below bn) (Nat.le_trans hN B0.out.size))
  have z0 : W0.cell? ⟨w.heap.size, 0, none⟩ = some (.int .i64 a) := by unfold World.cell?; rw [hb]; rfl
  have z1 : W0.cell? ⟨w.heap.size, 1, none⟩ = some (.int .i64 b) := by unfold World.cell?; rw [hb]; rfl
  have z2 : W0.cell? ⟨w.heap.size, 2, none⟩ = some (.int .i64 c) := by unfold World.cell?; rw [hb]; rfl
  have z3 : W0.cell? ⟨w.heap.size, 3, none⟩ = some (.int .i64 d) := by unfold World.cell?; rw [hb]; rfl
  have z4 : W0.cell? ⟨w.heap.size, 4, none⟩ = some (.slice aH H.length cH) := by unfold World.cell?; rw [hb]; rfl
  have z5 : W0.cell? ⟨w.heap.size, 5, none⟩ = some (.slice aZ Z.length cZ) := by unfold World.cell?; rw [hb]; rfl
  have z6 : W0.cell? ⟨w.heap.size, 6, none⟩ = some (.slice aM M.length cM) := by unfold World.cell?; rw [hb]; rfl
  clear hb bn hH hZ hM
  go_enter Try.func3, Try.ntmps3
  go_upto_region 1 with fail
  rw [← hW0]
  clear hW0
  go_wp2_with fail
  refine Calls.mono MA.out ?_
  rintro e W1 ⟨st, x, ns, vl, zs, rfl, hz, hT, hE, hs, hb⟩
  have HE := hide hE
  obtain ⟨_, hsf, hnf, hdl, hR, _⟩ := errP_all hE
  have n16 := nfP_len hnf
  have p64 : ptN ns ≤ 64 := hdl.p2
  have p1 : 1 ≤ ptN ns := hdl.p1
  have l0 : 1 ≤ x 0 ∧ x 0 ≤ 16 := sfP_lim hsf 0 (by omega)
  have HD := hide hdl
  have HR := hide hR
  obtain ⟨ao, nb, cap, pv, hvl, hns⟩ := tw_read hT hz n16.2 p64
  subst hvl
  have B1 := hide (B0.out.trans (hb.mono B0.out.size))
  have NS := hide hns
  clear hb MA hT hE hsf hnf hdl hR hns z0 z1 z2 z3 z4 z5 z6 B0 hz
  obtain ⟨W2, hW2⟩ : ∃ W2, W2 = W1.alloc (.cells (clA st x (.slice ao ns.length cap)) 27) := ⟨_, rfl⟩
  have C2 : Hid (ClAt W2 W1.heap.size st x (.slice ao ns.length cap)) := by rw [hW2]; exact new_cl _ _ _ _
  have B2 : Hid (Below W1.heap.size W1 W2) := by rw [hW2]; exact (Below.refl _ _).alloc (Nat.le_refl _) _
  go_upto_region 2 with (refine wpList_storeCl (w0 := W1) rfl (.tmp 5) (.tmp 17) rfl W1.heap.size (by kernel_rfl) rfl st x (.slice ao ns.length cap) rfl (by kernel_rfl) _ rfl rfl ?_)
  rw [← hW2]
  clear hW2
  have N2 := hide (NS.out.below B2.out)
  have TW := hide (twin_any W1.heap.size W2 st x ao nb 0 cap pv ns N2.out B2.out.size)
  go_wp2_with (refine wpList_loadCl rfl (.tmp 5) rfl W1.heap.size st x _ (by kernel_rfl) C2.out ?_)
  refine Calls.mono TW.out ?_
  rintro e W3 ⟨vl2, zs2, rfl, hz2, hT2, hb⟩
  obtain ⟨ao2, nb2, cap2, pv2, hvl, hns2⟩ := tw_read hT2 hz2 n16.2 p64
  subst hvl
  have C3 := hide (C2.out.below hb)
  have N3 := hide (N2.out.below (hb.mono B2.out.size))
  have B3 := hide (B2.out.trans (hb.mono B2.out.size))
  have M3 := hide hns2
  clear hb hT2 hns2 TW C2 N2 B2 hz2 NS
  obtain ⟨W4, hW4⟩ : ∃ W4, W4 = W3.alloc (.cells (clA st x (.slice ao2 ns.length cap2)) 27) := ⟨_, rfl⟩
  have D4 : Hid (ClAt W4 W3.heap.size st x (.slice ao2 ns.length cap2)) := by rw [hW4]; exact new_cl _ _ _ _
  have B4 : Hid (Below W3.heap.size W3 W4) := by rw [hW4]; exact (Below.refl _ _).alloc (Nat.le_refl _) _
  go_upto_region 3 with (refine wpList_storeCl (w0 := W3) rfl (.tmp 6) (.tmp 19) rfl W3.heap.size (by kernel_rfl) rfl st x (.slice ao2 ns.length cap2) rfl (by kernel_rfl) _ rfl rfl ?_)
  rw [← hW4]
  clear hW4
  have MO := mod_any fw (x 0) (by omega) (by omega) W4
  obtain ⟨rf, hrf⟩ : ∃ rf, fw % x 0 = rf := ⟨_, rfl⟩
  have e1 : 0 ≤ rf := by rw [← hrf]; exact Int.emod_nonneg _ (by omega)
  have e2 : rf < x 0 := by rw [← hrf]; exact Int.emod_lt_of_pos _ (by omega)
  rw [hrf] at MO
  clear hrf
  replace MO := hide MO
  have cx := (C3.out.below B4.out).x0
  have dz := D4.out.fz 1
  have dx := D4.out.x0
  go_upto_region 4 with (go_at_call 6; refine Calls.mono MO.out ?_; rintro e w' ⟨rfl, rfl⟩)
  obtain ⟨y, hy⟩ : ∃ y, y = 1 + rf := ⟨_, rfl⟩
  rw [← hy]
  have y1 : 1 ≤ y := by omega
  have y2 : y ≤ x 0 := by omega
  clear hy e1 e2 cx dz dx MO
  obtain ⟨W5, hW5⟩ : ∃ W5, W5 = W4.setCell ⟨W3.heap.size, 1, none⟩ (.int .i64 y) := ⟨_, rfl⟩
  have S5 : Hid (Below W3.heap.size W4 W5) := by rw [hW5]; exact (Below.refl W3.heap.size W4).setCell (p := ⟨W3.heap.size, 1, none⟩) (Nat.le_refl _) _
  have T5 : Hid (Two st x ns W1.heap.size W3.heap.size y W5) := by
    have hlt : W1.heap.size < W3.heap.size := blk_lt C3.out
    have c4 := C3.out.below B4.out
    refine ⟨⟨ao, nb, cap, pv, W1.heap.size, ?_, (N3.out.below (B4.out.mono B3.out.size)).below (S5.out.mono B3.out.size), Nat.le_trans B3.out.size (Nat.le_trans B4.out.size S5.out.size)⟩, ⟨ao2, nb2, cap2, pv2, W3.heap.size, ?_, (M3.out.below B4.out).below S5.out, Nat.le_trans B4.out.size S5.out.size⟩⟩
    · exact (S5.out.block _ hlt).trans c4
    · rw [hW5]
      exact D4.out.set0 y
  have B5 : Hid (Below w.heap.size w W5) := B1.out.trans (((B3.out.trans (B4.out.mono B3.out.size)).trans (S5.out.mono B3.out.size)).mono B1.out.size)
  rw [← hW5]
  clear hW5 S5 C3 N3 B3 M3 D4 B4 B1
  generalize W1.heap.size = cB at *
  generalize W3.heap.size = dB at *
  have HE2 := hide (fewer_ok HE.out y1 y2)
  obtain ⟨P, hP⟩ : ∃ P, P = ptN ns := ⟨_, rfl⟩
  have HP := hide hP
  rw [← hP] at p64 p1
  clear hP
  go_wp2_with fail
  go_loopw [7] (fun vp wr => ∃ (q : Nat), q ≤ P ∧ vp = .int .i64 (q : Int) ∧ Hid (Below W5.heap.size W5 wr)) (fun vp _ => P - (intOf vp).toNat)
  case atStart => exact ⟨0, Nat.zero_le _, rfl, Below.refl _ _⟩
  case round =>
    obtain ⟨q, hq, rfl, HB⟩ := hrel
    have T6 := hide (T5.out.below HB.out)
    obtain ⟨⟨ao, nb, cap, pv, N6, c6, n6, l6⟩, ⟨ao2, nb2, cap2, pv2, N7, d6, m6, l7⟩⟩ := T6.out
    have C6 := hide c6
    have PA := lparts_any N6 wr st x ao nb 0 cap pv ns n6 l6 n16.2
    rw [← HP.out] at PA
    replace PA := hide PA
    clear c6 n6 d6 m6 l6 l7
    go_wp2_with (refine wpList_loadCl rfl (.tmp 5) rfl cB st x _ (by kernel_rfl) C6.out ?_)
    refine Calls.mono PA.out ?_
    rintro e W6 ⟨rfl, hb⟩
    have T7 := hide (T6.out.below hb)
    have B7 := hide (HB.out.trans (hb.mono HB.out.size))
    clear hb PA C6 T6 HB
    by_cases hqP : q < P
    case neg =>
      obtain rfl : q = P := by omega
      go_wp2_with fail
      go_ret
      exact ⟨rfl, B5.out.trans (B7.out.mono B5.out.size)⟩
    case pos =>
      have hqi : (q : Int) < (P : Int) := by omega
      have hr1 : Hid (rdE st x ns (q : Int) = 0) := rdE_ok HE.out (by rw [← HP.out]; omega)
      have hr2 : Hid (rdE st (upd x 0 y) ns (q : Int) = 0) := rdE_ok HE2.out (by rw [← HP.out]; omega)
      have g1 : Hid (wkE st x ns (q : Int) = wk x ns (q : Int)) := wkE_ok hr1.out
      have g2 : Hid (wkE st (upd x 0 y) ns (q : Int) = wk (upd x 0 y) ns (q : Int)) := wkE_ok hr2.out
      have hL1 : ((wk x ns (q : Int)).length : Int) = x 0 := wk_full HD.out (by omega) (by rw [← HP.out]; omega) (by omega) HR.out
      have hL2 : ((wk (upd x 0 y) ns (q : Int)).length : Int) = y := by
        have := wk_full (x := upd x 0 y) (p := (q : Int)) HD.out (by omega) (by rw [← HP.out]; omega) (by rw [upd_at]; omega) (by rw [upd_at]; have := HR.out; omega)
        rw [upd_at] at this
        exact this
      have HPre : Hid (∀ k (h : k < (wk (upd x 0 y) ns (q : Int)).length) (h' : k < (wk x ns (q : Int)).length), (wk (upd x 0 y) ns (q : Int))[k] = (wk x ns (q : Int))[k]) := fun k h h' => wk_pre k h h'
      -- the owners
      obtain ⟨⟨ao, nb, cap, pv, N6, c6, n6, l6⟩, _⟩ := T7.out
      have C6 := hide c6
      have TW := hide (twin_any N6 W6 st x ao nb 0 cap pv ns n6 l6)
      clear c6 n6 l6
      go_wp2_with (refine wpList_loadCl rfl (.tmp 5) rfl cB st x _ (by kernel_rfl) C6.out ?_)
      refine Calls.mono TW.out ?_
      rintro e W8 ⟨vl8, zs8, rfl, hz8, hT8, hb⟩
      obtain ⟨ao8, nb8, cap8, pv8, hvl, hns8⟩ := tw_read hT8 hz8 n16.2 (by rw [← HP.out]; omega)
      subst hvl
      have T8 := hide (T7.out.below hb)
      have B8 := hide (B7.out.trans (hb.mono B7.out.size))
      have OW := Owners_any W8.heap.size W8 st x ao8 nb8 0 cap8 pv8 ns (q : Int) hns8 (Nat.le_refl _) (by omega)
      rw [hr1.out, g1.out] at OW
      replace OW := hide OW
      clear hb hT8 hns8 hz8 TW C6 T7 B7
      go_wp2_with fail
      refine Calls.mono OW.out ?_
      rintro e W9 ⟨vo, rfl, oo, hb⟩
      obtain ⟨go, co, hvo⟩ := own_some oo (by omega)
      subst hvo
      have O9 := hide oo
      have T9 := hide (T8.out.below hb)
      have B9 := hide (B8.out.trans (hb.mono B8.out.size))
      clear hb oo OW T8 B8
      -- the owners with fewer replicas
      obtain ⟨_, ⟨ao, nb, cap, pv, N6, c6, n6, l6⟩⟩ := T9.out
      have C6 := hide c6
      have TW := hide (twin_any N6 W9 st (upd x 0 y) ao nb 0 cap pv ns n6 l6)
      clear c6 n6 l6
      go_wp2_with (refine wpList_loadCl rfl (.tmp 6) rfl dB st (upd x 0 y) _ (by kernel_rfl) C6.out ?_)
      refine Calls.mono TW.out ?_
      rintro e W10 ⟨vl8, zs8, rfl, hz8, hT8, hb⟩
      obtain ⟨ao8, nb8, cap8, pv8, hvl, hns8⟩ := tw_read hT8 hz8 n16.2 (by rw [← HP.out]; omega)
      subst hvl
      have T10 := hide (T9.out.below hb)
      have B10 := hide (B9.out.trans (hb.mono B9.out.size))
      have O10 : Hid (W10.ownsRow W8.heap.size 3 1 (.slice (some ⟨go, 0, none⟩) (wk x ns (q : Int)).length co) (wk x ns (q : Int)).length (ints (owL ns (wk x ns (q : Int))))) := own_keep O9.out fun g hg => hb.block g (own_lt O9.out hg).2
      have OW := Owners_any W10.heap.size W10 st (upd x 0 y) ao8 nb8 0 cap8 pv8 ns (q : Int) hns8 (Nat.le_refl _) (by omega)
      rw [hr2.out, g2.out] at OW
      replace OW := hide OW
      clear hb hT8 hns8 hz8 TW C6 T9 B9 O9
      go_wp2_with fail
      refine Calls.mono OW.out ?_
      rintro e W11 ⟨vq, rfl, oq, hb⟩
      obtain ⟨gq, cq, hvq⟩ := own_some oq (by omega)
      subst hvq
      have Q11 := hide oq
      have O11 : Hid (W11.ownsRow W8.heap.size 3 1 (.slice (some ⟨go, 0, none⟩) (wk x ns (q : Int)).length co) (wk x ns (q : Int)).length (ints (owL ns (wk x ns (q : Int))))) := own_keep O10.out fun g hg => hb.block g (own_lt O10.out hg).2
      have T11 := hide (T10.out.below hb)
      have B11 := hide (B10.out.trans (hb.mono B10.out.size))
      clear hb oq OW T10 B10 O10
      -- the walk
      obtain ⟨⟨ao, nb, cap, pv, N6, c6, n6, l6⟩, _⟩ := T11.out
      have C6 := hide c6
      have TW := hide (twin_any N6 W11 st x ao nb 0 cap pv ns n6 l6)
      clear c6 n6 l6
      go_wp2_with (refine wpList_loadCl rfl (.tmp 5) rfl cB st x _ (by kernel_rfl) C6.out ?_)
      refine Calls.mono TW.out ?_
      rintro e W12 ⟨vl8, zs8, rfl, hz8, hT8, hb⟩
      obtain ⟨ao8, nb8, cap8, pv8, hvl, hns8⟩ := tw_read hT8 hz8 n16.2 (by rw [← HP.out]; omega)
      subst hvl
      have T12 := hide (T11.out.below hb)
      have B12 := hide (B11.out.trans (hb.mono B11.out.size))
      have O12 : Hid (W12.ownsRow W8.heap.size 3 1 (.slice (some ⟨go, 0, none⟩) (wk x ns (q : Int)).length co) (wk x ns (q : Int)).length (ints (owL ns (wk x ns (q : Int))))) := own_keep O11.out fun g hg => hb.block g (own_lt O11.out hg).2
      have Q12 : Hid (W12.ownsRow W10.heap.size 3 1 (.slice (some ⟨gq, 0, none⟩) (wk (upd x 0 y) ns (q : Int)).length cq) (wk (upd x 0 y) ns (q : Int)).length (ints (owL ns (wk (upd x 0 y) ns (q : Int))))) := own_keep Q11.out fun g hg => hb.block g (own_lt Q11.out hg).2
      have WA := Walk_any W12.heap.size W12 st x ao8 nb8 0 cap8 pv8 ns (q : Int) hns8 (Nat.le_refl _) (by omega)
      rw [hr1.out, g1.out] at WA
      replace WA := hide WA
      clear hb hT8 hns8 hz8 TW C6 T11 B11 O11 Q11
      go_wp2_with fail
      refine Calls.mono WA.out ?_
      rintro e W13 ⟨vw, rfl, ow, hb⟩
      obtain ⟨gw, cw, hvw⟩ := own_some ow (by omega)
      subst hvw
      have A13 := hide ow
      have O13 : Hid (W13.ownsRow W8.heap.size 3 1 (.slice (some ⟨go, 0, none⟩) (wk x ns (q : Int)).length co) (wk x ns (q : Int)).length (ints (owL ns (wk x ns (q : Int))))) := own_keep O12.out fun g hg => hb.block g (own_lt O12.out hg).2
      have Q13 : Hid (W13.ownsRow W10.heap.size 3 1 (.slice (some ⟨gq, 0, none⟩) (wk (upd x 0 y) ns (q : Int)).length cq) (wk (upd x 0 y) ns (q : Int)).length (ints (owL ns (wk (upd x 0 y) ns (q : Int))))) := own_keep Q12.out fun g hg => hb.block g (own_lt Q12.out hg).2
      have T13 := hide (T12.out.below hb)
      have B13 := hide (B12.out.trans (hb.mono B12.out.size))
      clear hb ow WA T12 B12 O12 Q12 hr1 hr2 g1 g2
      -- all that is read behind this
      have RD : Hid (∀ Y, Below W13.heap.size W13 Y → (∀ k (h : k < (wk x ns (q : Int)).length), Y.cell? ⟨go, k, none⟩ = some (.int .i64 (hm ns (wk x ns (q : Int))[k])) ∧ Y.cell? ⟨gw, k, none⟩ = some (.int .i64 (((wk x ns (q : Int))[k] : Nat) : Int))) ∧ (∀ k (h : k < (wk (upd x 0 y) ns (q : Int)).length), Y.cell? ⟨gq, k, none⟩ = some (.int .i64 (hm ns (wk (upd x 0 y) ns (q : Int))[k])))) := fun Y hY => by
        refine ⟨fun k h => ⟨?_, ?_⟩, fun k h => ?_⟩
        · rw [hY.cell (p := ⟨go, k, none⟩) (own_lt O13.out rfl).2, own_cell O13.out (by rw [owL_len]) (q := k) (by rw [owL_len]; exact h)]
          simp [owL]
        · rw [hY.cell (p := ⟨gw, k, none⟩) (own_lt A13.out rfl).2, own_cell A13.out (by rw [nis_len]) (q := k) (by rw [nis_len]; exact h)]
          simp [nis]
        · rw [hY.cell (p := ⟨gq, k, none⟩) (own_lt Q13.out rfl).2, own_cell Q13.out (by rw [owL_len]) (q := k) (by rw [owL_len]; exact h)]
          simp [owL]
      clear O13 Q13 A13
      obtain ⟨⟨ao, nb, cap, pv, N6, c6, n6, l6⟩, ⟨ao2, nb2, cap2, pv2, N7, d6, _, _⟩⟩ := T13.out
      have x0c := c6.x0
      have x0d := d6.x0
      rw [upd_at] at x0d
      have C13 := hide c6
      have N13 := hide (show _ ∧ _ from ⟨n6, l6⟩)
      clear c6 n6 l6 d6 T13
      generalize wk x ns (q : Int) = L at *
      generalize wk (upd x 0 y) ns (q : Int) = L2 at *
      have hlen : L.length ≤ 16 := by omega
      have hlen2 : L2.length ≤ L.length := by omega
      go_upto_region 12 with (go_at_call 10; refine Calls.mono (num_any _ _) ?_; rintro e w' ⟨rfl, rfl⟩)
      clear x0c x0d
      have hl1 : Hid ((L.length : Int) = x 0) := hL1
      have hl2 : Hid ((L2.length : Int) = y) := hL2
      clear hL1 hL2
      go_wp2_with fail
      go_loopw [14] (fun vk wq => ∃ (k : Nat), k ≤ L2.length ∧ vk = .int .i64 (k : Int) ∧ Hid (Below W13.heap.size W13 wq)) (fun vk _ => L2.length - (intOf vk).toNat)
      case atStart => exact ⟨0, Nat.zero_le _, rfl, Below.refl _ _⟩
      case round =>
        obtain ⟨k, hk, rfl, HB⟩ := hrel
        by_cases hkl : k < L2.length
        case pos =>
          have hki : (k : Int) < (L2.length : Int) := by omega
          have hki2 : (k : Int) < (L.length : Int) := by omega
          obtain ⟨r1, r2⟩ := RD.out _ HB.out
          have c1 := r2 k hkl
          have c2 := (r1 k (by omega)).1
          rw [HPre.out k hkl (by omega)] at c1
          clear r1 r2
          generalize hm ns L[k] = v at *
          go_upto_region 15 with fail
          go_quiet (fail)
          have B2 := hide (HB.out.trans (c := wr.drewN nq) ⟨rfl, rfl, rfl, Nat.le_refl _, fun _ _ => rfl⟩)
          generalize wr.drewN nq = W3 at *
          clear c1 c2 HB
          go_wp2_with fail
          go_roundw
          case rel => exact ⟨k + 1, by omega, by go_num, B2⟩
          case measure => simp [intOf]; omega
        case neg =>
          obtain rfl : k = L2.length := by omega
          have HB0 := HB
          go_wp2_with fail
          go_loopw [15] (fun vk wq => ∃ (j : Nat), j ≤ L.length ∧ vk = .int .i64 (j : Int) ∧ Hid (Below W13.heap.size W13 wq)) (fun vk _ => L.length - (intOf vk).toNat)
          case atStart => exact ⟨0, Nat.zero_le _, rfl, HB⟩
          case round =>
            clear HB HB0
            obtain ⟨j, hj, rfl, HB⟩ := hrel
            by_cases hjl : j < L.length
            case neg =>
              obtain rfl : j = L.length := by omega
              go_wp2_with fail
              go_roundw
              case rel => exact ⟨q + 1, by omega, by go_num, B13.out.trans (HB.out.mono B13.out.size)⟩
              case measure => simp [intOf]; omega
            case pos =>
              have hji : (j : Int) < (L.length : Int) := by omega
              have CC : Hid (∀ Y, Below W13.heap.size W13 Y → ClAt Y cB st x (.slice ao ns.length cap) ∧ Y.cell? ⟨gw, 0 + j, none⟩ = some (.int .i64 ((L[j] : Nat) : Int)) ∧ Y.cell? ⟨go, 0 + j, none⟩ = some (.int .i64 (hm ns L[j]))) := fun Y hY => by
                rw [Nat.zero_add]
                exact ⟨C13.out.below hY, ((RD.out _ hY).1 j hjl).2, ((RD.out _ hY).1 j hjl).1⟩
              have HH : Hid (∀ Y (k : Nat), Below W13.heap.size W13 Y → Calls Try.prog 11 #[.agg (clA st x (.slice ao ns.length cap)), .int .i64 (k : Int)] Y fun e w' => e = .returned (.int .i64 (hm ns k)) ∧ Below Y.heap.size Y w') := fun Y k hY => lhome_any N6 Y st x ao nb 0 cap pv ns _ (N13.out.1.below (hY.mono N13.out.2)) (Nat.le_trans N13.out.2 hY.size)
              generalize L[j] = pj at *
              go_upto_region 20 with fail
              refine wp_region_held_drew (S := fun Y => Below W13.heap.size W13 Y) (by kernel_rfl) (HB.out.drew) (fun hHeld => ?_)
              refine wpAnyH_take (i := 0) (v := (.agg (clA st x (.slice ao ns.length cap)))) rfl (by kernel_rfl) (by kernel_rfl) (by kernel_rfl) (fun _ _ _ h => h) (Or.inl ⟨by rfl, ?_⟩) (by assumption) ?_
              · intro w' hSw
                (try dsimp only at hSw)
                exact exec_loadCl (.tmp 5) rfl (by kernel_rfl) (CC.out _ hSw).1
              (try simp only [Act.put, List.setIfInBounds_toArray, List.set_cons_zero, List.set_cons_succ])
              refine wpAnyH_take (i := 1) (v := (.slice (some ⟨gw, 0, none⟩) L.length cw)) rfl (by kernel_rfl) (by kernel_rfl) (by kernel_rfl) (fun _ _ _ h => h) (Or.inl ⟨by rfl, ?_⟩) (by assumption) ?_
              · intro w' hSw
                (try dsimp only at hSw)
                exact exec_move (.tmp 12) rfl (by kernel_rfl)
              (try simp only [Act.put, List.setIfInBounds_toArray, List.set_cons_zero, List.set_cons_succ])
              refine wpAnyH_take (i := 2) (v := (.int .i64 (j : Int))) rfl (by kernel_rfl) (by kernel_rfl) (by kernel_rfl) (fun _ _ _ h => h) (Or.inl ⟨by rfl, ?_⟩) (by assumption) ?_
              · intro w' hSw
                (try dsimp only at hSw)
                exact exec_move (.tmp 15) rfl (by kernel_rfl)
              (try simp only [Act.put, List.setIfInBounds_toArray, List.set_cons_zero, List.set_cons_succ])
              refine wpAnyH_take (i := 3) (v := (.pointer (some ⟨gw, 0 + j, none⟩))) rfl (by kernel_rfl) (by kernel_rfl) (by kernel_rfl) (fun _ _ _ h => h) (Or.inl ⟨by rfl, ?_⟩) (by assumption) ?_
              · intro w' hSw
                (try dsimp only at hSw)
                exact exec_ixI (n := L.length) (c := cw) (.tmp 109) (.tmp 110) rfl (by kernel_rfl) (by kernel_rfl) hjl
              (try simp only [Act.put, List.setIfInBounds_toArray, List.set_cons_zero, List.set_cons_succ])
              refine wpAnyH_take (i := 4) (v := (.int .i64 (pj : Int))) rfl (by kernel_rfl) (by kernel_rfl) (by kernel_rfl) (fun _ _ _ h => h) (Or.inl ⟨by rfl, ?_⟩) (by assumption) ?_
              · intro w' hSw
                (try dsimp only at hSw)
                exact exec_ldi (.tmp 111) rfl (by kernel_rfl) (CC.out _ hSw).2.1
              (try simp only [Act.put, List.setIfInBounds_toArray, List.set_cons_zero, List.set_cons_succ])
              refine wpAnyH_take (i := 6) (v := (.slice (some ⟨go, 0, none⟩) L.length co)) rfl (by kernel_rfl) (by kernel_rfl) (by kernel_rfl) (fun _ _ _ h => h) (Or.inl ⟨by rfl, ?_⟩) (by assumption) ?_
              · intro w' hSw
                (try dsimp only at hSw)
                exact exec_move (.tmp 8) rfl (by kernel_rfl)
              (try simp only [Act.put, List.setIfInBounds_toArray, List.set_cons_zero, List.set_cons_succ])
              refine wpAnyH_take (i := 7) (v := (.int .i64 (j : Int))) rfl (by kernel_rfl) (by kernel_rfl) (by kernel_rfl) (fun _ _ _ h => h) (Or.inl ⟨by rfl, ?_⟩) (by assumption) ?_
              · intro w' hSw
                (try dsimp only at hSw)
                exact exec_move (.tmp 15) rfl (by kernel_rfl)
              (try simp only [Act.put, List.setIfInBounds_toArray, List.set_cons_zero, List.set_cons_succ])
              refine wpAnyH_take (i := 8) (v := (.pointer (some ⟨go, 0 + j, none⟩))) rfl (by kernel_rfl) (by kernel_rfl) (by kernel_rfl) (fun _ _ _ h => h) (Or.inl ⟨by rfl, ?_⟩) (by assumption) ?_
              · intro w' hSw
                (try dsimp only at hSw)
                exact exec_ixI (n := L.length) (c := co) (.tmp 114) (.tmp 115) rfl (by kernel_rfl) (by kernel_rfl) hjl
              (try simp only [Act.put, List.setIfInBounds_toArray, List.set_cons_zero, List.set_cons_succ])
              refine wpAnyH_take (i := 9) (v := (.int .i64 (hm ns pj))) rfl (by kernel_rfl) (by kernel_rfl) (by kernel_rfl) (fun _ _ _ h => h) (Or.inl ⟨by rfl, ?_⟩) (by assumption) ?_
              · intro w' hSw
                (try dsimp only at hSw)
                exact exec_ldi (.tmp 116) rfl (by kernel_rfl) (CC.out _ hSw).2.2
              (try simp only [Act.put, List.setIfInBounds_toArray, List.set_cons_zero, List.set_cons_succ])
              refine wpAnyH_ready (rs := [5]) (by kernel_rfl) (by simp) ?_
              refine AllReadyH.cons rfl (fun K hK => ?_) AllReadyH.nil
              go_simp
              refine Calls.mono (HH.out _ pj HB.out.drew) ?_
              rintro e W14 ⟨rfl, hb⟩
              have B14 : Hid (Below W13.heap.size W13 W14) := HB.out.drew.trans (hb.mono HB.out.size)
              clear hb
              refine hK.out _ _ (B14.out) (fun hHeld => ?_)
              clear hK
              (try simp only [Act.put, List.setIfInBounds_toArray, List.set_cons_zero, List.set_cons_succ])
              refine wpAnyH_take (i := 10) (v := (.bool false)) rfl (by kernel_rfl) (by kernel_rfl) (by kernel_rfl) (fun _ _ _ h => h) (Or.inl ⟨by rfl, ?_⟩) (by assumption) ?_
              · intro w' hSw
                (try dsimp only at hSw)
                exact exec_neqi (n := hm ns pj) (.tmp 113) (.tmp 117) rfl (by kernel_rfl) (by kernel_rfl)
              (try simp only [Act.put, List.setIfInBounds_toArray, List.set_cons_zero, List.set_cons_succ])
              refine wpAnyH_done (by kernel_rfl) ?_ _
              clear hHeld CC HH HB
              go_wp2_with fail
              go_roundw
              case rel => exact ⟨j + 1, by omega, by go_num, B14⟩
              case measure => simp [intOf]; omega
end Go.Proofs.Ytdodellmbceffaa
namespace Go.Proofs.Ytdodellmbceffaa
open Go.ChangeShapes Go.WideShapes Go.ChangeAt Go.RowKit Go.Deep
theorem cellsI : Try.prog.cellsOf 3 = 1 := by kernel_rfl
theorem cellsPl : Try.prog.cellsOf 22 = 1 := by kernel_rfl
theorem cellsRaw : Try.prog.cellsOf 24 = 7 := by kernel_rfl
theorem bytesI : Try.prog.bytesOf 3 = 8 := by kernel_rfl
theorem laidOutP : laidOutB Try.prog = true := by kernel_rfl
theorem add_plainT (b o j : Nat) : (⟨b, o, none⟩ : Addr).add j = ⟨b, o + j, none⟩ := Addr.add_mid b o j
set_option maxRecDepth 100000 in
/-- a node's list that is handed in -/
theorem open_ps {H : Type} {enc : TypeId × Value → H} {w : World} {base fuel : Nat} {spare : Nat → Bool} {held : Bool} {v : Value} {x : DataW H × List MemPlace} (h : DataW.trod enc Try.prog w base spare held fuel 22 [v] = some x) (hw : ∀ n ∈ x.1.weights Try.prog 22, n ≤ reachBytes) :
    ∃ L : List Int, Pv w.heap.size w v L ∧ ∀ c, v = .slice none L.length c → c = 0 := by
  rcases open_slice1 Try.underlying22 cellsI h with ⟨h0, _⟩ | ⟨a, len, cap, m, n, V, D, Pl, hv, hb, hl, hm, hmm, hx, hc⟩
  · simp only [List.cons.injEq, and_true] at h0
    subst h0
    refine ⟨[], ⟨none, 0, 0, 0, rfl, ⟨fun q => absurd q (by simp), fun q => absurd q (by simp), (fun q hq => absurd hq (by simp)), Nat.zero_le _⟩⟩, fun c hc => ?_⟩
    injection hc with _ _ h3
    exact h3.symm
  · simp only [List.cons.injEq, and_true] at hv
    subst hv
    have hlm : len ≤ m := by rw [hmm]; split <;> omega
    have hwl : len * 8 ≤ reachBytes := by
      have := hw ((len + (m - len)) * 8) (by rw [hx]; simp [DataW.weights, Try.underlying22, bytesI])
      omega
    have each : ∀ i, i < len → ∃ y : Int, V i = .int .i64 y := fun i hi => by
      obtain ⟨y, f, _, _⟩ := DataW.trod_int Try.underlying3 (hc i (by omega)).2
      simp only [List.cons.injEq, and_true] at f
      exact ⟨y, f⟩
    obtain ⟨q, hq⟩ := choose_lt each
    have hplen : ((List.range len).map q).length = len := by simp
    obtain ⟨b, off, spot⟩ := a
    have hspot : 0 < len → spot = none := fun h => by simpa [Addr.add] using World.cell?_spot (hc 0 (by omega)).1
    have cell : ∀ (i : Nat) (hi : i < ((List.range len).map q).length), w.cell? ⟨b, off + i, none⟩ = some (.int .i64 ((List.range len).map q)[i]) := by
      intro i hi
      have hi' : i < len := by rw [hplen] at hi; exact hi
      have e := (hc i (by omega)).1
      rw [hspot (by omega), add_plainT, hq i hi'] at e
      rw [e, List.getElem_map, List.getElem_range]
    refine ⟨(List.range len).map q, ⟨some ⟨b, off, spot⟩, b, off, cap, by rw [hplen], ⟨fun z => ?_, fun z => ?_, cell, ?_⟩⟩, fun c hc => by cases hc⟩
    · rw [hplen] at z
      rw [hspot z]
    · exact World.block_lt_of_cell? w _ (cell 0 z)
    · rw [hplen]
      rw [show reachBytes = 140737488351232 from rfl] at hwl
      omega
theorem list7 {α : Type} {l : List α} (h : l.length = 7) : ∃ a0 a1 a2 a3 a4 a5 a6, l = [a0, a1, a2, a3, a4, a5, a6] := by
  match l, h with
  | [a0, a1, a2, a3, a4, a5, a6], _ => exact ⟨a0, a1, a2, a3, a4, a5, a6, rfl⟩
theorem array7 {α : Type} {l : Array α} (h : l.size = 7) : ∃ a0 a1 a2 a3 a4 a5 a6, l = #[a0, a1, a2, a3, a4, a5, a6] := by
  obtain ⟨l⟩ := l
  obtain ⟨a0, a1, a2, a3, a4, a5, a6, h⟩ := list7 (l := l) (by simpa using h)
  exact ⟨a0, a1, a2, a3, a4, a5, a6, by rw [h]⟩
set_option maxRecDepth 100000 in
set_option maxHeartbeats 4000000 in
/-- a Raw that is handed in -/
theorem open_raw {H : Type} {enc : TypeId × Value → H} {w : World} {r : Reach} {b0 base : Nat} {spare : Nat → Bool} {held : Bool} {v : Value} {d : DataW H} {p : List MemPlace} (hv : Value.okWide Try.prog w r b0 24 v) (h : DataW.Trod enc Try.prog w base spare held 24 v d p) (hw : ∀ n ∈ d.weights Try.prog 24, n ≤ reachBytes) :
    ∃ (a b c e : Int) (v1 v2 v3 : Value) (L1 L2 L3 : List Int), v = .agg #[.int .i64 a, .int .i64 b, .int .i64 c, .int .i64 e, v1, v2, v3] ∧ Pv w.heap.size w v1 L1 ∧ Pv w.heap.size w v2 L2 ∧ Pv w.heap.size w v3 L3 := by
  obtain ⟨cs, rfl, hsz⟩ := okWide_struct Try.underlying24 hv
  obtain ⟨a0, a1, a2, a3, a4, a5, a6, rfl⟩ := array7 (hsz.trans cellsRaw)
  obtain ⟨fuel, hf⟩ := h
  obtain ⟨xs, n, _, hx, _, hxl, hq⟩ := DataW.trod_struct Try.underlying24 hf
  obtain ⟨y0, y1, y2, y3, y4, y5, y6, rfl⟩ := list7 hxl
  have g0 := hq 0 _ rfl
  have g1 := hq 1 _ rfl
  have g2 := hq 2 _ rfl
  have g3 := hq 3 _ rfl
  have g4 := hq 4 _ rfl
  have g5 := hq 5 _ rfl
  have g6 := hq 6 _ rfl
  clear hq hf hv
  simp [Value.cells, cellsI, cellsPl] at g0 g1 g2 g3 g4 g5 g6
  obtain ⟨n0, f0, z0, w0⟩ := DataW.trod_int Try.underlying3 g0
  obtain ⟨n1, f1, z1, w1⟩ := DataW.trod_int Try.underlying3 g1
  obtain ⟨n2, f2, z2, w2⟩ := DataW.trod_int Try.underlying3 g2
  obtain ⟨n3, f3, z3, w3⟩ := DataW.trod_int Try.underlying3 g3
  simp only [List.cons.injEq, and_true] at f0 f1 f2 f3
  subst f0 f1 f2 f3
  simp only [Prod.mk.injEq] at hx
  obtain ⟨L1, k1, _⟩ := open_ps g4 fun n hn => hw n (by
    rw [hx.1]
    simp only [DataW.weights, Try.underlying24]
    exact DataW.weights_mem_each (j := 4) rfl rfl n hn)
  obtain ⟨L2, k2, _⟩ := open_ps g5 fun n hn => hw n (by
    rw [hx.1]
    simp only [DataW.weights, Try.underlying24]
    exact DataW.weights_mem_each (j := 5) rfl rfl n hn)
  obtain ⟨L3, k3, _⟩ := open_ps g6 fun n hn => hw n (by
    rw [hx.1]
    simp only [DataW.weights, Try.underlying24]
    exact DataW.weights_mem_each (j := 6) rfl rfl n hn)
  exact ⟨n0, n1, n2, n3, a4, a5, a6, L1, L2, L3, rfl, k1, k2, k3⟩
end Go.Proofs.Ytdodellmbceffaa
