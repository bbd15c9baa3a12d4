import Derived.Test.YtioiphonajinmaaDoorGGhFiles
import Derived.Test.YtioiphonajinmaaDoorGGhIns
import Derived.Test.YtioiphonajinmaaDoorGGcLaw
namespace Go.Proofs.YtioiphonajinmaaDoor
open Go.RowKit
theorem hdS_len (st : ByteArray) (x : Nat → Int) (ns : List ND) (node : Int) : (hdS st x ns node).length ≤ 64 := by
  by_cases h : hdE st x ns node = 0
  · rw [hdS_ok h]
    have := hdL_len x ns node (ptN ns)
    have p64 : ptN ns ≤ 64 := (errP_all (hdE_zero h)).2.2.2.1.p2
    omega
  · rw [hdS_bad h]
    exact Nat.zero_le _
theorem flS_len (st : ByteArray) (x : Nat → Int) (ns : List ND) (node : Int) : (flS st x ns node).length ≤ 2048 := by
  by_cases h : hdE st x ns node = 0
  · unfold flS
    rw [insA_len, flL_len]
    have h1 := hdS_len st x ns node
    have L2 : 1 ≤ x 2 ∧ x 2 ≤ 16 := sfP_lim (errP_ok (hdE_zero h)).1 2 (by omega)
    have := Nat.mul_le_mul h1 (show 2 * (x 2).toNat ≤ 32 by omega)
    omega
  · rw [flS_bad h]
    exact Nat.zero_le _
set_option maxHeartbeats 8000000 in
set_option maxRecDepth 100000 in
set_option linter.unusedSimpArgs false in
set_option linter.unusedVariables false in
/-- the law: it says yes -/
theorem holdsL_any (N : Nat) (w : World) (st : ByteArray) (x : Nat → Int) (ao : Option Addr) (b o cap : Nat) (pv : Nat → Value) (ns : List ND) (node : Int) (h : NsAt N w ao b o pv ns) (hN : N ≤ w.heap.size) (hs : st.size ≤ 9223372036854775807) (hT : TabG w) :
    Calls Tryd.prog 6 #[.agg (clA st x (.slice ao ns.length cap)), .int .i64 node] w fun e w' => e = .returned (.bool true) ∧ Below w.heap.size w w' := by
  obtain ⟨W0, hW0, hX⟩ := boxed st x cap h hN
  have hlen := h.len
  have HPS : Hid (∀ (q : Nat) (h : q < ns.length), ns[q].ps.length ≤ 17592186043904) := fun q hq => by
    obtain ⟨_, _, _, _, _, hp⟩ := h.ps q hq
    exact hp.len
  have HX := hide (hX.stand hN)
  have B0 := hide hX.bel
  have T0 := hide (hT.below hX.bel)
  clear hX h hT
  have hl64 := hdS_len st x ns node
  have hf64 := flS_len st x ns node
  have HA := hide (hand_any N W0 st x ao b o cap pv ns HX.out.nd HX.out.le)
  go_enter Tryd.func6, Tryd.ntmps6
  go_upto_region 1 with fail
  rw [← hW0]
  clear hW0
  go_upto_region 2 with (first | refine wpList_loadCl rfl (.tmp 2) rfl w.heap.size st x _ rfl HX.out.cl ?_ | (go_at_call 13; refine Calls.mono HA.out ?_; rintro e W1 ⟨H, vl, vp, gn, cn, zs, ls, zt, rfl, hH, hzt, hT, hge, hb⟩))
  have X1 := hide (HX.out.below hb)
  have T1 := hide (T0.out.below hb)
  have B1 := hide (B0.out.trans (hb.mono B0.out.size))
  have HH := hide hH
  have TT := hide hT
  have RC := hide (hd_rc hH.hd)
  have C1 := hide (holds_any W1.heap.size W1 st x (some ⟨gn, 0, none⟩) gn 0 cn (pvZ zs) ns node (hH.nodes hlen HPS.out) (Nat.le_refl _) hs)
  clear hH hT hb HA HX T0 B0
  obtain ⟨L, hL⟩ : ∃ L, L = hdS st x ns node := ⟨_, rfl⟩
  obtain ⟨F, hF⟩ : ∃ F, F = flS st x ns node := ⟨_, rfl⟩
  obtain ⟨k, hk⟩ : ∃ k, k = hdE st x ns node := ⟨_, rfl⟩
  have HL := hide hL
  have HF := hide hF
  have HK := hide hk
  rw [← HL.out] at hl64
  rw [← HF.out] at hf64
  rw [← HL.out, ← HK.out] at C1
  clear hL hk hF
  go_upto_region 3 with (first | refine wpList_mid rfl (.tmp 19) rfl H 0 st x _ rfl RC.out ?_ | (go_at_call 18; refine Calls.mono C1.out ?_; rintro e W2 ⟨v1, rfl, o1, hb⟩))
  have X2 := hide (X1.out.below hb)
  have T2 := hide (T1.out.below hb)
  have B2 := hide (B1.out.trans (hb.mono B1.out.size))
  have H2 := hide (HH.out.keep hb)
  have K2 := hide (TT.out.keep hb)
  have O1 := hide o1
  clear hb X1 T1 B1 HH TT RC C1 o1
  have C2 := hide (rholds_any N W2 st x ao b o cap pv ns node X2.out.nd X2.out.le hs T2.out)
  rw [← HL.out, ← HK.out] at C2
  obtain ⟨a1, c1, hv1, _⟩ := own_sl O1.out
  subst hv1
  go_upto_region 4 with (first | refine wpList_loadCl rfl (.tmp 2) rfl w.heap.size st x _ rfl X2.out.cl ?_ | (go_at_call 19; refine Calls.mono C2.out ?_; rintro e W3 ⟨v2, rfl, o2, hb⟩))
  have X3 := hide (X2.out.below hb)
  have T3 := hide (T2.out.below hb)
  have B3 := hide (B2.out.trans (hb.mono B2.out.size))
  have H3 := hide (H2.out.keep hb)
  have K3 := hide (K2.out.keep hb)
  obtain ⟨a2, c2, hv2, _⟩ := own_sl o2
  subst hv2
  have SI := hide (sameSlots_eq W3 _ _ _ _ L (own_keep O1.out fun i hi => hb.block i (own_lt O1.out hi).2) o2 (by omega))
  clear hb X2 T2 B2 H2 K2 C2 O1 o2
  go_wp2_with fail
  refine Calls.mono SI.out ?_
  rintro e W4 ⟨rfl, hb⟩
  have X4 := hide (X3.out.below hb)
  have T4 := hide (T3.out.below hb)
  have B4 := hide (B3.out.trans (hb.mono B3.out.size))
  have H4 := hide (H3.out.keep hb)
  have K4 := hide (K3.out.keep hb)
  clear hb X3 T3 B3 H3 K3 SI
  go_wp2_with fail
  refine Calls.mono (num_any _ _) ?_
  rintro e W5 ⟨rfl, rfl⟩
  go_upto_region 6 with fail
  have RC := hide (hd_rc H4.out.hd)
  have C1 := hide (files_any W4.heap.size W4 st x (some ⟨gn, 0, none⟩) gn 0 cn (pvZ zs) ns node (H4.out.nodes hlen HPS.out) (Nat.le_refl _) hs)
  rw [← HF.out, ← HK.out] at C1
  go_upto_region 7 with (first | refine wpList_mid rfl (.tmp 44) rfl H 0 st x _ rfl RC.out ?_ | (go_at_call 21; refine Calls.mono C1.out ?_; rintro e W5 ⟨v1, rfl, o1, hb⟩))
  have X5 := hide (X4.out.below hb)
  have T5 := hide (T4.out.below hb)
  have B5 := hide (B4.out.trans (hb.mono B4.out.size))
  have H5 := hide (H4.out.keep hb)
  have K5 := hide (K4.out.keep hb)
  have O1 := hide o1
  clear hb X4 T4 B4 H4 K4 RC C1 o1
  have C2 := hide (rfiles_any N W5 st x ao b o cap pv ns node X5.out.nd X5.out.le hs T5.out)
  rw [← HF.out, ← HK.out] at C2
  obtain ⟨a3, c3, hv3, _⟩ := own_sl O1.out
  subst hv3
  go_upto_region 8 with (first | refine wpList_loadCl rfl (.tmp 2) rfl w.heap.size st x _ rfl X5.out.cl ?_ | (go_at_call 22; refine Calls.mono C2.out ?_; rintro e W6 ⟨v2, rfl, o2, hb⟩))
  have B6 := hide (B5.out.trans (hb.mono B5.out.size))
  have H6 := hide (H5.out.keep hb)
  have K6 := hide (K5.out.keep hb)
  obtain ⟨a4, c4, hv4, _⟩ := own_sl o2
  subst hv4
  have SI := hide (sameWords_eq W6 _ _ _ _ F (own_keep O1.out fun i hi => hb.block i (own_lt O1.out hi).2) o2 (by omega))
  clear hb X5 T5 B5 H5 K5 C2 O1 o2
  go_wp2_with fail
  refine Calls.mono SI.out ?_
  rintro e W7 ⟨rfl, hb⟩
  have B7 := hide (B6.out.trans (hb.mono B6.out.size))
  have H7 := hide (H6.out.keep hb)
  have K7 := hide (K6.out.keep hb)
  clear hb B6 H6 K6 SI
  go_wp2_with fail
  refine Calls.mono (num_any _ _) ?_
  rintro e W8 ⟨rfl, rfl⟩
  have LL := hide (left_any (H + 1) H W7 st x ns vl vp gn cn zs ls zt H7.out hzt K7.out hlen HPS.out)
  clear H7 K7
  go_wp2_with fail
  refine Calls.mono LL.out ?_
  rintro e W9 ⟨rfl, hb⟩
  have B9 := hide (B7.out.trans (hb.mono B7.out.size))
  clear hb B7 LL
  go_wp2_with fail
  go_ret
  exact ⟨rfl, B9.out⟩
end Go.Proofs.YtioiphonajinmaaDoor
