import Derived.Test.YtpoegknmkbnjlaaDoorGGkRound
import Derived.Test.YtpoegknmkbnjlaaDoorGErTake
import Derived.Test.YtpoegknmkbnjlaaDoorGGkDoc
import Derived.Test.YtpoegknmkbnjlaaDoorGKbMap
import Derived.Test.YtpoegknmkbnjlaaDoorGGcDoc
namespace Go.Proofs.YtpoegknmkbnjlaaDoor.Cn
open Go.RowKit
set_option maxHeartbeats 16000000 in
set_option maxRecDepth 100000 in
set_option linter.unusedSimpArgs false in
set_option linter.unusedVariables false in
theorem row_r (N : Nat) (w : World) (st : ByteArray) (x : Nat → Int) (ao : Option Addr) (b o cap : Nat) (pv : Nat → Value) (ns : List ND) (h : NsAt N w ao b o pv ns) (hN : N ≤ w.heap.size) (hs : st.size ≤ 9223372036854775807) (hT : YtpoegknmkbnjlaaDoor.TabG w) (he : errP st x ns = 0) (p : Nat) (hp : p < ptN ns) :
    Calls Tryd.prog 27 #[.agg (clA st x (.slice ao ns.length cap)), .int .i64 (p : Int)] w fun e w' => ∃ u', e = .returned u' ∧ w'.ownsRow w.heap.size 3 1 u' (rowOf ns (x 20) (ownsP st x ns p)).length (ints (rowOf ns (x 20) (ownsP st x ns p))) ∧ Below w.heap.size w w' := by
  obtain ⟨oe1, hos, -, oe2, oe3, hr⟩ := ownsP_ok he hp
  obtain ⟨os, hoss⟩ : ∃ os, os = ownsP st x ns p := ⟨_, rfl⟩
  rw [← hoss] at oe1 hos ⊢
  have hlen : os.length ≤ 16 := by omega
  obtain ⟨W0, hW0, hX⟩ := boxed st x cap h hN
  have HX0 := hide (hX.stand hN)
  have B00 := hide hX.bel
  have OW := hide (YtpoegknmkbnjlaaDoor.rOwners_any N W0 st x ao b o cap pv ns (p : Int) HX0.out.nd HX0.out.le hs (hT.below hX.bel))
  have HOW : Hid (owL ns (wkE st x ns (p : Int)) = os) := hoss.symm
  have HOL : Hid ((wkE st x ns (p : Int)).length = os.length) := by show _ = _; rw [hoss]; unfold ownsP; rw [owL_len]
  have HR := hide hr
  have HO2 := hide hos
  obtain ⟨hm, hhm⟩ : ∃ hm, hm = x 20 := ⟨_, rfl⟩
  have RS : Hid (rowOf ns hm os = os.filter (homeF ns hm) ++ os.filter (fun k => !homeF ns hm k)) := rfl
  rw [← hhm]
  have HHM := hide hhm
  rw [hr] at OW
  clear hX h hos hhm hoss oe1 oe2 oe3 hT he hr hs
  go_enter Tryd.func27, Tryd.ntmps27
  go_upto_region 1 with fail
  rw [← hW0]
  clear hW0
  go_wp2_with (refine wpList_loadCl rfl (.tmp 2) rfl w.heap.size st x _ rfl HX0.out.cl ?_)
  refine Calls.mono OW.out ?_
  rintro e W3 ⟨u, rfl, ou, hb⟩
  rw [HOW.out, HOL.out] at ou
  have ou : W3.ownsRow W0.heap.size 3 1 u os.length (ints os) := ou
  have B0 : Hid (Below w.heap.size w W3) := B00.out.trans (hb.mono B00.out.size)
  have HX : Hid (Stand N w.heap.size W3 st x ao b o cap pv ns) := HX0.out.below hb
  have OU := hide ou
  obtain ⟨ua, uc, rfl⟩ := own_sl ou
  obtain ⟨B3, hB3⟩ : ∃ B3, B3 = W3.heap.size := ⟨_, rfl⟩
  have HB3 := hide hB3
  clear hb ou hB3 HX0 B00 OW HOW HOL
  go_wp2_with fail
  go_loopw [7, 8] (fun v7 vi wr => ∃ (i : Nat), i ≤ os.length ∧ vi = .int .i64 (i : Int) ∧ ∃ (a9 : Option Addr) (c9 : Nat) (LL : List Int), v7 = .slice a9 LL.length c9 ∧ LL = (os.take i).filter (homeF ns hm) ∧ wr.ownsRow B3 3 1 (.slice a9 LL.length c9) LL.length (ints LL) ∧ Kp W3 wr non) (fun _ vi _ => os.length - (intOf vi).toNat)
  case atStart => exact ⟨0, Nat.zero_le _, rfl, none, 0, [], rfl, rfl, World.ownsRow_nil _ _ _ _, Kp.refl _ _⟩
  case round =>
    obtain ⟨i, hi, rfl, a9, c9, LL, rfl, hLL, ol, kw⟩ := hrel
    have OL := hide ol
    have KW := hide kw
    have HLl : Hid (LL.length ≤ 32) := by
      rw [hLL]
      show _ ≤ _
      have := List.length_filter_le (homeF ns hm) (os.take i)
      have h9 := List.length_filter_le (homeF ns hm) os
      rw [List.length_take] at this
      (try rw [List.length_append])
      omega
    have H0 := hide hLL
    clear ol kw hLL
    by_cases hin : i < os.length
    case pos =>
      have hii : (i : Int) < (os.length : Int) := by omega
      have xr := HX.out.below (KW.out.below)
      obtain ⟨ug, uc', hug⟩ := own_g OU.out (by omega)
      injection hug with hug _ huc
      subst hug
      subst huc
      have our := own_kp OU.out KW.out (fun _ _ f => f)
      have cu := our.cellAt i (by omega)
      rw [ints_at2 os i hin] at cu
      obtain ⟨z0, z1⟩ := HO2.out os[i] (List.getElem_mem hin)
      have hfF := filt_take (f := homeF ns hm) hin
      obtain ⟨q, hq⟩ : ∃ q : Nat, os[i] = (q : Int) := ⟨os[i].toNat, by omega⟩
      rw [hq] at cu z0 z1 hfF
      have hqn : q < ns.length := by omega
      obtain ⟨x20, hx20⟩ : ∃ x20, x20 = hm := ⟨_, rfl⟩
      have hz : homeF ns hm (q : Int) = decide (ns[q].z = x20) := by
        rw [hx20]
        unfold homeF znF
        simp [hqn]
      have nat' := xr.nd
      have hao := nat'.at0 (by omega)
      subst hao
      have zc := nat'.cz q hqn
      have d22 := xr.cl.nv
      have d21 := xr.cl.x 20 (by omega)
      rw [← HHM.out] at d21
      have hqi : (q : Int) < (ns.length : Int) := by omega
      have hqb : ns.length ≤ 9223372036854775807 := by have := nat'.len; omega
      rw [← hx20] at d21
      obtain ⟨zz, hzz0⟩ : ∃ zz, zz = ns[q].z := ⟨_, rfl⟩
      rw [← hzz0] at zc hz
      clear hzz0
      generalize hnl : ns.length = nl at *
      clear xr our nat' z0 hq hx20
      by_cases hzz : zz = x20
      · skip
        have hz2 : homeF ns hm (q : Int) = true := by rw [hz]; exact decide_eq_true hzz
        have HF : Hid (LL ++ [(q : Int)] = (os.take (i + 1)).filter (homeF ns hm)) := by show _ = _; rw [hfF, hz2, if_pos rfl, H0.out]
        have hze : (zz == x20) = true := by simp [hzz]
        clear hfF hz hz2
        go_wp2_with fail
        go_quiet (fail)
        have kq := (Kp.refl wr non).drewN nq
        have Lq := own_kp OL.out kq (fun _ _ f => f)
        have Kq : Kp W3 (wr.drewN nq) non := KW.out.trans kq (fun _ f => f.elim)
        have curq : (wr.drewN nq).cell? ⟨ug, i, none⟩ = some (.int .i64 (q : Int)) := cu
        clear kq d21 d22 zc cu
        obtain ⟨wq, hwq⟩ : ∃ wq, wq = wr.drewN nq := ⟨_, rfl⟩
        rw [← hwq] at Lq Kq curq ⊢
        clear hwq
        obtain ⟨W4, hW4⟩ : ∃ W4, W4 = wq.alloc (.cells #[.int .i64 (q : Int)] 3) := ⟨_, rfl⟩
        have hb4 : Below wq.heap.size wq W4 := by rw [hW4]; exact (Below.refl _ _).alloc (Nat.le_refl _) _
        have HGG : Hid (W4.ownsRow wq.heap.size 3 1 (.slice (some ⟨wq.heap.size, 0, none⟩) 1 1) 1 (ints [(q : Int)])) := by rw [hW4]; exact own_one wq 3 1 #[.int .i64 (q : Int)] rfl
        have L4 := hide (own_kp Lq (Kp.of_below hb4 non) (fun _ _ f => f))
        have K4 : Hid (Kp W3 W4 non) := Kq.trans (Kp.of_below hb4 non) (fun _ f => f.elim)
        have hsz : Hid (B3 ≤ W4.heap.size) := by rw [HB3.out]; exact K4.out.size
        clear hb4 Lq Kq
        go_wp2_with (at_builtin; rw [← hW4]; refine wpList_apI3 rfl (.tmp 34) (.tmp 39) rfl B3 _ LL.length LL rfl L4.out wq.heap.size _ 1 [(q : Int)] rfl HGG.out (by have := HLl.out; omega) hsz.out ?_; intro v' w' o2 g2 hn2; have HO5 := hide o2; have KG := hide (Kp.of_grown g2); clear o2 g2 hn2 hW4 curq)
        obtain ⟨a5, c5, rfl⟩ := own_sl HO5.out
        have K5 : Hid (Kp W3 w' non) := K4.out.trans KG.out (fun k e => Or.inr (by have := own_ge L4.out e.symm; have := HB3.out; omega))
        go_roundw
        case rel => exact ⟨i + 1, by omega, by go_num, a5, c5, LL ++ [(q : Int)], by rw [List.length_append]; rfl, HF.out, by rw [List.length_append]; exact HO5.out, K5.out⟩
        case measure => simp [intOf]; omega
      · skip
        have hz2 : homeF ns hm (q : Int) = false := by rw [hz]; exact decide_eq_false hzz
        have HF : Hid (LL = (os.take (i + 1)).filter (homeF ns hm)) := by show _ = _; rw [hfF, hz2, H0.out]; simp
        have hze : (zz == x20) = false := by simp [hzz]
        clear hfF hz hz2
        go_wp2_with fail
        go_quiet (fail)
        have kq := (Kp.refl wr non).drewN nq
        have Lq := own_kp OL.out kq (fun _ _ f => f)
        have Kq : Kp W3 (wr.drewN nq) non := KW.out.trans kq (fun _ f => f.elim)
        go_wp2_with fail
        have LQ := hide Lq
        have KQ := hide Kq
        clear Lq Kq kq
        go_roundw
        case rel => exact ⟨i + 1, by omega, by go_num, a9, c9, LL, rfl, HF.out, LQ.out, KQ.out⟩
        case measure => simp [intOf]; omega
    case neg =>
      obtain rfl : i = os.length := by omega
      have HE : Hid (LL = os.filter (homeF ns hm)) := by show _ = _; rw [H0.out, List.take_length]
      clear H0 HLl hi hin
      go_wp2_with fail
      go_loopw [7, 9] (fun v7 vi wr => ∃ (i : Nat), i ≤ os.length ∧ vi = .int .i64 (i : Int) ∧ ∃ (a9 : Option Addr) (c9 : Nat) (LL : List Int), v7 = .slice a9 LL.length c9 ∧ LL = os.filter (homeF ns hm) ++ (os.take i).filter (fun k => !homeF ns hm k) ∧ wr.ownsRow B3 3 1 (.slice a9 LL.length c9) LL.length (ints LL) ∧ Kp W3 wr non) (fun _ vi _ => os.length - (intOf vi).toNat)
      case atStart => exact ⟨0, Nat.zero_le _, rfl, a9, c9, LL, rfl, by rw [HE.out]; simp, OL.out, KW.out⟩
      case round =>
        obtain ⟨i, hi, rfl, a9, c9, LL, rfl, hLL, ol, kw⟩ := hrel
        have OL := hide ol
        have KW := hide kw
        have HLl : Hid (LL.length ≤ 32) := by
          rw [hLL]
          show _ ≤ _
          have := List.length_filter_le (fun k => !homeF ns hm k) (os.take i)
          have h9 := List.length_filter_le (homeF ns hm) os
          rw [List.length_take] at this
          (try rw [List.length_append])
          omega
        have H0 := hide hLL
        clear ol kw hLL
        by_cases hin : i < os.length
        case pos =>
          have hii : (i : Int) < (os.length : Int) := by omega
          have xr := HX.out.below (KW.out.below)
          obtain ⟨ug, uc', hug⟩ := own_g OU.out (by omega)
          injection hug with hug _ huc
          subst hug
          subst huc
          have our := own_kp OU.out KW.out (fun _ _ f => f)
          have cu := our.cellAt i (by omega)
          rw [ints_at2 os i hin] at cu
          obtain ⟨z0, z1⟩ := HO2.out os[i] (List.getElem_mem hin)
          have hfF := filt_take (f := fun k => !homeF ns hm k) hin
          obtain ⟨q, hq⟩ : ∃ q : Nat, os[i] = (q : Int) := ⟨os[i].toNat, by omega⟩
          rw [hq] at cu z0 z1 hfF
          have hqn : q < ns.length := by omega
          obtain ⟨x20, hx20⟩ : ∃ x20, x20 = hm := ⟨_, rfl⟩
          have hz : homeF ns hm (q : Int) = decide (ns[q].z = x20) := by
            rw [hx20]
            unfold homeF znF
            simp [hqn]
          have nat' := xr.nd
          have hao := nat'.at0 (by omega)
          subst hao
          have zc := nat'.cz q hqn
          have d22 := xr.cl.nv
          have d21 := xr.cl.x 20 (by omega)
          rw [← HHM.out] at d21
          have hqi : (q : Int) < (ns.length : Int) := by omega
          have hqb : ns.length ≤ 9223372036854775807 := by have := nat'.len; omega
          rw [← hx20] at d21
          obtain ⟨zz, hzz0⟩ : ∃ zz, zz = ns[q].z := ⟨_, rfl⟩
          rw [← hzz0] at zc hz
          clear hzz0
          generalize hnl : ns.length = nl at *
          clear xr our nat' z0 hq hx20
          by_cases hzz : zz = x20
          · skip
            have hz2 : homeF ns hm (q : Int) = true := by rw [hz]; exact decide_eq_true hzz
            have HF : Hid (LL = os.filter (homeF ns hm) ++ (os.take (i + 1)).filter (fun k => !homeF ns hm k)) := by show _ = _; rw [hfF, show (!homeF ns hm (q : Int)) = false by rw [hz2]; rfl, H0.out]; simp
            have hze : (zz != x20) = false := by simp [hzz]
            clear hfF hz hz2
            go_wp2_with fail
            go_quiet (fail)
            have kq := (Kp.refl wr non).drewN nq
            have Lq := own_kp OL.out kq (fun _ _ f => f)
            have Kq : Kp W3 (wr.drewN nq) non := KW.out.trans kq (fun _ f => f.elim)
            go_wp2_with fail
            have LQ := hide Lq
            have KQ := hide Kq
            clear Lq Kq kq
            go_roundw
            case rel => exact ⟨i + 1, by omega, by go_num, a9, c9, LL, rfl, HF.out, LQ.out, KQ.out⟩
            case measure => simp [intOf]; omega
          · skip
            have hz2 : homeF ns hm (q : Int) = false := by rw [hz]; exact decide_eq_false hzz
            have HF : Hid (LL ++ [(q : Int)] = os.filter (homeF ns hm) ++ (os.take (i + 1)).filter (fun k => !homeF ns hm k)) := by show _ = _; rw [hfF, show (!homeF ns hm (q : Int)) = true by rw [hz2]; rfl, if_pos rfl, H0.out, List.append_assoc]
            have hze : (zz != x20) = true := by simp [hzz]
            clear hfF hz hz2
            go_wp2_with fail
            go_quiet (fail)
            have kq := (Kp.refl wr non).drewN nq
            have Lq := own_kp OL.out kq (fun _ _ f => f)
            have Kq : Kp W3 (wr.drewN nq) non := KW.out.trans kq (fun _ f => f.elim)
            have curq : (wr.drewN nq).cell? ⟨ug, i, none⟩ = some (.int .i64 (q : Int)) := cu
            clear kq d21 d22 zc cu
            obtain ⟨wq, hwq⟩ : ∃ wq, wq = wr.drewN nq := ⟨_, rfl⟩
            rw [← hwq] at Lq Kq curq ⊢
            clear hwq
            obtain ⟨W4, hW4⟩ : ∃ W4, W4 = wq.alloc (.cells #[.int .i64 (q : Int)] 3) := ⟨_, rfl⟩
            have hb4 : Below wq.heap.size wq W4 := by rw [hW4]; exact (Below.refl _ _).alloc (Nat.le_refl _) _
            have HGG : Hid (W4.ownsRow wq.heap.size 3 1 (.slice (some ⟨wq.heap.size, 0, none⟩) 1 1) 1 (ints [(q : Int)])) := by rw [hW4]; exact own_one wq 3 1 #[.int .i64 (q : Int)] rfl
            have L4 := hide (own_kp Lq (Kp.of_below hb4 non) (fun _ _ f => f))
            have K4 : Hid (Kp W3 W4 non) := Kq.trans (Kp.of_below hb4 non) (fun _ f => f.elim)
            have hsz : Hid (B3 ≤ W4.heap.size) := by rw [HB3.out]; exact K4.out.size
            clear hb4 Lq Kq
            go_wp2_with (at_builtin; rw [← hW4]; refine wpList_apI3 rfl (.tmp 59) (.tmp 64) rfl B3 _ LL.length LL rfl L4.out wq.heap.size _ 1 [(q : Int)] rfl HGG.out (by have := HLl.out; omega) hsz.out ?_; intro v' w' o2 g2 hn2; have HO5 := hide o2; have KG := hide (Kp.of_grown g2); clear o2 g2 hn2 hW4 curq)
            obtain ⟨a5, c5, rfl⟩ := own_sl HO5.out
            have K5 : Hid (Kp W3 w' non) := K4.out.trans KG.out (fun k e => Or.inr (by have := own_ge L4.out e.symm; have := HB3.out; omega))
            go_roundw
            case rel => exact ⟨i + 1, by omega, by go_num, a5, c5, LL ++ [(q : Int)], by rw [List.length_append]; rfl, HF.out, by rw [List.length_append]; exact HO5.out, K5.out⟩
            case measure => simp [intOf]; omega
        case neg =>
          obtain rfl : i = os.length := by omega
          have HE : Hid (LL = rowOf ns hm os) := by show _ = _; rw [RS.out, H0.out, List.take_length]
          clear H0 hi hin
          go_wp2_with fail
          go_ret
          refine ⟨_, rfl, ?_, B0.out.trans ((KW.out.below).mono B0.out.size)⟩
          rw [← HE.out]
          exact own_base OL.out (by rw [HB3.out]; exact B0.out.size)
end Go.Proofs.YtpoegknmkbnjlaaDoor.Cn
namespace Go.Proofs.YtpoegknmkbnjlaaDoor.Cn
open Go.RowKit
def nrA (x : Nat → Int) (rv : Value) : Array Value := #[rv, .int .i64 (x 17), .int .i64 0, .int .i64 0, .int .i64 0, .bool false, .bool false, .int .i64 0, .int .i64 0, .int .i64 0, .slice none 0 0, .slice none 0 0, .slice none 0 0, .int .i64 0, .int .i64 0, .slice none 0 0, .slice none 0 0]
noncomputable def newR (st : ByteArray) (x : Nat → Int) (ns : List ND) (p : Nat) : Rx := ⟨rowsP st x ns p, x 17, 0, 0, 0, false, false, 0, 0, 0, [], [], [], rp0⟩
def zr0 (rv : Value) (zs : List Value) : Zr := ⟨rv, zs, nilV, nilV, nilV, nilV, nilV⟩
/-- an exporter with the rows of i partitions -/
structure NwJ (B : Nat) (st : ByteArray) (x : Nat → Int) (ns : List ND) (W : World) (X i : Nat) (rv : Value) (zs : List Value) : Prop where
  blk : W.heap[X]? = some (.cells (nrA x rv) 76)
  row : W.ownsRow B 48 1 rv i zs
  rws : ∀ q, q < i → ∃ u, zs[q]? = some u ∧ W.ownsRow B 3 1 u (rowOf ns (x 20) (ownsP st x ns q)).length (ints (rowOf ns (x 20) (ownsP st x ns q)))
  ge : B ≤ X
section
variable {B : Nat} {st : ByteArray} {x : Nat → Int} {ns : List ND} {W W' : World} {X i : Nat} {rv u : Value} {zs : List Value}
theorem NwJ.kp0 (h : NwJ B st x ns W X i rv zs) (hk : Kp W W' non) : NwJ B st x ns W' X i rv zs :=
  ⟨(hk.block _ (blk_lt h.blk) (fun f => f)).trans h.blk, own_kp h.row hk (fun _ _ f => f), fun q hq => by
    obtain ⟨u, hu, ho⟩ := h.rws q hq
    exact ⟨u, hu, own_kp ho hk (fun _ _ f => f)⟩, h.ge⟩
theorem NwJ.app (h : NwJ B st x ns W X i rv zs) (hu : W.ownsRow B 3 1 u (rowOf ns (x 20) (ownsP st x ns i)).length (ints (rowOf ns (x 20) (ownsP st x ns i)))) (rv' : Value) (hr : W'.ownsRow B 48 1 rv' (i + 1) (zs ++ [u])) (hg : W.grownBy W' rv.ownBlock) :
    W'.heap[X]? = some (.cells (nrA x rv) 76) ∧ NwJ B st x ns (W'.setCell ⟨X, 0, none⟩ rv') X (i + 1) rv' (zs ++ [u]) ∧ Kp W (W'.setCell ⟨X, 0, none⟩ rv') (fun k => k = X ∨ some k = rv.ownBlock) := by
  have kg := Kp.of_grown hg
  have nX : ∀ k, rv.ownBlock = some k → k ≠ X := fun k e q => by
    obtain ⟨c, hc⟩ := own_typ h.row e
    rw [q, h.blk] at hc
    simp at hc
  have b1 : W'.heap[X]? = some (.cells (nrA x rv) 76) := (kg.block _ (blk_lt h.blk) (fun e => nX X e.symm rfl)).trans h.blk
  have ks : Kp W' (W'.setCell ⟨X, 0, none⟩ rv') (fun k => k = X) := (Kp.refl W' (fun k => k = X)).set (Or.inl rfl) _ _
  have keep : ∀ {n : Nat} {q : Value} {xs : List Value}, W.ownsRow B 3 1 q n xs → (W'.setCell ⟨X, 0, none⟩ rv').ownsRow B 3 1 q n xs := fun ho => own_kp (own_kp ho kg (fun k e s => by
    obtain ⟨c1, g1⟩ := own_typ ho e
    obtain ⟨c2, g2⟩ := own_typ h.row s.symm
    rw [g1] at g2
    simp at g2)) ks (fun k e s => by
    obtain ⟨c1, g1⟩ := own_typ ho e
    rw [s, h.blk] at g1
    simp at g1)
  refine ⟨b1, ⟨set_row b1 0 _, own_kp hr ks (fun k e s => ?_), fun q hq => ?_, h.ge⟩, (kg.mono (T := fun k => k = X ∨ some k = rv.ownBlock) (fun k e => Or.inr e)).set (Or.inl (Or.inl rfl)) _ _⟩
  · obtain ⟨c1, g1⟩ := own_typ hr e
    rw [s, b1] at g1
    simp at g1
  · have hl : zs.length = i * 1 := h.row.1
    by_cases e : q < i
    · obtain ⟨z, hz, ho⟩ := h.rws q e
      exact ⟨z, by rw [List.getElem?_append_left (by omega)]; exact hz, keep ho⟩
    · obtain rfl : q = i := by omega
      exact ⟨u, by rw [List.getElem?_append_right (by omega), hl, Nat.mul_one, Nat.sub_self]; rfl, keep hu⟩
theorem NwJ.ex (h : NwJ B st x ns W X i rv zs) : RxAt W X (newR st x ns i) (zr0 rv zs) ∧ ∀ k, Ar X (zr0 rv zs) k → B ≤ k := by
  have hl : zs.length = i * 1 := h.row.1
  refine ⟨⟨h.blk, ?_, fun p hp => ?_, own_nil _ _ _, own_nil _ _ _, own_nil _ _ _, own_nil _ _ _, own_nil _ _ _, (fun e => by cases e), (fun e => by cases e), (fun e => by cases e)⟩, fun k e => ?_⟩
  · show W.ownsRow 0 48 1 rv (rowsP st x ns i).length zs
    rw [rowsP_len]
    exact own_base h.row (Nat.zero_le _)
  · have hp' : p < i := by have : p < (rowsP st x ns i).length := hp; rwa [rowsP_len] at this
    obtain ⟨u, hu, ho⟩ := h.rws p hp'
    have e : (newR st x ns i).rows[p] = rowOf ns (x 20) (ownsP st x ns p) := by
      show (rowsP st x ns i)[p]'hp = _
      simp [rowsP]
    rw [e]
    exact ⟨u, hu, own_base ho (Nat.zero_le _)⟩
  · rcases e with e | e | e | e | e | e | e | ⟨u, hu, e⟩
    · rw [e]; exact h.ge
    · exact (nil_own e).elim
    · exact (nil_own e).elim
    · exact (nil_own e).elim
    · exact own_ge h.row e
    · exact (nil_own e).elim
    · exact (nil_own e).elim
    · obtain ⟨p, hp, rfl⟩ := List.getElem_of_mem hu
      have hp2 : p < zs.length := hp
      obtain ⟨u', hu', ho⟩ := h.rws p (by omega)
      rw [List.getElem?_eq_getElem hp2] at hu'
      injection hu' with hu'
      exact own_ge ho (by rw [← hu']; exact e)
end
/-- what New leaves -/
def NewD (st : ByteArray) (x : Nat → Int) (ns : List ND) (w w' : World) (X : Nat) : Prop := ∃ Z, RxAt w' X (newR st x ns (ptN ns)) Z ∧ (∀ k, Ar X Z k → w.heap.size ≤ k) ∧ Below w.heap.size w w'
set_option maxHeartbeats 16000000 in
set_option maxRecDepth 100000 in
set_option linter.unusedSimpArgs false in
set_option linter.unusedVariables false in
theorem New_r (N : Nat) (w : World) (st : ByteArray) (x : Nat → Int) (ao : Option Addr) (b o cap : Nat) (pv : Nat → Value) (ns : List ND) (h : NsAt N w ao b o pv ns) (hN : N ≤ w.heap.size) (hs : st.size ≤ 9223372036854775807) (hT : YtpoegknmkbnjlaaDoor.TabG w) (he : errP st x ns = 0) :
    Calls Tryd.prog 12 #[.agg (clA st x (.slice ao ns.length cap))] w fun e w' => ∃ X, e = .returned (.tuple #[.pointer (some ⟨X, 0, none⟩), .int .i64 0]) ∧ NewD st x ns w w' X := by
  obtain ⟨W0, hW0, hX⟩ := boxed st x cap h hN
  have HX := hide (hX.stand hN)
  have B0 := hide hX.bel
  clear h
  have CK := hide (YtpoegknmkbnjlaaDoor.rcheck_any N W0 st x ao b o cap pv ns HX.out.nd HX.out.le hs (hT.below hX.bel))
  have HTT := hide hT
  have H16 : Hid (ns.length ≤ 16) := (nfP_len (errP_all he).2.2.1).2
  have P64 : Hid (1 ≤ ptN ns ∧ ptN ns ≤ 64) := ⟨(errP_all he).2.2.2.1.p1, (errP_all he).2.2.2.1.p2⟩
  have HNN : Hid (N ≤ w.heap.size) := hN
  clear hX hT
  go_enter Tryd.func12, Tryd.ntmps12
  go_upto_region 1 with fail
  rw [← hW0]
  clear hW0
  go_wp2_with (refine wpList_loadCl rfl (.tmp 1) rfl w.heap.size st x _ rfl HX.out.cl ?_)
  refine Calls.mono CK.out ?_
  rintro e W1 ⟨rfl, hb⟩
  rw [he]
  have X1 := hide (HX.out.below hb)
  have B1 := hide (B0.out.trans (hb.mono B0.out.size))
  clear hb HX CK B0
  have x17 : W1.cell? ⟨w.heap.size, 18, none⟩ = some (.int .i64 (x 17)) := X1.out.cl.x 17 (by omega)
  obtain ⟨X, hXX⟩ : ∃ X, X = W1.heap.size := ⟨_, rfl⟩
  obtain ⟨W2, hW2⟩ : ∃ W2, W2 = W1.alloc (.cells (nrA x (.slice none 0 0)) 76) := ⟨_, rfl⟩
  have k2 : Below W1.heap.size W1 W2 := by rw [hW2]; exact (Below.refl _ W1).alloc (Nat.le_refl _) _
  have m2 : W2.heap[X]? = some (.cells (nrA x (.slice none 0 0)) 76) := by rw [hW2, hXX]; exact heap_last _ _
  have X2 := hide (X1.out.below k2)
  have B2 := hide (B1.out.trans (k2.mono B1.out.size))
  have XG : Hid (w.heap.size ≤ X) := by rw [hXX]; exact B1.out.size
  have XC : Hid (X ≠ w.heap.size ∧ N ≤ w.heap.size) := ⟨by rw [hXX]; have := blk_lt X1.out.cl; omega, HNN.out⟩
  have I2 : Hid (NwJ w.heap.size st x ns W2 X 0 (.slice none 0 0) []) := ⟨m2, World.ownsRow_nil _ _ _ _, fun q hq => absurd hq (Nat.not_lt_zero _), XG.out⟩
  clear k2 m2 X1 B1
  go_upto_region 5 with (refine wpList_blR rfl 76 #[(1, .tmp 13)] rfl (nrA x (.slice none 0 0)) (by kernel_rfl) ?_)
  rw [← hXX, ← hW2]
  clear hW2 hXX x17
  have I3 := I2
  have S3 := X2
  have B3 : Hid (Kp w W2 non) := Kp.of_below B2.out non
  clear I2 X2 B2
  obtain ⟨P, hP⟩ : ∃ P, P = ptN ns := ⟨_, rfl⟩
  have HP := hide hP
  clear hP
  go_wp2_with fail
  go_loopw [6] (fun vi wr => ∃ (i : Nat), i ≤ P ∧ vi = .int .i64 (i : Int) ∧ ∃ rv zs, Hid (NwJ w.heap.size st x ns wr X i rv zs) ∧ Hid (Stand N w.heap.size wr st x ao b o cap pv ns) ∧ Hid (Kp w wr non)) (fun vi _ => P - (intOf vi).toNat)
  case atStart => exact ⟨0, Nat.zero_le _, rfl, _, _, I3.out, S3.out, B3.out⟩
  case round =>
    clear I3 S3 B3
    obtain ⟨i, hi, rfl, rv, zs, I0, S0, K0⟩ := hrel
    have PA := hide (YtpoegknmkbnjlaaDoor.parts_any N wr st x ao b o cap pv ns S0.out.nd S0.out.le H16.out)
    rw [← HP.out] at PA
    go_wp2_with (refine wpList_loadCl rfl (.tmp 1) rfl w.heap.size st x _ rfl S0.out.cl ?_)
    refine Calls.mono PA.out ?_
    rintro e W3 ⟨rfl, hb⟩
    have I3 := hide (I0.out.kp0 (Kp.of_below hb non))
    have S3 := hide (S0.out.below hb)
    have KO : Hid (Kp w W3 non) := K0.out.trans (Kp.of_below hb non) (fun _ f => f.elim)
    clear hb I0 S0 K0 PA
    by_cases hin : i < P
    case neg =>
      obtain rfl : i = P := by omega
      have hii : ¬ (i : Int) < (i : Int) := by omega
      go_wp2_with fail
      go_ret2
      obtain ⟨e1, e2⟩ := I3.out.ex
      rw [HP.out] at e1
      exact ⟨X, rfl, _, e1, e2, KO.out.below⟩
    case pos =>
      have hii : (i : Int) < (P : Int) := by omega
      have hip : i < ptN ns := by rw [← HP.out]; exact hin
      have IB : Hid (i < 64) := by have := P64.out; show i < 64; omega
      have S3s : Hid (w.heap.size ≤ W3.heap.size) := KO.out.size
      obtain ⟨ra, rc, rfl⟩ := own_sl I3.out.row
      obtain ⟨RO, hRO⟩ : ∃ RO, RO = rowOf ns (x 20) (ownsP st x ns i) := ⟨_, rfl⟩
      obtain ⟨rn, hrn⟩ : ∃ rn, rn = RO.length := ⟨_, rfl⟩
      have HF : Hid (∀ Y, Kp W3 Y non → Calls Tryd.prog 27 #[.agg (clA st x (.slice ao ns.length cap)), .int .i64 (i : Int)] Y fun e w' => ∃ u, e = .returned u ∧ w'.ownsRow Y.heap.size 3 1 u rn (ints RO) ∧ Below Y.heap.size Y w') := fun Y hk => by
        have z := S3.out.below (hk.below)
        have := row_r N Y st x ao b o cap pv ns z.nd z.le hs (HTT.out.below (KO.out.trans hk (fun _ f => f.elim)).below) he i hip
        rw [← hRO, ← hrn] at this
        exact this
      have HRO : Hid (RO = rowOf ns (x 20) (ownsP st x ns i)) := hRO
      have HRN : Hid (rn = (rowOf ns (x 20) (ownsP st x ns i)).length) := by rw [← HRO.out]; exact hrn
      clear hRO hrn
      go_wp2_with fail
      refine wp_region_held_drew (S := fun Y => ClAt Y w.heap.size st x (.slice ao ns.length cap)) (by kernel_rfl) S3.out.cl (fun hHeld => ?_)
      refine wTk (i := 0) (v := (.pointer (some ⟨X, 0, none⟩))) rfl ?_ ?_
      · intro w' hSw
        (try dsimp only at hSw)
        go_simp
      (try simp only [Act.put, List.getElem_toArray, List.getElem_cons_zero, List.getElem_cons_succ, List.setIfInBounds_toArray, List.set_cons_zero, List.set_cons_succ])
      refine wTk (i := 1) (v := (.pointer (some ⟨X, 0, none⟩))) rfl ?_ ?_
      · intro w' hSw
        (try dsimp only at hSw)
        go_simp
      (try simp only [Act.put, List.getElem_toArray, List.getElem_cons_zero, List.getElem_cons_succ, List.setIfInBounds_toArray, List.set_cons_zero, List.set_cons_succ])
      refine wTk (i := 2) (v := (.pointer (some ⟨X, 0, none⟩))) rfl ?_ ?_
      · intro w' hSw
        (try dsimp only at hSw)
        go_simp
      (try simp only [Act.put, List.getElem_toArray, List.getElem_cons_zero, List.getElem_cons_succ, List.setIfInBounds_toArray, List.set_cons_zero, List.set_cons_succ])
      refine wTk (i := 3) (v := (.pointer (some ⟨X, 0, none⟩))) rfl ?_ ?_
      · intro w' hSw
        (try dsimp only at hSw)
        go_simp
      (try simp only [Act.put, List.getElem_toArray, List.getElem_cons_zero, List.getElem_cons_succ, List.setIfInBounds_toArray, List.set_cons_zero, List.set_cons_succ])
      refine wTk (i := 5) (v := (.agg (clA st x (.slice ao ns.length cap)))) rfl ?_ ?_
      · intro w' hSw
        (try dsimp only at hSw)
        (exact exec_loadCl (.tmp 1) rfl rfl hSw)
      (try simp only [Act.put, List.getElem_toArray, List.getElem_cons_zero, List.getElem_cons_succ, List.setIfInBounds_toArray, List.set_cons_zero, List.set_cons_succ])
      refine wTk (i := 6) (v := (.int .i64 (i : Int))) rfl ?_ ?_
      · intro w' hSw
        (try dsimp only at hSw)
        go_simp
      (try simp only [Act.put, List.getElem_toArray, List.getElem_cons_zero, List.getElem_cons_succ, List.setIfInBounds_toArray, List.set_cons_zero, List.set_cons_succ])
      refine wpAnyH_ready (rs := [4, 7]) (by kernel_rfl) (by simp) ?_
      refine AllReadyH.cons rfl (fun K hK => ?_) (AllReadyH.cons rfl (fun K hK => ?_) AllReadyH.nil)
      · have cc : W3.drew.cell? ⟨X, 0, none⟩ = some (.slice ra i rc) := by rw [cell_row (I3.out.kp0 (((Kp.refl W3 non).drew))).blk]; rfl
        have cc2 : W3.cell? ⟨X, 0, none⟩ = some (.slice ra i rc) := cc
        go_simp
        clear cc cc2
        refine hK.out _ _ ((S3.out.cl.below ((((Kp.refl W3 non).drew)).below))) (fun hHeld => ?_)
        clear hK
        (try simp only [Act.put, List.setIfInBounds_toArray, List.set_cons_zero, List.set_cons_succ])
        refine wpAnyH_ready (rs := [7]) (by kernel_rfl) (by simp) ?_
        refine AllReadyH.cons rfl (fun K hK => ?_) AllReadyH.nil
        go_simp
        refine Calls.mono (HF.out W3.drew (((Kp.refl W3 non).drew))) ?_
        rintro e Y2 ⟨u, rfl, ou, b2⟩
        have K2 : Hid (Kp W3 Y2 non) := (((Kp.refl W3 non).drew)).trans (Kp.of_below b2 non) (fun _ f => f.elim)
        have OU : Hid (Y2.ownsRow w.heap.size 3 1 u rn (ints RO)) := own_base ou (by have := S3s.out; have := (((Kp.refl W3 non).drew)).size; omega)
        clear b2 ou
        obtain ⟨ua, uc, rfl⟩ := own_sl OU.out
        refine hK.out _ _ ((S3.out.cl.below (K2.out.below))) (fun hHeld => ?_)
        clear hK
        (try simp only [Act.put, List.setIfInBounds_toArray, List.set_cons_zero, List.set_cons_succ])
        refine wpAnyH_ready (rs := [8]) (by kernel_rfl) (by simp) ?_
        refine AllReadyH.cons rfl (fun K hK => ?_) AllReadyH.nil
        go_simp
        obtain ⟨Y3, hY3⟩ : ∃ Y, Y = Y2.alloc (.cells #[.slice ua rn uc] 48) := ⟨_, rfl⟩
        rw [← hY3]
        have N2 : Hid (Y3.ownsRow Y2.heap.size 48 1 (.slice (some ⟨Y2.heap.size, 0, none⟩) 1 1) 1 [.slice ua rn uc]) := by rw [hY3]; exact own_one _ _ _ _ rfl
        have ka : Kp Y2 Y3 non := by rw [hY3]; exact (Kp.refl _ non).alloc _
        have K3 : Hid (Kp W3 Y3 non) := (K2.out).trans ka (fun _ f => f.elim)
        have OU := hide (own_kp OU.out ka (fun _ _ f => f))
        have HBX : Hid (Y2.heap.size = Y2.heap.size) := rfl
        generalize Y2.heap.size = GB at *
        clear hY3 ka HBX
        refine hK.out _ _ ((S3.out.cl.below (K3.out.below))) (fun hHeld => ?_)
        clear hK
        (try simp only [Act.put, List.setIfInBounds_toArray, List.set_cons_zero, List.set_cons_succ])
        refine wpAnyH_ready (rs := [9]) (by kernel_rfl) (by simp) ?_
        refine AllReadyH.cons rfl (fun K hK => ?_) AllReadyH.nil
        refine wp_apRow (.tmp 26) (.tmp 30) 64 rfl w.heap.size 48 Tryd.underlying64 sl_infos rfl (by decide) (.slice ra i rc) i zs rfl (I3.out.kp0 (K3.out)).row GB (.slice (some ⟨GB, 0, none⟩) 1 1) 1 [.slice ua rn uc] rfl N2.out (by simp [Value.oneCell']) (by unfold maxLen; have := IB.out; omega) (by have := IB.out; omega) (by have := S3s.out; have := (K3.out).size; omega) ?_
        intro v' w' o3 g3 n3
        obtain ⟨na, nc, rfl⟩ := own_sl o3
        obtain ⟨b3, i4, k4⟩ := (I3.out.kp0 (K3.out)).app (u := .slice ua rn uc) (by rw [← HRN.out, ← HRO.out]; exact OU.out) _ o3 g3
        obtain ⟨W4, hW4⟩ : ∃ W4, W4 = w'.setCell ⟨X, 0, none⟩ (.slice na (i + 1) nc) := ⟨_, rfl⟩
        rw [← hW4] at i4 k4
        have KK : Hid (Kp w W4 non) := (KO.out.trans (K3.out) (fun _ f => f.elim)).trans k4 (fun k e => Or.inr (e.elim (fun q => by rw [q]; exact XG.out) (fun q => own_ge I3.out.row q.symm)))
        have I4 := hide i4
        have SD : Hid (Stand N w.heap.size w' st x ao b o cap pv ns ∧ Stand N w.heap.size W4 st x ao b o cap pv ns) := by
          have z := I3.out.row
          have kg : Kp Y3 w' (fun k => some k = (Value.slice ra i rc).ownBlock) := Kp.of_grown g3
          have ky : Kp W3 Y3 non := K3.out
          exact SDL _ _ _ _ S3.out ky kg k4 (fun k e => own_ge z e.symm) XG.out (fun k e => by
            obtain ⟨c, hc⟩ := own_typ z e.symm
            intro q
            have := S3.out.cl
            unfold ClAt at this
            rw [← q, hc] at this
            simp at this) XC.out
        have c1 : w'.cell? ⟨X, 0, none⟩ = some (.slice ra i rc) := by rw [cell_row b3]; rfl
        have f1 := fz_row b3 0
        clear o3 g3 n3 b3 i4 k4
        refine hK.out _ _ (SD.out.1.cl) (fun hHeld => ?_)
        clear hK
        (try simp only [Act.put, List.setIfInBounds_toArray, List.set_cons_zero, List.set_cons_succ])
        refine wTk (i := 10) (v := (.pointer (some ⟨X, 0, none⟩))) rfl ?_ ?_
        · intro w' hSw
          (try dsimp only at hSw)
          go_simp
        (try simp only [Act.put, List.getElem_toArray, List.getElem_cons_zero, List.getElem_cons_succ, List.setIfInBounds_toArray, List.set_cons_zero, List.set_cons_succ])
        refine wTk (i := 11) (v := (.pointer (some ⟨X, 0, none⟩))) rfl ?_ ?_
        · intro w' hSw
          (try dsimp only at hSw)
          go_simp
        (try simp only [Act.put, List.getElem_toArray, List.getElem_cons_zero, List.getElem_cons_succ, List.setIfInBounds_toArray, List.set_cons_zero, List.set_cons_succ])
        refine wpAnyH_ready (rs := [12]) (by kernel_rfl) (by simp) ?_
        refine AllReadyH.cons rfl (fun K hK => ?_) AllReadyH.nil
        go_simp
        rw [← hW4]
        clear hW4 c1 f1
        refine hK.out _ _ (SD.out.2.cl) (fun hHeld => ?_)
        clear hK
        (try simp only [Act.put, List.setIfInBounds_toArray, List.set_cons_zero, List.set_cons_succ])
        refine wpAnyH_done (by kernel_rfl) ?_ _
        clear hHeld
        have hib : i < 64 := IB.out
        have ewi : wrap64 ((i : Int) + 1) = (i : Int) + 1 := wrap_in (by omega) (by omega)
        go_wp2_with fail
        go_roundw
        case rel => exact ⟨i + 1, by omega, by go_num, _, _, I4.out, SD.out.2, KK.out⟩
        case measure => simp [intOf]; omega
      · go_simp
        refine Calls.mono (HF.out W3.drew (((Kp.refl W3 non).drew))) ?_
        rintro e Y1 ⟨u, rfl, ou, b1⟩
        have K1 : Hid (Kp W3 Y1 non) := (((Kp.refl W3 non).drew)).trans (Kp.of_below b1 non) (fun _ f => f.elim)
        have OU : Hid (Y1.ownsRow w.heap.size 3 1 u rn (ints RO)) := own_base ou (by have := S3s.out; have := (((Kp.refl W3 non).drew)).size; omega)
        clear b1 ou
        obtain ⟨ua, uc, rfl⟩ := own_sl OU.out
        refine hK.out _ _ ((S3.out.cl.below (K1.out.below))) (fun hHeld => ?_)
        clear hK
        (try simp only [Act.put, List.setIfInBounds_toArray, List.set_cons_zero, List.set_cons_succ])
        refine wpAnyH_ready (rs := [4, 8]) (by kernel_rfl) (by simp) ?_
        refine AllReadyH.cons rfl (fun K hK => ?_) (AllReadyH.cons rfl (fun K hK => ?_) AllReadyH.nil)
        · have cc : Y1.cell? ⟨X, 0, none⟩ = some (.slice ra i rc) := by rw [cell_row (I3.out.kp0 (K1.out)).blk]; rfl
          go_simp
          clear cc
          refine hK.out _ _ ((S3.out.cl.below ((K1.out).below))) (fun hHeld => ?_)
          clear hK
          (try simp only [Act.put, List.setIfInBounds_toArray, List.set_cons_zero, List.set_cons_succ])
          refine wpAnyH_ready (rs := [8]) (by kernel_rfl) (by simp) ?_
          refine AllReadyH.cons rfl (fun K hK => ?_) AllReadyH.nil
          go_simp
          obtain ⟨Y3, hY3⟩ : ∃ Y, Y = Y1.alloc (.cells #[.slice ua rn uc] 48) := ⟨_, rfl⟩
          rw [← hY3]
          have N2 : Hid (Y3.ownsRow Y1.heap.size 48 1 (.slice (some ⟨Y1.heap.size, 0, none⟩) 1 1) 1 [.slice ua rn uc]) := by rw [hY3]; exact own_one _ _ _ _ rfl
          have ka : Kp Y1 Y3 non := by rw [hY3]; exact (Kp.refl _ non).alloc _
          have K3 : Hid (Kp W3 Y3 non) := (K1.out).trans ka (fun _ f => f.elim)
          have OU := hide (own_kp OU.out ka (fun _ _ f => f))
          have HBX : Hid (Y1.heap.size = Y1.heap.size) := rfl
          generalize Y1.heap.size = GB at *
          clear hY3 ka HBX
          refine hK.out _ _ ((S3.out.cl.below (K3.out.below))) (fun hHeld => ?_)
          clear hK
          (try simp only [Act.put, List.setIfInBounds_toArray, List.set_cons_zero, List.set_cons_succ])
          refine wpAnyH_ready (rs := [9]) (by kernel_rfl) (by simp) ?_
          refine AllReadyH.cons rfl (fun K hK => ?_) AllReadyH.nil
          refine wp_apRow (.tmp 26) (.tmp 30) 64 rfl w.heap.size 48 Tryd.underlying64 sl_infos rfl (by decide) (.slice ra i rc) i zs rfl (I3.out.kp0 (K3.out)).row GB (.slice (some ⟨GB, 0, none⟩) 1 1) 1 [.slice ua rn uc] rfl N2.out (by simp [Value.oneCell']) (by unfold maxLen; have := IB.out; omega) (by have := IB.out; omega) (by have := S3s.out; have := (K3.out).size; omega) ?_
          intro v' w' o3 g3 n3
          obtain ⟨na, nc, rfl⟩ := own_sl o3
          obtain ⟨b3, i4, k4⟩ := (I3.out.kp0 (K3.out)).app (u := .slice ua rn uc) (by rw [← HRN.out, ← HRO.out]; exact OU.out) _ o3 g3
          obtain ⟨W4, hW4⟩ : ∃ W4, W4 = w'.setCell ⟨X, 0, none⟩ (.slice na (i + 1) nc) := ⟨_, rfl⟩
          rw [← hW4] at i4 k4
          have KK : Hid (Kp w W4 non) := (KO.out.trans (K3.out) (fun _ f => f.elim)).trans k4 (fun k e => Or.inr (e.elim (fun q => by rw [q]; exact XG.out) (fun q => own_ge I3.out.row q.symm)))
          have I4 := hide i4
          have SD : Hid (Stand N w.heap.size w' st x ao b o cap pv ns ∧ Stand N w.heap.size W4 st x ao b o cap pv ns) := by
            have z := I3.out.row
            have kg : Kp Y3 w' (fun k => some k = (Value.slice ra i rc).ownBlock) := Kp.of_grown g3
            have ky : Kp W3 Y3 non := K3.out
            exact SDL _ _ _ _ S3.out ky kg k4 (fun k e => own_ge z e.symm) XG.out (fun k e => by
              obtain ⟨c, hc⟩ := own_typ z e.symm
              intro q
              have := S3.out.cl
              unfold ClAt at this
              rw [← q, hc] at this
              simp at this) XC.out
          have c1 : w'.cell? ⟨X, 0, none⟩ = some (.slice ra i rc) := by rw [cell_row b3]; rfl
          have f1 := fz_row b3 0
          clear o3 g3 n3 b3 i4 k4
          refine hK.out _ _ (SD.out.1.cl) (fun hHeld => ?_)
          clear hK
          (try simp only [Act.put, List.setIfInBounds_toArray, List.set_cons_zero, List.set_cons_succ])
          refine wTk (i := 10) (v := (.pointer (some ⟨X, 0, none⟩))) rfl ?_ ?_
          · intro w' hSw
            (try dsimp only at hSw)
            go_simp
          (try simp only [Act.put, List.getElem_toArray, List.getElem_cons_zero, List.getElem_cons_succ, List.setIfInBounds_toArray, List.set_cons_zero, List.set_cons_succ])
          refine wTk (i := 11) (v := (.pointer (some ⟨X, 0, none⟩))) rfl ?_ ?_
          · intro w' hSw
            (try dsimp only at hSw)
            go_simp
          (try simp only [Act.put, List.getElem_toArray, List.getElem_cons_zero, List.getElem_cons_succ, List.setIfInBounds_toArray, List.set_cons_zero, List.set_cons_succ])
          refine wpAnyH_ready (rs := [12]) (by kernel_rfl) (by simp) ?_
          refine AllReadyH.cons rfl (fun K hK => ?_) AllReadyH.nil
          go_simp
          rw [← hW4]
          clear hW4 c1 f1
          refine hK.out _ _ (SD.out.2.cl) (fun hHeld => ?_)
          clear hK
          (try simp only [Act.put, List.setIfInBounds_toArray, List.set_cons_zero, List.set_cons_succ])
          refine wpAnyH_done (by kernel_rfl) ?_ _
          clear hHeld
          have hib : i < 64 := IB.out
          have ewi : wrap64 ((i : Int) + 1) = (i : Int) + 1 := wrap_in (by omega) (by omega)
          go_wp2_with fail
          go_roundw
          case rel => exact ⟨i + 1, by omega, by go_num, _, _, I4.out, SD.out.2, KK.out⟩
          case measure => simp [intOf]; omega
        · go_simp
          obtain ⟨Y2, hY2⟩ : ∃ Y, Y = Y1.alloc (.cells #[.slice ua rn uc] 48) := ⟨_, rfl⟩
          rw [← hY2]
          have N2 : Hid (Y2.ownsRow Y1.heap.size 48 1 (.slice (some ⟨Y1.heap.size, 0, none⟩) 1 1) 1 [.slice ua rn uc]) := by rw [hY2]; exact own_one _ _ _ _ rfl
          have ka : Kp Y1 Y2 non := by rw [hY2]; exact (Kp.refl _ non).alloc _
          have K2 : Hid (Kp W3 Y2 non) := (K1.out).trans ka (fun _ f => f.elim)
          have OU := hide (own_kp OU.out ka (fun _ _ f => f))
          have HBX : Hid (Y1.heap.size = Y1.heap.size) := rfl
          generalize Y1.heap.size = GB at *
          clear hY2 ka HBX
          refine hK.out _ _ ((S3.out.cl.below (K2.out.below))) (fun hHeld => ?_)
          clear hK
          (try simp only [Act.put, List.setIfInBounds_toArray, List.set_cons_zero, List.set_cons_succ])
          refine wpAnyH_ready (rs := [4]) (by kernel_rfl) (by simp) ?_
          refine AllReadyH.cons rfl (fun K hK => ?_) AllReadyH.nil
          have cc : Y2.cell? ⟨X, 0, none⟩ = some (.slice ra i rc) := by rw [cell_row (I3.out.kp0 (K2.out)).blk]; rfl
          go_simp
          clear cc
          refine hK.out _ _ ((S3.out.cl.below ((K2.out).below))) (fun hHeld => ?_)
          clear hK
          (try simp only [Act.put, List.setIfInBounds_toArray, List.set_cons_zero, List.set_cons_succ])
          refine wpAnyH_ready (rs := [9]) (by kernel_rfl) (by simp) ?_
          refine AllReadyH.cons rfl (fun K hK => ?_) AllReadyH.nil
          refine wp_apRow (.tmp 26) (.tmp 30) 64 rfl w.heap.size 48 Tryd.underlying64 sl_infos rfl (by decide) (.slice ra i rc) i zs rfl (I3.out.kp0 (K2.out)).row GB (.slice (some ⟨GB, 0, none⟩) 1 1) 1 [.slice ua rn uc] rfl N2.out (by simp [Value.oneCell']) (by unfold maxLen; have := IB.out; omega) (by have := IB.out; omega) (by have := S3s.out; have := (K2.out).size; omega) ?_
          intro v' w' o3 g3 n3
          obtain ⟨na, nc, rfl⟩ := own_sl o3
          obtain ⟨b3, i4, k4⟩ := (I3.out.kp0 (K2.out)).app (u := .slice ua rn uc) (by rw [← HRN.out, ← HRO.out]; exact OU.out) _ o3 g3
          obtain ⟨W4, hW4⟩ : ∃ W4, W4 = w'.setCell ⟨X, 0, none⟩ (.slice na (i + 1) nc) := ⟨_, rfl⟩
          rw [← hW4] at i4 k4
          have KK : Hid (Kp w W4 non) := (KO.out.trans (K2.out) (fun _ f => f.elim)).trans k4 (fun k e => Or.inr (e.elim (fun q => by rw [q]; exact XG.out) (fun q => own_ge I3.out.row q.symm)))
          have I4 := hide i4
          have SD : Hid (Stand N w.heap.size w' st x ao b o cap pv ns ∧ Stand N w.heap.size W4 st x ao b o cap pv ns) := by
            have z := I3.out.row
            have kg : Kp Y2 w' (fun k => some k = (Value.slice ra i rc).ownBlock) := Kp.of_grown g3
            have ky : Kp W3 Y2 non := K2.out
            exact SDL _ _ _ _ S3.out ky kg k4 (fun k e => own_ge z e.symm) XG.out (fun k e => by
              obtain ⟨c, hc⟩ := own_typ z e.symm
              intro q
              have := S3.out.cl
              unfold ClAt at this
              rw [← q, hc] at this
              simp at this) XC.out
          have c1 : w'.cell? ⟨X, 0, none⟩ = some (.slice ra i rc) := by rw [cell_row b3]; rfl
          have f1 := fz_row b3 0
          clear o3 g3 n3 b3 i4 k4
          refine hK.out _ _ (SD.out.1.cl) (fun hHeld => ?_)
          clear hK
          (try simp only [Act.put, List.setIfInBounds_toArray, List.set_cons_zero, List.set_cons_succ])
          refine wTk (i := 10) (v := (.pointer (some ⟨X, 0, none⟩))) rfl ?_ ?_
          · intro w' hSw
            (try dsimp only at hSw)
            go_simp
          (try simp only [Act.put, List.getElem_toArray, List.getElem_cons_zero, List.getElem_cons_succ, List.setIfInBounds_toArray, List.set_cons_zero, List.set_cons_succ])
          refine wTk (i := 11) (v := (.pointer (some ⟨X, 0, none⟩))) rfl ?_ ?_
          · intro w' hSw
            (try dsimp only at hSw)
            go_simp
          (try simp only [Act.put, List.getElem_toArray, List.getElem_cons_zero, List.getElem_cons_succ, List.setIfInBounds_toArray, List.set_cons_zero, List.set_cons_succ])
          refine wpAnyH_ready (rs := [12]) (by kernel_rfl) (by simp) ?_
          refine AllReadyH.cons rfl (fun K hK => ?_) AllReadyH.nil
          go_simp
          rw [← hW4]
          clear hW4 c1 f1
          refine hK.out _ _ (SD.out.2.cl) (fun hHeld => ?_)
          clear hK
          (try simp only [Act.put, List.setIfInBounds_toArray, List.set_cons_zero, List.set_cons_succ])
          refine wpAnyH_done (by kernel_rfl) ?_ _
          clear hHeld
          have hib : i < 64 := IB.out
          have ewi : wrap64 ((i : Int) + 1) = (i : Int) + 1 := wrap_in (by omega) (by omega)
          go_wp2_with fail
          go_roundw
          case rel => exact ⟨i + 1, by omega, by go_num, _, _, I4.out, SD.out.2, KK.out⟩
          case measure => simp [intOf]; omega
end Go.Proofs.YtpoegknmkbnjlaaDoor.Cn
