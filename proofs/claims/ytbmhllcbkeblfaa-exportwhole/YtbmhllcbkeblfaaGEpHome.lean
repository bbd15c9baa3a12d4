import Derived.Test.YtbmhllcbkeblfaaGEpApp
import Derived.Test.YtbmhllcbkeblfaaGGkPure
namespace Go.Proofs.Ytbmhllcbkeblfaa.Cn
open Go.RowKit
def znF (ns : List ND) (k : Int) : Int := (ns[k.toNat]?.map (·.z)).getD 0
def homeF (ns : List ND) (hm : Int) (k : Int) : Bool := decide (znF ns k = hm)
/-- those at home ahead of the others -/
def rowOf (ns : List ND) (hm : Int) (os : List Int) : List Int := os.filter (homeF ns hm) ++ os.filter (fun k => !homeF ns hm k)
theorem rowOf_perm (ns : List ND) (hm : Int) (os : List Int) : (rowOf ns hm os).Perm os := List.filter_append_perm (homeF ns hm) os
theorem filt_take {f : Int → Bool} {os : List Int} {i : Nat} (h : i < os.length) : (os.take (i + 1)).filter f = (os.take i).filter f ++ if f os[i] then [os[i]] else [] := by
  rw [List.take_succ_eq_append_getElem h, List.filter_append]
  congr 1
  by_cases e : f os[i] = true
  · simp [e]
  · simp [e]
theorem ints_at2 (L : List Int) (j : Nat) (h : j < L.length) : (ints L)[j]? = some (.int .i64 L[j]) := by
  unfold ints
  rw [List.getElem?_map, List.getElem?_eq_getElem h]
  rfl
theorem wpList_apI3 {w : World} {ops : Array Oper} {rest : List Oper} {o : Oper} {a : Act} {Q : Exit → Act → World → Prop} (hgd : o.guard = none) (x y : Operand) (ho : o.op = .call { callee := .builtin .append, args := #[x, y], argTypes := #[47, 47] }) (base : Nat) (v : Value) (n : Nat) (L : List Int) (hx : a.eval x = v) (hv : w.ownsRow base 3 1 v n (ints L)) (base2 : Nat) (v2 : Value) (n2 : Nat) (L2 : List Int) (hy : a.eval y = v2) (hv2 : w.ownsRow base2 3 1 v2 n2 (ints L2)) (hl : n + n2 < 17592186043904) (hb : base ≤ w.heap.size)
    (h : ∀ v' w', w'.ownsRow base 3 1 v' (n + n2) (ints (L ++ L2)) → w.grownBy w' v.ownBlock → (v'.ownBlock = v.ownBlock ∨ v'.ownBlock = some w.heap.size) → wpList Try.prog ops Q rest (a.put o.dst v') w') : wpList Try.prog ops Q (o :: rest) a w :=
  wpList_plain hgd fun _ hK => wp_apRow x y 47 ho base 3 Try.underlying47 int_infos rfl (by decide) v n (ints L) hx hv base2 v2 n2 (ints L2) hy hv2 (ints_one _) (by unfold maxLen; omega) (by omega) hb (fun v' w' h1 h2 h3 => hK _ _ (h v' w' (by rw [ints_append]; exact h1) h2 h3))
set_option maxHeartbeats 16000000 in
set_option maxRecDepth 100000 in
set_option linter.unusedSimpArgs false in
set_option linter.unusedVariables false in
theorem homeFirst_x (N : Nat) (w : World) (st : ByteArray) (x : Nat → Int) (ao : Option Addr) (b o cap : Nat) (pv : Nat → Value) (ns : List ND) (h : NsAt N w ao b o pv ns) (hN : N ≤ w.heap.size) (u : Value) (os : List Int) (ho : w.ownsRow 0 3 1 u os.length (ints os)) (hos : ∀ k ∈ os, 0 ≤ k ∧ k < (ns.length : Int)) (hlen : os.length ≤ 16) :
    Calls Try.prog 26 #[.agg (clA st x (.slice ao ns.length cap)), u] w fun e w' => ∃ u', e = .returned u' ∧ w'.ownsRow w.heap.size 3 1 u' (rowOf ns (x 20) os).length (ints (rowOf ns (x 20) os)) ∧ Below w.heap.size w w' := by
  obtain ⟨ua, uc, hu⟩ := own_sl ho
  subst hu
  obtain ⟨W3, hW0, hX⟩ := boxed st x cap h hN
  have HX := hide (hX.stand hN)
  have B0 := hide hX.bel
  have OU := hide (own_below ho hX.bel)
  have HO2 := hide hos
  obtain ⟨hm, hhm⟩ : ∃ hm, hm = x 20 := ⟨_, rfl⟩
  have RS : Hid (rowOf ns hm os = os.filter (homeF ns hm) ++ os.filter (fun k => !homeF ns hm k)) := rfl
  rw [← hhm]
  have HHM := hide hhm
  obtain ⟨B3, hB3⟩ : ∃ B3, B3 = W3.heap.size := ⟨_, rfl⟩
  have HB3 := hide hB3
  clear hX h ho hos hhm hB3
  go_enter Try.func26, Try.ntmps26
  go_upto_region 2 with fail
  rw [← hW0]
  clear hW0
  go_wp2_with fail
  go_loopw [5, 6, 8, 11] (fun v9 v10 _ vi wr => ∃ (i : Nat), i ≤ os.length ∧ vi = .int .i64 (i : Int) ∧ ∃ (a9 : Option Addr) (c9 : Nat) (a10 : Option Addr) (c10 : Nat) (HH AA : List Int), v9 = .slice a9 HH.length c9 ∧ v10 = .slice a10 AA.length c10 ∧ HH = (os.take i).filter (homeF ns hm) ∧ AA = (os.take i).filter (fun k => !homeF ns hm k) ∧ wr.ownsRow B3 3 1 (.slice a9 HH.length c9) HH.length (ints HH) ∧ wr.ownsRow B3 3 1 (.slice a10 AA.length c10) AA.length (ints AA) ∧ (∀ k, (Value.slice a9 HH.length c9).ownBlock = some k → (Value.slice a10 AA.length c10).ownBlock ≠ some k) ∧ Kp W3 wr non) (fun _ _ _ vi _ => os.length - (intOf vi).toNat)
  case atStart => exact ⟨0, Nat.zero_le _, rfl, none, 0, none, 0, [], [], rfl, rfl, rfl, rfl, World.ownsRow_nil _ _ _ _, World.ownsRow_nil _ _ _ _, fun k e => by simp [Value.ownBlock] at e, Kp.refl _ _⟩
  case round =>
    obtain ⟨i, hi, rfl, a9, c9, a10, c10, HH, AA, rfl, rfl, hHH, hAA, oh, oa, hne, kw⟩ := hrel
    have OH := hide oh
    have OA := hide oa
    have NE := hide hne
    have KW := hide kw
    have HHl : Hid (HH.length ≤ 16) := by
      rw [hHH]
      show _ ≤ _
      have := List.length_filter_le (homeF ns hm) (os.take i)
      rw [List.length_take] at this
      omega
    have HAl : Hid (AA.length ≤ 16) := by
      rw [hAA]
      show _ ≤ _
      have := List.length_filter_le (fun k => !homeF ns hm k) (os.take i)
      rw [List.length_take] at this
      omega
    have H0 := hide hHH
    have A0 := hide hAA
    clear oh oa hne kw hHH hAA
    by_cases hin : i < os.length
    case pos =>
      have hii : (i : Int) < (os.length : Int) := by omega
      have xr := HX.out.below (KW.out.below)
      obtain ⟨ug, uc', hug⟩ := own_g OU.out (by omega)
      injection hug with hug _ huc
      subst hug
      subst huc
      have our := own_kp OU.out KW.out (fun _ _ f => f)
      have cu := our.cellAt i (by omega)
      rw [ints_at2 os i hin] at cu
      obtain ⟨z0, z1⟩ := HO2.out os[i] (List.getElem_mem hin)
      have hfF := filt_take (f := homeF ns hm) hin
      have hfA := filt_take (f := fun k => !homeF ns hm k) hin
      obtain ⟨q, hq⟩ : ∃ q : Nat, os[i] = (q : Int) := ⟨os[i].toNat, by omega⟩
      rw [hq] at cu z0 z1 hfF hfA
      have hqn : q < ns.length := by omega
      obtain ⟨x20, hx20⟩ : ∃ x20, x20 = hm := ⟨_, rfl⟩
      have hz : homeF ns hm (q : Int) = decide (ns[q].z = x20) := by
        rw [hx20]
        unfold homeF znF
        simp [hqn]
      have nat' := xr.nd
      have hao := nat'.at0 (by omega)
      subst hao
      have zc := nat'.cz q hqn
      have d22 := xr.cl.nv
      have d21 := xr.cl.x 20 (by omega)
      rw [← HHM.out] at d21
      have hqi : (q : Int) < (ns.length : Int) := by omega
      have hqb : ns.length ≤ 9223372036854775807 := by have := nat'.len; omega
      rw [← hx20] at d21
      obtain ⟨zz, hzz0⟩ : ∃ zz, zz = ns[q].z := ⟨_, rfl⟩
      rw [← hzz0] at zc hz
      clear hzz0
      generalize hnl : ns.length = nl at *
      clear xr our nat' z0 hq hx20
      by_cases hzz : zz = x20
      · have hz2 : homeF ns hm (q : Int) = true := by rw [hz]; exact decide_eq_true hzz
        have HF : Hid (HH ++ [(q : Int)] = (os.take (i + 1)).filter (homeF ns hm)) := by show _ = _; rw [hfF, hz2, if_pos rfl, H0.out]
        have HA : Hid (AA = (os.take (i + 1)).filter (fun k => !homeF ns hm k)) := by show _ = _; rw [hfA, hz2, A0.out]; simp
        have hze : (zz == x20) = true := by simp [hzz]
        clear hfF hfA hz hz2
        go_wp2_with fail
        go_quiet (fail)
        have kq := (Kp.refl wr non).drewN nq
        have Hq := own_kp OH.out kq (fun _ _ f => f)
        have Aq := own_kp OA.out kq (fun _ _ f => f)
        have Kq : Kp W3 (wr.drewN nq) non := KW.out.trans kq (fun _ f => f.elim)
        clear kq d21 d22 zc cu
        obtain ⟨wq, hwq⟩ : ∃ wq, wq = wr.drewN nq := ⟨_, rfl⟩
        rw [← hwq] at Hq Aq Kq ⊢
        clear hwq
        obtain ⟨W4, hW4⟩ : ∃ W4, W4 = wq.alloc (.cells #[.int .i64 (q : Int)] 3) := ⟨_, rfl⟩
        have hb4 : Below wq.heap.size wq W4 := by rw [hW4]; exact (Below.refl _ _).alloc (Nat.le_refl _) _
        have HGG : Hid (W4.ownsRow wq.heap.size 3 1 (.slice (some ⟨wq.heap.size, 0, none⟩) 1 1) 1 (ints [(q : Int)])) := by rw [hW4]; exact own_one wq 3 1 #[.int .i64 (q : Int)] rfl
        have H4 := hide (own_kp Hq (Kp.of_below hb4 non) (fun _ _ f => f))
        have A4 := hide (own_kp Aq (Kp.of_below hb4 non) (fun _ _ f => f))
        have K4 : Hid (Kp W3 W4 non) := Kq.trans (Kp.of_below hb4 non) (fun _ f => f.elim)
        have hsz : Hid (B3 ≤ W4.heap.size) := by rw [HB3.out]; exact K4.out.size
        have AQL : ∀ k, (Value.slice a10 AA.length c10).ownBlock = some k → k < wq.heap.size := fun k e => by
          obtain ⟨cur, hc⟩ := own_typ Aq e
          exact blk_lt hc
        have W4s : wq.heap.size ≤ W4.heap.size := hb4.size
        clear hb4 Hq Aq Kq
        go_wp2_with (at_builtin; rw [← hW4]; refine wpList_apI3 rfl (.tmp 24) (.tmp 26) rfl B3 _ HH.length HH rfl H4.out wq.heap.size _ 1 [(q : Int)] rfl HGG.out (by have := HHl.out; omega) hsz.out ?_; intro v' w' o2 g2 hn2; have HO5 := hide o2; have KG := hide (Kp.of_grown g2); have N5 := hide hn2; clear o2 g2 hn2)
        obtain ⟨a5, c5, rfl⟩ := own_sl HO5.out
        have A5 : Hid (w'.ownsRow B3 3 1 (.slice a10 AA.length c10) AA.length (ints AA)) := own_kp A4.out KG.out (fun k e f => NE.out k f.symm e)
        have K5 : Hid (Kp W3 w' non) := K4.out.trans KG.out (fun k e => Or.inr (by have := own_ge H4.out e.symm; have := HB3.out; omega))
        go_roundw
        case rel =>
          refine ⟨i + 1, by omega, by go_num, a5, c5, a10, c10, HH ++ [(q : Int)], AA, by rw [List.length_append]; rfl, rfl, by rw [HF.out], HA.out, by rw [List.length_append]; exact HO5.out, A5.out, fun k e f => ?_, K5.out⟩
          rw [show (HH ++ [(q : Int)]).length = HH.length + 1 by simp] at e
          rcases N5.out with r | r
          · exact NE.out k (r.symm.trans e) f
          · rw [e] at r
            simp at r
            have h9 : k < wq.heap.size := AQL k f
            have h8 := W4s
            omega
        case measure => simp [intOf]; omega
      · have hz2 : homeF ns hm (q : Int) = false := by rw [hz]; exact decide_eq_false hzz
        have HF : Hid (HH = (os.take (i + 1)).filter (homeF ns hm)) := by show _ = _; rw [hfF, hz2, H0.out]; simp
        have HA : Hid (AA ++ [(q : Int)] = (os.take (i + 1)).filter (fun k => !homeF ns hm k)) := by show _ = _; rw [hfA, hz2, A0.out]; simp
        have hze : (zz == x20) = false := by simp [hzz]
        clear hfF hfA hz hz2
        go_wp2_with fail
        go_quiet (fail)
        have kq := (Kp.refl wr non).drewN nq
        have Hq := own_kp OH.out kq (fun _ _ f => f)
        have Aq := own_kp OA.out kq (fun _ _ f => f)
        have Kq : Kp W3 (wr.drewN nq) non := KW.out.trans kq (fun _ f => f.elim)
        clear kq d21 d22 zc cu
        obtain ⟨wq, hwq⟩ : ∃ wq, wq = wr.drewN nq := ⟨_, rfl⟩
        rw [← hwq] at Hq Aq Kq ⊢
        clear hwq
        obtain ⟨W4, hW4⟩ : ∃ W4, W4 = wq.alloc (.cells #[.int .i64 (q : Int)] 3) := ⟨_, rfl⟩
        have hb4 : Below wq.heap.size wq W4 := by rw [hW4]; exact (Below.refl _ _).alloc (Nat.le_refl _) _
        have HGG : Hid (W4.ownsRow wq.heap.size 3 1 (.slice (some ⟨wq.heap.size, 0, none⟩) 1 1) 1 (ints [(q : Int)])) := by rw [hW4]; exact own_one wq 3 1 #[.int .i64 (q : Int)] rfl
        have H4 := hide (own_kp Hq (Kp.of_below hb4 non) (fun _ _ f => f))
        have A4 := hide (own_kp Aq (Kp.of_below hb4 non) (fun _ _ f => f))
        have K4 : Hid (Kp W3 W4 non) := Kq.trans (Kp.of_below hb4 non) (fun _ f => f.elim)
        have hsz : Hid (B3 ≤ W4.heap.size) := by rw [HB3.out]; exact K4.out.size
        have AQL : ∀ k, (Value.slice a9 HH.length c9).ownBlock = some k → k < wq.heap.size := fun k e => by
          obtain ⟨cur, hc⟩ := own_typ Hq e
          exact blk_lt hc
        have W4s : wq.heap.size ≤ W4.heap.size := hb4.size
        clear hb4 Hq Aq Kq
        go_wp2_with (at_builtin; rw [← hW4]; refine wpList_apI3 rfl (.tmp 28) (.tmp 30) rfl B3 _ AA.length AA rfl A4.out wq.heap.size _ 1 [(q : Int)] rfl HGG.out (by have := HAl.out; omega) hsz.out ?_; intro v' w' o2 g2 hn2; have HO5 := hide o2; have KG := hide (Kp.of_grown g2); have N5 := hide hn2; clear o2 g2 hn2)
        obtain ⟨a5, c5, rfl⟩ := own_sl HO5.out
        have H5 : Hid (w'.ownsRow B3 3 1 (.slice a9 HH.length c9) HH.length (ints HH)) := own_kp H4.out KG.out (fun k e f => NE.out k e f.symm)
        have K5 : Hid (Kp W3 w' non) := K4.out.trans KG.out (fun k e => Or.inr (by have := own_ge A4.out e.symm; have := HB3.out; omega))
        go_roundw
        case rel =>
          refine ⟨i + 1, by omega, by go_num, a9, c9, a5, c5, HH, AA ++ [(q : Int)], rfl, by rw [List.length_append]; rfl, HF.out, by rw [HA.out], H5.out, by rw [List.length_append]; exact HO5.out, fun k e f => ?_, K5.out⟩
          rw [show (AA ++ [(q : Int)]).length = AA.length + 1 by simp] at f
          rcases N5.out with r | r
          · exact NE.out k e (r.symm.trans f)
          · rw [f] at r
            simp at r
            have h9 : k < wq.heap.size := AQL k e
            have h8 := W4s
            omega
        case measure => simp [intOf]; omega
    case neg =>
      obtain rfl : i = os.length := by omega
      have hrow : Hid (HH ++ AA = rowOf ns hm os) := by show _ = _; rw [RS.out, H0.out, A0.out, List.take_length]
      have hsz : Hid (B3 ≤ wr.heap.size) := by rw [HB3.out]; exact KW.out.size
      clear H0 A0
      go_wp2_with (at_builtin; refine wpList_apI3 rfl (.tmp 33) (.tmp 34) rfl B3 _ HH.length HH rfl OH.out B3 _ AA.length AA rfl OA.out (by have := HHl.out; have := HAl.out; omega) hsz.out ?_; intro v' w' o2 g2 hn2; have HO5 := hide o2; have KG := hide (Kp.of_grown g2); clear o2 g2 hn2)
      have K5 : Hid (Kp W3 w' non) := KW.out.trans KG.out (fun k e => Or.inr (by have := own_ge OH.out e.symm; have := HB3.out; omega))
      go_ret
      refine ⟨_, rfl, ?_, B0.out.trans ((K5.out.below).mono B0.out.size)⟩
      rw [← hrow.out, List.length_append]
      exact own_base HO5.out (by rw [HB3.out]; exact B0.out.size)
end Go.Proofs.Ytbmhllcbkeblfaa.Cn
namespace Go.Proofs.Ytbmhllcbkeblfaa.Cn
open Go.RowKit
set_option maxHeartbeats 16000000 in
set_option maxRecDepth 100000 in
set_option linter.unusedSimpArgs false in
set_option linter.unusedVariables false in
theorem num21 (w : World) (n : Int) : Calls Try.prog 6 #[.int .i64 n] w fun e w' => e = .returned (.int .i64 n) ∧ w = w' := by
  go_enter Try.func6, Try.ntmps6
  go_wp2_with fail
  go_ret
  exact ⟨rfl, rfl⟩
set_option maxHeartbeats 16000000 in
set_option maxRecDepth 100000 in
set_option linter.unusedSimpArgs false in
set_option linter.unusedVariables false in
theorem beyond21 (w : World) (n : Nat) (h : n ≤ 9223372036854775807) : Calls Try.prog 5 #[.int .i64 (n : Int)] w fun e w' => e = .returned (.bool (decide (2147483647 < n))) ∧ w = w' := by
  have hd : Hid (decide (2147483647 < n) = decide (2147483647 < (n : Int))) := by show _ = _; congr 1; apply propext; omega
  generalize decide (2147483647 < n) = bb at *
  go_enter Try.func5, Try.ntmps5
  go_wp2_with fail
  go_ret
  exact ⟨ret_bool hd.out.symm, rfl⟩
set_option maxHeartbeats 16000000 in
set_option maxRecDepth 100000 in
set_option linter.unusedSimpArgs false in
set_option linter.unusedVariables false in
theorem parts21_any (N : Nat) (w : World) (st : ByteArray) (x : Nat → Int) (ao : Option Addr) (b o cap : Nat) (pv : Nat → Value) (ns : List ND) (h : NsAt N w ao b o pv ns) (hN : N ≤ w.heap.size) (h16 : ns.length ≤ 16) :
    Calls Try.prog 14 #[.agg (clA st x (.slice ao ns.length cap))] w fun e w' => e = .returned (.int .i64 (ptN ns : Int)) ∧ Below w.heap.size w w' := by
  obtain ⟨W0, hW0, hX⟩ := boxed st x cap h hN
  have HX := hide hX
  clear hX h
  have nv := HX.out.cl.nv
  go_enter Try.func14, Try.ntmps14
  go_upto_region 1 with fail
  rw [← hW0]
  clear hW0
  go_wp2_with fail
  go_loopw [3, 4] (fun vc vi wr => ∃ (q : Nat), q ≤ ns.length ∧ vi = .int .i64 (q : Int) ∧ vc = .int .i64 ((flat (ns.take q)).length : Int) ∧ wr = W0) (fun _ vi _ => ns.length - (intOf vi).toNat)
  case atStart => exact ⟨0, Nat.zero_le _, rfl, rfl, rfl⟩
  case round =>
    obtain ⟨q, hq, rfl, rfl, rfl⟩ := hrel
    by_cases hql : q < ns.length
    case pos =>
      have hao := HX.out.nd.at0 (by omega)
      subst hao
      have hqi : (q : Int) < (ns.length : Int) := by omega
      have e1 := HX.out.nd.cp q hql
      have HT := hide (flat_take_succ hql)
      have hk := flat_cap HX.out.nd q (by omega)
      obtain ⟨pa, pb, po, pc, hpv, hp⟩ := HX.out.nd.ps q hql
      have hpl := hp.len
      rw [hpv] at e1
      clear hpv hp
      generalize ns[q].ps.length = pl at *
      generalize hfl : (flat (ns.take q)).length = fl at *
      have ew := wrap_in (x := (fl : Int) + (pl : Int)) (by omega) (by omega)
      clear hk
      go_wp2_with fail
      go_roundw
      case rel => exact ⟨q + 1, by omega, by go_num, by rw [HT.out]; simp; exact ew, by first | rfl | trivial⟩
      case measure => simp [intOf]; omega
    case neg =>
      obtain rfl : q = ns.length := by omega
      rw [List.take_length]
      go_wp2_with fail
      go_ret
      exact ⟨rfl, HX.out.bel⟩
set_option maxHeartbeats 16000000 in
set_option maxRecDepth 100000 in
set_option linter.unusedSimpArgs false in
set_option linter.unusedVariables false in
theorem parts_x (N : Nat) (w : World) (st : ByteArray) (x : Nat → Int) (ao : Option Addr) (b o cap : Nat) (pv : Nat → Value) (ns : List ND) (h : NsAt N w ao b o pv ns) (hN : N ≤ w.heap.size) (h16 : ns.length ≤ 16) :
    Calls Try.prog 24 #[.agg (clA st x (.slice ao ns.length cap))] w fun e w' => e = .returned (.int .i64 (ptN ns : Int)) ∧ Below w.heap.size w w' := by
  obtain ⟨W0, hW0, hX⟩ := boxed st x cap h hN
  have HX := hide hX
  clear hX h
  have nv := HX.out.cl.nv
  go_enter Try.func24, Try.ntmps24
  go_upto_region 2 with fail
  rw [← hW0]
  clear hW0
  go_wp2_with fail
  clear nv
  go_loopw [3, 5, 9] (fun vc _ vi wr => ∃ (q : Nat), q ≤ ns.length ∧ vi = .int .i64 (q : Int) ∧ vc = .int .i64 ((flat (ns.take q)).length : Int) ∧ Below W0.heap.size W0 wr) (fun _ _ vi _ => ns.length - (intOf vi).toNat)
  case atStart => exact ⟨0, Nat.zero_le _, rfl, rfl, Below.refl _ _⟩
  case round =>
    obtain ⟨q, hq, rfl, rfl, hb⟩ := hrel
    have HB := hide hb
    clear hb
    by_cases hql : q < ns.length
    case pos =>
      have nd := HX.out.nd.below (HB.out.mono (Nat.le_trans hN HX.out.bel.size))
      have hao := nd.at0 (by omega)
      subst hao
      have hqi : (q : Int) < (ns.length : Int) := by omega
      have e1 := nd.cp q hql
      have e2 := nd.cz q hql
      have HT := hide (flat_take_succ hql)
      have hk := flat_cap nd q (by omega)
      obtain ⟨pa, pb, po, pc, hpv, hp⟩ := nd.ps q hql
      have hpl := hp.len
      rw [hpv] at e1
      clear hpv hp
      generalize ns[q].ps.length = pl at *
      generalize ns[q].z = zz at *
      generalize hfl : (flat (ns.take q)).length = fl at *
      have ew := wrap_in (x := (fl : Int) + (pl : Int)) (by omega) (by omega)
      have BN : Hid (Below W0.heap.size W0 (wr.alloc (.cells #[.int .i64 zz, .slice pa pl pc] 79))) := HB.out.alloc HB.out.size _
      clear hk nd
      go_wp2_with fail
      exact ⟨⟨q + 1, by omega, by go_num, by rw [HT.out]; simp; exact ew, BN.out⟩, by simp [intOf]; omega⟩
    case neg =>
      obtain rfl : q = ns.length := by omega
      rw [List.take_length]
      go_wp2_with fail
      go_ret
      exact ⟨rfl, HX.out.bel.trans (HB.out.mono HX.out.bel.size)⟩
end Go.Proofs.Ytbmhllcbkeblfaa.Cn
namespace Go.Proofs.Ytbmhllcbkeblfaa.Cn
open Go.RowKit
theorem Ow.nxt {w : World} {v : Ex} {Z : Zz} (h : Ow w v Z) : Ow w (nxtX v) Z := ⟨h.rows, h.row, h.tp, h.tm, h.rd, h.lp, h.lm, h.d1, h.d2, h.d3⟩
def Zz.miss (Z : Zz) (u : Value) : Zz := { Z with tm := u }
/-- the list of what is missing has grown -/
theorem Ow.miss {w w' : World} {X : Nat} {v : Ex} {Z : Zz} (h : ExAt w X (nxtX v) Z) (u : Value) (ho : w'.ownsRow 0 3 1 u (v.told.ms.length + 1) (ints (v.told.ms ++ [(v.part : Int)]))) (hg : w.grownBy w' Z.tm.ownBlock) (hn : u.ownBlock = Z.tm.ownBlock ∨ u.ownBlock = some w.heap.size) :
    w'.heap[X]? = some (.cells (exA (nxtX v) Z) 75) ∧ Lv w (w'.setCell ⟨X, 6, none⟩ u) X Z (missX v) (Z.miss u) := by
  have kg := Kp.of_grown hg
  have nX : ∀ k, some k = Z.tm.ownBlock → k ≠ X := fun k e => h.ow.notX h.blk (Or.inr (Or.inl e.symm))
  have b1 : w'.heap[X]? = some (.cells (exA (nxtX v) Z) 75) := (kg.block _ (blk_lt h.blk) (fun e => nX X e rfl)).trans h.blk
  have kk : Kp w (w'.setCell ⟨X, 6, none⟩ u) (Fp X Z) := (kg.mono (T := Fp X Z) (fun k e => Or.inr (Or.inr (Or.inl e.symm)))).set (Or.inl (Or.inl rfl)) _ _
  have ks : Kp w' (w'.setCell ⟨X, 6, none⟩ u) (fun k => k = X) := (Kp.refl w' (fun k => k = X)).set (Or.inl rfl) _ _
  have hx := h.ow
  have old : ∀ {k : Nat}, Ap X Z k → k < w.heap.size := fun hk => h.lt hk
  have off : ∀ {e sz n : Nat} {q : Value} {xs : List Value}, w.ownsRow 0 e sz q n xs → (∀ k, q.ownBlock = some k → Ap X Z k) → (∀ k, q.ownBlock = some k → Z.tm.ownBlock ≠ some k) → (∀ k, q.ownBlock = some k → k ≠ X) → (w'.setCell ⟨X, 6, none⟩ u).ownsRow 0 e sz q n xs := fun ho' _ h1 h2 => own_kp (own_kp ho' kg (fun k e q => h1 k e q.symm)) ks (fun k e q => h2 k e q)
  have nP : ∀ {q : Value} {n : Nat} {xs : List Value}, w.ownsRow 0 86 2 q n xs → ∀ k, q.ownBlock = some k → Z.tm.ownBlock ≠ some k := fun ho' k e q => by
    obtain ⟨c1, h1⟩ := own_typ ho' e
    obtain ⟨c2, h2⟩ := own_typ hx.tm q
    rw [h1] at h2
    simp at h2
  have nR : ∀ k, Z.rv.ownBlock = some k → Z.tm.ownBlock ≠ some k := fun k e q => by
    obtain ⟨c1, h1⟩ := own_typ hx.rows e
    obtain ⟨c2, h2⟩ := own_typ hx.tm q
    rw [h1] at h2
    simp at h2
  have uX : ∀ k, u.ownBlock = some k → k ≠ X := fun k e => by
    rcases hn with q | q
    · exact nX k (e.symm.trans q)
    · rw [e] at q
      injection q with q
      have := blk_lt h.blk
      omega
  refine ⟨b1, ⟨⟨set_row b1 6 _, ?_⟩, kk, ?_, ?_⟩⟩
  · refine ⟨off hx.rows (fun k e => Or.inr (Or.inl e)) nR (fun k e => hx.notX h.blk (Or.inr (Or.inr (Or.inr (Or.inl e))))), fun p hp => ?_, off hx.tp (fun k e => Or.inl (Or.inr (Or.inl e))) (nP hx.tp) (fun k e => hx.notX h.blk (Or.inl e)), ?_, off hx.rd (fun k e => Or.inl (Or.inr (Or.inr (Or.inr e)))) (nP hx.rd) (fun k e => hx.notX h.blk (Or.inr (Or.inr (Or.inl e)))), off hx.lp (fun k e => Or.inr (Or.inr (Or.inl e))) (nP hx.lp) (fun k e => hx.notX h.blk (Or.inr (Or.inr (Or.inr (Or.inr (Or.inl e)))))), off hx.lm (fun k e => Or.inr (Or.inr (Or.inr (Or.inl e)))) (fun k e q => (hx.d3 k q).1 e) (fun k e => hx.notX h.blk (Or.inr (Or.inr (Or.inr (Or.inr (Or.inr (Or.inl e))))))), hx.d1, hx.d2, fun k e => ?_⟩
    · obtain ⟨z, hz, ho'⟩ := hx.row p hp
      have hm := List.mem_of_getElem? hz
      exact ⟨z, hz, off ho' (fun k e => Or.inr (Or.inr (Or.inr (Or.inr ⟨z, hm, e⟩)))) (fun k e q => (hx.d3 k q).2 z hm e) (fun k e => hx.notX h.blk (Or.inr (Or.inr (Or.inr (Or.inr (Or.inr (Or.inr ⟨z, hm, e⟩)))))))⟩
    · show (w'.setCell ⟨X, 6, none⟩ u).ownsRow 0 3 1 u (v.told.ms ++ [(v.part : Int)]).length (ints (v.told.ms ++ [(v.part : Int)]))
      rw [List.length_append]
      exact own_kp ho ks (fun k e q => uX k e q)
    · have e : u.ownBlock = some k := e
      rcases hn with q | q
      · exact hx.d3 k (q.symm.trans e)
      · rw [e] at q
        injection q with q
        refine ⟨fun z => ?_, fun y hy z => ?_⟩
        · have := old (k := k) (Or.inr (Or.inr (Or.inr (Or.inl z))))
          omega
        · have := old (k := k) (Or.inr (Or.inr (Or.inr (Or.inr ⟨y, hy, z⟩))))
          omega
  · intro k e
    rcases e with e | e | e | e
    · exact Or.inl (Or.inl e)
    · exact Or.inl (Or.inr (Or.inl e))
    · have e : u.ownBlock = some k := e
      rcases hn with q | q
      · exact Or.inl (Or.inr (Or.inr (Or.inl (q.symm.trans e))))
      · rw [e] at q
        injection q with q
        exact Or.inr (by omega)
    · exact Or.inl (Or.inr (Or.inr (Or.inr e)))
  · intro k e
    rcases e with (e | e | e | e) | e
    · exact Or.inl (Or.inl (Or.inl e))
    · exact Or.inl (Or.inl (Or.inr (Or.inl e)))
    · have e : u.ownBlock = some k := e
      rcases hn with q | q
      · exact Or.inl (Or.inl (Or.inr (Or.inr (Or.inl (q.symm.trans e)))))
      · rw [e] at q
        injection q with q
        exact Or.inr (by omega)
    · exact Or.inl (Or.inl (Or.inr (Or.inr (Or.inr e))))
    · exact Or.inl (Or.inr e)
end Go.Proofs.Ytbmhllcbkeblfaa.Cn
