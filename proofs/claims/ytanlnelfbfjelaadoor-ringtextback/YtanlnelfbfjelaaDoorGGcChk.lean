import Derived.Test.YtanlnelfbfjelaaDoorGGcRef
import Derived.Laws.AppendOwnNone
import Derived.Deep.MidRow
namespace Go.Proofs.YtanlnelfbfjelaaDoor
open Go.RowKit
theorem exec_loadCl {ρ : Operand → Value} {o : Oper} {w : World} {b : Nat} {st : ByteArray} {x : Nat → Int} {nv : Value} (p : Operand) (ho : o.op = .load 24 p) (hx : ρ p = .pointer (some ⟨b, 0, none⟩)) (hO : ClAt w b st x nv) : (execOp ρ o).run Tryd.prog w = .ok (.value (.agg (clA st x nv))) w := by
  unfold execOp
  simp only [ho, hx, Sem.run_bind, run_loadCl w b st x nv hO, Result.andThen_ok, Sem.run_pure]
set_option maxHeartbeats 8000000 in
set_option maxRecDepth 100000 in
set_option linter.unusedSimpArgs false in
set_option linter.unusedVariables false in
/-- the program's Check -/
theorem check_any (N : Nat) (w : World) (st : ByteArray) (x : Nat → Int) (ao : Option Addr) (b o cap : Nat) (pv : Nat → Value) (ns : List ND) (h : NsAt N w ao b o pv ns) (hN : N ≤ w.heap.size) (hs : st.size ≤ 9223372036854775807) :
    Calls Tryd.prog 24 #[.agg (clA st x (.slice ao ns.length cap))] w fun e w' => e = .returned (.int .i64 (errP st x ns)) ∧ Below w.heap.size w w' := by
  obtain ⟨W0, hW0, hX⟩ := boxed st x cap h hN
  have HX := hide (hX.stand hN)
  have B0 := hide hX.bel
  clear hX h
  have NO := hide (nodesOf_any N W0 st x ao b o cap pv ns HX.out.nd HX.out.le hs)
  go_enter Tryd.func24, Tryd.ntmps24
  go_upto_region 1 with fail
  rw [← hW0]
  clear hW0
  go_wp2_with (refine wpList_loadCl rfl (.tmp 1) rfl w.heap.size st x _ rfl HX.out.cl ?_)
  refine Calls.mono NO.out ?_
  intro e W1 hn
  obtain ⟨v, rfl, _, _⟩ := hn.out
  have B1 := hide (B0.out.trans (hn.bel.mono B0.out.size))
  clear hn NO HX
  go_wp2_with fail
  go_ret
  exact ⟨rfl, B1.out⟩
set_option maxHeartbeats 8000000 in
set_option maxRecDepth 100000 in
set_option linter.unusedSimpArgs false in
set_option linter.unusedVariables false in
/-- the document's Check -/
theorem rcheck_any (N : Nat) (w : World) (st : ByteArray) (x : Nat → Int) (ao : Option Addr) (b o cap : Nat) (pv : Nat → Value) (ns : List ND) (h : NsAt N w ao b o pv ns) (hN : N ≤ w.heap.size) (hs : st.size ≤ 9223372036854775807) (hT : TabG w) :
    Calls Tryd.prog 20 #[.agg (clA st x (.slice ao ns.length cap))] w fun e w' => e = .returned (.int .i64 (errP st x ns)) ∧ Below w.heap.size w w' := by
  obtain ⟨W0, hW0, hX⟩ := boxed st x cap h hN
  have HX := hide (hX.stand hN)
  have B0 := hide hX.bel
  have T0 := hide (hT.below hX.bel)
  have hlen : ns.length ≤ 4398046510976 := h.len
  clear hX h hT
  have hdef : Hid (errP st x ns = if nmP st = false then 63 else if sfP x = false then 64 else if nfP ns = false then 65 else if dlB ns = false then 66 else if (kpN ns : Int) < x 0 then 67 else if 512 < (ptN ns : Int) * x 0 * x 2 then 3 else 0) := rfl
  have hnf : Hid (nfP ns = (decide (1 ≤ ns.length) && decide (ns.length ≤ 16) && ns.all zOk)) := rfl
  have NM := hide (named_any st W0 hs)
  have c0 := HX.out.cl.st
  go_enter Tryd.func20, Tryd.ntmps20
  go_upto_region 1 with fail
  rw [← hW0]
  clear hW0
  go_wp2_with fail
  refine Calls.mono NM.out ?_
  rintro e W1 ⟨rfl, hw1⟩
  have hw1 := hw1.symm
  subst hw1
  clear NM c0
  cases h1 : nmP st with
  | false =>
    have HE := hide (show errP st x ns = 63 by rw [hdef.out, h1]; rfl)
    clear hdef
    go_wp2_with fail
    go_ret
    exact ⟨by rw [HE.out]; rfl, B0.out⟩
  | true =>
    have SF := hide (set_any W0 st x (.slice ao ns.length cap) T0.out)
    go_wp2_with (refine wpList_loadCl rfl (.tmp 1) rfl w.heap.size st x _ rfl HX.out.cl ?_)
    refine Calls.mono SF.out ?_
    rintro e W2 ⟨rfl, hb⟩
    have H2 := hide (HX.out.below hb)
    have B2 := hide (B0.out.trans (hb.mono B0.out.size))
    clear hb HX B0 T0 SF
    cases h2 : sfP x with
    | false =>
      have HE := hide (show errP st x ns = 64 by rw [hdef.out, h1, h2]; rfl)
      clear hdef
      go_wp2_with fail
      go_ret
      exact ⟨by rw [HE.out]; rfl, B2.out⟩
    | true =>
      have L0 : 1 ≤ x 0 ∧ x 0 ≤ 16 := sfP_lim h2 0 (by omega)
      have L2 : 1 ≤ x 2 ∧ x 2 ≤ 16 := sfP_lim h2 2 (by omega)
      have hdef2 : Hid (errP st x ns = if nfP ns = false then 65 else if dlB ns = false then 66 else if (kpN ns : Int) < x 0 then 67 else if 512 < (ptN ns : Int) * x 0 * x 2 then 3 else 0) := by
        show errP st x ns = _
        rw [hdef.out, h1, h2]
        rfl
      have bad : Hid (nfP ns = false → errP st x ns = 65) := fun e => by rw [hdef2.out, e]; rfl
      clear hdef
      have nv := H2.out.cl.nv
      by_cases n1 : ns.length < 1
      · have HE := hide (bad.out (by rw [hnf.out, decide_eq_false (by omega)]; rfl))
        have n1' : (ns.length : Int) < 1 := by omega
        clear hdef2 bad
        go_wp2_with fail
        go_ret
        exact ⟨by rw [HE.out]; rfl, B2.out⟩
      have n1' : ¬ (ns.length : Int) < 1 := by omega
      by_cases n2 : 16 < ns.length
      · have HE := hide (bad.out (by rw [hnf.out, decide_eq_false (by omega : ¬ ns.length ≤ 16), Bool.and_false]; rfl))
        have n2' : (16 : Int) < (ns.length : Int) := by omega
        clear hdef2 bad
        go_wp2_with fail
        go_ret
        exact ⟨by rw [HE.out]; rfl, B2.out⟩
      have n2' : ¬ (16 : Int) < (ns.length : Int) := by omega
      have hnf2 : Hid (nfP ns = ns.all zOk) := by
        show nfP ns = _
        rw [hnf.out, decide_eq_true (by omega), decide_eq_true (by omega)]
        rfl
      clear hnf
      go_wp2_with fail
      go_loopw [3, 4] (fun vf vi wq => ∃ (i : Nat), i ≤ ns.length ∧ vi = .int .i64 (i : Int) ∧ vf = .int .i64 (kpN (ns.take i) : Int) ∧ Hid ((ns.take i).all zOk = true) ∧ wq = W2) (fun _ vi _ => ns.length - (intOf vi).toNat)
      case atStart => exact ⟨0, Nat.zero_le _, rfl, rfl, rfl, rfl⟩
      case round =>
        obtain ⟨i, hi, rfl, rfl, hA, rfl⟩ := hrel
        by_cases hil : i < ns.length
        case pos =>
          have hao := H2.out.nd.at0 (by omega)
          subst hao
          have hii : (i : Int) < (ns.length : Int) := by omega
          have e0 := H2.out.nd.cz i hil
          have e1 := H2.out.nd.cp i hil
          have HT := hide (all_take hil hA.out)
          have HF := hide (all_no (f := zOk) hil)
          have HK := hide (kpN_take hil)
          have hk := kpN_le (ns.take i)
          rw [List.length_take] at hk
          obtain ⟨pa, pb, po, pc, hpv, hp⟩ := H2.out.nd.ps i hil
          have hpl := hp.len
          rw [hpv] at e1
          clear hpv hp
          have hz : Hid (zOk ns[i] = (decide (0 ≤ ns[i].z) && decide (ns[i].z ≤ 7))) := rfl
          generalize ns[i].z = z at *
          generalize ns[i].ps.length = pl at *
          generalize kpN (ns.take i) = kk at *
          by_cases z0 : z < 0
          · have HE := hide (bad.out (by rw [hnf2.out]; exact HF.out (by rw [hz.out, decide_eq_false (by omega)]; rfl)))
            clear hdef2 bad
            go_wp2_with fail
            go_ret
            exact ⟨by rw [HE.out]; rfl, B2.out⟩
          by_cases z1 : 8 ≤ z
          · have HE := hide (bad.out (by rw [hnf2.out]; exact HF.out (by rw [hz.out, decide_eq_false (by omega : ¬ z ≤ 7), Bool.and_false])))
            clear hdef2 bad
            go_wp2_with fail
            go_ret
            exact ⟨by rw [HE.out]; rfl, B2.out⟩
          have HZ := hide (HT.out (by rw [hz.out, decide_eq_true (by omega), decide_eq_true (by omega)]; rfl))
          by_cases p0 : 0 < pl
          · have hK := HK.out
            rw [if_pos p0] at hK
            have HK2 := hide hK
            clear hK HK
            have p0' : (0 : Int) < (pl : Int) := by omega
            go_wp2_with fail
            go_roundw
            case rel => exact ⟨i + 1, by omega, by go_num, by rw [HK2.out]; simp, HZ.out, by first | rfl | trivial⟩
            case measure => simp [intOf]; omega
          · have hK := HK.out
            rw [if_neg p0, Nat.add_zero] at hK
            have HK2 := hide hK
            clear hK HK
            have p0' : ¬ (0 : Int) < (pl : Int) := by omega
            go_wp2_with fail
            go_roundw
            case rel => exact ⟨i + 1, by omega, by go_num, by rw [HK2.out]; rfl, HZ.out, by first | rfl | trivial⟩
            case measure => simp [intOf]; omega
        case neg =>
          obtain rfl : i = ns.length := by omega
          have hA' := hA.out
          rw [List.take_length] at hA' ⊢
          have hii : ¬ (ns.length : Int) < (ns.length : Int) := by omega
          have hdef3 : Hid (errP st x ns = if dlB ns = false then 66 else if (kpN ns : Int) < x 0 then 67 else if 512 < (ptN ns : Int) * x 0 * x 2 then 3 else 0) := by
            show errP st x ns = _
            rw [hdef2.out, hnf2.out, hA']
            rfl
          have DE := hide (dealt_any N wr st x ao b o cap pv ns H2.out.nd H2.out.le (by omega))
          clear hdef2 hA hA' bad hnf2
          go_wp2_with (refine wpList_loadCl rfl (.tmp 1) rfl w.heap.size st x _ rfl H2.out.cl ?_)
          refine Calls.mono DE.out ?_
          rintro e W3 ⟨rfl, hb⟩
          have H3 := hide (H2.out.below hb)
          have B3 := hide (B2.out.trans (hb.mono B2.out.size))
          clear hb nv H2 B2 DE
          have p2 : Hid (dlB ns = true → ptN ns ≤ 64) := fun hd => by
            by_cases hD : Dealt ns
            · exact hD.p2
            · rw [dlB_false hD] at hd
              cases hd
          cases h4 : dlB ns with
          | false =>
            have HE := hide (show errP st x ns = 66 by rw [hdef3.out, h4]; rfl)
            clear hdef3
            go_wp2_with fail
            go_ret
            exact ⟨by rw [HE.out]; rfl, B3.out⟩
          | true =>
            have pp := p2.out h4
            have hkl := kpN_le ns
            have x0 := H3.out.cl.x0
            by_cases h5 : (kpN ns : Int) < x 0
            case pos =>
              have HE := hide (show errP st x ns = 67 by rw [hdef3.out, h4, if_neg (by simp), if_pos h5])
              clear hdef3
              go_wp2_with fail
              go_ret
              exact ⟨by rw [HE.out]; rfl, B3.out⟩
            case neg =>
              have hdef4 : Hid (errP st x ns = if 512 < (ptN ns : Int) * x 0 * x 2 then 3 else 0) := by
                show errP st x ns = _
                rw [hdef3.out, h4, if_neg (by simp), if_neg h5]
              clear hdef3
              obtain ⟨f1, f2, f3, f4⟩ := files_in (a := (ptN ns : Int)) (b := x 0) (c := x 2) (by omega) (by omega) L0.1 L0.2 L2.1 L2.2
              have m1 := wrap_in (x := (ptN ns : Int) * x 0) (by omega) (by omega)
              have m2 := wrap_in (x := (ptN ns : Int) * x 0 * x 2) (by omega) (by omega)
              have m1' : IntKind.i64.wrap ((ptN ns : Int) * x 0) = (ptN ns : Int) * x 0 := i64_in (by omega) (by omega)
              have m2' : IntKind.i64.wrap ((ptN ns : Int) * x 0 * x 2) = (ptN ns : Int) * x 0 * x 2 := i64_in (by omega) (by omega)
              have PA := hide (parts_any N W3.drew st x ao b o cap pv ns (H3.out.nd.below ((Below.refl _ W3).drew.mono H3.out.le)) H3.out.le (by omega))
              have CC : Hid (∀ Y, Below W3.heap.size W3 Y → ClAt Y w.heap.size st x (.slice ao ns.length cap)) := fun Y hY => H3.out.cl.below hY
              go_wp2_with fail
              refine wp_region_held_drew (S := fun Y => Below W3.heap.size W3 Y) (by kernel_rfl) ((Below.refl _ _).drew) (fun hHeld => ?_)
              refine wpAnyH_take (i := 0) (v := (.agg (clA st x (.slice ao ns.length cap)))) rfl (by kernel_rfl) (by kernel_rfl) (by kernel_rfl) (fun _ _ _ h => h) (Or.inl ⟨by rfl, ?_⟩) (by assumption) ?_
              · intro w' hSw
                (try dsimp only at hSw)
                exact exec_loadCl (.tmp 1) rfl rfl (CC.out _ hSw)
              (try simp only [Act.put, List.setIfInBounds_toArray, List.set_cons_zero, List.set_cons_succ])
              refine wpAnyH_take (i := 2) (v := (.pointer (some ⟨w.heap.size, 1, none⟩))) rfl (by kernel_rfl) (by kernel_rfl) (by kernel_rfl) (fun _ _ _ h => h) (Or.inl ⟨by rfl, ?_⟩) (by assumption) ?_
              · intro w' hSw
                (try dsimp only at hSw)
                go_simp
              (try simp only [Act.put, List.setIfInBounds_toArray, List.set_cons_zero, List.set_cons_succ])
              refine wpAnyH_take (i := 3) (v := (.int .i64 (x 0))) rfl (by kernel_rfl) (by kernel_rfl) (by kernel_rfl) (fun _ _ _ h => h) (Or.inl ⟨by rfl, ?_⟩) (by assumption) ?_
              · intro w' hSw
                (try dsimp only at hSw)
                (have y1 := (CC.out _ hSw).x0; go_simp)
              (try simp only [Act.put, List.setIfInBounds_toArray, List.set_cons_zero, List.set_cons_succ])
              refine wpAnyH_take (i := 5) (v := (.pointer (some ⟨w.heap.size, 3, none⟩))) rfl (by kernel_rfl) (by kernel_rfl) (by kernel_rfl) (fun _ _ _ h => h) (Or.inl ⟨by rfl, ?_⟩) (by assumption) ?_
              · intro w' hSw
                (try dsimp only at hSw)
                go_simp
              (try simp only [Act.put, List.setIfInBounds_toArray, List.set_cons_zero, List.set_cons_succ])
              refine wpAnyH_take (i := 6) (v := (.int .i64 (x 2))) rfl (by kernel_rfl) (by kernel_rfl) (by kernel_rfl) (fun _ _ _ h => h) (Or.inl ⟨by rfl, ?_⟩) (by assumption) ?_
              · intro w' hSw
                (try dsimp only at hSw)
                (have y1 := (CC.out _ hSw).x2; go_simp)
              (try simp only [Act.put, List.setIfInBounds_toArray, List.set_cons_zero, List.set_cons_succ])
              refine wpAnyH_ready (rs := [1]) (by kernel_rfl) (by simp) ?_
              refine AllReadyH.cons rfl (fun K hK => ?_) AllReadyH.nil
              go_simp
              refine Calls.mono PA.out ?_
              rintro e W5 ⟨rfl, hb⟩
              have B5 : Hid (Below W3.heap.size W3 W5) := ⟨hb.os, hb.tape, hb.output, hb.size, hb.block⟩
              clear hb PA
              refine hK.out _ _ (B5.out) (fun hHeld => ?_)
              clear hK
              (try simp only [Act.put, List.setIfInBounds_toArray, List.set_cons_zero, List.set_cons_succ])
              refine wpAnyH_take (i := 4) (v := (.int .i64 ((ptN ns : Int) * x 0))) rfl (by kernel_rfl) (by kernel_rfl) (by kernel_rfl) (fun _ _ _ h => h) (Or.inl ⟨by rfl, ?_⟩) (by assumption) ?_
              · intro w' hSw
                (try dsimp only at hSw)
                (go_simp; try exact m1')
              (try simp only [Act.put, List.setIfInBounds_toArray, List.set_cons_zero, List.set_cons_succ])
              refine wpAnyH_take (i := 7) (v := (.int .i64 ((ptN ns : Int) * x 0 * x 2))) rfl (by kernel_rfl) (by kernel_rfl) (by kernel_rfl) (fun _ _ _ h => h) (Or.inl ⟨by rfl, ?_⟩) (by assumption) ?_
              · intro w' hSw
                (try dsimp only at hSw)
                (go_simp; try exact m2')
              (try simp only [Act.put, List.setIfInBounds_toArray, List.set_cons_zero, List.set_cons_succ])
              refine wpAnyH_ready (rs := [8]) (by kernel_rfl) (by simp) ?_
              refine AllReadyH.cons rfl (fun K hK => ?_) AllReadyH.nil
              go_simp
              refine hK.out _ _ (B5.out) (fun hHeld => ?_)
              clear hK
              (try simp only [Act.put, List.setIfInBounds_toArray, List.set_cons_zero, List.set_cons_succ])
              refine wpAnyH_done (by kernel_rfl) ?_ _
              clear hHeld CC x0
              have B6 := hide (B3.out.trans (B5.out.mono B3.out.size))
              by_cases h6 : 512 < (ptN ns : Int) * x 0 * x 2
              case pos =>
                have h6' : decide (512 < (ptN ns : Int) * x 0 * x 2) = true := decide_eq_true h6
                have HE := hide (show errP st x ns = 3 by rw [hdef4.out, if_pos h6])
                clear hdef4
                go_wp2_with fail
                go_ret
                exact ⟨by rw [HE.out]; rfl, B6.out⟩
              case neg =>
                have h6' : decide (512 < (ptN ns : Int) * x 0 * x 2) = false := decide_eq_false h6
                have HE := hide (show errP st x ns = 0 by rw [hdef4.out, if_neg h6])
                clear hdef4
                go_wp2_with fail
                go_ret
                exact ⟨by rw [HE.out]; rfl, B6.out⟩
end Go.Proofs.YtanlnelfbfjelaaDoor
namespace Go.Proofs.YtanlnelfbfjelaaDoor
open Go.RowKit
/-- ints, as cells -/
def ints (L : List Int) : List Value := L.map fun n : Int => .int .i64 n
theorem ints_len (L : List Int) : (ints L).length = L.length := by simp [ints]
theorem ints_at (L : List Int) (q : Nat) : (ints L)[q]? = (L[q]?).map fun n : Int => .int .i64 n := by simp [ints]
theorem ints_one (L : List Int) : ∀ u ∈ ints L, u.oneCell' = true := by
  intro u hu
  obtain ⟨n, _, rfl⟩ := List.mem_map.1 hu
  rfl
/-- nodes, as cells -/
def ndc (zs : List (Int × Value)) : List Value := zs.flatMap fun y => [.int .i64 y.1, y.2]
theorem ndc_len (zs : List (Int × Value)) : (ndc zs).length = zs.length * 2 := by
  induction zs with
  | nil => rfl
  | cons a r ih =>
    unfold ndc at *
    simp only [List.flatMap_cons, List.length_append, List.length_cons, List.length_nil, ih]
    omega
theorem ndc_append (a b : List (Int × Value)) : ndc (a ++ b) = ndc a ++ ndc b := List.flatMap_append
theorem ndc_at (zs : List (Int × Value)) (q : Nat) (h : q < zs.length) : (ndc zs)[q * 2]? = some (.int .i64 zs[q].1) ∧ (ndc zs)[q * 2 + 1]? = some zs[q].2 := by
  induction zs generalizing q with
  | nil => simp at h
  | cons a r ih =>
    cases q with
    | zero => exact ⟨rfl, rfl⟩
    | succ q =>
      have h' : q < r.length := by simpa using h
      obtain ⟨e1, e2⟩ := ih q h'
      unfold ndc at *
      simp only [List.flatMap_cons, List.getElem_cons_succ]
      rw [show (q + 1) * 2 = q * 2 + 2 by omega, show q * 2 + 2 + 1 = (q * 2 + 1) + 2 by omega]
      exact ⟨e1, e2⟩
theorem add_pl (b o j : Nat) : (⟨b, o, none⟩ : Addr).add j = ⟨b, o + j, none⟩ := Addr.add_mid b o j
/-- append([]int(nil), l...) -/
theorem run_copyI {N : Nat} (w : World) (base : Nat) (ty : TypeId) {ao : Option Addr} {b o : Nat} (cap : Nat) {L : List Int} (h : PsAt N w ao b o L) (hc : ao = none → cap = 0) (hb : base ≤ w.heap.size) :
    ∃ v' w', (Builtin.append_ #[33, 33] ty #[.slice none 0 0, .slice ao L.length cap]).run Tryd.prog w = .ok v' w' ∧ w'.ownsRow base 3 1 v' L.length (ints L) ∧ w.grownBy w' none ∧ (∀ g, v'.ownBlock = some g → g = w.heap.size) := by
  obtain ⟨i0, hi0, hz0, hz1, hz2⟩ := info_parts infoInt
  have hl := h.len
  cases ao with
  | none =>
    have h0 : L.length = 0 := by
      apply Classical.byContradiction
      intro hn
      have := h.at0 (by omega)
      cases this
    have hL : L = [] := List.length_eq_zero_iff.1 h0
    subst hL
    rw [hc rfl]
    have hrun := run_append_owned_none (P := Tryd.prog) (w := w) base 33 ty 3 i0 1 Tryd.underlying33 hi0 (.slice none 0 0) 0 [] (World.ownsRow_nil _ _ _ _)
    exact ⟨_, _, hrun, World.ownsRow_nil _ _ _ _, ⟨rfl, rfl, rfl, Nat.le_refl _, fun _ _ _ => rfl⟩, fun g hg => by simp [Value.ownBlock] at hg⟩
  | some ad =>
    obtain ⟨v', w', hr, h2, h3, _, h5⟩ := run_append_own_at (P := Tryd.prog) w base 33 ty 3 i0 (.int .i64 0) 1 8 Tryd.underlying33 hi0 hz0 hz1 hz2 rfl (by decide) (.slice none 0 0) 0 [] (World.ownsRow_nil _ _ _ _) ad L.length cap (ints L) (by rw [ints_len]; omega) (fun j u hj => by
      rw [ints_at] at hj
      cases hq : L[j]? with
      | none => rw [hq] at hj; cases hj
      | some n =>
        rw [hq] at hj
        have hjl : j < L.length := (List.getElem?_eq_some_iff.1 hq).1
        have ha := h.at0 (by omega)
        simp only [Option.some.injEq] at ha
        subst ha
        rw [add_pl]
        have := h.c j hjl
        have e : L[j] = n := (List.getElem?_eq_some_iff.1 hq).2
        rw [e] at this
        simp only [Option.map_some] at hj
        rw [← hj]
        exact this) (ints_one L) (by unfold maxLen; omega) (by omega) hb
    refine ⟨v', w', hr, ?_, h3, fun g hg => ?_⟩
    · rw [Nat.zero_add, List.nil_append] at h2
      exact h2
    · rcases h5 with h5 | h5
      · rw [h5] at hg
        simp [Value.ownBlock] at hg
      · rw [h5] at hg
        cases hg
        rfl
theorem wp_copyI {N : Nat} (w : World) {op : Oper} {a : Act} {K : Act → World → Prop} {Q : Exit → Act → World → Prop} (x : Operand) (ho : op.op = .call { callee := .builtin .append, args := #[.const (.slice none 0 0), x], argTypes := #[33, 33] }) (base : Nat) {ao : Option Addr} {b o : Nat} (cap : Nat) {L : List Int} (hx : a.eval x = .slice ao L.length cap) (h : PsAt N w ao b o L) (hc : ao = none → cap = 0) (hb : base ≤ w.heap.size)
    (hK : ∀ v' w', w'.ownsRow base 3 1 v' L.length (ints L) → w.grownBy w' none → (∀ g, v'.ownBlock = some g → g = w.heap.size) → K (a.put op.dst v') w') : op.wp Tryd.prog a w K Q := by
  obtain ⟨v', w', hr, h1, h2, h3⟩ := run_copyI w base op.type cap h hc hb
  have hs : a.eval (.const (.slice none 0 0)) = .slice none 0 0 := rfl
  unfold Oper.wp execOp
  simp only [ho, resolve, invoke, builtin, Sem.run_bind, Sem.run_pure, Result.andThen_ok, List.map_toArray, List.map_cons, List.map_nil, hs, hx, hr]
  exact hK v' w' h1 h2 h3
theorem wpList_copyI {N : Nat} (w : World) {ops : Array Oper} {rest : List Oper} {op : Oper} {a : Act} {Q : Exit → Act → World → Prop} (hgd : op.guard = none) (x : Operand) (ho : op.op = .call { callee := .builtin .append, args := #[.const (.slice none 0 0), x], argTypes := #[33, 33] }) (base : Nat) {ao : Option Addr} {b o : Nat} (cap : Nat) {L : List Int} (hx : a.eval x = .slice ao L.length cap) (h : PsAt N w ao b o L) (hc : ao = none → cap = 0) (hb : base ≤ w.heap.size)
    (hK : ∀ v' w', w'.ownsRow base 3 1 v' L.length (ints L) → w.grownBy w' none → (∀ g, v'.ownBlock = some g → g = w.heap.size) → wpList Tryd.prog ops Q rest (a.put op.dst v') w') : wpList Tryd.prog ops Q (op :: rest) a w :=
  wpList_plain hgd fun _ hK' => wp_copyI w x ho base cap hx h hc hb (fun v' w' a b c => hK' _ _ (hK v' w' a b c))
/-- where rows of unlike types lie apart -/
theorem own_apart {w : World} {b1 b2 n1 n2 s1 s2 : Nat} {t1 t2 : TypeId} {v1 v2 : Value} {x1 x2 : List Value} (h1 : w.ownsRow b1 t1 s1 v1 n1 x1) (h2 : w.ownsRow b2 t2 s2 v2 n2 x2) (ht : t1 ≠ t2) : ∀ g, v1.ownBlock = some g → v2.ownBlock ≠ some g := by
  intro g hg1 hg2
  rcases h1.2 with ⟨rfl, _⟩ | ⟨g1, c1, u1, rfl, _, k1, _⟩
  · simp [Value.ownBlock] at hg1
  · rcases h2.2 with ⟨rfl, _⟩ | ⟨g2, c2, u2, rfl, _, k2, _⟩
    · simp [Value.ownBlock] at hg2
    · simp [Value.ownBlock] at hg1 hg2
      subst hg1
      subst hg2
      have := k1.symm.trans k2
      simp only [Option.some.injEq, Obj.cells.injEq] at this
      exact ht this.2.1
theorem own_keep {X X' : World} {base sz n : Nat} {e : TypeId} {v : Value} {xs : List Value} (h : X.ownsRow base e sz v n xs) (hk : ∀ g, v.ownBlock = some g → X'.heap[g]? = X.heap[g]?) : X'.ownsRow base e sz v n xs := by
  refine ⟨h.1, ?_⟩
  rcases h.2 with e | ⟨g, cap, cur, rfl, hb, hg, hr⟩
  · exact Or.inl e
  · exact Or.inr ⟨g, cap, cur, rfl, hb, (hk g (by simp [Value.ownBlock])).trans hg, hr⟩
theorem own_lt {X : World} {base sz n g : Nat} {e : TypeId} {v : Value} {xs : List Value} (h : X.ownsRow base e sz v n xs) (hg : v.ownBlock = some g) : base ≤ g ∧ g < X.heap.size := by
  rcases h.2 with ⟨rfl, _⟩ | ⟨g', cap, cur, rfl, hb, hg', hr⟩
  · simp [Value.ownBlock] at hg
  · simp [Value.ownBlock] at hg
    subst hg
    exact ⟨hb, blk_lt hg'⟩
theorem own_grown {X X' : World} {base sz n : Nat} {e : TypeId} {v : Value} {xs : List Value} {row : Option Nat} (h : X.ownsRow base e sz v n xs) (hg : X.grownBy X' row) (hr : ∀ g, v.ownBlock = some g → row ≠ some g) : X'.ownsRow base e sz v n xs :=
  own_keep h fun g hw => hg.block g (own_lt h hw).2 (fun e => hr g hw e.symm)
theorem own_sl {w : World} {base sz n : Nat} {e : TypeId} {v : Value} {xs : List Value} (h : w.ownsRow base e sz v n xs) : ∃ ba cap, v = .slice ba n cap ∧ (ba = none → cap = 0) := by
  rcases h.2 with ⟨hv, hz⟩ | ⟨g, cap, cur, hv, _⟩
  · exact ⟨none, 0, by rw [hv, hz], fun _ => rfl⟩
  · exact ⟨_, _, hv, fun e => by cases e⟩
theorem own_one {w : World} {base sz n : Nat} {e : TypeId} {v : Value} {xs : List Value} (h : w.ownsRow base e sz v n xs) : v.oneCell' = true := by
  obtain ⟨ba, cap, rfl, _⟩ := own_sl h
  rfl
/-- a list of one's own, as it may be read -/
theorem own_ps {w : World} {base n : Nat} {v : Value} {L : List Int} (h : w.ownsRow base 3 1 v n (ints L)) (hn : n = L.length) (hl : L.length ≤ 17592186043904) : Pv w.heap.size w v L := by
  subst hn
  obtain ⟨ba, cap, rfl, _⟩ := own_sl h
  rcases h.2 with ⟨hv, hz⟩ | ⟨g, cap', cur, hv, hb, hg, _⟩
  · simp only [Value.slice.injEq] at hv
    obtain ⟨rfl, _, rfl⟩ := hv
    exact ⟨none, 0, 0, 0, rfl, fun e => by omega, fun e => by omega, fun q hq => by omega, hl⟩
  · simp only [Value.slice.injEq, true_and] at hv
    obtain ⟨rfl, rfl⟩ := hv
    refine ⟨_, g, 0, cap, rfl, fun _ => rfl, fun _ => blk_lt hg, fun q hq => ?_, hl⟩
    rw [Nat.zero_add, h.cellAt q (by omega), ints_at, List.getElem?_eq_getElem hq]
    rfl
end Go.Proofs.YtanlnelfbfjelaaDoor
namespace Go.Proofs.YtanlnelfbfjelaaDoor
open Go.RowKit
theorem infoNd : (Tryd.prog.info? 59).map (fun i => (i.zero, i.size, i.bytes)) = some (some (.agg #[.int .i64 0, .slice none 0 0]), 2, 32) := by kernel_rfl
theorem nd_cells (w : World) (z : Int) (v : Value) : ∀ j u, (ndc [(z, v)])[j]? = some u → (w.alloc (.cells #[.int .i64 z, v] 59)).cell? ((⟨w.heap.size, 0, none⟩ : Addr).add j) = some u := by
  intro j u hj
  have e := heap_last w (.cells #[.int .i64 z, v] 59)
  match j, hj with
  | 0, hj => simp [ndc] at hj; subst hj; rw [add_pl]; unfold World.cell?; rw [e]; rfl
  | 1, hj => simp [ndc] at hj; subst hj; rw [add_pl]; unfold World.cell?; rw [e]; rfl
  | (j + 2), hj => simp [ndc] at hj
theorem nd_one {z : Int} {v : Value} (hv : v.oneCell' = true) : ∀ u ∈ ndc [(z, v)], u.oneCell' = true := by
  intro u hu
  simp [ndc] at hu
  rcases hu with rfl | rfl
  · rfl
  · exact hv
/-- the nodes that are made so far -/
structure Tw (base : Nat) (W : World) (ns : List ND) (vl : Value) (zs : List (Int × Value)) : Prop where
  row : W.ownsRow base 59 2 vl zs.length (ndc zs)
  z : ∀ (q : Nat) (h : q < zs.length) (h' : q < ns.length), zs[q].1 = ns[q].z
  p : ∀ (q : Nat) (h : q < zs.length) (h' : q < ns.length), W.ownsRow base 3 1 zs[q].2 ns[q].ps.length (ints ns[q].ps)
theorem Tw.keep {base : Nat} {W W' : World} {ns : List ND} {vl : Value} {zs : List (Int × Value)} (h : Tw base W ns vl zs) (hb : Below W.heap.size W W') : Tw base W' ns vl zs :=
  ⟨own_keep h.row fun g hg => hb.block g (own_lt h.row hg).2, h.z, fun q hq hq' => own_keep (h.p q hq hq') fun g hg => hb.block g (own_lt (h.p q hq hq') hg).2⟩
/-- one node more -/
theorem Tw.step {base : Nat} {W X1 X3 : World} {ns : List ND} {vl vl' v1 : Value} {zs : List (Int × Value)} (h : Tw base W ns vl zs) (hi : zs.length < ns.length) (o1 : X1.ownsRow base 3 1 v1 ns[zs.length].ps.length (ints ns[zs.length].ps)) (g1 : W.grownBy X1 none) (o3 : X3.ownsRow base 59 2 vl' (zs.length + 1) (ndc zs ++ ndc [(ns[zs.length].z, v1)])) (g3 : (X1.alloc (.cells #[.int .i64 ns[zs.length].z, v1] 59)).grownBy X3 vl.ownBlock) : Tw base X3 ns vl' (zs ++ [(ns[zs.length].z, v1)]) := by
  have b1 : Below W.heap.size W X1 := ⟨g1.os, g1.tape, g1.output, g1.size, fun i hi => g1.block i hi (by simp)⟩
  have t1 := h.keep b1
  have b2 : Below X1.heap.size X1 (X1.alloc (.cells #[.int .i64 ns[zs.length].z, v1] 59)) := (Below.refl _ _).alloc (Nat.le_refl _) _
  have t2 := t1.keep b2
  have o2 := own_keep (X' := X1.alloc (.cells #[.int .i64 ns[zs.length].z, v1] 59)) o1 fun g hg => b2.block g (own_lt o1 hg).2
  refine ⟨?_, fun q hq hq' => ?_, fun q hq hq' => ?_⟩
  · rw [List.length_append, ndc_append]
    exact o3
  · by_cases hql : q < zs.length
    · rw [List.getElem_append_left hql]
      exact h.z q hql hq'
    · have hqe : q = zs.length := by simp at hq; omega
      subst hqe
      simp
  · by_cases hql : q < zs.length
    · rw [List.getElem_append_left hql]
      exact own_grown (t2.p q hql hq') g3 (fun g hg e => own_apart (t2.p q hql hq') t2.row (by decide) g hg e)
    · have hqe : q = zs.length := by simp at hq; omega
      subst hqe
      simp only [List.getElem_append_right (Nat.le_refl _), Nat.sub_self, List.getElem_cons_zero]
      exact own_grown o2 g3 (fun g hg e => own_apart o2 t2.row (by decide) g hg e)
/-- the nodes that are made, as they may be read -/
theorem Tw.nodes {base : Nat} {W : World} {ns : List ND} {vl : Value} {zs : List (Int × Value)} (h : Tw base W ns vl zs) (hl : zs.length = ns.length) (hlen : ns.length ≤ 4398046510976) (hps : ∀ (q : Nat) (h : q < ns.length), ns[q].ps.length ≤ 17592186043904) : ∃ ao b cap, vl = .slice ao ns.length cap ∧ NsAt W.heap.size W ao b 0 (fun q => (zs[q]?.map (·.2)).getD (.slice none 0 0)) ns := by
  obtain ⟨ba, cap, hv, _⟩ := own_sl h.row
  rw [hl] at hv
  have hp : ∀ (q : Nat) (hq : q < ns.length), Pv W.heap.size W ((zs[q]?.map (·.2)).getD (.slice none 0 0)) ns[q].ps := fun q hq => by
    rw [List.getElem?_eq_getElem (by omega)]
    exact own_ps (h.p q (by omega) hq) rfl (hps q hq)
  have hn : ∀ (q : Nat) (hq : q < ns.length) (c : Nat), (zs[q]?.map (·.2)).getD (.slice none 0 0) = .slice none ns[q].ps.length c → c = 0 := fun q hq c he => by
    rw [List.getElem?_eq_getElem (by omega)] at he
    obtain ⟨ba', cap', hv', hz⟩ := own_sl (h.p q (by omega) hq)
    simp only [Option.map_some, Option.getD_some] at he
    rw [hv'] at he
    simp only [Value.slice.injEq, true_and] at he
    rw [← he.2]
    exact hz he.1
  rcases h.row.2 with ⟨hv', hz⟩ | ⟨g, cap', cur, hv', hb, hg, _⟩
  · have h0 : ns.length = 0 := by omega
    exact ⟨ba, 0, cap, hv, fun e => by omega, fun e => by omega, fun q hq => by omega, fun q hq => by omega, hp, hlen, hn⟩
  · rw [hl] at hv'
    obtain ⟨rfl, rfl⟩ : ba = some ⟨g, 0, none⟩ ∧ cap = cap' := by
      have := hv.symm.trans hv'
      simpa using this
    have row := h.row
    rw [hv, hl] at row
    refine ⟨_, g, cap, hv, fun _ => rfl, fun _ => blk_lt hg, fun q hq => ?_, fun q hq => ?_, hp, hlen, hn⟩
    · rw [Nat.zero_add, row.cellAt (q * 2) (by omega), (ndc_at zs q (by omega)).1, h.z q (by omega) hq]
    · rw [Nat.zero_add, row.cellAt (q * 2 + 1) (by omega), (ndc_at zs q (by omega)).2, List.getElem?_eq_getElem (by omega)]
      rfl
theorem wp_exec {op : Oper} {a : Act} {w : World} {K : Act → World → Prop} {Q : Exit → Act → World → Prop} {v : Value} (h : (execOp a.eval op).run Tryd.prog w = .ok (.value v) w) (hk : K (a.put op.dst v) w) : op.wp Tryd.prog a w K Q := by
  unfold Oper.wp
  rw [h]
  exact hk
theorem built_nd (z : Int) (ba : Option Addr) (n c : Nat) : Tryd.prog.built 59 [(0, .int .i64 z), (1, .slice ba n c)] = some #[.int .i64 z, .slice ba n c] := by kernel_rfl
theorem exec_buildNd {ρ : Operand → Value} {op : Oper} {w : World} {z : Int} {ba : Option Addr} {n c : Nat} (x y : Operand) (ho : op.op = .build 59 #[(0, x), (1, y)]) (hx : ρ x = .int .i64 z) (hy : ρ y = .slice ba n c) : (execOp ρ op).run Tryd.prog w = .ok (.value (.agg #[.int .i64 z, .slice ba n c])) w := by
  unfold execOp
  have hb := run_build (P := Tryd.prog) w 59 #[(0, .int .i64 z), (1, .slice ba n c)] _ (built_nd z ba n c)
  have hm : (#[(0, x), (1, y)] : Array (Nat × Operand)).map (fun (i, x) => (i, ρ x)) = #[(0, .int .i64 z), (1, .slice ba n c)] := by simp only [List.map_toArray, List.map_cons, List.map_nil, hx, hy]
  simp only [ho, hm, Sem.run_bind, hb, Result.andThen_ok, Sem.run_pure]
theorem exec_buildNv {ρ : Operand → Value} {op : Oper} {w : World} {z : Int} {v : Value} (hv : ∃ ba n c, v = .slice ba n c) (x y : Operand) (ho : op.op = .build 59 #[(0, x), (1, y)]) (hx : ρ x = .int .i64 z) (hy : ρ y = v) : (execOp ρ op).run Tryd.prog w = .ok (.value (.agg #[.int .i64 z, v])) w := by
  obtain ⟨ba, n, c, rfl⟩ := hv
  exact exec_buildNd x y ho hx hy
theorem fill_nd (z : Int) (ba : Option Addr) (n c : Nat) (zz : Value) (hz : zz = .agg #[.int .i64 0, .slice none 0 0]) : Instr.fill (fun i => some (i * 2, 2)) ((Array.range (1 * 2)).map (zz.cells[· % zz.cells.size]!)) [(0, .agg #[.int .i64 z, .slice ba n c])] = some #[.int .i64 z, .slice ba n c] := by
  subst hz
  kernel_rfl
theorem wp_bsNd {w : World} {op : Oper} {a : Act} {K : Act → World → Prop} {Q : Exit → Act → World → Prop} (x : Operand) (ho : op.op = .buildSlice 22 1 #[(0, x)]) {z : Int} {ba : Option Addr} {n c : Nat} (hx : a.eval x = .agg #[.int .i64 z, .slice ba n c])
    (h : K (a.put op.dst (.slice (some ⟨w.heap.size, 0, none⟩) 1 1)) (w.alloc (.cells #[.int .i64 z, .slice ba n c] 59))) : op.wp Tryd.prog a w K Q := by
  obtain ⟨i0, hi, hz0, hz1, hz2⟩ := info_parts infoNd
  refine wp_buildSlice 22 59 1 _ ho #[.int .i64 z, .slice ba n c] i0 _ Tryd.underlying22 hi hz0 (by rw [hz1]; decide) (by rw [hz1]; decide) ?_ h
  rw [hz1]
  simp only [List.map_toArray, List.map_cons, List.map_nil, hx]
  exact fill_nd z ba n c _ rfl
theorem wp_bsNv {w : World} {op : Oper} {a : Act} {K : Act → World → Prop} {Q : Exit → Act → World → Prop} {z : Int} {v : Value} (hv : ∃ ba n c, v = .slice ba n c) (x : Operand) (ho : op.op = .buildSlice 22 1 #[(0, x)]) (hx : a.eval x = .agg #[.int .i64 z, v])
    (h : K (a.put op.dst (.slice (some ⟨w.heap.size, 0, none⟩) 1 1)) (w.alloc (.cells #[.int .i64 z, v] 59))) : op.wp Tryd.prog a w K Q := by
  obtain ⟨ba, n, c, rfl⟩ := hv
  exact wp_bsNd x ho hx h
end Go.Proofs.YtanlnelfbfjelaaDoor
