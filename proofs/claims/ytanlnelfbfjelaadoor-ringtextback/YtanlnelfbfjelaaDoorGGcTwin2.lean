import Derived.Test.YtanlnelfbfjelaaDoorGGcChk
namespace Go.Proofs.YtanlnelfbfjelaaDoor
open Go.RowKit
def zx : Nat → Int := fun _ => 0
theorem clA_one (st : ByteArray) (x : Nat → Int) {nv : Value} (h : nv.oneCell' = true) : (clA st x nv).all (·.oneCell') = true := by
  simp [clA, Value.oneCell'] at h ⊢
  exact h
theorem wpList_storeCl {w0 w : World} {ops : Array Oper} {rest : List Oper} {o : Oper} {a : Act} {Q : Exit → Act → World → Prop} (hgd : o.guard = none) (p y : Operand) (ho : o.op = .store 24 p y) (b : Nat) (hp : a.eval p = .pointer (some ⟨b, 0, none⟩)) (hb : b = w0.heap.size) (st : ByteArray) (x : Nat → Int) (nv : Value) (hn : nv.oneCell' = true) (hx : a.eval y = .agg (clA st x nv)) (c : Array Value) (hc : c.size = 23) (hw : w = w0.alloc (.cells c 24))
    (h : wpList Tryd.prog ops Q rest (a.put o.dst undef) (w0.alloc (.cells (clA st x nv) 24))) : wpList Tryd.prog ops Q (o :: rest) a w := by
  subst hw
  subst hb
  refine wpList_plain hgd fun K hK => ?_
  unfold Oper.wp execOp
  simp only [ho, Sem.run_bind, Sem.run_pure, Result.andThen_ok, hp, hx, run_storeAt_new w0 24 c (clA st x nv) infoCl (by rw [hc]; rfl) (clA_one st x hn)]
  exact hK _ _ h
theorem ClAt.set {w : World} {b : Nat} {st : ByteArray} {x : Nat → Int} {nv : Value} (h : ClAt w b st x nv) (vl : Value) : ClAt (w.setCell ⟨b, 22, none⟩ vl) b st x vl := by
  unfold ClAt at *
  simp only [World.setCell, Array.getElem?_modify, if_true, h, Option.map_some]
  rfl
theorem res_cl {fn : Func} {p : Tmp} (h : fn.results = #[.cell p 24]) (tmps : Array Value) (st : ByteArray) (x : Nat → Int) (nv : Value) (w : World) (b : Nat) (ht : tmps.getD p undef = .pointer (some ⟨b, 0, none⟩)) (hO : ClAt w b st x nv) : (results fn tmps).run Tryd.prog w = .ok (.agg (clA st x nv)) w := by
  have hl : (loadVar 24 ⟨b, 0, none⟩).run Tryd.prog w = .ok (.agg (clA st x nv)) w := run_loadVar_row _ _ 24 24 (clA st x nv) (0, 0) _ hO Tryd.underlying24 rfl infoCl
  have ht' : tmps[p]?.getD undef = .pointer (some ⟨b, 0, none⟩) := by simpa using ht
  unfold results
  rw [h]
  simp [ht', asAddr, hl]
theorem set_below {w X : World} {G j : Nat} {v : Value} {n : Nat} (h : Below n w X) (hG : n ≤ G) : Below n w (X.setCell ⟨G, j, none⟩ v) := below_setC h hG
set_option maxHeartbeats 8000000 in
set_option maxRecDepth 100000 in
set_option linter.unusedSimpArgs false in
set_option linter.unusedVariables false in
theorem twin_any (N : Nat) (w : World) (st : ByteArray) (x : Nat → Int) (ao : Option Addr) (b o cap : Nat) (pv : Nat → Value) (ns : List ND) (h : NsAt N w ao b o pv ns) (hN : N ≤ w.heap.size) :
    Calls Tryd.prog 11 #[.agg (clA st x (.slice ao ns.length cap))] w fun e w' => ∃ vl zs, e = .returned (.agg (clA st x vl)) ∧ zs.length = ns.length ∧ Tw (w.heap.size + 2) w' ns vl zs ∧ Below w.heap.size w w' := by
  obtain ⟨W0, hW0⟩ : ∃ W0, W0 = (w.alloc (.cells (clA st x (.slice ao ns.length cap)) 24)).alloc (.cells (clA ⟨#[]⟩ zx (.slice none 0 0)) 24) := ⟨_, rfl⟩
  have B0 : Hid (Below w.heap.size w W0) := by rw [hW0]; exact ((Below.refl _ _).alloc (Nat.le_refl _) _).alloc (by simp) _
  have C0 : Hid (ClAt W0 w.heap.size st x (.slice ao ns.length cap)) := by rw [hW0]; exact (new_cl _ _ _ _).below ((Below.refl _ _).alloc (Nat.le_refl _) _)
  have R0 : Hid (ClAt W0 (w.heap.size + 1) ⟨#[]⟩ zx (.slice none 0 0)) := by
    rw [hW0]
    have := new_cl (w.alloc (.cells (clA st x (.slice ao ns.length cap)) 24)) ⟨#[]⟩ zx (.slice none 0 0)
    simp only [World.size_alloc] at this
    exact this
  have s0 : Hid (W0.heap.size = w.heap.size + 2) := by rw [hW0]; show _ = _; simp
  have HN := hide h
  have hlen := h.len
  clear h
  obtain ⟨i0, hi0, hz0, hz1, hz2⟩ := info_parts infoNd
  go_enter Tryd.func11, Tryd.ntmps11
  go_upto_region 1 with fail
  rw [show (w.alloc (.cells (clA st x (.slice ao ns.length cap)) 24)).alloc (.cells #[.string ⟨#[]⟩, .int .i64 0, .int .i64 0, .int .i64 0, .int .i64 0, .int .i64 0, .int .i64 0, .int .i64 0, .int .i64 0, .int .i64 0, .int .i64 0, .int .i64 0, .int .i64 0, .int .i64 0, .int .i64 0, .int .i64 0, .int .i64 0, .int .i64 0, .int .i64 0, .int .i64 0, .int .i64 0, .int .i64 0, .slice none 0 0] 24) = W0 from hW0.symm]
  clear hW0
  go_wp2_with fail
  go_loopw [3, 4] (fun vl vi wr => ∃ (zs : List (Int × Value)), zs.length ≤ ns.length ∧ vi = .int .i64 (zs.length : Int) ∧ Tw W0.heap.size wr ns vl zs ∧ Below W0.heap.size W0 wr) (fun _ vi _ => ns.length - (intOf vi).toNat)
  case atStart => exact ⟨[], Nat.zero_le _, rfl, ⟨World.ownsRow_nil _ _ _ _, fun q hq => absurd hq (Nat.not_lt_zero _), fun q hq => absurd hq (Nat.not_lt_zero _)⟩, Below.refl _ _⟩
  case round =>
    obtain ⟨zs, hq, rfl, hT, hB⟩ := hrel
    have HT := hide hT
    have HB := hide hB
    clear hT hB
    obtain ⟨ba, cp, hv, _⟩ := own_sl HT.out.row
    subst hv
    by_cases hql : zs.length < ns.length
    case pos =>
      have hao := HN.out.at0 (by omega)
      subst hao
      have hqi : (zs.length : Int) < (ns.length : Int) := by omega
      have nvw := (C0.out.below HB.out).nv
      obtain ⟨pa, pb, po, pc, hpv, hp⟩ := HN.out.ps zs.length hql
      have P0 := hide hp
      have hnl : Hid (pa = none → pc = 0) := fun e => HN.out.nl zs.length hql pc (by rw [hpv, e])
      have hpl := hp.len
      have CC : Hid (∀ Y, Below W0.heap.size W0 Y → Y.cell? ⟨w.heap.size, 22, none⟩ = some (.slice (some ⟨b, o, none⟩) ns.length cap) ∧ Y.cell? ⟨b, o + zs.length * 2, none⟩ = some (.int .i64 ns[zs.length].z) ∧ Y.cell? ⟨b, o + zs.length * 2 + 1, none⟩ = some (.slice pa ns[zs.length].ps.length pc)) := fun Y hY => by
        have hN0 := HN.out.below ((B0.out.trans (hY.mono B0.out.size)).mono hN)
        refine ⟨(C0.out.below hY).nv, hN0.cz _ hql, ?_⟩
        rw [← hpv]
        exact hN0.cp _ hql
      have PP : Hid (∀ Y, Below W0.heap.size W0 Y → PsAt N Y pa pb po ns[zs.length].ps) := fun Y hY => P0.out.below ((B0.out.trans (hY.mono B0.out.size)).mono hN)
      clear hpv hp nvw P0
      have TS := hide (fun X1 X3 vl' v1 => HT.out.step (X1 := X1) (X3 := X3) (vl' := vl') (v1 := v1) hql)
      have nvw := (CC.out _ HB.out).1
      generalize hzz : ns[zs.length].z = z at *
      generalize hpp : ns[zs.length].ps = ps at *
      clear hzz hpp
      go_wp2_with fail
      clear nvw
      refine wp_region_held_drew (S := fun Y => Below W0.heap.size W0 Y) (by kernel_rfl) (HB.out.drew) (fun hHeld => ?_)
      refine wpAnyH_take (i := 0) (v := (.slice ba zs.length cp)) rfl (by kernel_rfl) (by kernel_rfl) (by kernel_rfl) (fun _ _ _ h => h) (Or.inl ⟨by rfl, ?_⟩) (by assumption) ?_
      · intro w' hSw
        (try dsimp only at hSw)
        go_simp
      (try simp only [Act.put, List.setIfInBounds_toArray, List.set_cons_zero, List.set_cons_succ])
      refine wpAnyH_take (i := 1) (v := (.pointer (some ⟨w.heap.size, 22, none⟩))) rfl (by kernel_rfl) (by kernel_rfl) (by kernel_rfl) (fun _ _ _ h => h) (Or.inl ⟨by rfl, ?_⟩) (by assumption) ?_
      · intro w' hSw
        (try dsimp only at hSw)
        go_simp
      (try simp only [Act.put, List.setIfInBounds_toArray, List.set_cons_zero, List.set_cons_succ])
      refine wpAnyH_take (i := 2) (v := (.slice (some ⟨b, o, none⟩) ns.length cap)) rfl (by kernel_rfl) (by kernel_rfl) (by kernel_rfl) (fun _ _ _ h => h) (Or.inl ⟨by rfl, ?_⟩) (by assumption) ?_
      · intro w' hSw
        (try dsimp only at hSw)
        (obtain ⟨y1, y2, y3⟩ := CC.out _ hSw; go_simp)
      (try simp only [Act.put, List.setIfInBounds_toArray, List.set_cons_zero, List.set_cons_succ])
      refine wpAnyH_take (i := 3) (v := (.int .i64 (zs.length : Int))) rfl (by kernel_rfl) (by kernel_rfl) (by kernel_rfl) (fun _ _ _ h => h) (Or.inl ⟨by rfl, ?_⟩) (by assumption) ?_
      · intro w' hSw
        (try dsimp only at hSw)
        go_simp
      (try simp only [Act.put, List.setIfInBounds_toArray, List.set_cons_zero, List.set_cons_succ])
      refine wpAnyH_take (i := 4) (v := (.pointer (some ⟨b, o + zs.length * 2, none⟩))) rfl (by kernel_rfl) (by kernel_rfl) (by kernel_rfl) (fun _ _ _ h => h) (Or.inl ⟨by rfl, ?_⟩) (by assumption) ?_
      · intro w' hSw
        (try dsimp only at hSw)
        go_simp
      (try simp only [Act.put, List.setIfInBounds_toArray, List.set_cons_zero, List.set_cons_succ])
      refine wpAnyH_take (i := 5) (v := (.pointer (some ⟨b, o + zs.length * 2, none⟩))) rfl (by kernel_rfl) (by kernel_rfl) (by kernel_rfl) (fun _ _ _ h => h) (Or.inl ⟨by rfl, ?_⟩) (by assumption) ?_
      · intro w' hSw
        (try dsimp only at hSw)
        go_simp
      (try simp only [Act.put, List.setIfInBounds_toArray, List.set_cons_zero, List.set_cons_succ])
      refine wpAnyH_take (i := 6) (v := (.int .i64 z)) rfl (by kernel_rfl) (by kernel_rfl) (by kernel_rfl) (fun _ _ _ h => h) (Or.inl ⟨by rfl, ?_⟩) (by assumption) ?_
      · intro w' hSw
        (try dsimp only at hSw)
        (obtain ⟨y1, y2, y3⟩ := CC.out _ hSw; go_simp)
      (try simp only [Act.put, List.setIfInBounds_toArray, List.set_cons_zero, List.set_cons_succ])
      refine wpAnyH_take (i := 7) (v := (.pointer (some ⟨w.heap.size, 22, none⟩))) rfl (by kernel_rfl) (by kernel_rfl) (by kernel_rfl) (fun _ _ _ h => h) (Or.inl ⟨by rfl, ?_⟩) (by assumption) ?_
      · intro w' hSw
        (try dsimp only at hSw)
        go_simp
      (try simp only [Act.put, List.setIfInBounds_toArray, List.set_cons_zero, List.set_cons_succ])
      refine wpAnyH_take (i := 8) (v := (.slice (some ⟨b, o, none⟩) ns.length cap)) rfl (by kernel_rfl) (by kernel_rfl) (by kernel_rfl) (fun _ _ _ h => h) (Or.inl ⟨by rfl, ?_⟩) (by assumption) ?_
      · intro w' hSw
        (try dsimp only at hSw)
        (obtain ⟨y1, y2, y3⟩ := CC.out _ hSw; go_simp)
      (try simp only [Act.put, List.setIfInBounds_toArray, List.set_cons_zero, List.set_cons_succ])
      refine wpAnyH_take (i := 9) (v := (.int .i64 (zs.length : Int))) rfl (by kernel_rfl) (by kernel_rfl) (by kernel_rfl) (fun _ _ _ h => h) (Or.inl ⟨by rfl, ?_⟩) (by assumption) ?_
      · intro w' hSw
        (try dsimp only at hSw)
        go_simp
      (try simp only [Act.put, List.setIfInBounds_toArray, List.set_cons_zero, List.set_cons_succ])
      refine wpAnyH_take (i := 10) (v := (.pointer (some ⟨b, o + zs.length * 2, none⟩))) rfl (by kernel_rfl) (by kernel_rfl) (by kernel_rfl) (fun _ _ _ h => h) (Or.inl ⟨by rfl, ?_⟩) (by assumption) ?_
      · intro w' hSw
        (try dsimp only at hSw)
        go_simp
      (try simp only [Act.put, List.setIfInBounds_toArray, List.set_cons_zero, List.set_cons_succ])
      refine wpAnyH_take (i := 11) (v := (.pointer (some ⟨b, o + zs.length * 2 + 1, none⟩))) rfl (by kernel_rfl) (by kernel_rfl) (by kernel_rfl) (fun _ _ _ h => h) (Or.inl ⟨by rfl, ?_⟩) (by assumption) ?_
      · intro w' hSw
        (try dsimp only at hSw)
        go_simp
      (try simp only [Act.put, List.setIfInBounds_toArray, List.set_cons_zero, List.set_cons_succ])
      refine wpAnyH_take (i := 12) (v := (.slice pa ps.length pc)) rfl (by kernel_rfl) (by kernel_rfl) (by kernel_rfl) (fun _ _ _ h => h) (Or.inl ⟨by rfl, ?_⟩) (by assumption) ?_
      · intro w' hSw
        (try dsimp only at hSw)
        (have y3 := (CC.out _ hSw).2.2; clear CC PP TS HB HT hHeld; go_simp)
      (try simp only [Act.put, List.setIfInBounds_toArray, List.set_cons_zero, List.set_cons_succ])
      refine wpAnyH_ready (rs := [13]) (by kernel_rfl) (by simp) ?_
      refine AllReadyH.cons rfl (fun K hK => ?_) AllReadyH.nil
      refine itY (by rfl) ?_
      refine wp_copyI wr.drew (.tmp 25) rfl W0.heap.size pc (by kernel_rfl) (PP.out _ HB.out.drew) hnl.out HB.out.size ?_
      intro v1 X1 o1 g1 a1
      have V1 : Hid (∃ ba n c, v1 = .slice ba n c) := by
        obtain ⟨b1, c1, hv1, _⟩ := own_sl o1
        exact ⟨_, _, _, hv1⟩
      have G1 : Hid (Below wr.heap.size wr X1) := ⟨g1.os, g1.tape, g1.output, g1.size, fun i hi => g1.block i hi (by simp)⟩
      have S1 := hide (HB.out.trans (G1.out.mono HB.out.size))
      refine hK.out _ _ (S1.out) (fun hHeld => ?_)
      clear hK
      (try simp only [Act.put, List.setIfInBounds_toArray, List.set_cons_zero, List.set_cons_succ])
      have O1 := hide o1
      have GG := hide g1
      clear o1 g1 a1
      refine wpAnyH_ready (rs := [14]) (by kernel_rfl) (by simp) ?_
      refine AllReadyH.cons rfl (fun K hK => ?_) AllReadyH.nil
      refine itY (by rfl) ?_
      refine wp_exec (exec_buildNv (z := z) (v := v1) V1.out (.tmp 19) (.tmp 26) rfl (by kernel_rfl) (by kernel_rfl)) ?_
      refine hK.out _ _ (S1.out) (fun hHeld => ?_)
      clear hK
      (try simp only [Act.put, List.setIfInBounds_toArray, List.set_cons_zero, List.set_cons_succ])
      refine wpAnyH_ready (rs := [15]) (by kernel_rfl) (by simp) ?_
      refine AllReadyH.cons rfl (fun K hK => ?_) AllReadyH.nil
      refine itY (by rfl) ?_
      refine wp_bsNv (z := z) (v := v1) V1.out (.tmp 27) rfl (by kernel_rfl) ?_
      refine hK.out _ _ ((S1.out.alloc S1.out.size _)) (fun hHeld => ?_)
      clear hK
      (try simp only [Act.put, List.setIfInBounds_toArray, List.set_cons_zero, List.set_cons_succ])
      refine wpAnyH_ready (rs := [16]) (by kernel_rfl) (by simp) ?_
      refine AllReadyH.cons rfl (fun K hK => ?_) AllReadyH.nil
      refine itY (by rfl) ?_
      have T1 : Hid (Tw W0.heap.size (X1.alloc (.cells #[.int .i64 z, v1] 59)) ns (.slice ba zs.length cp) zs) := (HT.out.keep G1.out).keep ((Below.refl _ _).alloc (Nat.le_refl _) _)
      refine wp_append_own (X1.alloc (.cells #[.int .i64 z, v1] 59)) (.tmp 13) (.tmp 28) 22 ?hAo W0.heap.size 59 i0 _ 2 32 Tryd.underlying22 hi0 hz0 hz1 hz2 ?hAz (by decide) (.slice ba zs.length cp) zs.length (ndc zs) ?hAs T1.out.row ⟨X1.heap.size, 0, none⟩ 1 1 (ndc [(z, v1)]) ?hAx rfl (nd_cells X1 z v1) (nd_one (own_one O1.out)) (by unfold maxLen; omega) (by omega) (by have := S1.out.size; simp; omega) ?hAk
      case hAo => rfl
      case hAz => rfl
      case hAs => kernel_rfl
      case hAx => kernel_rfl
      intro vl' X3 o3 g3 n3
      clear n3
      have T3 := hide (TS.out X1 X3 vl' _ O1.out ⟨GG.out.os, GG.out.tape, GG.out.output, GG.out.size, GG.out.block⟩ o3 g3)
      have S3 : Hid (Below W0.heap.size W0 X3) := (S1.out.alloc S1.out.size _).grown g3 (by have := S1.out.size; simp; omega) (fun j hj => (own_lt T1.out.row hj).1)
      clear o3 g3
      refine hK.out _ _ (S3.out) (fun hHeld => ?_)
      clear hK
      (try simp only [Act.put, List.setIfInBounds_toArray, List.set_cons_zero, List.set_cons_succ])
      refine wpAnyH_ready (rs := [17]) (by kernel_rfl) (by simp) ?_
      refine AllReadyH.cons rfl (fun K hK => ?_) AllReadyH.nil
      go_simp
      refine hK.out _ _ (S3.out) (fun hHeld => ?_)
      clear hK
      (try simp only [Act.put, List.setIfInBounds_toArray, List.set_cons_zero, List.set_cons_succ])
      refine wpAnyH_done (by kernel_rfl) ?_ _
      clear hHeld CC PP TS HT HB O1 GG G1 S1 T1
      go_wp2_with fail
      go_roundw
      case rel => exact ⟨zs ++ [(z, v1)], by simp; omega, by simp, T3.out, S3.out⟩
      case measure => simp [intOf]; omega
    case neg =>
      have hqe : zs.length = ns.length := by omega
      rw [hqe] at HT ⊢
      have hqi : ¬ (ns.length : Int) < (ns.length : Int) := by omega
      have nvw := (C0.out.below HB.out).nv
      obtain ⟨W5, hW5⟩ : ∃ W5, W5 = wr.alloc (.cells (clA st x (.slice ao ns.length cap)) 24) := ⟨_, rfl⟩
      have C5 : Hid (ClAt W5 wr.heap.size st x (.slice ao ns.length cap)) := by rw [hW5]; exact new_cl _ _ _ _
      have B5 : Hid (Below wr.heap.size wr W5) := by rw [hW5]; exact (Below.refl _ _).alloc (Nat.le_refl _) _
      have f5 : W5.frozen? ⟨wr.heap.size, 22, none⟩ = false := by unfold World.frozen?; rw [show W5.heap[wr.heap.size]? = _ from C5.out]; simp
      have n5 := C5.out.nv
      have CW := hide (C0.out.below HB.out)
      go_upto_region 7 with (first | (refine wpList_loadCl rfl (.tmp 1) rfl w.heap.size st x _ rfl CW.out ?_) | (refine wpList_storeCl (w0 := wr) rfl (.tmp 5) (.tmp 30) rfl _ rfl rfl st x _ rfl rfl _ rfl rfl ?_))
      rw [← hW5]
      clear hW5
      have T5 := HT.out.keep B5.out
      obtain ⟨X6, hX6⟩ : ∃ X6, X6 = W5.setCell ⟨wr.heap.size, 22, none⟩ (.slice ba ns.length cp) := ⟨_, rfl⟩
      have C6 : Hid (ClAt X6 wr.heap.size st x (.slice ba ns.length cp)) := by rw [hX6]; exact C5.out.set _
      have B6 : Hid (Below wr.heap.size wr X6) := by rw [hX6]; exact set_below B5.out (Nat.le_refl _)
      have hrs : Hid (w.heap.size + 1 < wr.heap.size) := by have := HB.out.size; have := s0.out; show _ < _; omega
      have R6 : Hid (ClAt X6 (w.heap.size + 1) ⟨#[]⟩ zx (.slice none 0 0)) := (B6.out.block _ hrs.out).trans ((HB.out.block _ (by have := s0.out; omega)).trans R0.out)
      go_upto_region 8 with fail
      rw [← hX6]
      clear hX6 n5 f5 nvw
      go_wp2_with (first | (refine wpList_loadCl rfl (.tmp 5) rfl wr.heap.size st x _ rfl C6.out ?_) | (refine wpList_store_row rfl 24 (.tmp 2) (.tmp 33) rfl (w.heap.size + 1) (clA st x (.slice ba ns.length cp)) rfl rfl 24 _ R6.out infoCl rfl (clA_one st x rfl) ?_))
      have E6 : ClAt (X6.setRow (w.heap.size + 1) (clA st x (.slice ba ns.length cp))) (w.heap.size + 1) st x (.slice ba ns.length cp) := setRow_heap X6 (w.heap.size + 1) _ _ 24 _ R6.out
      have oth : ∀ i, i ≠ w.heap.size + 1 → (X6.setRow (w.heap.size + 1) (clA st x (.slice ba ns.length cp))).heap[i]? = X6.heap[i]? := fun i hi => setRow_other X6 (w.heap.size + 1) i _ (fun e => hi (by first | exact e | exact e.symm))
      have T6 := HT.out.keep B6.out
      have T7 : Tw W0.heap.size (X6.setRow (w.heap.size + 1) (clA st x (.slice ba ns.length cp))) ns (.slice ba ns.length cp) zs := ⟨own_keep T6.row fun g hg => oth g (by have := (own_lt T6.row hg).1; have := s0.out; omega), T6.z, fun q hq hq' => own_keep (T6.p q hq hq') fun g hg => oth g (by have := (own_lt (T6.p q hq hq') hg).1; have := s0.out; omega)⟩
      rw [s0.out] at T7
      have B7 : Below w.heap.size w (X6.setRow (w.heap.size + 1) (clA st x (.slice ba ns.length cp))) := below_setRow (B0.out.trans ((HB.out.trans (B6.out.mono HB.out.size)).mono B0.out.size)) (by omega) _
      refine bodyPost_ret (v := .agg (clA st x (.slice ba ns.length cp))) (res_cl Tryd.results11 _ st x _ _ (w.heap.size + 1) rfl E6) rfl (by first | exact ⟨_, rfl, zs, hqe, T7, B7⟩ | exact ⟨_, zs, rfl, hqe, T7, B7⟩)
end Go.Proofs.YtanlnelfbfjelaaDoor
namespace Go.Proofs.YtanlnelfbfjelaaDoor
open Go.RowKit
/-- what was handed in: the definition, its twin, the lists of nodes and of partitions -/
def hdA (st : ByteArray) (x : Nat → Int) (a b c d : Value) : Array Value := #[.string st, .int .i64 (x 0), .int .i64 (x 1), .int .i64 (x 2), .int .i64 (x 3), .int .i64 (x 4), .int .i64 (x 5), .int .i64 (x 6), .int .i64 (x 7), .int .i64 (x 8), .int .i64 (x 9), .int .i64 (x 10), .int .i64 (x 11), .int .i64 (x 12), .int .i64 (x 13), .int .i64 (x 14), .int .i64 (x 15), .int .i64 (x 16), .int .i64 (x 17), .int .i64 (x 18), .int .i64 (x 19), .int .i64 (x 20), a, .string st, .int .i64 (x 0), .int .i64 (x 1), .int .i64 (x 2), .int .i64 (x 3), .int .i64 (x 4), .int .i64 (x 5), .int .i64 (x 6), .int .i64 (x 7), .int .i64 (x 8), .int .i64 (x 9), .int .i64 (x 10), .int .i64 (x 11), .int .i64 (x 12), .int .i64 (x 13), .int .i64 (x 14), .int .i64 (x 15), .int .i64 (x 16), .int .i64 (x 17), .int .i64 (x 18), .int .i64 (x 19), .int .i64 (x 20), b, c, d]
/-- lists of partitions, as cells -/
theorem infoPl : (Tryd.prog.info? 33).map (fun i => (i.zero, i.size, i.bytes)) = some (some (.slice none 0 0), 1, 24) := by kernel_rfl
/-- what Hand has made so far: the nodes, the lists with their marks -/
structure Hn (base : Nat) (W : World) (ns : List ND) (vn vp : Value) (zs : List (Int × Value)) (ls : List Value) : Prop where
  len : ls.length = zs.length
  rn : W.ownsRow base 59 2 vn zs.length (ndc zs)
  rp : W.ownsRow base 33 1 vp ls.length ls
  z : ∀ (q : Nat) (h : q < zs.length) (h' : q < ns.length), zs[q].1 = ns[q].z
  l : ∀ (q : Nat) (h : q < zs.length) (h1 : q < ls.length) (h' : q < ns.length), ∃ g c, zs[q].2 = .slice (some ⟨g, 0, none⟩) ns[q].ps.length c ∧ ls[q] = .slice (some ⟨g, 0, none⟩) (ns[q].ps.length + 3) c ∧ W.ownsRow base 3 1 ls[q] (ns[q].ps.length + 3) (ints (ns[q].ps ++ [701, 702, 703]))
theorem Hn.keep {base : Nat} {W W' : World} {ns : List ND} {vn vp : Value} {zs : List (Int × Value)} {ls : List Value} (h : Hn base W ns vn vp zs ls) (hk : ∀ g, base ≤ g → g < W.heap.size → W'.heap[g]? = W.heap[g]?) : Hn base W' ns vn vp zs ls :=
  ⟨h.len, own_keep h.rn fun g hg => hk g (own_lt h.rn hg).1 (own_lt h.rn hg).2, own_keep h.rp fun g hg => hk g (own_lt h.rp hg).1 (own_lt h.rp hg).2, h.z, fun q hq h1 hq' => by
    obtain ⟨g, c, e1, e2, o⟩ := h.l q hq h1 hq'
    exact ⟨g, c, e1, e2, own_keep o fun g hg => hk g (own_lt o hg).1 (own_lt o hg).2⟩⟩
end Go.Proofs.YtanlnelfbfjelaaDoor
namespace Go.Proofs.YtanlnelfbfjelaaDoor
open Go.RowKit
theorem mark_cells (w : World) : ∀ j u, (ints [701, 702, 703])[j]? = some u → (w.alloc (.cells #[.int .i64 701, .int .i64 702, .int .i64 703] 3)).cell? ((⟨w.heap.size, 0, none⟩ : Addr).add j) = some u := by
  intro j u hj
  have e := heap_last w (.cells #[.int .i64 701, .int .i64 702, .int .i64 703] 3)
  match j, hj with
  | 0, hj => simp [ints] at hj; subst hj; rw [add_pl]; unfold World.cell?; rw [e]; rfl
  | 1, hj => simp [ints] at hj; subst hj; rw [add_pl]; unfold World.cell?; rw [e]; rfl
  | 2, hj => simp [ints] at hj; subst hj; rw [add_pl]; unfold World.cell?; rw [e]; rfl
  | (j + 3), hj => simp [ints] at hj
theorem sl_cells (w : World) (v : Value) : ∀ j u, [v][j]? = some u → (w.alloc (.cells #[v] 33)).cell? ((⟨w.heap.size, 0, none⟩ : Addr).add j) = some u := cell_one_new w v 33
theorem own_some {w : World} {base sz n : Nat} {e : TypeId} {v : Value} {xs : List Value} (h : w.ownsRow base e sz v n xs) (hn : 0 < n) : ∃ g cap, v = .slice (some ⟨g, 0, none⟩) n cap := by
  rcases h.2 with ⟨hv, hz⟩ | ⟨g, cap, cur, hv, _⟩
  · omega
  · exact ⟨_, _, hv⟩
set_option maxRecDepth 100000 in
theorem run_cut (w : World) (g n k c : Nat) (hk : k ≤ c) : (Instr.sliceAt 33 (.slice (some ⟨g, 0, none⟩) n c) none (some (.int .i64 (k : Int))) none).run Tryd.prog w = .ok (.slice (some ⟨g, 0, none⟩) k c) w := by
  have h1 : (k : Int) ≤ (c : Int) := by omega
  have h2 : (0 : Int) ≤ (k : Int) := by omega
  go_simp
theorem exec_cut {ρ : Operand → Value} {op : Oper} {w : World} {g n k c : Nat} (hk : k ≤ c) (x y : Operand) (ho : op.op = .slice 33 x none (some y) none) (hx : ρ x = .slice (some ⟨g, 0, none⟩) n c) (hy : ρ y = .int .i64 (k : Int)) : (execOp ρ op).run Tryd.prog w = .ok (.value (.slice (some ⟨g, 0, none⟩) k c)) w := by
  unfold execOp
  simp only [ho, hx, hy, Option.map_none, Option.map_some, Sem.run_bind, run_cut w g n k c hk, Result.andThen_ok, Sem.run_pure]
theorem own_cap {w : World} {base sz n m c : Nat} {ba : Option Addr} {e : TypeId} {xs : List Value} (h : w.ownsRow base e sz (.slice ba m c) n xs) : n ≤ c := by
  rcases h.2 with ⟨hv, hz⟩ | ⟨g, cap, cur, hv, _, _, hc, _⟩
  · omega
  · simp only [Value.slice.injEq] at hv
    omega
theorem own_lower {w : World} {base b' sz n : Nat} {e : TypeId} {v : Value} {xs : List Value} (h : w.ownsRow base e sz v n xs) (hb : b' ≤ base) : w.ownsRow b' e sz v n xs := by
  refine ⟨h.1, ?_⟩
  rcases h.2 with e | ⟨g, cap, cur, hv, hg, hr⟩
  · exact Or.inl e
  · exact Or.inr ⟨g, cap, cur, hv, Nat.le_trans hb hg, hr⟩
theorem Tw.lower {base b' : Nat} {W : World} {ns : List ND} {vl : Value} {zs : List (Int × Value)} (h : Tw base W ns vl zs) (hb : b' ≤ base) : Tw b' W ns vl zs := ⟨own_lower h.row hb, h.z, fun q hq hq' => own_lower (h.p q hq hq') hb⟩
theorem own_setH {w : World} {base sz n H j : Nat} {e : TypeId} {v u : Value} {xs : List Value} (h : w.ownsRow base e sz v n xs) (hH : H < base) : (w.setCell ⟨H, j, none⟩ u).ownsRow base e sz v n xs :=
  own_keep h fun g hg => Below.heap_setCell _ _ _ g (fun e => by have := (own_lt h hg).1; simp at e; omega)
/-- one node more -/
theorem Hn.step {base H : Nat} {W X3 X5 X8 : World} {ns : List ND} {vn vp vn' vp' v2 : Value} {zs : List (Int × Value)} {ls : List Value} {g c : Nat} (h : Hn base W ns vn vp zs ls) (hi : zs.length < ns.length) (hH : H < base) (b3 : Below W.heap.size W X3) (hv2 : v2 = .slice (some ⟨g, 0, none⟩) (ns[zs.length].ps.length + 3) c) (o2 : X3.ownsRow base 3 1 v2 (ns[zs.length].ps.length + 3) (ints (ns[zs.length].ps ++ [701, 702, 703])))
    (o5 : X5.ownsRow base 33 1 vp' (ls.length + 1) (ls ++ [v2])) (g5 : (X3.alloc (.cells #[v2] 33)).grownBy X5 vp.ownBlock)
    (o8 : X8.ownsRow base 59 2 vn' (zs.length + 1) (ndc zs ++ ndc [(ns[zs.length].z, .slice (some ⟨g, 0, none⟩) ns[zs.length].ps.length c)])) (g8 : ((X5.setCell ⟨H, 47, none⟩ vp').alloc (.cells #[.int .i64 ns[zs.length].z, .slice (some ⟨g, 0, none⟩) ns[zs.length].ps.length c] 59)).grownBy X8 vn.ownBlock) :
    Hn base (X8.setCell ⟨H, 46, none⟩ vn') ns vn' vp' (zs ++ [(ns[zs.length].z, .slice (some ⟨g, 0, none⟩) ns[zs.length].ps.length c)]) (ls ++ [v2]) := by
  have h3 := h.keep (W' := X3) fun g _ hg => b3.block g hg
  have b4 : Below X3.heap.size X3 (X3.alloc (.cells #[v2] 33)) := (Below.refl _ _).alloc (Nat.le_refl _) _
  have h4 := h3.keep (W' := X3.alloc (.cells #[v2] 33)) fun g _ hg => b4.block g hg
  have o4 := own_keep (X' := X3.alloc (.cells #[v2] 33)) o2 fun g hg => b4.block g (own_lt o2 hg).2
  have m : ∀ {t : TypeId} {sz n : Nat} {v : Value} {xs : List Value}, t ≠ 33 → t ≠ 59 → (X3.alloc (.cells #[v2] 33)).ownsRow base t sz v n xs → (X8.setCell ⟨H, 46, none⟩ vn').ownsRow base t sz v n xs := fun {t} {sz} {n} {v} {xs} t1 t2 hr => by
    have r5 := own_grown hr g5 (fun g hg e => own_apart hr h4.rp t1 g hg e)
    have r6 := own_setH (j := 47) (u := vp') r5 hH
    have b7 : Below (X5.setCell ⟨H, 47, none⟩ vp').heap.size (X5.setCell ⟨H, 47, none⟩ vp') ((X5.setCell ⟨H, 47, none⟩ vp').alloc (.cells #[.int .i64 ns[zs.length].z, .slice (some ⟨g, 0, none⟩) ns[zs.length].ps.length c] 59)) := (Below.refl _ _).alloc (Nat.le_refl _) _
    have r7 := own_keep r6 fun g hg => b7.block g (own_lt r6 hg).2
    have n5 := own_grown h4.rn g5 (fun g hg e => own_apart h4.rn h4.rp (by decide) g hg e)
    have n6 := own_setH (j := 47) (u := vp') n5 hH
    have n7 := own_keep n6 fun g hg => b7.block g (own_lt n6 hg).2
    have r8 := own_grown r7 g8 (fun g hg e => own_apart r7 n7 t2 g hg e)
    exact own_setH (j := 46) (u := vn') r8 hH
  have p8 : (X8.setCell ⟨H, 46, none⟩ vn').ownsRow base 33 1 vp' (ls.length + 1) (ls ++ [v2]) := by
    have r6 := own_setH (j := 47) (u := vp') o5 hH
    have b7 : Below (X5.setCell ⟨H, 47, none⟩ vp').heap.size (X5.setCell ⟨H, 47, none⟩ vp') ((X5.setCell ⟨H, 47, none⟩ vp').alloc (.cells #[.int .i64 ns[zs.length].z, .slice (some ⟨g, 0, none⟩) ns[zs.length].ps.length c] 59)) := (Below.refl _ _).alloc (Nat.le_refl _) _
    have r7 := own_keep r6 fun g hg => b7.block g (own_lt r6 hg).2
    have n5 := own_grown h4.rn g5 (fun g hg e => own_apart h4.rn h4.rp (by decide) g hg e)
    have n6 := own_setH (j := 47) (u := vp') n5 hH
    have n7 := own_keep n6 fun g hg => b7.block g (own_lt n6 hg).2
    exact own_setH (j := 46) (u := vn') (own_grown r7 g8 (fun g hg e => own_apart r7 n7 (by decide) g hg e)) hH
  refine ⟨by simp [h.len], ?_, ?_, fun q hq hq' => ?_, fun q hq h1 hq' => ?_⟩
  · rw [List.length_append, ndc_append]
    exact own_setH o8 hH
  · rw [List.length_append]
    exact p8
  · by_cases hql : q < zs.length
    · rw [List.getElem_append_left hql]
      exact h.z q hql hq'
    · have hqe : q = zs.length := by simp at hq; omega
      subst hqe
      simp
  · by_cases hql : q < zs.length
    · have hql1 : q < ls.length := by have := h.len; omega
      obtain ⟨g', c', e1, e2, oo⟩ := h4.l q hql hql1 hq'
      refine ⟨g', c', ?_, ?_, ?_⟩
      · rw [List.getElem_append_left hql]; exact e1
      · rw [List.getElem_append_left hql1]; exact e2
      · rw [List.getElem_append_left hql1]
        exact m (by decide) (by decide) oo
    · have hqe : q = zs.length := by simp at hq; omega
      subst hqe
      have hle := h.len
      refine ⟨g, c, by simp, ?_, ?_⟩
      · rw [List.getElem_append_right (by omega)]
        simp [hle, hv2]
      · rw [List.getElem_append_right (by omega)]
        simp only [hle, Nat.sub_self, List.getElem_cons_zero]
        exact m (by decide) (by decide) o4
def mk2 : List (Int × Value) := [(801, .slice none 0 0), (802, .slice none 0 0)]
theorem mk2_cells (w : World) : ∀ j u, (ndc mk2)[j]? = some u → (w.alloc (.cells #[.int .i64 801, .slice none 0 0, .int .i64 802, .slice none 0 0] 59)).cell? ((⟨w.heap.size, 0, none⟩ : Addr).add j) = some u := by
  intro j u hj
  have e := heap_last w (.cells #[.int .i64 801, .slice none 0 0, .int .i64 802, .slice none 0 0] 59)
  match j, hj with
  | 0, hj => simp [ndc, mk2] at hj; subst hj; rw [add_pl]; unfold World.cell?; rw [e]; rfl
  | 1, hj => simp [ndc, mk2] at hj; subst hj; rw [add_pl]; unfold World.cell?; rw [e]; rfl
  | 2, hj => simp [ndc, mk2] at hj; subst hj; rw [add_pl]; unfold World.cell?; rw [e]; rfl
  | 3, hj => simp [ndc, mk2] at hj; subst hj; rw [add_pl]; unfold World.cell?; rw [e]; rfl
  | (j + 4), hj => simp [ndc, mk2] at hj
theorem mk2_one : ∀ u ∈ ndc mk2, u.oneCell' = true := by
  intro u hu
  simp [ndc, mk2] at hu
  rcases hu with rfl | rfl | rfl | rfl <;> rfl
end Go.Proofs.YtanlnelfbfjelaaDoor
