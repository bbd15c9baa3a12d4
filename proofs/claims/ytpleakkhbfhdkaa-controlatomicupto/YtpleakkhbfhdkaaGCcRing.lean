import Derived.Test.YtpleakkhbfhdkaaGGmMade
import Derived.Test.YtpleakkhbfhdkaaGGcTwin
import Derived.Test.YtpleakkhbfhdkaaGGcName
import Derived.Test.YtpleakkhbfhdkaaCcAns
import Derived.Test.YtpleakkhbfhdkaaGCgTaken
namespace Go.Proofs.Ytpleakkhbfhdkaa
open Go.RowKit
set_option maxHeartbeats 8000000 in
set_option maxRecDepth 100000 in
set_option linter.unusedSimpArgs false in
set_option linter.unusedVariables false in
theorem twin15_any (N : Nat) (w : World) (st : ByteArray) (x : Nat → Int) (ao : Option Addr) (b o cap : Nat) (pv : Nat → Value) (ns : List ND) (h : NsAt N w ao b o pv ns) (hN : N ≤ w.heap.size) :
    Calls Try.prog 10 #[.agg (clA st x (.slice ao ns.length cap))] w fun e w' => ∃ vl zs, e = .returned (.agg (clA st x vl)) ∧ zs.length = ns.length ∧ Tw (w.heap.size + 2) w' ns vl zs ∧ Below w.heap.size w w' := by
  obtain ⟨W0, hW0⟩ : ∃ W0, W0 = (w.alloc (.cells (clA st x (.slice ao ns.length cap)) 26)).alloc (.cells (clA ⟨#[]⟩ zx (.slice none 0 0)) 26) := ⟨_, rfl⟩
  have B0 : Hid (Below w.heap.size w W0) := by rw [hW0]; exact ((Below.refl _ _).alloc (Nat.le_refl _) _).alloc (by simp) _
  have C0 : Hid (ClAt W0 w.heap.size st x (.slice ao ns.length cap)) := by rw [hW0]; exact (new_cl _ _ _ _).below ((Below.refl _ _).alloc (Nat.le_refl _) _)
  have R0 : Hid (ClAt W0 (w.heap.size + 1) ⟨#[]⟩ zx (.slice none 0 0)) := by
    rw [hW0]
    have := new_cl (w.alloc (.cells (clA st x (.slice ao ns.length cap)) 26)) ⟨#[]⟩ zx (.slice none 0 0)
    simp only [World.size_alloc] at this
    exact this
  have s0 : Hid (W0.heap.size = w.heap.size + 2) := by rw [hW0]; show _ = _; simp
  have HN := hide h
  have hlen := h.len
  clear h
  obtain ⟨i0, hi0, hz0, hz1, hz2⟩ := info_parts infoNd
  go_enter Try.func10, Try.ntmps10
  go_upto_region 1 with fail
  rw [show (w.alloc (.cells (clA st x (.slice ao ns.length cap)) 26)).alloc (.cells #[.string ⟨#[]⟩, .int .i64 0, .int .i64 0, .int .i64 0, .int .i64 0, .int .i64 0, .int .i64 0, .int .i64 0, .int .i64 0, .int .i64 0, .int .i64 0, .int .i64 0, .int .i64 0, .int .i64 0, .int .i64 0, .int .i64 0, .int .i64 0, .int .i64 0, .int .i64 0, .int .i64 0, .int .i64 0, .int .i64 0, .slice none 0 0] 26) = W0 from hW0.symm]
  clear hW0
  go_wp2_with fail
  go_loopw [3, 4] (fun vl vi wr => ∃ (zs : List (Int × Value)), zs.length ≤ ns.length ∧ vi = .int .i64 (zs.length : Int) ∧ Tw W0.heap.size wr ns vl zs ∧ Below W0.heap.size W0 wr) (fun _ vi _ => ns.length - (intOf vi).toNat)
  case atStart => exact ⟨[], Nat.zero_le _, rfl, ⟨World.ownsRow_nil _ _ _ _, fun q hq => absurd hq (Nat.not_lt_zero _), fun q hq => absurd hq (Nat.not_lt_zero _)⟩, Below.refl _ _⟩
  case round =>
    obtain ⟨zs, hq, rfl, hT, hB⟩ := hrel
    have HT := hide hT
    have HB := hide hB
    clear hT hB
    obtain ⟨ba, cp, hv, _⟩ := own_sl HT.out.row
    subst hv
    by_cases hql : zs.length < ns.length
    case pos =>
      have hao := HN.out.at0 (by omega)
      subst hao
      have hqi : (zs.length : Int) < (ns.length : Int) := by omega
      have nvw := (C0.out.below HB.out).nv
      obtain ⟨pa, pb, po, pc, hpv, hp⟩ := HN.out.ps zs.length hql
      have P0 := hide hp
      have hnl : Hid (pa = none → pc = 0) := fun e => HN.out.nl zs.length hql pc (by rw [hpv, e])
      have hpl := hp.len
      have CC : Hid (∀ Y, Below W0.heap.size W0 Y → Y.cell? ⟨w.heap.size, 22, none⟩ = some (.slice (some ⟨b, o, none⟩) ns.length cap) ∧ Y.cell? ⟨b, o + zs.length * 2, none⟩ = some (.int .i64 ns[zs.length].z) ∧ Y.cell? ⟨b, o + zs.length * 2 + 1, none⟩ = some (.slice pa ns[zs.length].ps.length pc)) := fun Y hY => by
        have hN0 := HN.out.below ((B0.out.trans (hY.mono B0.out.size)).mono hN)
        refine ⟨(C0.out.below hY).nv, hN0.cz _ hql, ?_⟩
        rw [← hpv]
        exact hN0.cp _ hql
      have PP : Hid (∀ Y, Below W0.heap.size W0 Y → PsAt N Y pa pb po ns[zs.length].ps) := fun Y hY => P0.out.below ((B0.out.trans (hY.mono B0.out.size)).mono hN)
      clear hpv hp nvw P0
      have TS := hide (fun X1 X3 vl' v1 => HT.out.step (X1 := X1) (X3 := X3) (vl' := vl') (v1 := v1) hql)
      have nvw := (CC.out _ HB.out).1
      generalize hzz : ns[zs.length].z = z at *
      generalize hpp : ns[zs.length].ps = ps at *
      clear hzz hpp
      go_wp2_with fail
      clear nvw
      refine wp_region_held_drew (S := fun Y => Below W0.heap.size W0 Y) (by kernel_rfl) (HB.out.drew) (fun hHeld => ?_)
      refine wpAnyH_take (i := 0) (v := (.slice ba zs.length cp)) rfl (by kernel_rfl) (by kernel_rfl) (by kernel_rfl) (fun _ _ _ h => h) (Or.inl ⟨by rfl, ?_⟩) (by assumption) ?_
      · intro w' hSw
        (try dsimp only at hSw)
        go_simp
      (try simp only [Act.put, List.setIfInBounds_toArray, List.set_cons_zero, List.set_cons_succ])
      refine wpAnyH_take (i := 1) (v := (.pointer (some ⟨w.heap.size, 22, none⟩))) rfl (by kernel_rfl) (by kernel_rfl) (by kernel_rfl) (fun _ _ _ h => h) (Or.inl ⟨by rfl, ?_⟩) (by assumption) ?_
      · intro w' hSw
        (try dsimp only at hSw)
        go_simp
      (try simp only [Act.put, List.setIfInBounds_toArray, List.set_cons_zero, List.set_cons_succ])
      refine wpAnyH_take (i := 2) (v := (.slice (some ⟨b, o, none⟩) ns.length cap)) rfl (by kernel_rfl) (by kernel_rfl) (by kernel_rfl) (fun _ _ _ h => h) (Or.inl ⟨by rfl, ?_⟩) (by assumption) ?_
      · intro w' hSw
        (try dsimp only at hSw)
        (obtain ⟨y1, y2, y3⟩ := CC.out _ hSw; go_simp)
      (try simp only [Act.put, List.setIfInBounds_toArray, List.set_cons_zero, List.set_cons_succ])
      refine wpAnyH_take (i := 3) (v := (.int .i64 (zs.length : Int))) rfl (by kernel_rfl) (by kernel_rfl) (by kernel_rfl) (fun _ _ _ h => h) (Or.inl ⟨by rfl, ?_⟩) (by assumption) ?_
      · intro w' hSw
        (try dsimp only at hSw)
        go_simp
      (try simp only [Act.put, List.setIfInBounds_toArray, List.set_cons_zero, List.set_cons_succ])
      refine wpAnyH_take (i := 4) (v := (.pointer (some ⟨b, o + zs.length * 2, none⟩))) rfl (by kernel_rfl) (by kernel_rfl) (by kernel_rfl) (fun _ _ _ h => h) (Or.inl ⟨by rfl, ?_⟩) (by assumption) ?_
      · intro w' hSw
        (try dsimp only at hSw)
        go_simp
      (try simp only [Act.put, List.setIfInBounds_toArray, List.set_cons_zero, List.set_cons_succ])
      refine wpAnyH_take (i := 5) (v := (.pointer (some ⟨b, o + zs.length * 2, none⟩))) rfl (by kernel_rfl) (by kernel_rfl) (by kernel_rfl) (fun _ _ _ h => h) (Or.inl ⟨by rfl, ?_⟩) (by assumption) ?_
      · intro w' hSw
        (try dsimp only at hSw)
        go_simp
      (try simp only [Act.put, List.setIfInBounds_toArray, List.set_cons_zero, List.set_cons_succ])
      refine wpAnyH_take (i := 6) (v := (.int .i64 z)) rfl (by kernel_rfl) (by kernel_rfl) (by kernel_rfl) (fun _ _ _ h => h) (Or.inl ⟨by rfl, ?_⟩) (by assumption) ?_
      · intro w' hSw
        (try dsimp only at hSw)
        (obtain ⟨y1, y2, y3⟩ := CC.out _ hSw; go_simp)
      (try simp only [Act.put, List.setIfInBounds_toArray, List.set_cons_zero, List.set_cons_succ])
      refine wpAnyH_take (i := 7) (v := (.pointer (some ⟨w.heap.size, 22, none⟩))) rfl (by kernel_rfl) (by kernel_rfl) (by kernel_rfl) (fun _ _ _ h => h) (Or.inl ⟨by rfl, ?_⟩) (by assumption) ?_
      · intro w' hSw
        (try dsimp only at hSw)
        go_simp
      (try simp only [Act.put, List.setIfInBounds_toArray, List.set_cons_zero, List.set_cons_succ])
      refine wpAnyH_take (i := 8) (v := (.slice (some ⟨b, o, none⟩) ns.length cap)) rfl (by kernel_rfl) (by kernel_rfl) (by kernel_rfl) (fun _ _ _ h => h) (Or.inl ⟨by rfl, ?_⟩) (by assumption) ?_
      · intro w' hSw
        (try dsimp only at hSw)
        (obtain ⟨y1, y2, y3⟩ := CC.out _ hSw; go_simp)
      (try simp only [Act.put, List.setIfInBounds_toArray, List.set_cons_zero, List.set_cons_succ])
      refine wpAnyH_take (i := 9) (v := (.int .i64 (zs.length : Int))) rfl (by kernel_rfl) (by kernel_rfl) (by kernel_rfl) (fun _ _ _ h => h) (Or.inl ⟨by rfl, ?_⟩) (by assumption) ?_
      · intro w' hSw
        (try dsimp only at hSw)
        go_simp
      (try simp only [Act.put, List.setIfInBounds_toArray, List.set_cons_zero, List.set_cons_succ])
      refine wpAnyH_take (i := 10) (v := (.pointer (some ⟨b, o + zs.length * 2, none⟩))) rfl (by kernel_rfl) (by kernel_rfl) (by kernel_rfl) (fun _ _ _ h => h) (Or.inl ⟨by rfl, ?_⟩) (by assumption) ?_
      · intro w' hSw
        (try dsimp only at hSw)
        go_simp
      (try simp only [Act.put, List.setIfInBounds_toArray, List.set_cons_zero, List.set_cons_succ])
      refine wpAnyH_take (i := 11) (v := (.pointer (some ⟨b, o + zs.length * 2 + 1, none⟩))) rfl (by kernel_rfl) (by kernel_rfl) (by kernel_rfl) (fun _ _ _ h => h) (Or.inl ⟨by rfl, ?_⟩) (by assumption) ?_
      · intro w' hSw
        (try dsimp only at hSw)
        go_simp
      (try simp only [Act.put, List.setIfInBounds_toArray, List.set_cons_zero, List.set_cons_succ])
      refine wpAnyH_take (i := 12) (v := (.slice pa ps.length pc)) rfl (by kernel_rfl) (by kernel_rfl) (by kernel_rfl) (fun _ _ _ h => h) (Or.inl ⟨by rfl, ?_⟩) (by assumption) ?_
      · intro w' hSw
        (try dsimp only at hSw)
        (have y3 := (CC.out _ hSw).2.2; clear CC PP TS HB HT hHeld; go_simp)
      (try simp only [Act.put, List.setIfInBounds_toArray, List.set_cons_zero, List.set_cons_succ])
      refine wpAnyH_ready (rs := [13]) (by kernel_rfl) (by simp) ?_
      refine AllReadyH.cons rfl (fun K hK => ?_) AllReadyH.nil
      refine itY (by rfl) ?_
      refine wp_copyI wr.drew (.tmp 25) rfl W0.heap.size pc (by kernel_rfl) (PP.out _ HB.out.drew) hnl.out HB.out.size ?_
      intro v1 X1 o1 g1 a1
      have V1 : Hid (∃ ba n c, v1 = .slice ba n c) := by
        obtain ⟨b1, c1, hv1, _⟩ := own_sl o1
        exact ⟨_, _, _, hv1⟩
      have G1 : Hid (Below wr.heap.size wr X1) := ⟨g1.os, g1.tape, g1.output, g1.size, fun i hi => g1.block i hi (by simp)⟩
      have S1 := hide (HB.out.trans (G1.out.mono HB.out.size))
      refine hK.out _ _ (S1.out) (fun hHeld => ?_)
      clear hK
      (try simp only [Act.put, List.setIfInBounds_toArray, List.set_cons_zero, List.set_cons_succ])
      have O1 := hide o1
      have GG := hide g1
      clear o1 g1 a1
      refine wpAnyH_ready (rs := [14]) (by kernel_rfl) (by simp) ?_
      refine AllReadyH.cons rfl (fun K hK => ?_) AllReadyH.nil
      refine itY (by rfl) ?_
      refine wp_exec (exec_buildNv (z := z) (v := v1) V1.out (.tmp 19) (.tmp 26) rfl (by kernel_rfl) (by kernel_rfl)) ?_
      refine hK.out _ _ (S1.out) (fun hHeld => ?_)
      clear hK
      (try simp only [Act.put, List.setIfInBounds_toArray, List.set_cons_zero, List.set_cons_succ])
      refine wpAnyH_ready (rs := [15]) (by kernel_rfl) (by simp) ?_
      refine AllReadyH.cons rfl (fun K hK => ?_) AllReadyH.nil
      refine itY (by rfl) ?_
      refine wp_bsNv (z := z) (v := v1) V1.out (.tmp 27) rfl (by kernel_rfl) ?_
      refine hK.out _ _ ((S1.out.alloc S1.out.size _)) (fun hHeld => ?_)
      clear hK
      (try simp only [Act.put, List.setIfInBounds_toArray, List.set_cons_zero, List.set_cons_succ])
      refine wpAnyH_ready (rs := [16]) (by kernel_rfl) (by simp) ?_
      refine AllReadyH.cons rfl (fun K hK => ?_) AllReadyH.nil
      refine itY (by rfl) ?_
      have T1 : Hid (Tw W0.heap.size (X1.alloc (.cells #[.int .i64 z, v1] 91)) ns (.slice ba zs.length cp) zs) := (HT.out.keep G1.out).keep ((Below.refl _ _).alloc (Nat.le_refl _) _)
      refine wp_append_own (X1.alloc (.cells #[.int .i64 z, v1] 91)) (.tmp 13) (.tmp 28) 24 ?hAo W0.heap.size 91 i0 _ 2 32 Try.underlying24 hi0 hz0 hz1 hz2 ?hAz (by decide) (.slice ba zs.length cp) zs.length (ndc zs) ?hAs T1.out.row ⟨X1.heap.size, 0, none⟩ 1 1 (ndc [(z, v1)]) ?hAx rfl (nd_cells X1 z v1) (nd_one (own_one O1.out)) (by unfold maxLen; omega) (by omega) (by have := S1.out.size; simp; omega) ?hAk
      case hAo => rfl
      case hAz => rfl
      case hAs => kernel_rfl
      case hAx => kernel_rfl
      intro vl' X3 o3 g3 n3
      clear n3
      have T3 := hide (TS.out X1 X3 vl' _ O1.out ⟨GG.out.os, GG.out.tape, GG.out.output, GG.out.size, GG.out.block⟩ o3 g3)
      have S3 : Hid (Below W0.heap.size W0 X3) := (S1.out.alloc S1.out.size _).grown g3 (by have := S1.out.size; simp; omega) (fun j hj => (own_lt T1.out.row hj).1)
      clear o3 g3
      refine hK.out _ _ (S3.out) (fun hHeld => ?_)
      clear hK
      (try simp only [Act.put, List.setIfInBounds_toArray, List.set_cons_zero, List.set_cons_succ])
      refine wpAnyH_ready (rs := [17]) (by kernel_rfl) (by simp) ?_
      refine AllReadyH.cons rfl (fun K hK => ?_) AllReadyH.nil
      go_simp
      refine hK.out _ _ (S3.out) (fun hHeld => ?_)
      clear hK
      (try simp only [Act.put, List.setIfInBounds_toArray, List.set_cons_zero, List.set_cons_succ])
      refine wpAnyH_done (by kernel_rfl) ?_ _
      clear hHeld CC PP TS HT HB O1 GG G1 S1 T1
      go_wp2_with fail
      go_roundw
      case rel => exact ⟨zs ++ [(z, v1)], by simp; omega, by simp, T3.out, S3.out⟩
      case measure => simp [intOf]; omega
    case neg =>
      have hqe : zs.length = ns.length := by omega
      rw [hqe] at HT ⊢
      have hqi : ¬ (ns.length : Int) < (ns.length : Int) := by omega
      have nvw := (C0.out.below HB.out).nv
      obtain ⟨W5, hW5⟩ : ∃ W5, W5 = wr.alloc (.cells (clA st x (.slice ao ns.length cap)) 26) := ⟨_, rfl⟩
      have C5 : Hid (ClAt W5 wr.heap.size st x (.slice ao ns.length cap)) := by rw [hW5]; exact new_cl _ _ _ _
      have B5 : Hid (Below wr.heap.size wr W5) := by rw [hW5]; exact (Below.refl _ _).alloc (Nat.le_refl _) _
      have f5 : W5.frozen? ⟨wr.heap.size, 22, none⟩ = false := by unfold World.frozen?; rw [show W5.heap[wr.heap.size]? = _ from C5.out]; simp
      have n5 := C5.out.nv
      have CW := hide (C0.out.below HB.out)
      go_upto_region 7 with (first | (refine wpList_loadCl rfl (.tmp 1) rfl w.heap.size st x _ rfl CW.out ?_) | (refine wpList_storeCl (w0 := wr) rfl (.tmp 5) (.tmp 30) rfl _ rfl rfl st x _ rfl rfl _ rfl rfl ?_))
      rw [← hW5]
      clear hW5
      have T5 := HT.out.keep B5.out
      obtain ⟨X6, hX6⟩ : ∃ X6, X6 = W5.setCell ⟨wr.heap.size, 22, none⟩ (.slice ba ns.length cp) := ⟨_, rfl⟩
      have C6 : Hid (ClAt X6 wr.heap.size st x (.slice ba ns.length cp)) := by rw [hX6]; exact C5.out.set _
      have B6 : Hid (Below wr.heap.size wr X6) := by rw [hX6]; exact set_below B5.out (Nat.le_refl _)
      have hrs : Hid (w.heap.size + 1 < wr.heap.size) := by have := HB.out.size; have := s0.out; show _ < _; omega
      have R6 : Hid (ClAt X6 (w.heap.size + 1) ⟨#[]⟩ zx (.slice none 0 0)) := (B6.out.block _ hrs.out).trans ((HB.out.block _ (by have := s0.out; omega)).trans R0.out)
      go_upto_region 8 with fail
      rw [← hX6]
      clear hX6 n5 f5 nvw
      go_wp2_with (first | (refine wpList_loadCl rfl (.tmp 5) rfl wr.heap.size st x _ rfl C6.out ?_) | (refine wpList_store_row rfl 26 (.tmp 2) (.tmp 33) rfl (w.heap.size + 1) (clA st x (.slice ba ns.length cp)) rfl rfl 26 _ R6.out infoCl rfl (clA_one st x rfl) ?_))
      have E6 : ClAt (X6.setRow (w.heap.size + 1) (clA st x (.slice ba ns.length cp))) (w.heap.size + 1) st x (.slice ba ns.length cp) := setRow_heap X6 (w.heap.size + 1) _ _ 26 _ R6.out
      have oth : ∀ i, i ≠ w.heap.size + 1 → (X6.setRow (w.heap.size + 1) (clA st x (.slice ba ns.length cp))).heap[i]? = X6.heap[i]? := fun i hi => setRow_other X6 (w.heap.size + 1) i _ (fun e => hi (by first | exact e | exact e.symm))
      have T6 := HT.out.keep B6.out
      have T7 : Tw W0.heap.size (X6.setRow (w.heap.size + 1) (clA st x (.slice ba ns.length cp))) ns (.slice ba ns.length cp) zs := ⟨own_keep T6.row fun g hg => oth g (by have := (own_lt T6.row hg).1; have := s0.out; omega), T6.z, fun q hq hq' => own_keep (T6.p q hq hq') fun g hg => oth g (by have := (own_lt (T6.p q hq hq') hg).1; have := s0.out; omega)⟩
      rw [s0.out] at T7
      have B7 : Below w.heap.size w (X6.setRow (w.heap.size + 1) (clA st x (.slice ba ns.length cp))) := below_setRow (B0.out.trans ((HB.out.trans (B6.out.mono HB.out.size)).mono B0.out.size)) (by omega) _
      refine bodyPost_ret (v := .agg (clA st x (.slice ba ns.length cp))) (res_cl Try.results10 _ st x _ _ (w.heap.size + 1) rfl E6) rfl (by first | exact ⟨_, rfl, zs, hqe, T7, B7⟩ | exact ⟨_, zs, rfl, hqe, T7, B7⟩)
set_option maxRecDepth 100000 in
theorem mod15_any (n m : Int) (h1 : 1 ≤ m) (h2 : m ≤ 1099511627776) (w : World) :
    Calls Try.prog 8 #[.int .i64 n, .int .i64 m] w fun e w' => e = .returned (.int .i64 (n % m)) ∧ w = w' := by
  have HT : Hid ((n.tmod m + m) % m = n % m) := by
    obtain ⟨_, _, t3, t4⟩ := tm_facts n m (by omega)
    have := tm_twice n m (by omega)
    rw [Int.tmod_eq_emod_of_nonneg (by omega)] at this
    exact this
  obtain ⟨_, _, t3, t4⟩ := tm_facts n m (by omega)
  go_enter Try.func8, Try.ntmps8
  go_wp2_with (first | refine wpList_remi rfl (.tmp 5) (.tmp 6) rfl n m rfl rfl (by omega) (by omega) ?_ | refine wpList_addii rfl (.tmp 7) (.tmp 8) rfl (n.tmod m) m rfl rfl (by omega) (by omega) ?_ | refine wpList_remi rfl (.tmp 9) (.tmp 10) rfl (n.tmod m + m) m rfl rfl (by omega) (by omega) ?_)
  go_ret
  exact ⟨by rw [← HT.out]; rfl, rfl⟩
theorem upd_ok {st : ByteArray} {x : Nat → Int} {ns : List ND} {y : Int} (i : Nat) (hi : i = 14 ∨ i = 15 ∨ i = 16) (h : errP st x ns = 0) (h1 : loS i ≤ y) (h2 : y ≤ hiS i) : errP st (upd x i y) ns = 0 := by
  obtain ⟨a1, a2, a3, a4, a5, a6⟩ := errP_all h
  refine valid_errP a1 ?_ a3 a4 (by rw [upd_ne _ _ (by omega)]; exact a5) (by rw [upd_ne _ _ (by omega), upd_ne _ _ (by omega)]; exact a6)
  unfold sfP at a2 ⊢
  rw [Bool.and_eq_true] at a2 ⊢
  constructor
  · rw [List.all_eq_true]
    intro j hj
    by_cases e : j = i
    · subst e
      unfold sfAt
      rw [upd_at]
      simp [h1, h2]
    · have := List.all_eq_true.1 a2.1 j hj
      unfold sfAt at this ⊢
      rw [upd_ne _ _ e]
      exact this
  · have := a2.2
    rw [upd_ne _ _ (by omega), upd_ne _ _ (by omega), upd_ne _ _ (by omega), upd_ne _ _ (by omega)]
    exact this
theorem ClAt.setI {w : World} {b : Nat} {st : ByteArray} {x : Nat → Int} {nv : Value} (h : ClAt w b st x nv) (i : Nat) (hi : i = 14 ∨ i = 15 ∨ i = 16) (y : Int) : ClAt (w.setCell ⟨b, i + 1, none⟩ (.int .i64 y)) b st (upd x i y) nv := by
  unfold ClAt at *
  simp only [World.setCell, Array.getElem?_modify, if_true, h, Option.map_some]
  rcases hi with rfl | rfl | rfl <;> rfl
theorem ClAt.atI {w : World} {b : Nat} {st : ByteArray} {x : Nat → Int} {nv : Value} (h : ClAt w b st x nv) (i : Nat) (hi : i < 21) : w.cell? ⟨b, i + 1, none⟩ = some (.int .i64 (x i)) := by
  unfold World.cell?
  rw [show w.heap[b]? = _ from h]
  exact clA_at st x nv i hi
theorem ClAt.fzI {w : World} {b : Nat} {st : ByteArray} {x : Nat → Int} {nv : Value} (h : ClAt w b st x nv) (i : Nat) : w.frozen? ⟨b, i, none⟩ = false := by
  unfold World.frozen?
  rw [show w.heap[b]? = _ from h]
  simp
theorem Tw.b {base : Nat} {W W' : World} {ns : List ND} {vl : Value} {zs : List (Int × Value)} (h : Tw base W ns vl zs) (hb : Below W.heap.size W W') : Tw base W' ns vl zs := h.keep hb
theorem psNil (N : Nat) (w : World) : PsAt N w none 0 0 [] := ⟨fun h => absurd h (Nat.lt_irrefl 0), fun h => absurd h (Nat.lt_irrefl 0), fun q h => absurd h (Nat.not_lt_zero q), Nat.zero_le _⟩
theorem Tw.kp {base : Nat} {W W' : World} {ns : List ND} {vl : Value} {zs : List (Int × Value)} (h : Tw base W ns vl zs) (oth : ∀ g, base ≤ g → g < W.heap.size → W'.heap[g]? = W.heap[g]?) : Tw base W' ns vl zs :=
  ⟨own_keep h.row fun g hg => oth g (own_lt h.row hg).1 (own_lt h.row hg).2, h.z, fun q hq hq' => own_keep (h.p q hq hq') fun g hg => oth g (own_lt (h.p q hq hq') hg).1 (own_lt (h.p q hq hq') hg).2⟩
set_option maxHeartbeats 8000000 in
set_option maxRecDepth 100000 in
set_option linter.unusedSimpArgs false in
set_option linter.unusedVariables false in
theorem made15_any (w : World) (nodes a b c : Int) :
    Calls Try.prog 7 #[.int .i64 nodes, .agg #[.int .i64 a, .int .i64 b, .int .i64 c]] w fun e w' => ∃ st x ns vl zs base, e = .returned (.agg (clA st x vl)) ∧ zs.length = ns.length ∧ Tw base w' ns vl zs ∧ errP st x ns = 0 ∧ st.size ≤ 40 ∧ x 14 = 1 + a % 1024 ∧ x 15 = 1 + b % 64 ∧ x 16 = 1 + c % 65536 ∧ Below w.heap.size w w' := by
  obtain ⟨W0, hW0⟩ : ∃ W0, W0 = (w.alloc (.cells #[.int .i64 a, .int .i64 b, .int .i64 c] 23)).alloc (.cells (clA ⟨#[]⟩ zx (.slice none 0 0)) 26) := ⟨_, rfl⟩
  have B0 : Hid (Below w.heap.size w W0) := by rw [hW0]; exact ((Below.refl _ _).alloc (Nat.le_refl _) _).alloc (by simp) _
  have T0 : Hid (W0.heap[w.heap.size]? = some (.cells #[.int .i64 a, .int .i64 b, .int .i64 c] 23)) := by
    rw [hW0]
    have := Below.heap_alloc (w.alloc (.cells #[.int .i64 a, .int .i64 b, .int .i64 c] 23)) (.cells (clA ⟨#[]⟩ zx (.slice none 0 0)) 26) w.heap.size (by simp)
    exact this.trans (heap_last w _)
  have R0 : Hid (ClAt W0 (w.heap.size + 1) ⟨#[]⟩ zx (.slice none 0 0)) := by
    rw [hW0]
    have := new_cl (w.alloc (.cells #[.int .i64 a, .int .i64 b, .int .i64 c] 23)) ⟨#[]⟩ zx (.slice none 0 0)
    simp only [World.size_alloc] at this
    exact this
  have s0 : Hid (W0.heap.size = w.heap.size + 2) := by rw [hW0]; show _ = _; simp
  have MA := hide (made_any W0.heap.size W0 nodes 0 0 0 [] [] [] none 0 0 0 none 0 0 0 none 0 0 0 (psNil _ _) (psNil _ _) (psNil _ _) (Nat.le_refl _))
  go_enter Try.func7, Try.ntmps7
  go_upto_region 1 with fail
  rw [show (w.alloc (.cells #[.int .i64 a, .int .i64 b, .int .i64 c] 23)).alloc (.cells #[.string ⟨#[]⟩, .int .i64 0, .int .i64 0, .int .i64 0, .int .i64 0, .int .i64 0, .int .i64 0, .int .i64 0, .int .i64 0, .int .i64 0, .int .i64 0, .int .i64 0, .int .i64 0, .int .i64 0, .int .i64 0, .int .i64 0, .int .i64 0, .int .i64 0, .int .i64 0, .int .i64 0, .int .i64 0, .int .i64 0, .slice none 0 0] 26) = W0 from hW0.symm]
  clear hW0
  go_wp2_with fail
  refine Calls.mono MA.out ?_
  rintro e W1 ⟨st, x, ns, vl, zs, rfl, hz, hT, hE, hs, hb⟩
  have vs : ∃ ba n c, vl = .slice ba n c := by obtain ⟨ba, cap, e, _⟩ := own_sl hT.row; exact ⟨_, _, _, e⟩
  have h1 : vl.oneCell' = true := by obtain ⟨ba, n, c, rfl⟩ := vs; rfl
  obtain ⟨W2, hW2⟩ : ∃ W2, W2 = W1.alloc (.cells (clA st x vl) 26) := ⟨_, rfl⟩
  have b2 : Below W1.heap.size W1 W2 := by rw [hW2]; exact (Below.refl _ W1).alloc (Nat.le_refl _) _
  have C2 : ClAt W2 W1.heap.size st x vl := by rw [hW2]; exact new_cl _ _ _ _
  have H1 := hide h1
  obtain ⟨cB, hcB⟩ : ∃ cB, cB = W1.heap.size := ⟨_, rfl⟩
  have HCB := hide hcB
  rw [← hcB] at C2
  have BW : Hid (Below W0.heap.size W0 W2) := hb.trans (b2.mono hb.size)
  have hTlt : Hid (∀ g, W0.heap.size + 2 ≤ g → g < W1.heap.size → g ≠ cB ∧ g ≠ w.heap.size + 1) := fun g h1 h2 => by have := s0.out; omega
  have clt : Hid (W0.heap.size ≤ cB) := by rw [hcB]; exact hb.size
  have HT := hide (And.intro hT b2)
  have HZ := hide hz
  have HE := hide hE
  have HS := hide hs
  replace hW2 := hide hW2
  have C2' := hide C2
  clear hT hz hE hs hb b2 C2 MA h1 vs hcB
  go_upto_region 2 with (refine wpList_storeCl (w0 := W1) rfl (.tmp 5) (.tmp 8) rfl W1.heap.size (by kernel_rfl) rfl st x vl H1.out (by kernel_rfl) _ rfl rfl ?_)
  rw [← hW2.out, ← HCB.out]
  clear hW2
  have KT0 : Hid (W2.heap[w.heap.size]? = some (.cells #[.int .i64 a, .int .i64 b, .int .i64 c] 23)) := (BW.out.block _ (blk_lt T0.out)).trans T0.out
  have BW2 := BW
  have K0 : Hid (W2.heap[w.heap.size]? = some (.cells #[.int .i64 a, .int .i64 b, .int .i64 c] 23)) := KT0.out
  have t0 : W2.cell? ⟨w.heap.size, 0, none⟩ = some (.int .i64 a) := by unfold World.cell?; rw [K0.out]; rfl
  have MO0 := mod15_any a 1024 (by omega) (by omega) W2
  obtain ⟨q0, hq0⟩ : ∃ q, a % 1024 = q := ⟨_, rfl⟩
  have e01 : 0 ≤ q0 := by rw [← hq0]; exact Int.emod_nonneg _ (by omega)
  have e02 : q0 < 1024 := by rw [← hq0]; exact Int.emod_lt_of_pos _ (by omega)
  rw [hq0] at MO0
  have HQ0 := hide hq0
  clear hq0
  replace MO0 := hide MO0
  have cx0 := C2'.out.atI 14 (by omega)
  have cz0 := C2'.out.fzI 15
  obtain ⟨y0, hy0⟩ : ∃ y, y = 1 + q0 := ⟨_, rfl⟩
  obtain ⟨W3, hW3⟩ : ∃ W, W = W2.setCell ⟨cB, 15, none⟩ (.int .i64 y0) := ⟨_, rfl⟩
  have C3' : Hid (ClAt W3 cB st (upd x 14 y0) vl) := by rw [hW3]; exact C2'.out.setI 14 (by omega) y0
  have BB3 : Hid (∀ g, g ≠ cB → W3.heap[g]? = W2.heap[g]?) := fun g hg => by rw [hW3]; exact Below.heap_setCell _ _ _ g (fun e => hg e)
  have KT1 : Hid (W3.heap[w.heap.size]? = some (.cells #[.int .i64 a, .int .i64 b, .int .i64 c] 23)) := (BB3.out _ (by have := clt.out; have := s0.out; omega)).trans K0.out
  have BW3 : Hid (Below W0.heap.size W0 W3) := by rw [hW3]; exact below_setC BW2.out clt.out
  have HY0 : Hid (y0 = 1 + a % 1024 ∧ 1 ≤ y0 ∧ y0 ≤ 1024) := by rw [HQ0.out]; exact ⟨hy0, by omega, by omega⟩
  replace hW3 := hide hW3
  go_upto_region 3 with (go_at_call 8; refine Calls.mono MO0.out ?_; rintro e w' ⟨rfl, rfl⟩)
  rw [← hy0]
  rw [← hW3.out]
  clear hW3 t0 cx0 cz0 hy0 e01 e02 MO0
  have K1 : Hid (W3.heap[w.heap.size]? = some (.cells #[.int .i64 a, .int .i64 b, .int .i64 c] 23)) := KT1.out
  have t1 : W3.cell? ⟨w.heap.size, 1, none⟩ = some (.int .i64 b) := by unfold World.cell?; rw [K1.out]; rfl
  have MO1 := mod15_any b 64 (by omega) (by omega) W3
  obtain ⟨q1, hq1⟩ : ∃ q, b % 64 = q := ⟨_, rfl⟩
  have e11 : 0 ≤ q1 := by rw [← hq1]; exact Int.emod_nonneg _ (by omega)
  have e12 : q1 < 64 := by rw [← hq1]; exact Int.emod_lt_of_pos _ (by omega)
  rw [hq1] at MO1
  have HQ1 := hide hq1
  clear hq1
  replace MO1 := hide MO1
  have cx1 := C3'.out.atI 15 (by omega)
  have cz1 := C3'.out.fzI 16
  obtain ⟨y1, hy1⟩ : ∃ y, y = 1 + q1 := ⟨_, rfl⟩
  obtain ⟨W4, hW4⟩ : ∃ W, W = W3.setCell ⟨cB, 16, none⟩ (.int .i64 y1) := ⟨_, rfl⟩
  have C4' : Hid (ClAt W4 cB st (upd (upd x 14 y0) 15 y1) vl) := by rw [hW4]; exact C3'.out.setI 15 (by omega) y1
  have BB4 : Hid (∀ g, g ≠ cB → W4.heap[g]? = W3.heap[g]?) := fun g hg => by rw [hW4]; exact Below.heap_setCell _ _ _ g (fun e => hg e)
  have KT2 : Hid (W4.heap[w.heap.size]? = some (.cells #[.int .i64 a, .int .i64 b, .int .i64 c] 23)) := (BB4.out _ (by have := clt.out; have := s0.out; omega)).trans K1.out
  have BW4 : Hid (Below W0.heap.size W0 W4) := by rw [hW4]; exact below_setC BW3.out clt.out
  have HY1 : Hid (y1 = 1 + b % 64 ∧ 1 ≤ y1 ∧ y1 ≤ 64) := by rw [HQ1.out]; exact ⟨hy1, by omega, by omega⟩
  replace hW4 := hide hW4
  go_upto_region 4 with (go_at_call 8; refine Calls.mono MO1.out ?_; rintro e w' ⟨rfl, rfl⟩)
  rw [← hy1]
  rw [← hW4.out]
  clear hW4 t1 cx1 cz1 hy1 e11 e12 MO1
  have K2 : Hid (W4.heap[w.heap.size]? = some (.cells #[.int .i64 a, .int .i64 b, .int .i64 c] 23)) := KT2.out
  have t2 : W4.cell? ⟨w.heap.size, 2, none⟩ = some (.int .i64 c) := by unfold World.cell?; rw [K2.out]; rfl
  have MO2 := mod15_any c 65536 (by omega) (by omega) W4
  obtain ⟨q2, hq2⟩ : ∃ q, c % 65536 = q := ⟨_, rfl⟩
  have e21 : 0 ≤ q2 := by rw [← hq2]; exact Int.emod_nonneg _ (by omega)
  have e22 : q2 < 65536 := by rw [← hq2]; exact Int.emod_lt_of_pos _ (by omega)
  rw [hq2] at MO2
  have HQ2 := hide hq2
  clear hq2
  replace MO2 := hide MO2
  have cx2 := C4'.out.atI 16 (by omega)
  have cz2 := C4'.out.fzI 17
  obtain ⟨y2, hy2⟩ : ∃ y, y = 1 + q2 := ⟨_, rfl⟩
  obtain ⟨W5, hW5⟩ : ∃ W, W = W4.setCell ⟨cB, 17, none⟩ (.int .i64 y2) := ⟨_, rfl⟩
  have C5' : Hid (ClAt W5 cB st (upd (upd (upd x 14 y0) 15 y1) 16 y2) vl) := by rw [hW5]; exact C4'.out.setI 16 (by omega) y2
  have BB5 : Hid (∀ g, g ≠ cB → W5.heap[g]? = W4.heap[g]?) := fun g hg => by rw [hW5]; exact Below.heap_setCell _ _ _ g (fun e => hg e)
  have KT3 : Hid (W5.heap[w.heap.size]? = some (.cells #[.int .i64 a, .int .i64 b, .int .i64 c] 23)) := (BB5.out _ (by have := clt.out; have := s0.out; omega)).trans K2.out
  have BW5 : Hid (Below W0.heap.size W0 W5) := by rw [hW5]; exact below_setC BW4.out clt.out
  have HY2 : Hid (y2 = 1 + c % 65536 ∧ 1 ≤ y2 ∧ y2 ≤ 65536) := by rw [HQ2.out]; exact ⟨hy2, by omega, by omega⟩
  replace hW5 := hide hW5
  go_upto_region 5 with (go_at_call 8; refine Calls.mono MO2.out ?_; rintro e w' ⟨rfl, rfl⟩)
  rw [← hy2]
  rw [← hW5.out]
  clear hW5 t2 cx2 cz2 hy2 e21 e22 MO2
  have R5 : Hid (ClAt W5 (w.heap.size + 1) ⟨#[]⟩ zx (.slice none 0 0)) := (BW5.out.block _ (blk_lt R0.out)).trans R0.out
  go_wp2_with (first | refine wpList_loadCl rfl (.tmp 5) rfl cB st (upd (upd (upd x 14 y0) 15 y1) 16 y2) vl (by kernel_rfl) C5'.out ?_ | (refine wpList_store_row rfl 26 (.tmp 4) (.tmp 24) rfl (w.heap.size + 1) (clA st (upd (upd (upd x 14 y0) 15 y1) 16 y2) vl) rfl rfl 26 _ R5.out infoCl rfl (clA_one st (upd (upd (upd x 14 y0) 15 y1) 16 y2) H1.out) ?_))
  have E6 : ClAt (W5.setRow (w.heap.size + 1) (clA st (upd (upd (upd x 14 y0) 15 y1) 16 y2) vl)) (w.heap.size + 1) st (upd (upd (upd x 14 y0) 15 y1) 16 y2) vl := setRow_heap W5 (w.heap.size + 1) _ _ 26 _ R5.out
  have ok : errP st (upd (upd (upd x 14 y0) 15 y1) 16 y2) ns = 0 := by
    refine upd_ok 16 (by omega) (upd_ok 15 (by omega) (upd_ok 14 (by omega) HE.out ?_ ?_) ?_ ?_) ?_ ?_
    · rw [lo_one (by omega)]; exact HY0.out.2.1
    · exact HY0.out.2.2
    · rw [lo_one (by omega)]; exact HY1.out.2.1
    · exact HY1.out.2.2
    · rw [lo_one (by omega)]; exact HY2.out.2.1
    · exact HY2.out.2.2
  have T7 : Tw (W0.heap.size + 2) (W5.setRow (w.heap.size + 1) (clA st (upd (upd (upd x 14 y0) 15 y1) 16 y2) vl)) ns vl zs := HT.out.1.kp (fun g h1 h2 => by
    have q := hTlt.out g h1 h2
    rw [setRow_other _ _ _ _ q.2, BB5.out g q.1, BB4.out g q.1, BB3.out g q.1]
    exact HT.out.2.block g h2)
  refine bodyPost_ret (v := .agg (clA st (upd (upd (upd x 14 y0) 15 y1) 16 y2) vl)) (res_cl Try.results7 _ st (upd (upd (upd x 14 y0) 15 y1) 16 y2) _ _ (w.heap.size + 1) rfl E6) rfl ⟨st, (upd (upd (upd x 14 y0) 15 y1) 16 y2), ns, vl, zs, _, rfl, HZ.out, T7, ok, HS.out, ?_, ?_, ?_, ?_⟩
  · rw [upd_ne _ _ (by omega), upd_ne _ _ (by omega), upd_at]; exact HY0.out.1
  · rw [upd_ne _ _ (by omega), upd_at]; exact HY1.out.1
  · rw [upd_at]; exact HY2.out.1
  · exact below_setRow (B0.out.trans (BW5.out.mono B0.out.size)) (by omega) _
end Go.Proofs.Ytpleakkhbfhdkaa
namespace Go.Proofs.Ytpleakkhbfhdkaa.Cn
open Go.RowKit
def ct0 (u : Ru) : Ct := ⟨u, 0, none, rp0⟩
def ruX (x : Nat → Int) (ns : List ND) : Ru := ⟨ns.length, x 14, x 15, x 16⟩
theorem ct0_at {w : World} {u : Ru} {C : Nat} (h : w.heap[C]? = some (.cells (ctA (ct0 u) .nilIface (.slice none 0 0) (.slice none 0 0)) 79)) : CtAt w (fun k => k = C) C (ct0 u) :=
  ⟨0, 0, .slice none 0 0, .slice none 0 0, h, fun _ _ e => by simp [ct0] at e, World.ownsRow_nil _ _ _ _, World.ownsRow_nil _ _ _ _, rfl, fun e => absurd rfl e, fun k e => by simp [Value.ownBlock] at e, fun k e => by simp [Value.ownBlock] at e, fun k e => by rw [e]; exact blk_lt h⟩
set_option maxHeartbeats 8000000 in
set_option maxRecDepth 100000 in
set_option linter.unusedSimpArgs false in
set_option linter.unusedVariables false in
theorem New_any (N : Nat) (w : World) (st : ByteArray) (x : Nat → Int) (ao : Option Addr) (b o cap : Nat) (pv : Nat → Value) (ns : List ND) (h : NsAt N w ao b o pv ns) (hN : N ≤ w.heap.size) (hs : st.size ≤ 9223372036854775807) (hE : errP st x ns = 0) :
    Calls Try.prog 16 #[.agg (clA st x (.slice ao ns.length cap))] w fun e w' => ∃ C, e = .returned (.tuple #[.pointer (some ⟨C, 0, none⟩), .int .i64 0]) ∧ w.heap.size ≤ C ∧ CtAt w' (fun k => k = C) C (ct0 (ruX x ns)) ∧ Below w.heap.size w w' := by
  obtain ⟨W0, hW0, hX⟩ := boxed st x cap h hN
  have HX := hide (hX.stand hN)
  have B0 := hide hX.bel
  clear hX h
  have CH := check_any N W0 st x ao b o cap pv ns HX.out.nd HX.out.le hs
  rw [hE] at CH
  replace CH := hide CH
  obtain ⟨u, hu⟩ : ∃ u, u = ruX x ns := ⟨_, rfl⟩
  have hnl : ns.length ≤ 9223372036854775807 := by have := HX.out.nd.len; omega
  have HU := hide hu
  clear hE
  go_enter Try.func16, Try.ntmps16
  go_upto_region 1 with fail
  rw [← hW0]
  clear hW0
  go_wp2_with (refine wpList_loadCl rfl (.tmp 1) rfl w.heap.size st x _ rfl HX.out.cl ?_)
  refine Calls.mono CH.out ?_
  rintro e W1 ⟨rfl, hb⟩
  have C1 := HX.out.cl.below hb
  have c22 := C1.nv
  have c15 : W1.cell? ⟨w.heap.size, 15, none⟩ = some (.int .i64 (x 14)) := C1.atI 14 (by omega)
  have c16 : W1.cell? ⟨w.heap.size, 16, none⟩ = some (.int .i64 (x 15)) := C1.atI 15 (by omega)
  have c17 : W1.cell? ⟨w.heap.size, 17, none⟩ = some (.int .i64 (x 16)) := C1.atI 16 (by omega)
  have B1 := hide (B0.out.trans (hb.mono B0.out.size))
  clear hb CH HX C1
  go_wp2_with (first | refine wpList_blR rfl 79 #[(0, .tmp 19)] rfl (ctA (ct0 u) .nilIface (.slice none 0 0) (.slice none 0 0)) (by rw [hu]; kernel_rfl) ?_)
  go_ret2
  rw [← HU.out]
  exact ⟨W1.heap.size, rfl, B1.out.size, ct0_at (heap_last _ _), B1.out.alloc B1.out.size _⟩
def resC (u : Ru) (j k v : Int) : Ct := entP { ct0 u with num := j } .back (rd0 u j k v)
def resL (u : Ru) (j k v : Int) : List Mg := entL .back (rd0 u j k v)
set_option maxHeartbeats 8000000 in
set_option maxRecDepth 100000 in
set_option linter.unusedSimpArgs false in
set_option linter.unusedVariables false in
theorem mayResume_any (j k v : Int) (op : Bool) (w : World) (j1 : 1 ≤ j) (j2 : j ≤ 9007199254740992) (hk : k = 1 ∨ k = 2) (hv : isV v = true) :
    Calls Try.prog 30 #[.int .i64 j, .int .i64 k, .int .i64 v, .bool op] w fun e w' => e = .returned (.int .i64 0) ∧ w = w' := by
  have IV := isVersion_any v w
  rw [hv] at IV
  replace IV := hide IV
  have q1 : decide (j < 0) = false := decide_eq_false (by omega)
  have q2 : decide (9007199254740992 < j) = false := decide_eq_false (by omega)
  have q3 : (j == 0) = false := by simp; omega
  clear hv
  rcases hk with rfl | rfl
  · cases op with
    | false =>
      go_enter Try.func30, Try.ntmps30
      go_wp2_with fail
      go_ret
      exact ⟨rfl, rfl⟩
    | true =>
      go_enter Try.func30, Try.ntmps30
      go_wp2_with fail
      refine Calls.mono IV.out ?_
      rintro e w1 ⟨rfl, rfl⟩
      go_wp2_with fail
      go_ret
      exact ⟨rfl, rfl⟩
  · cases op with
    | false =>
      go_enter Try.func30, Try.ntmps30
      go_wp2_with fail
      go_ret
      exact ⟨rfl, rfl⟩
    | true =>
      go_enter Try.func30, Try.ntmps30
      go_wp2_with fail
      refine Calls.mono IV.out ?_
      rintro e w1 ⟨rfl, rfl⟩
      go_wp2_with fail
      go_ret
      exact ⟨rfl, rfl⟩
set_option maxHeartbeats 8000000 in
set_option maxRecDepth 100000 in
set_option linter.unusedSimpArgs false in
set_option linter.unusedVariables false in
theorem Resume_no (N : Nat) (w : World) (st : ByteArray) (x : Nat → Int) (ao : Option Addr) (b o cap : Nat) (pv : Nat → Value) (ns : List ND) (h : NsAt N w ao b o pv ns) (hN : N ≤ w.heap.size) (hs : st.size ≤ 9223372036854775807) (hE : errP st x ns = 0) (j k v : Int) (j1 : 1 ≤ j) (j2 : j ≤ 9007199254740992) (hk : k = 1 ∨ k = 2) (hv : isV v = true) :
    Calls Try.prog 9 #[.agg (clA st x (.slice ao ns.length cap)), .int .i64 j, .int .i64 k, .int .i64 v, .bool false] w fun e w' => ∃ C, e = .returned (.tuple #[.pointer (some ⟨C, 0, none⟩), .slice none 0 0, .int .i64 0]) ∧ w.heap.size ≤ C ∧ CtAt w' (fun k => k = C) C { ct0 (ruX x ns) with num := j } ∧ Below w.heap.size w w' := by
  obtain ⟨W0, hW0, hX⟩ := boxed st x cap h hN
  have HX := hide (hX.stand hN)
  have B0 := hide hX.bel
  clear hX h
  have NE := hide (New_any N W0 st x ao b o cap pv ns HX.out.nd HX.out.le hs hE)
  have MR := hide (fun w => mayResume_any j k v false w j1 j2 hk hv)
  clear hE hk hv
  go_enter Try.func9, Try.ntmps9
  go_upto_region 1 with fail
  rw [← hW0]
  clear hW0
  go_wp2_with (refine wpList_loadCl rfl (.tmp 5) rfl w.heap.size st x _ rfl HX.out.cl ?_)
  refine Calls.mono NE.out ?_
  rintro e W1 ⟨C, rfl, hC, hX1, hb⟩
  have X1 := hide hX1
  have B1 := hide (B0.out.trans (hb.mono B0.out.size))
  have HC : Hid (w.heap.size ≤ C) := Nat.le_trans B0.out.size hC
  have c4 : ∃ q, W1.cell? ⟨C, 4, none⟩ = some (.int .i64 q) ∧ W1.frozen? ⟨C, 4, none⟩ = false := by
    obtain ⟨P, A, hv, mv, h⟩ := hX1
    exact ⟨_, h.cells.2.2.2.2.1, h.setNo 4⟩
  obtain ⟨q4, c4, z4⟩ := c4
  clear hX1 hb hC NE HX
  go_upto_region 4 with fail
  go_upto_region 5 with (go_at_call 30; refine Calls.mono (MR.out _) ?_; rintro e w9 ⟨rfl, rfl⟩)
  go_wp2_with fail
  go_ret3
  refine ⟨C, rfl, HC.out, X1.out.setNum j, ?_⟩
  exact ((Kp.of_below B1.out non).set (Or.inr HC.out) _ _).below
set_option maxHeartbeats 8000000 in
set_option maxRecDepth 100000 in
set_option linter.unusedSimpArgs false in
set_option linter.unusedVariables false in
theorem Resume_yes (N : Nat) (w : World) (st : ByteArray) (x : Nat → Int) (ao : Option Addr) (b o cap : Nat) (pv : Nat → Value) (ns : List ND) (h : NsAt N w ao b o pv ns) (hN : N ≤ w.heap.size) (hs : st.size ≤ 9223372036854775807) (hE : errP st x ns = 0) (n1 : 1 ≤ ns.length) (n16 : ns.length ≤ 16) (j k v : Int) (j1 : 1 ≤ j) (j2 : j ≤ 9007199254740992) (hk : k = 1 ∨ k = 2) (hv : isV v = true) :
    Calls Try.prog 9 #[.agg (clA st x (.slice ao ns.length cap)), .int .i64 j, .int .i64 k, .int .i64 v, .bool true] w fun e w' => ∃ C lv, e = .returned (.tuple #[.pointer (some ⟨C, 0, none⟩), lv, .int .i64 0]) ∧ Did w w' (fun _ => False) C (resC (ruX x ns) j k v) lv (resL (ruX x ns) j k v) := by
  obtain ⟨W0, hW0, hX⟩ := boxed st x cap h hN
  have HX := hide (hX.stand hN)
  have B0 := hide hX.bel
  clear hX h
  have NE := hide (New_any N W0 st x ao b o cap pv ns HX.out.nd HX.out.le hs hE)
  have MR := hide (fun w => mayResume_any j k v true w j1 j2 hk hv)
  have N1 : Hid (1 ≤ (ruX x ns).n ∧ (ruX x ns).n ≤ 16) := ⟨n1, n16⟩
  obtain ⟨u, hu⟩ : ∃ u, u = ruX x ns := ⟨_, rfl⟩
  rw [← hu] at NE N1 ⊢
  clear hE hk hv hu n1 n16
  go_enter Try.func9, Try.ntmps9
  go_upto_region 1 with fail
  rw [← hW0]
  clear hW0
  go_wp2_with (refine wpList_loadCl rfl (.tmp 5) rfl w.heap.size st x _ rfl HX.out.cl ?_)
  refine Calls.mono NE.out ?_
  rintro e W1 ⟨C, rfl, hC, hX1, hb⟩
  have B1 := hide (B0.out.trans (hb.mono B0.out.size))
  have HC : Hid (w.heap.size ≤ C) := Nat.le_trans B0.out.size hC
  have c4 : ∃ q, W1.cell? ⟨C, 4, none⟩ = some (.int .i64 q) ∧ W1.frozen? ⟨C, 4, none⟩ = false := by
    obtain ⟨P, A, hv, mv, h⟩ := hX1
    exact ⟨_, h.cells.2.2.2.2.1, h.setNo 4⟩
  obtain ⟨q4, c4, z4⟩ := c4
  obtain ⟨W2, hW2⟩ : ∃ W2, W2 = W1.setCell ⟨C, 4, none⟩ (.int .i64 j) := ⟨_, rfl⟩
  have X2 : Hid (CtAt W2 (fun k => k = C) C { ct0 u with num := j }) := by rw [hW2]; exact hX1.setNum j
  have K2 : Hid (Kp w W2 non) := by rw [hW2]; exact (Kp.of_below B1.out non).set (Or.inr HC.out) _ _
  have RO := hide (round_any X2.out N1.out.1 N1.out.2 k v)
  replace hW2 := hide hW2
  clear hX1 hb hC NE HX
  go_upto_region 4 with fail
  go_upto_region 5 with (go_at_call 30; refine Calls.mono (MR.out _) ?_; rintro e w9 ⟨rfl, rfl⟩)
  go_upto_region 8 with fail
  rw [← hW2.out]
  clear hW2 c4 z4
  go_wp2_with fail
  refine Calls.mono RO.out ?_
  rintro e W3 ⟨A', rfl, hA, hle, hb3⟩
  have er : rd0 ({ ct0 u with num := j } : Ct).ru ({ ct0 u with num := j } : Ct).num k v = rd0 u j k v := rfl
  have eu : ({ ct0 u with num := j } : Ct).ru = u := rfl
  rw [er] at hA ⊢
  rw [eu]
  obtain ⟨rr, hrr⟩ : ∃ rr, rr = rd0 u j k v := ⟨_, rfl⟩
  obtain ⟨W4, hW4⟩ : ∃ W4, W4 = W3.alloc (.cells (rdA u (rd0 u j k v) A') 89) := ⟨_, rfl⟩
  have b4 : Below W3.heap.size W3 W4 := by rw [hW4]; exact (Below.refl _ W3).alloc (Nat.le_refl _) _
  have X4 : CtAt W4 (fun k => k = C) C { ct0 u with num := j } := (X2.out.below hb3).below b4
  have R4 : RdAt W4 W3.heap.size A' Ph.back.ty u (rd0 u j k v) := by rw [hW4]; exact rdat_new .back hA
  have EN := hide (enter_any (p := .back) X4 R4 N1.out.2 (Int.le_refl _) (by show (0 : Int) ≤ _; omega))
  have PT : (Ph.back).pt = 81 := rfl
  rw [PT] at EN
  have SZ : Hid (A' < W3.heap.size ∧ w.heap.size ≤ A' ∧ W4.heap.size = W3.heap.size + 1 ∧ w.heap.size ≤ W3.heap.size ∧ C < W3.heap.size) := by
    have a1 := K2.out.size
    have a2 := hb3.size
    have a3 : C < W2.heap.size := X2.out.lt C rfl
    refine ⟨blk_lt hA, by omega, by rw [hW4]; exact World.size_alloc _ _, by omega, by omega⟩
  have K4 : Hid (Kp w W4 non) := (K2.out.trans (Kp.of_below hb3 non) (fun _ f => f.elim)).trans (Kp.of_below b4 non) (fun _ f => f.elim)
  replace hW4 := hide hW4
  replace hrr := hide hrr
  rw [← hrr.out]
  rw [← hrr.out] at hW4
  clear er eu PT b4 X4 R4 hA hle hb3 RO X2
  go_wp2_with (refine wpList_blR rfl 89 #[(0, .tmp 44)] rfl (rdA u rr A') (by kernel_rfl) ?_)
  rw [← hW4.out]
  refine Calls.mono EN.out ?_
  rintro e W5 ⟨lv, rfl, x5, k5, o5⟩
  have DI : Hid (Did w W5 (fun _ => False) C (resC u j k v) lv (resL u j k v)) := by
    have z := SZ.out
    refine ⟨_, x5, fun q e => Or.inr ?_, K4.out.trans k5 (fun q e => Or.inr ?_), own_mono o5 (by omega), fun q hq e => ?_⟩
    · rcases e with e | e | e
      · rw [e]; exact HC.out
      · omega
      · omega
    · rcases e with e | e | e
      · rw [e]; exact HC.out
      · omega
      · omega
    · have g := own_ge o5 hq
      rcases e with e | e | e
      · omega
      · omega
      · omega
  clear x5 k5 o5 EN
  go_wp2_with fail
  go_ret3
  exact ⟨C, lv, rfl, DI.out⟩
end Go.Proofs.Ytpleakkhbfhdkaa.Cn
namespace Go.Proofs.Ytpleakkhbfhdkaa.Cn
open Go.RowKit
theorem fine_beg {c : Ct} (h : c.fine) (hp : c.ph = none) (hm : c.num + 1 ≤ 9007199254740992) (k v : Int) : (begC c k v).fine := by
  have h' : ({ c with num := c.num + 1 } : Ct).fine := ⟨h.n1, h.n16, h.rs1, h.rs2, h.lm1, h.lm2, h.pt1, h.pt2, by have := h.nu0; show 0 ≤ c.num + 1; omega, hm, fun p r e => absurd ((show ({ c with num := c.num + 1 } : Ct).ph = none from hp).symm.trans e) (by simp), h.la⟩
  exact fine_ent h' _ _ _
theorem Did.keep {w w' : World} {S : Nat → Prop} {C : Nat} {c : Ct} {v : Value} {L : List Mg} (h : Did w w' S C c v L) {b : Nat} {o : Obj} (hb : w.heap[b]? = some o) (hs : ¬ S b) : w'.heap[b]? = some o := by
  obtain ⟨_, _, _, k, _, _⟩ := h
  exact getL k hb hs
end Go.Proofs.Ytpleakkhbfhdkaa.Cn
