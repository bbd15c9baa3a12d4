import Derived.Test.YtioiphonajinmaaDoorGGcApp
namespace Go.Proofs.YtioiphonajinmaaDoor
open Go.RowKit
theorem mark_cells (w : World) : ∀ j u, (ints [701, 702, 703])[j]? = some u → (w.alloc (.cells #[.int .i64 701, .int .i64 702, .int .i64 703] 3)).cell? ((⟨w.heap.size, 0, none⟩ : Addr).add j) = some u := by
  intro j u hj
  have e := heap_last w (.cells #[.int .i64 701, .int .i64 702, .int .i64 703] 3)
  match j, hj with
  | 0, hj => simp [ints] at hj; subst hj; rw [add_pl]; unfold World.cell?; rw [e]; rfl
  | 1, hj => simp [ints] at hj; subst hj; rw [add_pl]; unfold World.cell?; rw [e]; rfl
  | 2, hj => simp [ints] at hj; subst hj; rw [add_pl]; unfold World.cell?; rw [e]; rfl
  | (j + 3), hj => simp [ints] at hj
theorem sl_cells (w : World) (v : Value) : ∀ j u, [v][j]? = some u → (w.alloc (.cells #[v] 22)).cell? ((⟨w.heap.size, 0, none⟩ : Addr).add j) = some u := cell_one_new w v 22
theorem own_some {w : World} {base sz n : Nat} {e : TypeId} {v : Value} {xs : List Value} (h : w.ownsRow base e sz v n xs) (hn : 0 < n) : ∃ g cap, v = .slice (some ⟨g, 0, none⟩) n cap := by
  rcases h.2 with ⟨hv, hz⟩ | ⟨g, cap, cur, hv, _⟩
  · omega
  · exact ⟨_, _, hv⟩
set_option maxRecDepth 100000 in
theorem run_cut (w : World) (g n k c : Nat) (hk : k ≤ c) : (Instr.sliceAt 22 (.slice (some ⟨g, 0, none⟩) n c) none (some (.int .i64 (k : Int))) none).run Tryd.prog w = .ok (.slice (some ⟨g, 0, none⟩) k c) w := by
  have h1 : (k : Int) ≤ (c : Int) := by omega
  have h2 : (0 : Int) ≤ (k : Int) := by omega
  go_simp
theorem exec_cut {ρ : Operand → Value} {op : Oper} {w : World} {g n k c : Nat} (hk : k ≤ c) (x y : Operand) (ho : op.op = .slice 22 x none (some y) none) (hx : ρ x = .slice (some ⟨g, 0, none⟩) n c) (hy : ρ y = .int .i64 (k : Int)) : (execOp ρ op).run Tryd.prog w = .ok (.value (.slice (some ⟨g, 0, none⟩) k c)) w := by
  unfold execOp
  simp only [ho, hx, hy, Option.map_none, Option.map_some, Sem.run_bind, run_cut w g n k c hk, Result.andThen_ok, Sem.run_pure]
theorem own_cap {w : World} {base sz n m c : Nat} {ba : Option Addr} {e : TypeId} {xs : List Value} (h : w.ownsRow base e sz (.slice ba m c) n xs) : n ≤ c := by
  rcases h.2 with ⟨hv, hz⟩ | ⟨g, cap, cur, hv, _, _, hc, _⟩
  · omega
  · simp only [Value.slice.injEq] at hv
    omega
theorem own_lower {w : World} {base b' sz n : Nat} {e : TypeId} {v : Value} {xs : List Value} (h : w.ownsRow base e sz v n xs) (hb : b' ≤ base) : w.ownsRow b' e sz v n xs := by
  refine ⟨h.1, ?_⟩
  rcases h.2 with e | ⟨g, cap, cur, hv, hg, hr⟩
  · exact Or.inl e
  · exact Or.inr ⟨g, cap, cur, hv, Nat.le_trans hb hg, hr⟩
theorem Tw.lower {base b' : Nat} {W : World} {ns : List ND} {vl : Value} {zs : List (Int × Value)} (h : Tw base W ns vl zs) (hb : b' ≤ base) : Tw b' W ns vl zs := ⟨own_lower h.row hb, h.z, fun q hq hq' => own_lower (h.p q hq hq') hb⟩
theorem own_setH {w : World} {base sz n H j : Nat} {e : TypeId} {v u : Value} {xs : List Value} (h : w.ownsRow base e sz v n xs) (hH : H < base) : (w.setCell ⟨H, j, none⟩ u).ownsRow base e sz v n xs :=
  own_keep h fun g hg => Below.heap_setCell _ _ _ g (fun e => by have := (own_lt h hg).1; simp at e; omega)
/-- one node more -/
theorem Hn.step {base H : Nat} {W X3 X5 X8 : World} {ns : List ND} {vn vp vn' vp' v2 : Value} {zs : List (Int × Value)} {ls : List Value} {g c : Nat} (h : Hn base W ns vn vp zs ls) (hi : zs.length < ns.length) (hH : H < base) (b3 : Below W.heap.size W X3) (hv2 : v2 = .slice (some ⟨g, 0, none⟩) (ns[zs.length].ps.length + 3) c) (o2 : X3.ownsRow base 3 1 v2 (ns[zs.length].ps.length + 3) (ints (ns[zs.length].ps ++ [701, 702, 703])))
    (o5 : X5.ownsRow base 22 1 vp' (ls.length + 1) (ls ++ [v2])) (g5 : (X3.alloc (.cells #[v2] 22)).grownBy X5 vp.ownBlock)
    (o8 : X8.ownsRow base 38 2 vn' (zs.length + 1) (ndc zs ++ ndc [(ns[zs.length].z, .slice (some ⟨g, 0, none⟩) ns[zs.length].ps.length c)])) (g8 : ((X5.setCell ⟨H, 47, none⟩ vp').alloc (.cells #[.int .i64 ns[zs.length].z, .slice (some ⟨g, 0, none⟩) ns[zs.length].ps.length c] 38)).grownBy X8 vn.ownBlock) :
    Hn base (X8.setCell ⟨H, 46, none⟩ vn') ns vn' vp' (zs ++ [(ns[zs.length].z, .slice (some ⟨g, 0, none⟩) ns[zs.length].ps.length c)]) (ls ++ [v2]) := by
  have h3 := h.keep (W' := X3) fun g _ hg => b3.block g hg
  have b4 : Below X3.heap.size X3 (X3.alloc (.cells #[v2] 22)) := (Below.refl _ _).alloc (Nat.le_refl _) _
  have h4 := h3.keep (W' := X3.alloc (.cells #[v2] 22)) fun g _ hg => b4.block g hg
  have o4 := own_keep (X' := X3.alloc (.cells #[v2] 22)) o2 fun g hg => b4.block g (own_lt o2 hg).2
  have m : ∀ {t : TypeId} {sz n : Nat} {v : Value} {xs : List Value}, t ≠ 22 → t ≠ 38 → (X3.alloc (.cells #[v2] 22)).ownsRow base t sz v n xs → (X8.setCell ⟨H, 46, none⟩ vn').ownsRow base t sz v n xs := fun {t} {sz} {n} {v} {xs} t1 t2 hr => by
    have r5 := own_grown hr g5 (fun g hg e => own_apart hr h4.rp t1 g hg e)
    have r6 := own_setH (j := 47) (u := vp') r5 hH
    have b7 : Below (X5.setCell ⟨H, 47, none⟩ vp').heap.size (X5.setCell ⟨H, 47, none⟩ vp') ((X5.setCell ⟨H, 47, none⟩ vp').alloc (.cells #[.int .i64 ns[zs.length].z, .slice (some ⟨g, 0, none⟩) ns[zs.length].ps.length c] 38)) := (Below.refl _ _).alloc (Nat.le_refl _) _
    have r7 := own_keep r6 fun g hg => b7.block g (own_lt r6 hg).2
    have n5 := own_grown h4.rn g5 (fun g hg e => own_apart h4.rn h4.rp (by decide) g hg e)
    have n6 := own_setH (j := 47) (u := vp') n5 hH
    have n7 := own_keep n6 fun g hg => b7.block g (own_lt n6 hg).2
    have r8 := own_grown r7 g8 (fun g hg e => own_apart r7 n7 t2 g hg e)
    exact own_setH (j := 46) (u := vn') r8 hH
  have p8 : (X8.setCell ⟨H, 46, none⟩ vn').ownsRow base 22 1 vp' (ls.length + 1) (ls ++ [v2]) := by
    have r6 := own_setH (j := 47) (u := vp') o5 hH
    have b7 : Below (X5.setCell ⟨H, 47, none⟩ vp').heap.size (X5.setCell ⟨H, 47, none⟩ vp') ((X5.setCell ⟨H, 47, none⟩ vp').alloc (.cells #[.int .i64 ns[zs.length].z, .slice (some ⟨g, 0, none⟩) ns[zs.length].ps.length c] 38)) := (Below.refl _ _).alloc (Nat.le_refl _) _
    have r7 := own_keep r6 fun g hg => b7.block g (own_lt r6 hg).2
    have n5 := own_grown h4.rn g5 (fun g hg e => own_apart h4.rn h4.rp (by decide) g hg e)
    have n6 := own_setH (j := 47) (u := vp') n5 hH
    have n7 := own_keep n6 fun g hg => b7.block g (own_lt n6 hg).2
    exact own_setH (j := 46) (u := vn') (own_grown r7 g8 (fun g hg e => own_apart r7 n7 (by decide) g hg e)) hH
  refine ⟨by simp [h.len], ?_, ?_, fun q hq hq' => ?_, fun q hq h1 hq' => ?_⟩
  · rw [List.length_append, ndc_append]
    exact own_setH o8 hH
  · rw [List.length_append]
    exact p8
  · by_cases hql : q < zs.length
    · rw [List.getElem_append_left hql]
      exact h.z q hql hq'
    · have hqe : q = zs.length := by simp at hq; omega
      subst hqe
      simp
  · by_cases hql : q < zs.length
    · have hql1 : q < ls.length := by have := h.len; omega
      obtain ⟨g', c', e1, e2, oo⟩ := h4.l q hql hql1 hq'
      refine ⟨g', c', ?_, ?_, ?_⟩
      · rw [List.getElem_append_left hql]; exact e1
      · rw [List.getElem_append_left hql1]; exact e2
      · rw [List.getElem_append_left hql1]
        exact m (by decide) (by decide) oo
    · have hqe : q = zs.length := by simp at hq; omega
      subst hqe
      have hle := h.len
      refine ⟨g, c, by simp, ?_, ?_⟩
      · rw [List.getElem_append_right (by omega)]
        simp [hle, hv2]
      · rw [List.getElem_append_right (by omega)]
        simp only [hle, Nat.sub_self, List.getElem_cons_zero]
        exact m (by decide) (by decide) o4
def mk2 : List (Int × Value) := [(801, .slice none 0 0), (802, .slice none 0 0)]
theorem mk2_cells (w : World) : ∀ j u, (ndc mk2)[j]? = some u → (w.alloc (.cells #[.int .i64 801, .slice none 0 0, .int .i64 802, .slice none 0 0] 38)).cell? ((⟨w.heap.size, 0, none⟩ : Addr).add j) = some u := by
  intro j u hj
  have e := heap_last w (.cells #[.int .i64 801, .slice none 0 0, .int .i64 802, .slice none 0 0] 38)
  match j, hj with
  | 0, hj => simp [ndc, mk2] at hj; subst hj; rw [add_pl]; unfold World.cell?; rw [e]; rfl
  | 1, hj => simp [ndc, mk2] at hj; subst hj; rw [add_pl]; unfold World.cell?; rw [e]; rfl
  | 2, hj => simp [ndc, mk2] at hj; subst hj; rw [add_pl]; unfold World.cell?; rw [e]; rfl
  | 3, hj => simp [ndc, mk2] at hj; subst hj; rw [add_pl]; unfold World.cell?; rw [e]; rfl
  | (j + 4), hj => simp [ndc, mk2] at hj
theorem mk2_one : ∀ u ∈ ndc mk2, u.oneCell' = true := by
  intro u hu
  simp [ndc, mk2] at hu
  rcases hu with rfl | rfl | rfl | rfl <;> rfl
/-- what was handed in, ready: the definition's own lists with their marks, and its twin -/
structure Handd (base H : Nat) (W : World) (st : ByteArray) (x : Nat → Int) (ns : List ND) (vl vp : Value) (gn cn : Nat) (zs : List (Int × Value)) (ls : List Value) : Prop where
  hd : HdAt W H st x (.slice (some ⟨gn, 0, none⟩) ns.length cn) vl (.slice (some ⟨gn, 0, none⟩) (ns.length + 2) cn) vp
  zl : zs.length = ns.length
  ll : ls.length = ns.length
  rn : W.ownsRow base 38 2 (.slice (some ⟨gn, 0, none⟩) (ns.length + 2) cn) (ns.length + 2) (ndc (zs ++ mk2))
  rp : W.ownsRow base 22 1 vp ns.length ls
  z : ∀ (q : Nat) (h : q < zs.length) (h' : q < ns.length), zs[q].1 = ns[q].z
  l : ∀ (q : Nat) (h : q < zs.length) (h1 : q < ls.length) (h' : q < ns.length), ∃ g c, zs[q].2 = .slice (some ⟨g, 0, none⟩) ns[q].ps.length c ∧ ls[q] = .slice (some ⟨g, 0, none⟩) (ns[q].ps.length + 3) c ∧ W.ownsRow base 3 1 ls[q] (ns[q].ps.length + 3) (ints (ns[q].ps ++ [701, 702, 703]))
set_option maxHeartbeats 8000000 in
set_option maxRecDepth 100000 in
set_option linter.unusedSimpArgs false in
set_option linter.unusedVariables false in
theorem hand_any (N : Nat) (w : World) (st : ByteArray) (x : Nat → Int) (ao : Option Addr) (b o cap : Nat) (pv : Nat → Value) (ns : List ND) (h : NsAt N w ao b o pv ns) (hN : N ≤ w.heap.size) :
    Calls Tryd.prog 13 #[.agg (clA st x (.slice ao ns.length cap))] w fun e w' => ∃ H vl vp gn cn zs ls zt, e = .returned (.pointer (some ⟨H, 0, none⟩)) ∧ Handd (H + 1) H w' st x ns vl vp gn cn zs ls ∧ zt.length = ns.length ∧ Tw 0 w' ns vl zt ∧ w.heap.size ≤ H ∧ Below w.heap.size w w' := by
  obtain ⟨W0, hW0, hX⟩ := boxed st x cap h hN
  have HX := hide (hX.stand hN)
  have B0 := hide hX.bel
  clear hX
  have HN := hide h
  have hlen := h.len
  clear h
  have TW := hide (twin_any N W0.drew st x ao b o cap pv ns (HX.out.nd.below ((Below.refl _ W0).drew.mono HX.out.le)) HX.out.le)
  have CC : Hid (∀ Y, Below W0.heap.size W0 Y → ClAt Y w.heap.size st x (.slice ao ns.length cap)) := fun Y hY => HX.out.cl.below hY
  obtain ⟨i0, hi0, hz0, hz1, hz2⟩ := info_parts infoNd
  obtain ⟨j0, hj0, hy0, hy1, hy2⟩ := info_parts infoPl
  obtain ⟨k0, hk0, hx0, hx1, hx2⟩ := info_parts infoInt
  go_enter Tryd.func13, Tryd.ntmps13
  go_upto_region 1 with fail
  rw [← hW0]
  clear hW0
  refine wp_region_held_drew (S := fun Y => Below W0.heap.size W0 Y) (by kernel_rfl) ((Below.refl _ _).drew) (fun hHeld => ?_)
  refine wpAnyH_take (i := 0) (v := (.agg (clA st x (.slice ao ns.length cap)))) rfl (by kernel_rfl) (by kernel_rfl) (by kernel_rfl) (fun _ _ _ h => h) (Or.inl ⟨by rfl, ?_⟩) (by assumption) ?_
  · intro w' hSw
    (try dsimp only at hSw)
    exact exec_loadCl (.tmp 1) rfl rfl (CC.out _ hSw)
  (try simp only [Act.put, List.setIfInBounds_toArray, List.set_cons_zero, List.set_cons_succ])
  refine wpAnyH_take (i := 1) (v := (.agg (clA st x (.slice ao ns.length cap)))) rfl (by kernel_rfl) (by kernel_rfl) (by kernel_rfl) (fun _ _ _ h => h) (Or.inl ⟨by rfl, ?_⟩) (by assumption) ?_
  · intro w' hSw
    (try dsimp only at hSw)
    exact exec_loadCl (.tmp 1) rfl rfl (CC.out _ hSw)
  (try simp only [Act.put, List.setIfInBounds_toArray, List.set_cons_zero, List.set_cons_succ])
  refine wpAnyH_ready (rs := [2]) (by kernel_rfl) (by simp) ?_
  refine AllReadyH.cons rfl (fun K hK => ?_) AllReadyH.nil
  go_simp
  refine Calls.mono TW.out ?_
  rintro e W1 ⟨vl, zt, rfl, hzt, hT, hb⟩
  have B1 : Hid (Below W0.heap.size W0 W1) := ⟨hb.os, hb.tape, hb.output, hb.size, hb.block⟩
  have T1 := hide hT
  clear hb hT TW
  refine hK.out _ _ (B1.out) (fun hHeld => ?_)
  clear hK
  (try simp only [Act.put, List.setIfInBounds_toArray, List.set_cons_zero, List.set_cons_succ])
  refine wpAnyH_ready (rs := [3]) (by kernel_rfl) (by simp) ?_
  refine AllReadyH.cons rfl (fun K hK => ?_) AllReadyH.nil
  refine itY (by rfl) ?_
  refine wp_exec (exec_buildHd (st := st) (xx := x) (a := .slice ao ns.length cap) (b := vl) (.tmp 8) (.tmp 10) rfl (by kernel_rfl) (by kernel_rfl)) ?_
  refine hK.out _ _ (B1.out) (fun hHeld => ?_)
  clear hK
  (try simp only [Act.put, List.setIfInBounds_toArray, List.set_cons_zero, List.set_cons_succ])
  refine wpAnyH_ready (rs := [4]) (by kernel_rfl) (by simp) ?_
  refine AllReadyH.cons rfl (fun K hK => ?_) AllReadyH.nil
  go_simp
  refine hK.out _ _ ((B1.out.alloc B1.out.size _)) (fun hHeld => ?_)
  clear hK
  (try simp only [Act.put, List.setIfInBounds_toArray, List.set_cons_zero, List.set_cons_succ])
  refine wpAnyH_ready (rs := [5]) (by kernel_rfl) (by simp) ?_
  refine AllReadyH.cons rfl (fun K hK => ?_) AllReadyH.nil
  go_simp
  refine hK.out _ _ ((B1.out.alloc B1.out.size _)) (fun hHeld => ?_)
  clear hK
  (try simp only [Act.put, List.setIfInBounds_toArray, List.set_cons_zero, List.set_cons_succ])
  refine wpAnyH_done (by kernel_rfl) ?_ _
  clear hHeld CC
  obtain ⟨W2, hW2⟩ : ∃ W2, W2 = W1.alloc (.cells (hdA st x (.slice ao ns.length cap) vl (.slice none 0 0) (.slice none 0 0)) 47) := ⟨_, rfl⟩
  have D2 : Hid (HdAt W2 W1.heap.size st x (.slice ao ns.length cap) vl (.slice none 0 0) (.slice none 0 0)) := by rw [hW2]; exact heap_last _ _
  have B2 : Hid (Below W1.heap.size W1 W2) := by rw [hW2]; exact (Below.refl _ _).alloc (Nat.le_refl _) _
  have s2 : Hid (W2.heap.size = W1.heap.size + 1) := by rw [hW2]; show _ = _; simp
  go_upto_region 2 with fail
  rw [← hW2]
  clear hW2
  have HB1 : Hid (Below w.heap.size w W1) := B0.out.trans (B1.out.mono B0.out.size)
  have hCl : Hid (w.heap.size < W1.heap.size) := Nat.lt_of_lt_of_le (blk_lt HX.out.cl) B1.out.size
  have CL1 : Hid (ClAt W1 w.heap.size st x (.slice ao ns.length cap)) := HX.out.cl.below B1.out
  clear HX B0 B1
  go_wp2_with fail
  go_loopw [4] (fun vi wr => ∃ (zs : List (Int × Value)) (ls : List Value) (vn vp : Value), zs.length ≤ ns.length ∧ vi = .int .i64 (zs.length : Int) ∧ HdAt wr W1.heap.size st x (.slice ao ns.length cap) vl vn vp ∧ Hn (W1.heap.size + 1) wr ns vn vp zs ls ∧ Below W1.heap.size W1 wr) (fun vi _ => ns.length - (intOf vi).toNat)
  case atStart => exact ⟨[], [], _, _, Nat.zero_le _, rfl, D2.out, ⟨rfl, World.ownsRow_nil _ _ _ _, World.ownsRow_nil _ _ _ _, fun q hq => absurd hq (Nat.not_lt_zero _), fun q hq => absurd hq (Nat.not_lt_zero _)⟩, B2.out⟩
  case round =>
    clear D2 B2
    obtain ⟨zs, ls, vn, vp, hq, rfl, hD, hH, hB⟩ := hrel
    have HD := hide hD
    have HH := hide hH
    have HB := hide hB
    clear hD hH hB
    have nvw := (CL1.out.below HB.out).nv
    by_cases hql : zs.length < ns.length
    case neg =>
      have hqe : zs.length = ns.length := by omega
      have hqi : ¬ (zs.length : Int) < (ns.length : Int) := by omega
      have hls := HH.out.len
      obtain ⟨bn, cn0, hvn, _⟩ := own_sl HH.out.rn
      subst hvn
      have k46 := HD.out.c
      have NR := hide HH.out.rn
      have bs : Hid (W1.heap.size + 1 ≤ wr.heap.size) := HD.out.lt
      have HQE := hide hqe
      have HLS := hide hls
      have zl : zs.length ≤ 4398046510976 := by omega
      clear hqe hls
      go_upto_region 12 with (first | (at_builtin; refine wpList_append_own_at _ rfl (.tmp 70) (.tmp 73) 25 rfl (W1.heap.size + 1) 38 i0 _ 2 32 Tryd.underlying25 hi0 hz0 hz1 hz2 rfl (by decide) _ _ _ rfl (NR.out.alloc _) ⟨wr.heap.size, 0, none⟩ 2 2 (ndc mk2) rfl rfl (mk2_cells wr) mk2_one (by unfold maxLen; omega) (by omega) (by have := bs.out; simp; omega) ?_; intro vn' X5 o5 g5 n5 a5; clear n5 a5; obtain ⟨gn, cn, hvn'⟩ := own_some o5 (by omega); subst hvn'; have D5 := (HD.out.below ((Below.refl _ _).alloc (Nat.le_refl _) _)).grown g5 (fun e => by have := (own_lt NR.out e).1; omega); have q46 := D5.c; have f46 := D5.fz 46))
      obtain ⟨X6, hX6⟩ : ∃ X6, X6 = X5.setCell ⟨W1.heap.size, 46, none⟩ (.slice (some ⟨gn, 0, none⟩) (zs.length + 2) cn) := ⟨_, rfl⟩
      have D6 : Hid (HdAt X6 W1.heap.size st x (.slice ao ns.length cap) vl (.slice (some ⟨gn, 0, none⟩) (zs.length + 2) cn) vp) := by rw [hX6]; exact D5.setc _
      have S5 : Below W1.heap.size W1 X5 := (HB.out.alloc HB.out.size _).grown g5 (by have := HB.out.size; simp; omega) (fun j hj => by have := (own_lt NR.out hj).1; omega)
      have S6 : Hid (Below W1.heap.size W1 X6) := by rw [hX6]; exact below_setC S5 (Nat.le_refl _)
      have O6 : Hid (X6.ownsRow (W1.heap.size + 1) 38 2 (.slice (some ⟨gn, 0, none⟩) (zs.length + 2) cn) (zs.length + 2) (ndc (zs ++ mk2))) := by
        rw [hX6, ndc_append]
        exact own_setH o5 (Nat.lt_succ_self _)
      have KP : Hid (∀ {t : TypeId} {sz n : Nat} {v : Value} {xs : List Value}, t ≠ 38 → wr.ownsRow (W1.heap.size + 1) t sz v n xs → X6.ownsRow (W1.heap.size + 1) t sz v n xs) := fun {t} {sz} {n} {v} {xs} ht hr => by
        rw [hX6]
        exact own_setH (own_grown (hr.alloc _) g5 (fun g hg e => own_apart hr NR.out ht g hg e)) (Nat.lt_succ_self _)
      have hcn := own_cap O6.out
      rw [← hX6]
      clear hX6 S5 D5 o5 g5 q46 f46 k46
      have k46 := D6.out.c
      have k22 := D6.out.a
      have f22 := D6.out.fz 22
      have hni : (zs.length : Int) ≤ (cn : Int) := by omega
      go_wp2_with fail
      go_ret
      have S7 : Below W1.heap.size W1 (X6.setCell ⟨W1.heap.size, 22, none⟩ (.slice (some ⟨gn, 0, none⟩) zs.length cn)) := below_setC S6.out (Nat.le_refl _)
      have D7 := D6.out.seta (.slice (some ⟨gn, 0, none⟩) zs.length cn)
      have T7 := (T1.out.keep S7).lower (Nat.zero_le _)
      have B7 : Below w.heap.size w (X6.setCell ⟨W1.heap.size, 22, none⟩ (.slice (some ⟨gn, 0, none⟩) zs.length cn)) := HB1.out.trans (S7.mono (Nat.le_of_lt hCl.out))
      have O7 := own_setH (H := W1.heap.size) (j := 22) (u := .slice (some ⟨gn, 0, none⟩) zs.length cn) O6.out (Nat.lt_succ_self _)
      have P7 := own_setH (H := W1.heap.size) (j := 22) (u := .slice (some ⟨gn, 0, none⟩) zs.length cn) (KP.out (by decide) HH.out.rp) (Nat.lt_succ_self _)
      have L7 : ∀ (q : Nat) (h : q < zs.length) (h1 : q < ls.length) (h' : q < ns.length), ∃ g c, zs[q].2 = .slice (some ⟨g, 0, none⟩) ns[q].ps.length c ∧ ls[q] = .slice (some ⟨g, 0, none⟩) (ns[q].ps.length + 3) c ∧ (X6.setCell ⟨W1.heap.size, 22, none⟩ (.slice (some ⟨gn, 0, none⟩) zs.length cn)).ownsRow (W1.heap.size + 1) 3 1 ls[q] (ns[q].ps.length + 3) (ints (ns[q].ps ++ [701, 702, 703])) := fun q hq h1 h' => by
        obtain ⟨g, c, e1, e2, oo⟩ := HH.out.l q hq h1 h'
        exact ⟨g, c, e1, e2, own_setH (KP.out (by decide) oo) (Nat.lt_succ_self _)⟩
      have hqe := HQE.out
      have hls := HLS.out
      rw [hqe] at D7 O7 hls
      rw [hls] at P7
      have HZ : Handd (W1.heap.size + 1) W1.heap.size (X6.setCell ⟨W1.heap.size, 22, none⟩ (.slice (some ⟨gn, 0, none⟩) zs.length cn)) st x ns vl vp gn cn zs ls := ⟨by rw [hqe]; exact D7, hqe, hls, by rw [hqe]; exact O7, by rw [hqe]; first | exact P7 | (rw [hqe] at P7; exact P7), HH.out.z, L7⟩
      exact ⟨_, rfl, vl, ⟨_, _, _, _, _, HZ⟩, zt, hzt, T7, Nat.le_of_lt hCl.out, B7⟩
    case pos =>
      have hao := HN.out.at0 (by omega)
      subst hao
      have hqi : (zs.length : Int) < (ns.length : Int) := by omega
      have NW := HN.out.below ((HB1.out.trans (HB.out.mono (Nat.le_of_lt hCl.out))).mono hN)
      have e0 := NW.cz zs.length hql
      have e1 := NW.cp zs.length hql
      obtain ⟨pa, pb, po, pc, hpv, hp⟩ := HN.out.ps zs.length hql
      have hnl : Hid (pa = none → pc = 0) := fun e => HN.out.nl zs.length hql pc (by rw [hpv, e])
      rw [hpv] at e1
      have hpl := hp.len
      have PW := hide (hp.below ((HB1.out.trans (HB.out.mono (Nat.le_of_lt hCl.out))).mono hN))
      have lsl : ls.length ≤ 4398046510976 := by have := HH.out.len; omega
      clear hpv hp NW
      have bs : Hid (W1.heap.size + 1 ≤ wr.heap.size) := HD.out.lt
      go_upto_region 7 with (at_builtin; refine wpList_copyI wr rfl (.tmp 25) rfl (W1.heap.size + 1) pc rfl PW.out hnl.out bs.out ?_; intro v1 X1 o1 g1 a1; obtain ⟨b1, c1, hv1, hc1⟩ := own_sl o1; subst hv1)
      have B1' : Hid (Below wr.heap.size wr X1) := ⟨g1.os, g1.tape, g1.output, g1.size, fun i hi => g1.block i hi (by simp)⟩
      have O1 := hide o1
      have A1 := hide a1
      clear o1 g1 a1 hc1
      go_upto_region 8 with (at_builtin; refine wpList_append_own_at _ rfl (.tmp 29) (.tmp 30) 22 rfl (W1.heap.size + 1) 3 k0 (.int .i64 0) 1 8 Tryd.underlying22 hk0 hx0 hx1 hx2 rfl (by decide) _ _ _ rfl (O1.out.alloc _) ⟨X1.heap.size, 0, none⟩ 3 3 (ints [701, 702, 703]) rfl rfl (mark_cells X1) (ints_one _) (by unfold maxLen; omega) (by omega) (by have := bs.out; have := B1'.out.size; simp; omega) ?_; intro v2 X3 o3 g3 n3 a3; clear n3)
      have B3 : Hid (Below wr.heap.size wr X3) := (B1'.out.alloc B1'.out.size _).grown g3 (by have := B1'.out.size; simp; omega) (fun j hj => by rw [A1.out j hj]; exact Nat.le_refl _)
      obtain ⟨g2, c2, hv2⟩ := own_some o3 (by omega)
      subst hv2
      have O3 : Hid (X3.ownsRow (W1.heap.size + 1) 3 1 (.slice (some ⟨g2, 0, none⟩) (ns[zs.length].ps.length + 3) c2) (ns[zs.length].ps.length + 3) (ints (ns[zs.length].ps ++ [701, 702, 703]))) := by
        unfold ints at o3 ⊢
        rw [List.map_append]
        exact o3
      clear o3 g3 a3 O1 A1 B1'
      have H3 := hide (HH.out.keep (W' := X3) fun g _ hg => B3.out.block g hg)
      have D3 := hide (HD.out.below B3.out)
      have k47 := D3.out.d
      have z3 := B3.out.size
      go_upto_region 9 with (first | (at_builtin; refine wpList_append_own_at _ rfl (.tmp 36) (.tmp 38) 45 rfl (W1.heap.size + 1) 22 j0 (.slice none 0 0) 1 24 Tryd.underlying45 hj0 hy0 hy1 hy2 rfl (by decide) _ _ _ rfl (H3.out.rp.alloc _) ⟨X3.heap.size, 0, none⟩ 1 1 [.slice (some ⟨g2, 0, none⟩) (ns[zs.length].ps.length + 3) c2] rfl rfl (sl_cells X3 _) (by intro u hu; simp at hu; subst hu; rfl) (by unfold maxLen; omega) (by omega) (by have := bs.out; simp; omega) ?_; intro vp' X5 o5 g5 n5 a5; clear n5 a5; obtain ⟨gp, cp, hvp⟩ := own_some o5 (by omega); subst hvp; have D5 : HdAt X5 W1.heap.size st x (.slice (some ⟨b, o, none⟩) ns.length cap) vl vn vp := (D3.out.below ((Below.refl _ _).alloc (Nat.le_refl _) _)).grown g5 (fun e => by have := (own_lt H3.out.rp e).1; omega); have q47 := D5.d; have f47 := D5.fz 47))
      obtain ⟨X6, hX6⟩ : ∃ X6, X6 = X5.setCell ⟨W1.heap.size, 47, none⟩ (.slice (some ⟨gp, 0, none⟩) (ls.length + 1) cp) := ⟨_, rfl⟩
      have D6 : Hid (HdAt X6 W1.heap.size st x (.slice (some ⟨b, o, none⟩) ns.length cap) vl vn (.slice (some ⟨gp, 0, none⟩) (ls.length + 1) cp)) := by rw [hX6]; exact D5.setd _
      have S5 : Below W1.heap.size W1 X5 := ((HB.out.trans (B3.out.mono HB.out.size)).alloc (HB.out.trans (B3.out.mono HB.out.size)).size _).grown g5 (by have := (HB.out.trans (B3.out.mono HB.out.size)).size; simp; omega) (fun j hj => by have := (own_lt H3.out.rp hj).1; omega)
      have S6 : Hid (Below W1.heap.size W1 X6) := by rw [hX6]; exact below_setC S5 (Nat.le_refl _)
      have N6 : Hid (X6.ownsRow (W1.heap.size + 1) 38 2 vn zs.length (ndc zs)) := by
        have n4 := own_keep (X' := X3.alloc (.cells #[.slice (some ⟨g2, 0, none⟩) (ns[zs.length].ps.length + 3) c2] 22)) H3.out.rn fun g hg => ((Below.refl X3.heap.size X3).alloc (Nat.le_refl _) _).block g (own_lt H3.out.rn hg).2
        have p4 := H3.out.rp.alloc (.cells #[.slice (some ⟨g2, 0, none⟩) (ns[zs.length].ps.length + 3) c2] 22)
        rw [hX6]
        exact own_setH (own_grown n4 g5 (fun g hg e => own_apart n4 p4 (by decide) g hg e)) (Nat.lt_succ_self _)
      have ST := hide (fun X8 vn' => HH.out.step (H := W1.heap.size) (X8 := X8) (vn' := vn') hql (Nat.lt_succ_self _) B3.out rfl O3.out o5 g5)
      have hc2 := own_cap O3.out
      have s6 : Hid (W1.heap.size + 1 ≤ X6.heap.size) := D6.out.lt
      rw [← hX6]
      have HX6 := hide hX6
      clear hX6 D5 S5 o5 g5 q47 f47 k47 z3 H3 D3 nvw e0 e1
      have CC : Hid (∀ Y, Below W1.heap.size W1 Y → Y.cell? ⟨w.heap.size, 22, none⟩ = some (.slice (some ⟨b, o, none⟩) ns.length cap) ∧ Y.cell? ⟨b, o + zs.length * 2, none⟩ = some (.int .i64 ns[zs.length].z)) := fun Y hY => by
        have hN0 := HN.out.below ((HB1.out.trans (hY.mono (Nat.le_of_lt hCl.out))).mono hN)
        exact ⟨((hY.cell hCl.out).trans CL1.out.nv), hN0.cz _ hql⟩
      generalize hzz : ns[zs.length].z = z at *
      generalize hkk : ns[zs.length].ps.length = k at *
      have hki : (k : Int) ≤ (c2 : Int) := by omega
      have k0i : (0 : Int) ≤ (k : Int) := by omega
      clear hpl
      refine wp_region_held_drew (S := fun Y => Below W1.heap.size W1 Y) (by kernel_rfl) (S6.out.drew) (fun hHeld => ?_)
      refine wpAnyH_take (i := 0) (v := (.pointer (some ⟨W1.heap.size, 0, none⟩))) rfl (by kernel_rfl) (by kernel_rfl) (by kernel_rfl) (fun _ _ _ h => h) (Or.inl ⟨by rfl, ?_⟩) (by assumption) ?_
      · intro w' hSw
        (try dsimp only at hSw)
        go_simp
      (try simp only [Act.put, List.setIfInBounds_toArray, List.set_cons_zero, List.set_cons_succ])
      refine wpAnyH_take (i := 1) (v := (.pointer (some ⟨W1.heap.size, 0, none⟩))) rfl (by kernel_rfl) (by kernel_rfl) (by kernel_rfl) (fun _ _ _ h => h) (Or.inl ⟨by rfl, ?_⟩) (by assumption) ?_
      · intro w' hSw
        (try dsimp only at hSw)
        go_simp
      (try simp only [Act.put, List.setIfInBounds_toArray, List.set_cons_zero, List.set_cons_succ])
      refine wpAnyH_take (i := 2) (v := (.pointer (some ⟨W1.heap.size, 0, none⟩))) rfl (by kernel_rfl) (by kernel_rfl) (by kernel_rfl) (fun _ _ _ h => h) (Or.inl ⟨by rfl, ?_⟩) (by assumption) ?_
      · intro w' hSw
        (try dsimp only at hSw)
        go_simp
      (try simp only [Act.put, List.setIfInBounds_toArray, List.set_cons_zero, List.set_cons_succ])
      refine wpAnyH_take (i := 3) (v := (.pointer (some ⟨W1.heap.size, 46, none⟩))) rfl (by kernel_rfl) (by kernel_rfl) (by kernel_rfl) (fun _ _ _ h => h) (Or.inl ⟨by rfl, ?_⟩) (by assumption) ?_
      · intro w' hSw
        (try dsimp only at hSw)
        go_simp
      (try simp only [Act.put, List.setIfInBounds_toArray, List.set_cons_zero, List.set_cons_succ])
      refine wpAnyH_take (i := 5) (v := (.pointer (some ⟨w.heap.size, 22, none⟩))) rfl (by kernel_rfl) (by kernel_rfl) (by kernel_rfl) (fun _ _ _ h => h) (Or.inl ⟨by rfl, ?_⟩) (by assumption) ?_
      · intro w' hSw
        (try dsimp only at hSw)
        go_simp
      (try simp only [Act.put, List.setIfInBounds_toArray, List.set_cons_zero, List.set_cons_succ])
      refine wpAnyH_take (i := 6) (v := (.slice (some ⟨b, o, none⟩) ns.length cap)) rfl (by kernel_rfl) (by kernel_rfl) (by kernel_rfl) (fun _ _ _ h => h) (Or.inl ⟨by rfl, ?_⟩) (by assumption) ?_
      · intro w' hSw
        (try dsimp only at hSw)
        (have y1 := (CC.out _ hSw).1; clear CC; go_simp)
      (try simp only [Act.put, List.setIfInBounds_toArray, List.set_cons_zero, List.set_cons_succ])
      refine wpAnyH_take (i := 7) (v := (.int .i64 (zs.length : Int))) rfl (by kernel_rfl) (by kernel_rfl) (by kernel_rfl) (fun _ _ _ h => h) (Or.inl ⟨by rfl, ?_⟩) (by assumption) ?_
      · intro w' hSw
        (try dsimp only at hSw)
        go_simp
      (try simp only [Act.put, List.setIfInBounds_toArray, List.set_cons_zero, List.set_cons_succ])
      refine wpAnyH_take (i := 8) (v := (.pointer (some ⟨b, o + zs.length * 2, none⟩))) rfl (by kernel_rfl) (by kernel_rfl) (by kernel_rfl) (fun _ _ _ h => h) (Or.inl ⟨by rfl, ?_⟩) (by assumption) ?_
      · intro w' hSw
        (try dsimp only at hSw)
        go_simp
      (try simp only [Act.put, List.setIfInBounds_toArray, List.set_cons_zero, List.set_cons_succ])
      refine wpAnyH_take (i := 9) (v := (.pointer (some ⟨b, o + zs.length * 2, none⟩))) rfl (by kernel_rfl) (by kernel_rfl) (by kernel_rfl) (fun _ _ _ h => h) (Or.inl ⟨by rfl, ?_⟩) (by assumption) ?_
      · intro w' hSw
        (try dsimp only at hSw)
        go_simp
      (try simp only [Act.put, List.setIfInBounds_toArray, List.set_cons_zero, List.set_cons_succ])
      refine wpAnyH_take (i := 10) (v := (.int .i64 z)) rfl (by kernel_rfl) (by kernel_rfl) (by kernel_rfl) (fun _ _ _ h => h) (Or.inl ⟨by rfl, ?_⟩) (by assumption) ?_
      · intro w' hSw
        (try dsimp only at hSw)
        (have y1 := (CC.out _ hSw).2; clear CC; go_simp)
      (try simp only [Act.put, List.setIfInBounds_toArray, List.set_cons_zero, List.set_cons_succ])
      refine wpAnyH_take (i := 11) (v := (.slice (some ⟨g2, 0, none⟩) (k + 3) c2)) rfl (by kernel_rfl) (by kernel_rfl) (by kernel_rfl) (fun _ _ _ h => h) (Or.inl ⟨by rfl, ?_⟩) (by assumption) ?_
      · intro w' hSw
        (try dsimp only at hSw)
        go_simp
      (try simp only [Act.put, List.setIfInBounds_toArray, List.set_cons_zero, List.set_cons_succ])
      refine wpAnyH_take (i := 12) (v := (.int .i64 (k : Int))) rfl (by kernel_rfl) (by kernel_rfl) (by kernel_rfl) (fun _ _ _ h => h) (Or.inl ⟨by rfl, ?_⟩) (by assumption) ?_
      · intro w' hSw
        (try dsimp only at hSw)
        go_simp
      (try simp only [Act.put, List.setIfInBounds_toArray, List.set_cons_zero, List.set_cons_succ])
      refine wpAnyH_take (i := 13) (v := (.slice (some ⟨g2, 0, none⟩) k c2)) rfl (by kernel_rfl) (by kernel_rfl) (by kernel_rfl) (fun _ _ _ h => h) (Or.inl ⟨by rfl, ?_⟩) (by assumption) ?_
      · intro w' hSw
        (try dsimp only at hSw)
        exact exec_cut (n := k + 3) (by omega) (.tmp 53) (.tmp 54) rfl (by kernel_rfl) (by kernel_rfl)
      (try simp only [Act.put, List.setIfInBounds_toArray, List.set_cons_zero, List.set_cons_succ])
      refine wpAnyH_take (i := 14) (v := (.agg #[.int .i64 z, .slice (some ⟨g2, 0, none⟩) k c2])) rfl (by kernel_rfl) (by kernel_rfl) (by kernel_rfl) (fun _ _ _ h => h) (Or.inl ⟨by rfl, ?_⟩) (by assumption) ?_
      · intro w' hSw
        (try dsimp only at hSw)
        exact exec_buildNd (.tmp 52) (.tmp 55) rfl (by kernel_rfl) (by kernel_rfl)
      (try simp only [Act.put, List.setIfInBounds_toArray, List.set_cons_zero, List.set_cons_succ])
      refine wpAnyH_ready (rs := [4, 15]) (by kernel_rfl) (by simp) ?_
      refine AllReadyH.cons rfl (fun K hK => ?_) (AllReadyH.cons rfl (fun K hK => ?_) AllReadyH.nil)
      · have k4 : X6.drew.cell? ⟨W1.heap.size, 46, none⟩ = some vn := D6.out.c
        go_simp
        clear k4
        refine hK.out _ _ (S6.out.drew) (fun hHeld => ?_)
        clear hK
        (try simp only [Act.put, List.setIfInBounds_toArray, List.set_cons_zero, List.set_cons_succ])
        refine wpAnyH_ready (rs := [15]) (by kernel_rfl) (by simp) ?_
        refine AllReadyH.cons rfl (fun K hK => ?_) AllReadyH.nil
        refine itY (by rfl) ?_
        refine wp_bsNd (z := z) (ba := some ⟨g2, 0, none⟩) (n := k) (c := c2) (.tmp 56) rfl (by kernel_rfl) ?_
        refine hK.out _ _ ((S6.out.drew.alloc S6.out.size _)) (fun hHeld => ?_)
        clear hK
        (try simp only [Act.put, List.setIfInBounds_toArray, List.set_cons_zero, List.set_cons_succ])
        refine wpAnyH_ready (rs := [16]) (by kernel_rfl) (by simp) ?_
        refine AllReadyH.cons rfl (fun K hK => ?_) AllReadyH.nil
        refine itY (by rfl) ?_
        refine wp_append_own (X6.drew.alloc (.cells #[.int .i64 z, .slice (some ⟨g2, 0, none⟩) k c2] 38)) (.tmp 46) (.tmp 57) 25 ?hAo (W1.heap.size + 1) 38 i0 _ 2 32 Tryd.underlying25 hi0 hz0 hz1 hz2 ?hAz (by decide) vn zs.length (ndc zs) ?hAs (N6.out.alloc _) ⟨X6.drew.heap.size, 0, none⟩ 1 1 (ndc [(z, .slice (some ⟨g2, 0, none⟩) k c2)]) ?hAx rfl (nd_cells X6.drew z _) (nd_one rfl) (by unfold maxLen; omega) (by omega) (by have := s6.out; simp; omega) ?hAk
        case hAo => rfl
        case hAz => rfl
        case hAs => kernel_rfl
        case hAx => kernel_rfl
        intro vn' X8 o8 g8 n8
        clear n8
        obtain ⟨gn, cn, hvn⟩ := own_some o8 (by omega)
        subst hvn
        have D8 : HdAt X8 W1.heap.size st x (.slice (some ⟨b, o, none⟩) ns.length cap) vl vn (.slice (some ⟨gp, 0, none⟩) (ls.length + 1) cp) := (D6.out.below (((Below.refl _ X6).drew).alloc (Nat.le_refl _) _)).grown g8 (fun e => by have := (own_lt N6.out e).1; omega)
        have S8 : Hid (Below W1.heap.size W1 X8) := (S6.out.drew.alloc S6.out.size _).grown g8 (by have := S6.out.size; simp; omega) (fun j hj => by have := (own_lt N6.out hj).1; omega)
        have k46 := D8.c
        have f46 := D8.fz 46
        have D9 := hide (D8.setc (.slice (some ⟨gn, 0, none⟩) (zs.length + 1) cn))
        have H9 := hide (ST.out X8 _ o8 (by rw [← HX6.out]; exact ⟨g8.os, g8.tape, g8.output, g8.size, g8.block⟩))
        have S9 : Hid (Below W1.heap.size W1 (X8.setCell ⟨W1.heap.size, 46, none⟩ (.slice (some ⟨gn, 0, none⟩) (zs.length + 1) cn))) := below_setC S8.out (Nat.le_refl _)
        clear o8 g8 D8
        refine hK.out _ _ (S8.out) (fun hHeld => ?_)
        clear hK
        (try simp only [Act.put, List.setIfInBounds_toArray, List.set_cons_zero, List.set_cons_succ])
        refine wpAnyH_take (i := 17) (v := (.pointer (some ⟨W1.heap.size, 0, none⟩))) rfl (by kernel_rfl) (by kernel_rfl) (by kernel_rfl) (fun _ _ _ h => h) (Or.inl ⟨by rfl, ?_⟩) (by assumption) ?_
        · intro w' hSw
          (try dsimp only at hSw)
          go_simp
        (try simp only [Act.put, List.setIfInBounds_toArray, List.set_cons_zero, List.set_cons_succ])
        refine wpAnyH_take (i := 18) (v := (.pointer (some ⟨W1.heap.size, 46, none⟩))) rfl (by kernel_rfl) (by kernel_rfl) (by kernel_rfl) (fun _ _ _ h => h) (Or.inl ⟨by rfl, ?_⟩) (by assumption) ?_
        · intro w' hSw
          (try dsimp only at hSw)
          go_simp
        (try simp only [Act.put, List.setIfInBounds_toArray, List.set_cons_zero, List.set_cons_succ])
        refine wpAnyH_ready (rs := [19]) (by kernel_rfl) (by simp) ?_
        refine AllReadyH.cons rfl (fun K hK => ?_) AllReadyH.nil
        go_simp
        refine hK.out _ _ (S9.out) (fun hHeld => ?_)
        clear hK
        (try simp only [Act.put, List.setIfInBounds_toArray, List.set_cons_zero, List.set_cons_succ])
        refine wpAnyH_done (by kernel_rfl) ?_ _
        clear hHeld CC k46 f46 ST
        go_wp2_with fail
        go_roundw
        case rel => exact ⟨_, _, _, _, by rw [List.length_append]; simp; omega, by rw [List.length_append]; simp, D9.out, H9.out, S9.out⟩
        case measure => simp [intOf]; omega
      · refine itY (by rfl) ?_
        refine wp_bsNd (z := z) (ba := some ⟨g2, 0, none⟩) (n := k) (c := c2) (.tmp 56) rfl (by kernel_rfl) ?_
        refine hK.out _ _ ((S6.out.drew.alloc S6.out.size _)) (fun hHeld => ?_)
        clear hK
        (try simp only [Act.put, List.setIfInBounds_toArray, List.set_cons_zero, List.set_cons_succ])
        refine wpAnyH_ready (rs := [4]) (by kernel_rfl) (by simp) ?_
        refine AllReadyH.cons rfl (fun K hK => ?_) AllReadyH.nil
        have k4 : (X6.alloc (.cells #[.int .i64 z, .slice (some ⟨g2, 0, none⟩) k c2] 38)).cell? ⟨W1.heap.size, 46, none⟩ = some vn := (D6.out.below ((Below.refl _ X6).alloc (Nat.le_refl _) _)).c
        have k5 : X6.cell? ⟨W1.heap.size, 46, none⟩ = some vn := D6.out.c
        have k6 : W1.heap.size < X6.heap.size := D6.out.lt
        go_simp
        clear k4 k5 k6
        refine hK.out _ _ ((S6.out.drew.alloc S6.out.size _)) (fun hHeld => ?_)
        clear hK
        (try simp only [Act.put, List.setIfInBounds_toArray, List.set_cons_zero, List.set_cons_succ])
        refine wpAnyH_ready (rs := [16]) (by kernel_rfl) (by simp) ?_
        refine AllReadyH.cons rfl (fun K hK => ?_) AllReadyH.nil
        refine itY (by rfl) ?_
        refine wp_append_own (X6.drew.alloc (.cells #[.int .i64 z, .slice (some ⟨g2, 0, none⟩) k c2] 38)) (.tmp 46) (.tmp 57) 25 ?hBo (W1.heap.size + 1) 38 i0 _ 2 32 Tryd.underlying25 hi0 hz0 hz1 hz2 ?hBz (by decide) vn zs.length (ndc zs) ?hBs (N6.out.alloc _) ⟨X6.drew.heap.size, 0, none⟩ 1 1 (ndc [(z, .slice (some ⟨g2, 0, none⟩) k c2)]) ?hBx rfl (nd_cells X6.drew z _) (nd_one rfl) (by unfold maxLen; omega) (by omega) (by have := s6.out; simp; omega) ?hBk
        case hBo => rfl
        case hBz => rfl
        case hBs => kernel_rfl
        case hBx => kernel_rfl
        intro vn' X8 o8 g8 n8
        clear n8
        obtain ⟨gn, cn, hvn⟩ := own_some o8 (by omega)
        subst hvn
        have D8 : HdAt X8 W1.heap.size st x (.slice (some ⟨b, o, none⟩) ns.length cap) vl vn (.slice (some ⟨gp, 0, none⟩) (ls.length + 1) cp) := (D6.out.below (((Below.refl _ X6).drew).alloc (Nat.le_refl _) _)).grown g8 (fun e => by have := (own_lt N6.out e).1; omega)
        have S8 : Hid (Below W1.heap.size W1 X8) := (S6.out.drew.alloc S6.out.size _).grown g8 (by have := S6.out.size; simp; omega) (fun j hj => by have := (own_lt N6.out hj).1; omega)
        have k46 := D8.c
        have f46 := D8.fz 46
        have D9 := hide (D8.setc (.slice (some ⟨gn, 0, none⟩) (zs.length + 1) cn))
        have H9 := hide (ST.out X8 _ o8 (by rw [← HX6.out]; exact ⟨g8.os, g8.tape, g8.output, g8.size, g8.block⟩))
        have S9 : Hid (Below W1.heap.size W1 (X8.setCell ⟨W1.heap.size, 46, none⟩ (.slice (some ⟨gn, 0, none⟩) (zs.length + 1) cn))) := below_setC S8.out (Nat.le_refl _)
        clear o8 g8 D8
        refine hK.out _ _ (S8.out) (fun hHeld => ?_)
        clear hK
        (try simp only [Act.put, List.setIfInBounds_toArray, List.set_cons_zero, List.set_cons_succ])
        refine wpAnyH_take (i := 17) (v := (.pointer (some ⟨W1.heap.size, 0, none⟩))) rfl (by kernel_rfl) (by kernel_rfl) (by kernel_rfl) (fun _ _ _ h => h) (Or.inl ⟨by rfl, ?_⟩) (by assumption) ?_
        · intro w' hSw
          (try dsimp only at hSw)
          go_simp
        (try simp only [Act.put, List.setIfInBounds_toArray, List.set_cons_zero, List.set_cons_succ])
        refine wpAnyH_take (i := 18) (v := (.pointer (some ⟨W1.heap.size, 46, none⟩))) rfl (by kernel_rfl) (by kernel_rfl) (by kernel_rfl) (fun _ _ _ h => h) (Or.inl ⟨by rfl, ?_⟩) (by assumption) ?_
        · intro w' hSw
          (try dsimp only at hSw)
          go_simp
        (try simp only [Act.put, List.setIfInBounds_toArray, List.set_cons_zero, List.set_cons_succ])
        refine wpAnyH_ready (rs := [19]) (by kernel_rfl) (by simp) ?_
        refine AllReadyH.cons rfl (fun K hK => ?_) AllReadyH.nil
        go_simp
        refine hK.out _ _ (S9.out) (fun hHeld => ?_)
        clear hK
        (try simp only [Act.put, List.setIfInBounds_toArray, List.set_cons_zero, List.set_cons_succ])
        refine wpAnyH_done (by kernel_rfl) ?_ _
        clear hHeld CC k46 f46 ST
        go_wp2_with fail
        go_roundw
        case rel => exact ⟨_, _, _, _, by rw [List.length_append]; simp; omega, by rw [List.length_append]; simp, D9.out, H9.out, S9.out⟩
        case measure => simp [intOf]; omega
end Go.Proofs.YtioiphonajinmaaDoor
