import Derived.Test.YtdodellmbceffaaDoorGcLeft
import Derived.Test.YtdodellmbceffaaDoorRows
import Derived.ProofKit
import Derived.OpenShut
import Derived.JoinedOf
import Derived.SizedLaws
import Derived.Lib.SmallJoins
import Derived.Deep.SlicePairs
import Derived.Deep.DeepHandedRow
import Derived.Test.YtdodellmbceffaaDoorGGcSpread
import Derived.Test.YtdodellmbceffaaDoorGGcApp
import Derived.WalkMore
namespace Go.Proofs.YtdodellmbceffaaDoor
open Go.RowKit
theorem num_any (n : Int) (w : World) : Calls Tryd.prog 7 #[.int .i64 n] w fun e w' => e = .returned (.int .i64 n) ∧ w = w' := by
  go_enter Tryd.func7, Tryd.ntmps7
  go_wp2_with fail
  go_ret
  exact ⟨rfl, rfl⟩
theorem Handd.keep {base H : Nat} {W Y : World} {st : ByteArray} {x : Nat → Int} {ns : List ND} {vl vp : Value} {gn cn : Nat} {zs : List (Int × Value)} {ls : List Value} (h : Handd base H W st x ns vl vp gn cn zs ls) (hY : Below W.heap.size W Y) : Handd base H Y st x ns vl vp gn cn zs ls := by
  refine ⟨h.hd.below hY, h.zl, h.ll, own_keep h.rn fun g hg => hY.block g (own_lt h.rn hg).2, own_keep h.rp fun g hg => hY.block g (own_lt h.rp hg).2, h.z, fun q a b c => ?_⟩
  obtain ⟨g, k, e1, e2, e3⟩ := h.l q a b c
  exact ⟨g, k, e1, e2, own_keep e3 fun g hg => hY.block g (own_lt e3 hg).2⟩
theorem wpList_mid {w : World} {ops : Array Oper} {rest : List Oper} {op : Oper} {a : Act} {Q : Exit → Act → World → Prop} (hgd : op.guard = none) (p : Operand) (ho : op.op = .load 24 p) (b o : Nat) (st : ByteArray) (x : Nat → Int) (nv : Value) (hx : a.eval p = .pointer (some ⟨b, o, none⟩)) (hc : w.rangeAt b o (clA st x nv).toList)
    (h : wpList Tryd.prog ops Q rest (a.put op.dst (.agg (clA st x nv))) w) : wpList Tryd.prog ops Q (op :: rest) a w := by
  refine wpList_plain hgd fun K hK => ?_
  exact wp_exec (exec_mid p ho hx hc) (hK _ _ h)
theorem exec_eqli {ρ : Operand → Value} {op : Oper} {w : World} {n : Int} {t2 : TypeId} (x y : Operand) (ho : op.op = .binOp .eql 3 x y t2) (hx : ρ x = .int .i64 n) (hy : ρ y = .int .i64 n) : (execOp ρ op).run Tryd.prog w = .ok (.value (.bool true)) w := by
  unfold execOp
  simp only [ho, hx, hy]
  go_simp
theorem exec_pickt {ρ : Operand → Value} {op : Oper} {w : World} (x y z : Operand) (ho : op.op = .pick x y z) (hx : ρ x = .bool true) (hy : ρ y = .bool true) : (execOp ρ op).run Tryd.prog w = .ok (.value (.bool true)) w := by
  unfold execOp
  simp only [ho, hx, hy]
  go_simp
set_option maxHeartbeats 8000000 in
set_option maxRecDepth 100000 in
set_option linter.unusedSimpArgs false in
set_option linter.unusedVariables false in
/-- the law: it says yes -/
theorem law_any (N : Nat) (w : World) (st : ByteArray) (x : Nat → Int) (ao : Option Addr) (b o cap : Nat) (pv : Nat → Value) (ns : List ND) (h : NsAt N w ao b o pv ns) (hN : N ≤ w.heap.size) (hs : st.size ≤ 9223372036854775807) (hT : TabG w) :
    Calls Tryd.prog 3 #[.agg (clA st x (.slice ao ns.length cap))] w fun e w' => e = .returned (.bool true) ∧ Below w.heap.size w w' := by
  obtain ⟨W0, hW0, hX⟩ := boxed st x cap h hN
  have hlen := h.len
  have HPS : Hid (∀ (q : Nat) (h : q < ns.length), ns[q].ps.length ≤ 17592186043904) := fun q hq => by
    obtain ⟨_, _, _, _, _, hp⟩ := h.ps q hq
    exact hp.len
  have HX := hide (hX.stand hN)
  have B0 := hide hX.bel
  have T0 := hide (hT.below hX.bel)
  clear hX h hT
  have HA := hide (hand_any N W0 st x ao b o cap pv ns HX.out.nd HX.out.le)
  go_enter Tryd.func3, Tryd.ntmps3
  go_upto_region 1 with fail
  rw [← hW0]
  clear hW0
  go_upto_region 2 with (first | refine wpList_loadCl rfl (.tmp 1) rfl w.heap.size st x _ rfl HX.out.cl ?_ | (go_at_call 5; refine Calls.mono HA.out ?_; rintro e W1 ⟨H, vl, vp, gn, cn, zs, ls, zt, rfl, hH, hzt, hT, hge, hb⟩))
  have X1 := hide (HX.out.below hb)
  have T1 := hide (T0.out.below hb)
  have B1 := hide (B0.out.trans (hb.mono B0.out.size))
  have HH := hide hH
  have TT := hide hT
  have RC := hide (hd_rc hH.hd)
  have CH := hide (check_any W1.heap.size W1 st x (some ⟨gn, 0, none⟩) gn 0 cn (pvZ zs) ns (hH.nodes hlen HPS.out) (Nat.le_refl _) hs)
  clear hH hT hb HA HX T0 B0
  go_upto_region 3 with (first | refine wpList_mid rfl (.tmp 9) rfl H 0 st x _ rfl RC.out ?_ | (go_at_call 6; refine Calls.mono CH.out ?_; rintro e W2 ⟨rfl, hb⟩))
  have X2 := hide (X1.out.below hb)
  have T2 := hide (T1.out.below hb)
  have B2 := hide (B1.out.trans (hb.mono B1.out.size))
  have H2 := hide (HH.out.keep hb)
  have K2 := hide (TT.out.keep hb)
  clear hb X1 T1 B1 HH TT RC CH
  have CC : Hid (∀ Y, Below W2.heap.size W2 Y → ClAt Y w.heap.size st x (.slice ao ns.length cap)) := fun Y hY => X2.out.cl.below hY
  have bd := (Below.refl W2.heap.size W2).drew
  have RK := hide (rcheck_any N W2.drew st x ao b o cap pv ns (X2.out.nd.below (bd.mono X2.out.le)) X2.out.le hs (T2.out.below bd))
  clear bd
  refine wp_region_held_drew (S := fun Y => Below W2.heap.size W2 Y) (by kernel_rfl) ((Below.refl _ _).drew) (fun hHeld => ?_)
  refine wpAnyH_take (i := 0) (v := (.int .i64 (errP st x ns))) rfl (by kernel_rfl) (by kernel_rfl) (by kernel_rfl) (fun _ _ _ h => h) (Or.inl ⟨by rfl, ?_⟩) (by assumption) ?_
  · intro w' hSw
    (try dsimp only at hSw)
    exact exec_move (.tmp 4) rfl (by kernel_rfl)
  (try simp only [Act.put, List.setIfInBounds_toArray, List.set_cons_zero, List.set_cons_succ])
  refine wpAnyH_take (i := 2) (v := (.agg (clA st x (.slice ao ns.length cap)))) rfl (by kernel_rfl) (by kernel_rfl) (by kernel_rfl) (fun _ _ _ h => h) (Or.inl ⟨by rfl, ?_⟩) (by assumption) ?_
  · intro w' hSw
    (try dsimp only at hSw)
    exact exec_loadCl (.tmp 1) rfl rfl (CC.out _ hSw)
  (try simp only [Act.put, List.setIfInBounds_toArray, List.set_cons_zero, List.set_cons_succ])
  refine wpAnyH_ready (rs := [1]) (by kernel_rfl) (by simp) ?_
  refine AllReadyH.cons rfl (fun K hK => ?_) AllReadyH.nil
  go_simp
  refine Calls.mono (num_any _ _) ?_
  rintro e W3 ⟨rfl, rfl⟩
  refine hK.out _ _ ((Below.refl W2.heap.size W2).drew) (fun hHeld => ?_)
  clear hK
  (try simp only [Act.put, List.setIfInBounds_toArray, List.set_cons_zero, List.set_cons_succ])
  refine wpAnyH_ready (rs := [3]) (by kernel_rfl) (by simp) ?_
  refine AllReadyH.cons rfl (fun K hK => ?_) AllReadyH.nil
  go_simp
  refine Calls.mono RK.out ?_
  rintro e W3 ⟨rfl, hb⟩
  have B3 : Hid (Below W2.heap.size W2 W3) := ⟨hb.os, hb.tape, hb.output, hb.size, hb.block⟩
  have LL := hide (left_any (H + 1) H W3 st x ns vl vp gn cn zs ls zt (H2.out.keep B3.out) hzt (K2.out.keep B3.out) hlen HPS.out)
  clear hb RK H2 K2
  refine hK.out _ _ (B3.out) (fun hHeld => ?_)
  clear hK
  (try simp only [Act.put, List.setIfInBounds_toArray, List.set_cons_zero, List.set_cons_succ])
  refine wpAnyH_take (i := 4) (v := (.bool true)) rfl (by kernel_rfl) (by kernel_rfl) (by kernel_rfl) (fun _ _ _ h => h) (Or.inl ⟨by rfl, ?_⟩) (by assumption) ?_
  · intro w' hSw
    (try dsimp only at hSw)
    exact exec_eqli (n := errP st x ns) (.tmp 13) (.tmp 15) rfl (by kernel_rfl) (by kernel_rfl)
  (try simp only [Act.put, List.setIfInBounds_toArray, List.set_cons_zero, List.set_cons_succ])
  refine wpAnyH_take (i := 5) (v := (.bool true)) rfl (by kernel_rfl) (by kernel_rfl) (by kernel_rfl) (fun _ _ _ h => h) (Or.inl ⟨by rfl, ?_⟩) (by assumption) ?_
  · intro w' hSw
    (try dsimp only at hSw)
    exact exec_move (.tmp 16) rfl (by kernel_rfl)
  (try simp only [Act.put, List.setIfInBounds_toArray, List.set_cons_zero, List.set_cons_succ])
  refine wpAnyH_take (i := 6) (v := (.pointer (some ⟨H, 0, none⟩))) rfl (by kernel_rfl) (by kernel_rfl) (by kernel_rfl) (fun _ _ _ h => h) (Or.inl ⟨by kernel_rfl, ?_⟩) (by assumption) ?_
  · intro w' hSw
    (try dsimp only at hSw)
    exact exec_move (.tmp 3) rfl (by kernel_rfl)
  (try simp only [Act.put, List.setIfInBounds_toArray, List.set_cons_zero, List.set_cons_succ])
  refine wpAnyH_ready (rs := [7]) (by kernel_rfl) (by simp) ?_
  refine AllReadyH.cons rfl (fun K hK => ?_) AllReadyH.nil
  go_simp
  refine Calls.mono LL.out ?_
  rintro e W4 ⟨rfl, hb⟩
  have B4 : Hid (Below W2.heap.size W2 W4) := B3.out.trans (hb.mono B3.out.size)
  clear hb LL
  refine hK.out _ _ (B4.out) (fun hHeld => ?_)
  clear hK
  (try simp only [Act.put, List.setIfInBounds_toArray, List.set_cons_zero, List.set_cons_succ])
  refine wpAnyH_take (i := 8) (v := (.bool true)) rfl (by kernel_rfl) (by kernel_rfl) (by kernel_rfl) (fun _ _ _ h => h) (Or.inl ⟨by rfl, ?_⟩) (by assumption) ?_
  · intro w' hSw
    (try dsimp only at hSw)
    exact exec_pickt (.tmp 17) (.tmp 19) _ rfl (by kernel_rfl) (by kernel_rfl)
  (try simp only [Act.put, List.setIfInBounds_toArray, List.set_cons_zero, List.set_cons_succ])
  refine wpAnyH_ready (rs := [9]) (by kernel_rfl) (by simp) ?_
  refine AllReadyH.cons rfl (fun K hK => ?_) AllReadyH.nil
  go_simp
  refine hK.out _ _ (B4.out) (fun hHeld => ?_)
  clear hK
  (try simp only [Act.put, List.setIfInBounds_toArray, List.set_cons_zero, List.set_cons_succ])
  refine wpAnyH_done (by kernel_rfl) ?_ _
  clear hHeld
  go_wp2_with fail
  go_ret
  exact ⟨rfl, B2.out.trans (B4.out.mono B2.out.size)⟩
end Go.Proofs.YtdodellmbceffaaDoor
namespace Go.Proofs.YtdodellmbceffaaDoor
open Go.ChangeShapes Go.WideShapes Go.ChangeAt Go.RowKit Go.Deep
theorem cellsI : Tryd.prog.cellsOf 3 = 1 := by kernel_rfl
theorem cellsS9 : Tryd.prog.cellsOf 9 = 1 := by kernel_rfl
theorem cellsNd : Tryd.prog.cellsOf 45 = 2 := by kernel_rfl
theorem cellsPl : Tryd.prog.cellsOf 36 = 1 := by kernel_rfl
theorem cellsNl : Tryd.prog.cellsOf 22 = 1 := by kernel_rfl
theorem cellsCl : Tryd.prog.cellsOf 24 = 23 := by kernel_rfl
theorem bytesI : Tryd.prog.bytesOf 3 = 8 := by kernel_rfl
theorem bytesNd : Tryd.prog.bytesOf 45 = 32 := by kernel_rfl
theorem laidOutP : laidOutB Tryd.prog = true := by kernel_rfl
theorem add_plainT (b o j : Nat) : (⟨b, o, none⟩ : Addr).add j = ⟨b, o + j, none⟩ := Addr.add_mid b o j
theorem all_mem {H : Type} {P : Program} {e : TypeId} {d : DataW H} {n : Nat} (hn : n ∈ d.weights P e) : ∀ {l : List (DataW H)}, d ∈ l → n ∈ DataW.weightsAll P e l
  | [], h => by cases h
  | c :: r, h => by
    simp only [DataW.weightsAll, List.mem_append]
    rcases List.mem_cons.1 h with rfl | h
    · exact Or.inl hn
    · exact Or.inr (all_mem hn h)
set_option maxRecDepth 100000 in
/-- a node's list that is handed in -/
theorem open_ps {H : Type} {enc : TypeId × Value → H} {w : World} {base fuel : Nat} {spare : Nat → Bool} {held : Bool} {v : Value} {x : DataW H × List MemPlace} (h : DataW.trod enc Tryd.prog w base spare held fuel 36 [v] = some x) (hw : ∀ n ∈ x.1.weights Tryd.prog 36, n ≤ reachBytes) :
    ∃ L : List Int, Pv w.heap.size w v L ∧ ∀ c, v = .slice none L.length c → c = 0 := by
  rcases open_slice1 Tryd.underlying36 cellsI h with ⟨h0, _⟩ | ⟨a, len, cap, m, n, V, D, Pl, hv, hb, hl, hm, hmm, hx, hc⟩
  · simp only [List.cons.injEq, and_true] at h0
    subst h0
    refine ⟨[], ⟨none, 0, 0, 0, rfl, ⟨fun q => absurd q (by simp), fun q => absurd q (by simp), (fun q hq => absurd hq (by simp)), Nat.zero_le _⟩⟩, fun c hc => ?_⟩
    injection hc with _ _ h3
    exact h3.symm
  · simp only [List.cons.injEq, and_true] at hv
    subst hv
    have hlm : len ≤ m := by rw [hmm]; split <;> omega
    have hwl : len * 8 ≤ reachBytes := by
      have := hw ((len + (m - len)) * 8) (by rw [hx]; simp [DataW.weights, Tryd.underlying36, bytesI])
      omega
    have each : ∀ i, i < len → ∃ y : Int, V i = .int .i64 y := fun i hi => by
      obtain ⟨y, f, _, _⟩ := DataW.trod_int Tryd.underlying3 (hc i (by omega)).2
      simp only [List.cons.injEq, and_true] at f
      exact ⟨y, f⟩
    obtain ⟨q, hq⟩ := choose_lt each
    have hplen : ((List.range len).map q).length = len := by simp
    obtain ⟨b, off, spot⟩ := a
    have hspot : 0 < len → spot = none := fun h => by simpa [Addr.add] using World.cell?_spot (hc 0 (by omega)).1
    have cell : ∀ (i : Nat) (hi : i < ((List.range len).map q).length), w.cell? ⟨b, off + i, none⟩ = some (.int .i64 ((List.range len).map q)[i]) := by
      intro i hi
      have hi' : i < len := by rw [hplen] at hi; exact hi
      have e := (hc i (by omega)).1
      rw [hspot (by omega), add_plainT, hq i hi'] at e
      rw [e, List.getElem_map, List.getElem_range]
    refine ⟨(List.range len).map q, ⟨some ⟨b, off, spot⟩, b, off, cap, by rw [hplen], ⟨fun z => ?_, fun z => ?_, cell, ?_⟩⟩, fun c hc => by cases hc⟩
    · rw [hplen] at z
      rw [hspot z]
    · exact World.block_lt_of_cell? w _ (cell 0 z)
    · rw [hplen]
      rw [show reachBytes = 140737488351232 from rfl] at hwl
      omega
set_option maxRecDepth 100000 in
/-- the nodes that are handed in -/
theorem open_nodes {H : Type} {enc : TypeId × Value → H} {w : World} {base fuel : Nat} {spare : Nat → Bool} {held : Bool} {v : Value} {x : DataW H × List MemPlace} (h : DataW.trod enc Tryd.prog w base spare held fuel 22 [v] = some x) (hw : ∀ n ∈ x.1.weights Tryd.prog 22, n ≤ reachBytes) :
    ∃ (ns : List ND) (ao : Option Addr) (b o cap : Nat) (pv : Nat → Value), v = .slice ao ns.length cap ∧ NsAt w.heap.size w ao b o pv ns := by
  rcases open_slice_pairs Tryd.underlying22 Tryd.underlying45 cellsNd rfl rfl cellsI cellsPl h with ⟨h0, _⟩ | ⟨a, len, cap, m, n, V0, V1, D0, D1, P0, P1, hv, hb, hl, hm, hmm, hx, hc⟩
  · simp only [List.cons.injEq, and_true] at h0
    subst h0
    exact ⟨[], none, 0, 0, 0, fun _ => .slice none 0 0, rfl, ⟨fun q => absurd q (by simp), fun q => absurd q (by simp), (fun q hq => absurd hq (by simp)), (fun q hq => absurd hq (by simp)), (fun q hq => absurd hq (by simp)), Nat.zero_le _, (fun q hq => absurd hq (by simp))⟩⟩
  · simp only [List.cons.injEq, and_true] at hv
    subst hv
    have hlm : len ≤ m := by rw [hmm]; split <;> omega
    have hwl : len * 32 ≤ reachBytes := by
      have := hw ((len + (m - len)) * 32) (by rw [hx]; simp [DataW.weights, Tryd.underlying22, bytesNd])
      omega
    have each : ∀ i, i < len → ∃ y : ND, V0 i = .int .i64 y.z ∧ Pv w.heap.size w (V1 i) y.ps ∧ ∀ c, V1 i = .slice none y.ps.length c → c = 0 := fun i hi => by
      obtain ⟨_, _, t0, t1⟩ := hc i (by omega)
      obtain ⟨y, f, _, _⟩ := DataW.trod_int Tryd.underlying3 t0
      simp only [List.cons.injEq, and_true] at f
      obtain ⟨L, hL, hn⟩ := open_ps t1 fun n hn => hw n (by
        rw [hx]
        simp only [DataW.weights, Tryd.underlying22]
        refine List.mem_cons_of_mem _ (List.mem_append_left _ (all_mem (d := DataW.agg [D0 i, D1 i]) ?_ (List.mem_map.2 ⟨i, List.mem_range.2 hi, rfl⟩)))
        simp only [DataW.weights, Tryd.underlying45]
        exact DataW.weights_mem_each (j := 1) rfl rfl n hn)
      exact ⟨⟨y, L⟩, f, hL, hn⟩
    obtain ⟨q, hq⟩ := choose_lt each
    have hplen : ((List.range len).map q).length = len := by simp
    obtain ⟨b, off, spot⟩ := a
    have hspot : 0 < len → spot = none := fun h => by simpa [Addr.add] using World.cell?_spot (hc 0 (by omega)).1
    have at0 : ∀ (i : Nat) (hi : i < ((List.range len).map q).length), i < len ∧ ((List.range len).map q)[i] = q i := fun i hi => ⟨by rw [hplen] at hi; exact hi, by rw [List.getElem_map, List.getElem_range]⟩
    have c0 : ∀ (i : Nat) (hi : i < ((List.range len).map q).length), w.cell? ⟨b, off + i * 2, none⟩ = some (.int .i64 ((List.range len).map q)[i].z) := by
      intro i hi
      obtain ⟨hi', e'⟩ := at0 i hi
      have e := (hc i (by omega)).1
      rw [hspot (by omega), add_plainT, (hq i hi').1] at e
      rw [e, e']
    have c1 : ∀ (i : Nat) (hi : i < ((List.range len).map q).length), w.cell? ⟨b, off + i * 2 + 1, none⟩ = some (V1 i) := by
      intro i hi
      obtain ⟨hi', e'⟩ := at0 i hi
      have e := (hc i (by omega)).2.1
      rw [hspot (by omega), add_plainT] at e
      rw [← Nat.add_assoc] at e
      exact e
    refine ⟨(List.range len).map q, some ⟨b, off, spot⟩, b, off, cap, V1, by rw [hplen], ⟨fun z => ?_, fun z => ?_, c0, c1, fun i hi => ?_, ?_, fun i hi c hcc => ?_⟩⟩
    · rw [hplen] at z
      rw [hspot z]
    · exact World.block_lt_of_cell? w _ (c0 0 z)
    · obtain ⟨hi', e'⟩ := at0 i hi
      rw [e']
      exact (hq i hi').2.1
    · rw [hplen]
      rw [show reachBytes = 140737488351232 from rfl] at hwl
      omega
    · obtain ⟨hi', e'⟩ := at0 i hi
      rw [e'] at hcc
      exact (hq i hi').2.2 c hcc
theorem list23 {α : Type} {l : List α} (h : l.length = 23) : ∃ a0 a1 a2 a3 a4 a5 a6 a7 a8 a9 a10 a11 a12 a13 a14 a15 a16 a17 a18 a19 a20 a21 a22, l = [a0, a1, a2, a3, a4, a5, a6, a7, a8, a9, a10, a11, a12, a13, a14, a15, a16, a17, a18, a19, a20, a21, a22] := by
  match l, h with
  | [a0, a1, a2, a3, a4, a5, a6, a7, a8, a9, a10, a11, a12, a13, a14, a15, a16, a17, a18, a19, a20, a21, a22], _ => exact ⟨a0, a1, a2, a3, a4, a5, a6, a7, a8, a9, a10, a11, a12, a13, a14, a15, a16, a17, a18, a19, a20, a21, a22, rfl⟩
theorem array23 {α : Type} {l : Array α} (h : l.size = 23) : ∃ a0 a1 a2 a3 a4 a5 a6 a7 a8 a9 a10 a11 a12 a13 a14 a15 a16 a17 a18 a19 a20 a21 a22, l = #[a0, a1, a2, a3, a4, a5, a6, a7, a8, a9, a10, a11, a12, a13, a14, a15, a16, a17, a18, a19, a20, a21, a22] := by
  obtain ⟨l⟩ := l
  obtain ⟨a0, a1, a2, a3, a4, a5, a6, a7, a8, a9, a10, a11, a12, a13, a14, a15, a16, a17, a18, a19, a20, a21, a22, h⟩ := list23 (l := l) (by simpa using h)
  exact ⟨a0, a1, a2, a3, a4, a5, a6, a7, a8, a9, a10, a11, a12, a13, a14, a15, a16, a17, a18, a19, a20, a21, a22, by rw [h]⟩
set_option maxRecDepth 100000 in
set_option maxHeartbeats 4000000 in
/-- a definition that is handed in -/
theorem open_cl {H : Type} {enc : TypeId × Value → H} {w : World} {r : Reach} {b0 base : Nat} {spare : Nat → Bool} {held : Bool} {v : Value} {d : DataW H} {p : List MemPlace} (hv : Value.okWide Tryd.prog w r b0 24 v) (h : DataW.Trod enc Tryd.prog w base spare held 24 v d p) (hw : ∀ n ∈ d.weights Tryd.prog 24, n ≤ reachBytes) :
    ∃ (st : ByteArray) (x : Nat → Int) (ns : List ND) (ao : Option Addr) (b o cap : Nat) (pv : Nat → Value), v = .agg (clA st x (.slice ao ns.length cap)) ∧ NsAt w.heap.size w ao b o pv ns ∧ st.size ≤ 9223372036854775807 := by
  obtain ⟨cs, rfl, hsz⟩ := okWide_struct Tryd.underlying24 hv
  obtain ⟨a0, a1, a2, a3, a4, a5, a6, a7, a8, a9, a10, a11, a12, a13, a14, a15, a16, a17, a18, a19, a20, a21, a22, rfl⟩ := array23 (hsz.trans cellsCl)
  obtain ⟨fuel, hf⟩ := h
  obtain ⟨xs, n, _, hx, _, hxl, hq⟩ := DataW.trod_struct Tryd.underlying24 hf
  obtain ⟨y0, y1, y2, y3, y4, y5, y6, y7, y8, y9, y10, y11, y12, y13, y14, y15, y16, y17, y18, y19, y20, y21, y22, rfl⟩ := list23 hxl
  have g0 := hq 0 _ rfl
  have g1 := hq 1 _ rfl
  have g2 := hq 2 _ rfl
  have g3 := hq 3 _ rfl
  have g4 := hq 4 _ rfl
  have g5 := hq 5 _ rfl
  have g6 := hq 6 _ rfl
  have g7 := hq 7 _ rfl
  have g8 := hq 8 _ rfl
  have g9 := hq 9 _ rfl
  have g10 := hq 10 _ rfl
  have g11 := hq 11 _ rfl
  have g12 := hq 12 _ rfl
  have g13 := hq 13 _ rfl
  have g14 := hq 14 _ rfl
  have g15 := hq 15 _ rfl
  have g16 := hq 16 _ rfl
  have g17 := hq 17 _ rfl
  have g18 := hq 18 _ rfl
  have g19 := hq 19 _ rfl
  have g20 := hq 20 _ rfl
  have g21 := hq 21 _ rfl
  have g22 := hq 22 _ rfl
  clear hq hf hv
  simp [Value.cells, cellsI, cellsS9, cellsNl] at g0 g1 g2 g3 g4 g5 g6 g7 g8 g9 g10 g11 g12 g13 g14 g15 g16 g17 g18 g19 g20 g21 g22
  obtain ⟨s0, f0, z0, w0⟩ := DataW.trod_string Tryd.underlying9 g0
  obtain ⟨n1, f1, z1, w1⟩ := DataW.trod_int Tryd.underlying3 g1
  obtain ⟨n2, f2, z2, w2⟩ := DataW.trod_int Tryd.underlying3 g2
  obtain ⟨n3, f3, z3, w3⟩ := DataW.trod_int Tryd.underlying3 g3
  obtain ⟨n4, f4, z4, w4⟩ := DataW.trod_int Tryd.underlying3 g4
  obtain ⟨n5, f5, z5, w5⟩ := DataW.trod_int Tryd.underlying3 g5
  obtain ⟨n6, f6, z6, w6⟩ := DataW.trod_int Tryd.underlying3 g6
  obtain ⟨n7, f7, z7, w7⟩ := DataW.trod_int Tryd.underlying3 g7
  obtain ⟨n8, f8, z8, w8⟩ := DataW.trod_int Tryd.underlying3 g8
  obtain ⟨n9, f9, z9, w9⟩ := DataW.trod_int Tryd.underlying3 g9
  obtain ⟨n10, f10, z10, w10⟩ := DataW.trod_int Tryd.underlying3 g10
  obtain ⟨n11, f11, z11, w11⟩ := DataW.trod_int Tryd.underlying3 g11
  obtain ⟨n12, f12, z12, w12⟩ := DataW.trod_int Tryd.underlying3 g12
  obtain ⟨n13, f13, z13, w13⟩ := DataW.trod_int Tryd.underlying3 g13
  obtain ⟨n14, f14, z14, w14⟩ := DataW.trod_int Tryd.underlying3 g14
  obtain ⟨n15, f15, z15, w15⟩ := DataW.trod_int Tryd.underlying3 g15
  obtain ⟨n16, f16, z16, w16⟩ := DataW.trod_int Tryd.underlying3 g16
  obtain ⟨n17, f17, z17, w17⟩ := DataW.trod_int Tryd.underlying3 g17
  obtain ⟨n18, f18, z18, w18⟩ := DataW.trod_int Tryd.underlying3 g18
  obtain ⟨n19, f19, z19, w19⟩ := DataW.trod_int Tryd.underlying3 g19
  obtain ⟨n20, f20, z20, w20⟩ := DataW.trod_int Tryd.underlying3 g20
  obtain ⟨n21, f21, z21, w21⟩ := DataW.trod_int Tryd.underlying3 g21
  simp only [List.cons.injEq, and_true] at f0 f1 f2 f3 f4 f5 f6 f7 f8 f9 f10 f11 f12 f13 f14 f15 f16 f17 f18 f19 f20 f21
  subst f0 f1 f2 f3 f4 f5 f6 f7 f8 f9 f10 f11 f12 f13 f14 f15 f16 f17 f18 f19 f20 f21
  simp only [Prod.mk.injEq] at hx
  obtain ⟨ns, ao, b, o, cap, pv, hv, hN⟩ := open_nodes g22 fun n hn => hw n (by
    rw [hx.1]
    simp only [DataW.weights, Tryd.underlying24]
    exact DataW.weights_mem_each (j := 22) rfl rfl n hn)
  subst hv
  refine ⟨s0, fun i => [n1, n2, n3, n4, n5, n6, n7, n8, n9, n10, n11, n12, n13, n14, n15, n16, n17, n18, n19, n20, n21][i]?.getD 0, ns, ao, b, o, cap, pv, rfl, hN, ?_⟩
  have := w0
  unfold maxLen at this
  omega
end Go.Proofs.YtdodellmbceffaaDoor
namespace Go.Proofs.YtdodellmbceffaaDoor
/-- the node that has the partition k -/
def hm (ns : List ND) (k : Nat) : Int := ownF (k : Int) 0 ns
/-- the place i round the ring from f on -/
def plc (P f i : Nat) : Nat := (f + i) % P
/-- no place ahead of i has the node of the place i -/
def frsh (ns : List ND) (P f i : Nat) : Bool := (List.range i).all fun j => !(hm ns (plc P f j) == hm ns (plc P f i))
/-- what is taken of the first i places -/
def wkL (ns : List ND) (P f : Nat) : Nat → List Nat
  | 0 => []
  | i + 1 => if frsh ns P f i = true then wkL ns P f i ++ [plc P f i] else wkL ns P f i
theorem wkL_yes {ns : List ND} {P f i : Nat} (h : frsh ns P f i = true) : wkL ns P f (i + 1) = wkL ns P f i ++ [plc P f i] := by simp [wkL, h]
theorem wkL_no {ns : List ND} {P f i : Nat} (h : frsh ns P f i = false) : wkL ns P f (i + 1) = wkL ns P f i := by simp [wkL, h]
theorem wkL_len (ns : List ND) (P f : Nat) (i : Nat) : (wkL ns P f i).length ≤ i := by
  induction i with
  | zero => simp [wkL]
  | succ i ih =>
    cases h : frsh ns P f i with
    | true => rw [wkL_yes h]; simp; exact ih
    | false => rw [wkL_no h]; omega
theorem wkL_pre (ns : List ND) (P f i k : Nat) : ∃ r, wkL ns P f (i + k) = wkL ns P f i ++ r := by
  induction k with
  | zero => exact ⟨[], by simp⟩
  | succ k ih =>
    obtain ⟨r, hr⟩ := ih
    rw [← Nat.add_assoc]
    cases h : frsh ns P f (i + k) with
    | true => exact ⟨r ++ [plc P f (i + k)], by rw [wkL_yes h, hr, List.append_assoc]⟩
    | false => exact ⟨r, by rw [wkL_no h, hr]⟩
/-- the walk: the first R of all that is taken -/
def wkR (ns : List ND) (P f R : Nat) : List Nat := (wkL ns P f P).take R
theorem wkR_at {ns : List ND} {P f R i : Nat} (hi : i ≤ P) (h : (wkL ns P f i).length = R) : wkR ns P f R = wkL ns P f i := by
  obtain ⟨r, hr⟩ := wkL_pre ns P f i (P - i)
  rw [show i + (P - i) = P by omega] at hr
  unfold wkR
  rw [hr, ← h, List.take_left]
theorem wkR_all {ns : List ND} {P f R : Nat} (h : (wkL ns P f P).length ≤ R) : wkR ns P f R = wkL ns P f P := List.take_of_length_le h
theorem plc_lt {P f i : Nat} (h : 0 < P) : plc P f i < P := Nat.mod_lt _ h
theorem wkL_lt {ns : List ND} {P f : Nat} (hP : 0 < P) (i : Nat) : ∀ p ∈ wkL ns P f i, p < P := by
  induction i with
  | zero => intro p hp; simp [wkL] at hp
  | succ i ih =>
    cases h : frsh ns P f i with
    | true =>
      rw [wkL_yes h]
      intro p hp
      rcases List.mem_append.1 hp with hp | hp
      · exact ih p hp
      · simp at hp
        subst hp
        exact plc_lt hP
    | false => rw [wkL_no h]; exact ih
theorem wkL_from {ns : List ND} {P f : Nat} (i : Nat) : ∀ p ∈ wkL ns P f i, ∃ j, j < i ∧ p = plc P f j := by
  induction i with
  | zero => intro p hp; simp [wkL] at hp
  | succ i ih =>
    intro p hp
    cases h : frsh ns P f i with
    | true =>
      rw [wkL_yes h] at hp
      rcases List.mem_append.1 hp with hp | hp
      · obtain ⟨j, hj, e⟩ := ih p hp
        exact ⟨j, by omega, e⟩
      · simp at hp
        exact ⟨i, by omega, hp⟩
    | false =>
      rw [wkL_no h] at hp
      obtain ⟨j, hj, e⟩ := ih p hp
      exact ⟨j, by omega, e⟩
theorem frsh_true {ns : List ND} {P f i : Nat} : frsh ns P f i = true ↔ ∀ j, j < i → hm ns (plc P f j) ≠ hm ns (plc P f i) := by
  unfold frsh
  rw [List.all_eq_true]
  constructor
  · intro h j hj
    have := h j (List.mem_range.2 hj)
    simpa using this
  · intro h j hj
    have := h j (List.mem_range.1 hj)
    simpa using this
theorem wkL_homes {ns : List ND} {P f : Nat} (i : Nat) : ∀ j, j < i → ∃ p ∈ wkL ns P f i, hm ns p = hm ns (plc P f j) := by
  induction i with
  | zero => intro j hj; omega
  | succ i ih =>
    intro j hj
    cases h : frsh ns P f i with
    | true =>
      rw [wkL_yes h]
      by_cases e : j = i
      · subst e
        exact ⟨plc P f j, by simp, rfl⟩
      · obtain ⟨p, hp, ep⟩ := ih j (by omega)
        exact ⟨p, List.mem_append_left _ hp, ep⟩
    | false =>
      rw [wkL_no h]
      by_cases e : j = i
      · subst e
        have hn : ¬ ∀ k, k < j → hm ns (plc P f k) ≠ hm ns (plc P f j) := fun hc => by rw [frsh_true.2 hc] at h; exact absurd h (by simp)
        obtain ⟨k, hk⟩ := Classical.not_forall.1 hn
        obtain ⟨hk1, hk2⟩ := Classical.not_imp.1 hk
        obtain ⟨p, hp, ep⟩ := ih k hk1
        exact ⟨p, hp, ep.trans (Classical.not_not.1 hk2)⟩
      · exact ih j (by omega)
/-- fresh: none of those that were taken has its node -/
theorem frsh_taken {ns : List ND} {P f i : Nat} : frsh ns P f i = true ↔ ∀ p ∈ wkL ns P f i, hm ns p ≠ hm ns (plc P f i) := by
  rw [frsh_true]
  constructor
  · intro h p hp
    obtain ⟨j, hj, rfl⟩ := wkL_from i p hp
    exact h j hj
  · intro h j hj e
    obtain ⟨p, hp, ep⟩ := wkL_homes (ns := ns) (P := P) (f := f) i j hj
    exact h p hp (ep.trans e)
theorem frsh_no {ns : List ND} {P f i p : Nat} (hp : p ∈ wkL ns P f i) (e : hm ns p = hm ns (plc P f i)) : frsh ns P f i = false := by
  cases h : frsh ns P f i with
  | false => rfl
  | true => exact absurd e (frsh_taken.1 h p hp)
/-- numbers as ints -/
def nis (l : List Nat) : List Int := l.map fun n : Nat => (n : Int)
theorem nis_len (l : List Nat) : (nis l).length = l.length := by simp [nis]
theorem nis_append (a b : List Nat) : nis (a ++ b) = nis a ++ nis b := by simp [nis]
/-- the owners of those places -/
def owL (ns : List ND) (l : List Nat) : List Int := l.map fun p => hm ns p
theorem owL_len (ns : List ND) (l : List Nat) : (owL ns l).length = l.length := by simp [owL]
theorem owL_take {ns : List ND} {l : List Nat} {q : Nat} (h : q < l.length) : owL ns (l.take (q + 1)) = owL ns (l.take q) ++ [hm ns l[q]] := by
  unfold owL
  rw [List.take_succ_eq_append_getElem h, List.map_append]
  rfl
end Go.Proofs.YtdodellmbceffaaDoor
namespace Go.Proofs.YtdodellmbceffaaDoor
open Go.RowKit
theorem outL_cell {w : World} {g k : Nat} {ns : List ND} (h : w.heap[g]? = some (.cells (outL ns).toArray 3 (0, 0))) (hk : k < (flat ns).length) : w.cell? ⟨g, k, none⟩ = some (.int .i64 (hm ns k)) := by
  unfold World.cell?
  simp only [h]
  simp [outL, hm, hk]
theorem one_cells (w : World) (n : Int) : ∀ j u, (ints [n])[j]? = some u → (w.alloc (.cells #[.int .i64 n] 3)).cell? ((⟨w.heap.size, 0, none⟩ : Addr).add j) = some u := cell_one_new w (.int .i64 n) 3
theorem own_cell {w : World} {base n cap g : Nat} {L : List Int} {q : Nat} (h : w.ownsRow base 3 1 (.slice (some ⟨g, 0, none⟩) n cap) n (ints L)) (hn : n = L.length) (hq : q < L.length) : w.cell? ⟨g, q, none⟩ = some (.int .i64 L[q]) := by
  subst hn
  rw [h.cellAt q (by omega), ints_at, List.getElem?_eq_getElem hq]
  rfl
theorem plc_int {P f i : Nat} : (((f : Int) + (i : Int)) % (P : Int)) = ((plc P f i : Nat) : Int) := by
  unfold plc
  rw [← Int.natCast_add]
  rfl
set_option maxHeartbeats 8000000 in
set_option maxRecDepth 100000 in
set_option linter.unusedSimpArgs false in
set_option linter.unusedVariables false in
theorem walk_any (w : World) (g P f R : Nat) (ns : List ND) (hg : w.heap[g]? = some (.cells (outL ns).toArray 3 (0, 0))) (hP : P = (flat ns).length) (p1 : 1 ≤ P) (p2 : P ≤ 64) (hf : f < P) (r1 : 1 ≤ R) (r2 : R ≤ 16) :
    Calls Tryd.prog 33 #[.slice (some ⟨g, 0, none⟩) P P, .int .i64 (f : Int), .int .i64 (R : Int)] w fun e w' => ∃ v, e = .returned v ∧ w'.ownsRow w.heap.size 3 1 v (wkR ns P f R).length (ints (nis (wkR ns P f R))) ∧ Below w.heap.size w w' := by
  have hgl := blk_lt hg
  have NC : Hid (∀ Y, Below w.heap.size w Y → ∀ k, k < P → Y.cell? ⟨g, k, none⟩ = some (.int .i64 (hm ns k))) := fun Y hY k hk => by
    rw [hY.cell (p := ⟨g, k, none⟩) hgl]
    exact outL_cell hg (hP ▸ hk)
  clear hg hP
  obtain ⟨k0, hk0, hx0, hx1, hx2⟩ := info_parts infoInt
  go_enter Tryd.func33, Tryd.ntmps33
  go_wp2_with fail
  go_step3
  go_wp2_with (first | (at_make; refine wpList_make_own _ rfl _ _ 36 rfl w.heap.size 3 k0 (.int .i64 0) 1 Tryd.underlying36 hk0 hx0 hx1 _ _ _ R rfl rfl rfl (by rw [hx2]; omega) (by unfold maxLen; omega) (Nat.le_refl _) ?_))
  intro w1 hown hgrow
  have B1 : Hid (Below w.heap.size w w1) := ⟨hgrow.os, hgrow.tape, hgrow.output, hgrow.size, fun i hi => hgrow.block i hi (by simp)⟩
  have O1 := hide hown
  clear hown hgrow
  go_wp2_with fail
  go_step3
  go_wp2_with fail
  go_loopw [7, 16] (fun vt vi wr => ∃ (i : Nat), i ≤ P ∧ vi = .int .i64 (i : Int) ∧ vt = .slice (some ⟨w.heap.size, 0, none⟩) (wkL ns P f i).length R ∧ (wkL ns P f i).length < R ∧ Hid (wr.ownsRow w.heap.size 3 1 vt (wkL ns P f i).length (ints (nis (wkL ns P f i)))) ∧ Hid (Below w.heap.size w wr)) (fun _ vi _ => P - (intOf vi).toNat)
  case atStart => exact ⟨0, Nat.zero_le _, rfl, rfl, by simp [wkL]; omega, O1, B1⟩
  case round =>
    obtain ⟨i, hi, rfl, rfl, hlt, HO, HB⟩ := hrel
    by_cases hil : i < P
    case neg =>
      obtain rfl : i = P := by omega
      have HE := hide (wkR_all (ns := ns) (P := i) (f := f) (R := R) (by omega))
      go_wp2_with fail
      try rw [Exit.noGoto_ret]
      go_ret
      exact ⟨_, rfl, by rw [HE.out]; exact HO.out, HB.out⟩
    case pos =>
      have hii : (i : Int) < (P : Int) := by omega
      have ew := wrap_in (x := (f : Int) + (i : Int)) (by omega) (by omega)
      go_upto_region 6 with fail
      rw [plc_int]
      have hpP := plc_lt (P := P) (f := f) (i := i) (by omega)
      have HNo : Hid (∀ q (h : q < (wkL ns P f i).length), hm ns (wkL ns P f i)[q] = hm ns (plc P f i) → wkL ns P f (i + 1) = wkL ns P f i) := fun q h e => wkL_no (frsh_no (List.getElem_mem h) e)
      have HYes : Hid ((∀ q (h : q < (wkL ns P f i).length), hm ns (wkL ns P f i)[q] ≠ hm ns (plc P f i)) → wkL ns P f (i + 1) = wkL ns P f i ++ [plc P f i]) := fun h => wkL_yes (frsh_taken.2 fun k hk => by
        obtain ⟨q, hq, rfl⟩ := List.getElem_of_mem hk
        exact h q hq)
      have HLt : Hid (∀ q (h : q < (wkL ns P f i).length), (wkL ns P f i)[q] < P) := fun q h => wkL_lt (by omega) i _ (List.getElem_mem h)
      clear ew
      generalize wkL ns P f i = L at *
      generalize plc P f i = p at *
      go_wp2_with fail
      go_loopw [27] (fun vi wq => ∃ (q : Nat), q ≤ L.length ∧ vi = .int .i64 (q : Int) ∧ Hid (∀ j (h : j < L.length), j < q → hm ns L[j] ≠ hm ns p) ∧ Hid (wq.ownsRow w.heap.size 3 1 (.slice (some ⟨w.heap.size, 0, none⟩) L.length R) L.length (ints (nis L))) ∧ Hid (Below w.heap.size w wq)) (fun vi _ => L.length - (intOf vi).toNat)
      case atStart => exact ⟨0, Nat.zero_le _, rfl, (fun j _ h => absurd h (Nat.not_lt_zero _)), HO, HB⟩
      case round =>
        clear HO HB
        obtain ⟨q, hq, rfl, HD, HO, HB⟩ := hrel
        by_cases hql : q < L.length
        case neg =>
          obtain rfl : q = L.length := by omega
          have HE := hide (HYes.out fun j h => HD.out j h h)
          clear HD HNo HYes HLt
          have HR := hide (wkR_at (ns := ns) (P := P) (f := f) (R := R) (i := i + 1) (by omega))
          go_upto_region 12 with (at_builtin; refine wpList_append_fits _ rfl (.tmp 41) (.tmp 43) 36 rfl w.heap.size 3 k0 1 Tryd.underlying36 hk0 hx1 w.heap.size L.length R (ints (nis L)) rfl (HO.out.alloc _) ⟨wr.heap.size, 0, none⟩ 1 1 (ints [(p : Int)]) rfl rfl (one_cells wr _) (ints_one _) (by omega) ?_; intro X3 o3 g3)
          have B3 : Hid (Below w.heap.size w X3) := (HB.out.alloc HB.out.size _).grown g3 (by have := HB.out.size; simp; omega) (fun j hj => by injection hj with hj; omega)
          have O3 : Hid (X3.ownsRow w.heap.size 3 1 (.slice (some ⟨w.heap.size, 0, none⟩) (L.length + 1) R) (wkL ns P f (i + 1)).length (ints (nis (wkL ns P f (i + 1))))) := by
            rw [HE.out, List.length_append, nis_append]
            unfold ints at o3 ⊢
            rw [List.map_append]
            exact o3
          have HLn : Hid ((wkL ns P f (i + 1)).length = L.length + 1) := by
            show _ = _
            rw [HE.out, List.length_append]
            rfl
          clear o3 g3 HE
          by_cases hR : L.length + 1 = R
          · have HE2 := hide (HR.out (HLn.out.trans hR))
            have hRi : (L.length : Int) + 1 = (R : Int) := by omega
            clear HR HLn
            go_wp2_with fail
            try rw [Exit.noGoto_ret]
            go_ret
            exact ⟨_, rfl, by rw [HE2.out]; exact O3.out, B3.out⟩
          · have hRi : ¬ (L.length : Int) + 1 = (R : Int) := by omega
            clear HR
            go_wp2_with fail
            go_roundw
            case rel => exact ⟨i + 1, by omega, by go_num, by rw [HLn.out], by rw [HLn.out]; omega, O3, B3⟩
            case measure => simp [intOf]; omega
        case pos =>
          have hqi : (q : Int) < (L.length : Int) := by omega
          have hl1 := HLt.out q hql
          have c0 := own_cell HO.out (by rw [nis_len]) (q := q) (by rw [nis_len]; exact hql)
          have e0 : (nis L)[q]'(by rw [nis_len]; exact hql) = ((L[q] : Nat) : Int) := by simp [nis]
          rw [e0] at c0
          have c1 := NC.out _ HB.out L[q] hl1
          have c2 := NC.out _ HB.out p hpP
          have HN2 := hide (HNo.out q hql)
          have HD2 : Hid (¬ hm ns L[q] = hm ns p → ∀ j (h : j < L.length), j < q + 1 → hm ns L[j] ≠ hm ns p) := fun hne j h hj => by
            by_cases ej : j = q
            · subst ej
              exact hne
            · exact HD.out j h (by omega)
          clear e0 HD
          have hli : ((L[q] : Nat) : Int) < (P : Int) := by omega
          have hpi : ((p : Nat) : Int) < (P : Int) := by omega
          generalize L[q] = e at *
          generalize hm ns e = a1 at *
          generalize hm ns p = a2 at *
          by_cases he : a1 = a2
          · have HE := hide (HN2.out he)
            subst he
            clear HN2 HD2 HNo HYes HLt NC
            go_upto_region 9 with fail
            go_quiet (fail)
            have O2 : Hid ((wr.drewN nq).ownsRow w.heap.size 3 1 (.slice (some ⟨w.heap.size, 0, none⟩) L.length R) L.length (ints (nis L))) := own_keep HO.out (fun _ _ => rfl)
            have B2 := hide (HB.out.trans (c := wr.drewN nq) ⟨rfl, rfl, rfl, Nat.le_refl _, fun _ _ => rfl⟩)
            generalize wr.drewN nq = W3 at *
            clear c0 c1 c2 HO HB
            go_wp2_with fail
            go_roundw
            case rel => exact ⟨i + 1, by omega, by go_num, by rw [HE.out], by rw [HE.out]; exact hlt, by rw [HE.out]; exact O2, B2⟩
            case measure => simp [intOf]; omega
          · have HE := hide (HD2.out he)
            have he' : (a1 == a2) = false := by simpa using he
            clear HN2 HD2
            go_upto_region 9 with fail
            go_quiet (fail)
            have O2 : Hid ((wr.drewN nq).ownsRow w.heap.size 3 1 (.slice (some ⟨w.heap.size, 0, none⟩) L.length R) L.length (ints (nis L))) := own_keep HO.out (fun _ _ => rfl)
            have B2 := hide (HB.out.trans (c := wr.drewN nq) ⟨rfl, rfl, rfl, Nat.le_refl _, fun _ _ => rfl⟩)
            generalize wr.drewN nq = W3 at *
            clear c0 c1 c2 HO HB
            go_wp2_with fail
            go_roundw
            case rel => exact ⟨q + 1, by omega, by go_num, HE, O2, B2⟩
            case measure => simp [intOf]; omega
end Go.Proofs.YtdodellmbceffaaDoor
namespace Go.Proofs.YtdodellmbceffaaDoor
open Go.RowKit
set_option maxHeartbeats 8000000 in
set_option maxRecDepth 100000 in
set_option linter.unusedSimpArgs false in
set_option linter.unusedVariables false in
theorem keepers_any (N : Nat) (w : World) (g P : Nat) (an : Option Addr) (ns : List ND) (L : List Nat) (pa : Option Addr) (pb po pc : Nat) (hp : PsAt N w pa pb po (nis L)) (hN : N ≤ w.heap.size) (han : 0 < L.length → an = some ⟨g, 0, none⟩ ∧ g < w.heap.size) (hc : ∀ k, k < P → w.cell? ⟨g, k, none⟩ = some (.int .i64 (hm ns k))) (hL : ∀ p ∈ L, p < P) (hl : L.length ≤ 64) (hP : P ≤ 64) :
    Calls Tryd.prog 24 #[.slice an P P, .slice pa L.length pc] w fun e w' => ∃ v, e = .returned v ∧ w'.ownsRow w.heap.size 3 1 v L.length (ints (owL ns L)) ∧ Below w.heap.size w w' := by
  have HP := hide hp
  have HC := hide hc
  have HA := hide han
  have HL := hide hL
  clear hp hc han hL
  obtain ⟨k0, hk0, hx0, hx1, hx2⟩ := info_parts infoInt
  go_enter Tryd.func24, Tryd.ntmps24
  go_wp2_with fail
  go_loopw [5, 10] (fun vt vi wr => ∃ (q : Nat), q ≤ L.length ∧ vi = .int .i64 (q : Int) ∧ Hid (wr.ownsRow w.heap.size 3 1 vt q (ints (owL ns (L.take q)))) ∧ Hid (Below w.heap.size w wr)) (fun _ vi _ => L.length - (intOf vi).toNat)
  case atStart => exact ⟨0, Nat.zero_le _, rfl, World.ownsRow_nil _ _ _ _, Below.refl _ _⟩
  case round =>
    obtain ⟨q, hq, rfl, HO, HB⟩ := hrel
    obtain ⟨ba, cp, hv, _⟩ := own_sl HO.out
    subst hv
    by_cases hql : q < L.length
    case neg =>
      obtain rfl : q = L.length := by omega
      have HO2 := HO.out
      rw [List.take_length] at HO2
      have HO3 := hide HO2
      clear HO2 HO
      go_wp2_with fail
      go_ret
      exact ⟨_, rfl, HO3.out, HB.out⟩
    case pos =>
      obtain ⟨h1, h2⟩ := HA.out (by omega)
      subst h1
      have h3 := HP.out.at0 (by rw [nis_len]; omega)
      subst h3
      have hqi : (q : Int) < (L.length : Int) := by omega
      have hpl := HL.out L[q] (List.getElem_mem hql)
      have hpi : ((L[q] : Nat) : Int) < (P : Int) := by omega
      have c1 : wr.cell? ⟨pb, po + q, none⟩ = some (.int .i64 ((L[q] : Nat) : Int)) := by
        rw [(HP.out.below (HB.out.mono hN)).c q (by rw [nis_len]; omega)]
        simp [nis]
      have c2 : wr.cell? ⟨g, L[q], none⟩ = some (.int .i64 (hm ns L[q])) := by
        rw [HB.out.cell (p := ⟨g, L[q], none⟩) h2]
        exact HC.out _ hpl
      have ET := hide (owL_take (ns := ns) hql)
      generalize L[q] = p at *
      generalize hm ns p = n at *
      go_wp2_with (at_builtin; refine wpList_append_own_at _ rfl (.tmp 14) (.tmp 19) 36 rfl w.heap.size 3 k0 (.int .i64 0) 1 8 Tryd.underlying36 hk0 hx0 hx1 hx2 rfl (by decide) _ _ _ rfl (HO.out.alloc _) ⟨wr.heap.size, 0, none⟩ 1 1 (ints [n]) rfl rfl (one_cells wr n) (ints_one _) (by unfold maxLen; omega) (by omega) (by have := HB.out.size; simp; omega) ?_; intro v2 X3 o3 g3 n3 a3; clear n3 a3)
      have B3 : Hid (Below w.heap.size w X3) := (HB.out.alloc HB.out.size _).grown g3 (by have := HB.out.size; simp; omega) (fun j hj => (own_lt HO.out hj).1)
      have O3 : Hid (X3.ownsRow w.heap.size 3 1 v2 (q + 1) (ints (owL ns (L.take (q + 1))))) := by
        rw [ET.out]
        unfold ints at o3 ⊢
        rw [List.map_append]
        exact o3
      clear o3 g3
      go_wp2_with fail
      go_roundw
      case rel => exact ⟨q + 1, by omega, by go_num, O3, B3⟩
      case measure => simp [intOf]; omega
end Go.Proofs.YtdodellmbceffaaDoor
