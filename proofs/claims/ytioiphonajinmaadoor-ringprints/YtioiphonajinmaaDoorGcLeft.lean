import Derived.Test.YtioiphonajinmaaDoorGGcSame
namespace Go.Proofs.YtioiphonajinmaaDoor
open Go.RowKit
theorem hd_rc {w : World} {H : Nat} {st : ByteArray} {x : Nat → Int} {a b c d : Value} (h : HdAt w H st x a b c d) : w.rangeAt H 0 (clA st x a).toList := by
  intro j v hj
  have hl : j < 23 := by
    have := (List.getElem?_eq_some_iff.1 hj).1
    simpa [clA] using this
  rw [Nat.zero_add, h.rc j hl, ← Array.getElem?_toList]
  exact hj
theorem hd_rw {w : World} {H : Nat} {st : ByteArray} {x : Nat → Int} {a b c d : Value} (h : HdAt w H st x a b c d) : w.rangeAt H 23 (clA st x b).toList := by
  intro j v hj
  have hl : j < 23 := by
    have := (List.getElem?_eq_some_iff.1 hj).1
    simpa [clA] using this
  rw [h.rw j hl, ← Array.getElem?_toList]
  exact hj
theorem ints_pre (a b : List Int) (j : Nat) (h : j < a.length) : (ints (a ++ b))[j]? = some (.int .i64 a[j]) := by
  rw [ints_at, List.getElem?_append_left h, List.getElem?_eq_getElem h]
  rfl
theorem ints_mark (a : List Int) (j : Nat) (h : j < 3) : (ints (a ++ [701, 702, 703]))[a.length + j]? = some (.int .i64 (701 + j)) := by
  rw [ints_at, List.getElem?_append_right (by omega), Nat.add_sub_cancel_left]
  have : j = 0 ∨ j = 1 ∨ j = 2 := by omega
  rcases this with rfl | rfl | rfl <;> rfl
/-- a list with its marks behind it, as it may be read -/
theorem marks_ps {w : World} {base g c : Nat} {L : List Int} (h : w.ownsRow base 3 1 (.slice (some ⟨g, 0, none⟩) (L.length + 3) c) (L.length + 3) (ints (L ++ [701, 702, 703]))) (hl : L.length ≤ 17592186043904) : PsAt w.heap.size w (some ⟨g, 0, none⟩) g 0 L := by
  refine ⟨fun _ => rfl, fun _ => (own_lt h (by simp [Value.ownBlock])).2, fun q hq => ?_, hl⟩
  rw [Nat.zero_add, h.cellAt q (by omega), ints_pre _ _ q hq]
def pvZ (zs : List (Int × Value)) : Nat → Value := fun q => (zs[q]?.map (·.2)).getD (.slice none 0 0)
theorem Handd.nodes {base H : Nat} {W : World} {st : ByteArray} {x : Nat → Int} {ns : List ND} {vl vp : Value} {gn cn : Nat} {zs : List (Int × Value)} {ls : List Value} (h : Handd base H W st x ns vl vp gn cn zs ls) (hlen : ns.length ≤ 4398046510976) (hps : ∀ (q : Nat) (h : q < ns.length), ns[q].ps.length ≤ 17592186043904) : NsAt W.heap.size W (some ⟨gn, 0, none⟩) gn 0 (pvZ zs) ns := by
  have hz : ∀ (q : Nat) (hq : q < zs.length), (ndc (zs ++ mk2))[q * 2]? = some (.int .i64 zs[q].1) ∧ (ndc (zs ++ mk2))[q * 2 + 1]? = some zs[q].2 := fun q hq => by
    have := ndc_at (zs ++ mk2) q (by simp; omega)
    rw [List.getElem_append_left hq] at this
    exact this
  have hzl := h.zl
  have hll := h.ll
  refine ⟨fun _ => rfl, fun _ => (own_lt h.rn (by simp [Value.ownBlock])).2, fun q hq => ?_, fun q hq => ?_, fun q hq => ?_, hlen, fun q hq c he => ?_⟩
  · rw [Nat.zero_add, h.rn.cellAt (q * 2) (by omega), (hz q (by omega)).1, h.z q (by omega) hq]
  · rw [Nat.zero_add, h.rn.cellAt (q * 2 + 1) (by omega), (hz q (by omega)).2]
    unfold pvZ
    rw [List.getElem?_eq_getElem (by omega)]
    rfl
  · obtain ⟨g, c, e1, e2, oo⟩ := h.l q (by omega) (by omega) hq
    unfold pvZ
    rw [List.getElem?_eq_getElem (by omega)]
    rw [e2] at oo
    exact ⟨_, g, 0, c, e1, marks_ps oo (hps q hq)⟩
  · obtain ⟨g, c', e1, _⟩ := h.l q (by omega) (by omega) hq
    unfold pvZ at he
    rw [List.getElem?_eq_getElem (by omega)] at he
    simp only [Option.map_some, Option.getD_some] at he
    rw [e1] at he
    simp at he
/-- what Left reads -/
structure Fx (Y : World) (H : Nat) (st : ByteArray) (x : Nat → Int) (ns : List ND) (vl vp : Value) (gn cn : Nat) : Prop where
  rc0 : Y.rangeAt H 0 (clA st x (.slice (some ⟨gn, 0, none⟩) ns.length cn)).toList
  rw0 : Y.rangeAt H 23 (clA st x vl).toList
  vw : Y.cell? ⟨H, 45, none⟩ = some vl
  vn : Y.cell? ⟨H, 46, none⟩ = some (.slice (some ⟨gn, 0, none⟩) (ns.length + 2) cn)
  vp : Y.cell? ⟨H, 47, none⟩ = some vp
  m1 : Y.cell? ⟨gn, 0 + ns.length * 2, none⟩ = some (.int .i64 801)
  m2 : Y.cell? ⟨gn, 0 + (ns.length + 1) * 2, none⟩ = some (.int .i64 802)
  m3 : Y.cell? ⟨gn, 0 + ns.length * 2 + 1, none⟩ = some (.slice none 0 0)
  m4 : Y.cell? ⟨gn, 0 + (ns.length + 1) * 2 + 1, none⟩ = some (.slice none 0 0)
theorem Handd.fx {base H : Nat} {W Y : World} {st : ByteArray} {x : Nat → Int} {ns : List ND} {vl vp : Value} {gn cn : Nat} {zs : List (Int × Value)} {ls : List Value} (h : Handd base H W st x ns vl vp gn cn zs ls) (hY : Below W.heap.size W Y) : Fx Y H st x ns vl vp gn cn := by
  have hd := h.hd.below hY
  have rn := own_keep (X' := Y) h.rn fun g hg => hY.block g (own_lt h.rn hg).2
  have hm : ∀ (q : Nat) (hq : q < mk2.length), (ndc (zs ++ mk2))[(zs.length + q) * 2]? = some (.int .i64 mk2[q].1) ∧ (ndc (zs ++ mk2))[(zs.length + q) * 2 + 1]? = some mk2[q].2 := fun q hq => by
    have := ndc_at (zs ++ mk2) (zs.length + q) (by simp; omega)
    simp only [List.getElem_append_right (Nat.le_add_right _ _), Nat.add_sub_cancel_left] at this
    exact this
  rw [h.zl] at hm
  have a0 := hm 0 (by decide)
  have a1 := hm 1 (by decide)
  rw [Nat.add_zero] at a0
  exact ⟨hd_rc hd, hd_rw hd, hd.b, hd.c, hd.d, by rw [Nat.zero_add, rn.cellAt _ (by omega)]; exact a0.1, by rw [Nat.zero_add, rn.cellAt _ (by omega)]; exact a1.1, by rw [Nat.zero_add, rn.cellAt _ (by omega)]; exact a0.2, by rw [Nat.zero_add, rn.cellAt _ (by omega)]; exact a1.2⟩
set_option maxHeartbeats 8000000 in
set_option maxRecDepth 100000 in
set_option linter.unusedSimpArgs false in
set_option linter.unusedVariables false in
theorem left_any (base H : Nat) (W : World) (st : ByteArray) (x : Nat → Int) (ns : List ND) (vl vp : Value) (gn cn : Nat) (zs : List (Int × Value)) (ls : List Value) (zt : List (Int × Value)) (h : Handd base H W st x ns vl vp gn cn zs ls) (hzt : zt.length = ns.length) (hT : Tw 0 W ns vl zt) (hlen : ns.length ≤ 4398046510976) (hps : ∀ (q : Nat) (h : q < ns.length), ns[q].ps.length ≤ 17592186043904) :
    Calls Tryd.prog 16 #[.pointer (some ⟨H, 0, none⟩)] W fun e w' => e = .returned (.bool true) ∧ Below W.heap.size W w' := by
  obtain ⟨aw, bw, cw, hvl, hNT⟩ := hT.nodes hzt hlen hps
  subst hvl
  have NT := hide hNT
  have NH := hide (h.nodes hlen hps)
  have FF : Hid (∀ Y, Below W.heap.size W Y → Fx Y H st x ns (.slice aw ns.length cw) vp gn cn) := fun Y hY => h.fx hY
  have HH := hide h
  have HP := hide hps
  have bd := (Below.refl W.heap.size W).drew
  have SC := hide (sameCluster_eq W.heap.size W.drew st x ns (some ⟨gn, 0, none⟩) gn 0 cn (pvZ zs) (NH.out.below bd) aw bw 0 cw _ (NT.out.below bd) (Nat.le_refl _))
  clear hNT h hT hps bd
  have v45 := (FF.out W (Below.refl _ _)).vw
  go_enter Tryd.func16, Tryd.ntmps16
  go_wp2_with fail
  clear v45
  refine wp_region_held_drew (S := fun Y => Below W.heap.size W Y) (by kernel_rfl) ((Below.refl _ _).drew) (fun hHeld => ?_)
  refine wpAnyH_take (i := 0) (v := (.pointer (some ⟨H, 0, none⟩))) rfl (by kernel_rfl) (by kernel_rfl) (by kernel_rfl) (fun _ _ _ h => h) (Or.inl ⟨by rfl, ?_⟩) (by assumption) ?_
  · intro w' hSw
    (try dsimp only at hSw)
    exact exec_move (.tmp 0) rfl (by kernel_rfl)
  (try simp only [Act.put, List.setIfInBounds_toArray, List.set_cons_zero, List.set_cons_succ])
  refine wpAnyH_take (i := 1) (v := (.pointer (some ⟨H, 0, none⟩))) rfl (by kernel_rfl) (by kernel_rfl) (by kernel_rfl) (fun _ _ _ h => h) (Or.inl ⟨by rfl, ?_⟩) (by assumption) ?_
  · intro w' hSw
    (try dsimp only at hSw)
    exact exec_nil (.tmp 13) rfl (by kernel_rfl)
  (try simp only [Act.put, List.setIfInBounds_toArray, List.set_cons_zero, List.set_cons_succ])
  refine wpAnyH_take (i := 2) (v := (.pointer (some ⟨H, 0, none⟩))) rfl (by kernel_rfl) (by kernel_rfl) (by kernel_rfl) (fun _ _ _ h => h) (Or.inl ⟨by rfl, ?_⟩) (by assumption) ?_
  · intro w' hSw
    (try dsimp only at hSw)
    exact exec_fa (a := ⟨H, 0, none⟩) (.tmp 14) rfl (by kernel_rfl) (by kernel_rfl)
  (try simp only [Act.put, List.setIfInBounds_toArray, List.set_cons_zero, List.set_cons_succ])
  refine wpAnyH_take (i := 3) (v := (.agg (clA st x (.slice (some ⟨gn, 0, none⟩) ns.length cn)))) rfl (by kernel_rfl) (by kernel_rfl) (by kernel_rfl) (fun _ _ _ h => h) (Or.inl ⟨by rfl, ?_⟩) (by assumption) ?_
  · intro w' hSw
    (try dsimp only at hSw)
    exact exec_mid (.tmp 15) rfl (by kernel_rfl) (FF.out _ hSw).rc0
  (try simp only [Act.put, List.setIfInBounds_toArray, List.set_cons_zero, List.set_cons_succ])
  refine wpAnyH_take (i := 4) (v := (.pointer (some ⟨H, 0, none⟩))) rfl (by kernel_rfl) (by kernel_rfl) (by kernel_rfl) (fun _ _ _ h => h) (Or.inl ⟨by rfl, ?_⟩) (by assumption) ?_
  · intro w' hSw
    (try dsimp only at hSw)
    exact exec_move (.tmp 0) rfl (by kernel_rfl)
  (try simp only [Act.put, List.setIfInBounds_toArray, List.set_cons_zero, List.set_cons_succ])
  refine wpAnyH_take (i := 5) (v := (.pointer (some ⟨H, 0, none⟩))) rfl (by kernel_rfl) (by kernel_rfl) (by kernel_rfl) (fun _ _ _ h => h) (Or.inl ⟨by rfl, ?_⟩) (by assumption) ?_
  · intro w' hSw
    (try dsimp only at hSw)
    exact exec_nil (.tmp 17) rfl (by kernel_rfl)
  (try simp only [Act.put, List.setIfInBounds_toArray, List.set_cons_zero, List.set_cons_succ])
  refine wpAnyH_take (i := 6) (v := (.pointer (some ⟨H, 23, none⟩))) rfl (by kernel_rfl) (by kernel_rfl) (by kernel_rfl) (fun _ _ _ h => h) (Or.inl ⟨by rfl, ?_⟩) (by assumption) ?_
  · intro w' hSw
    (try dsimp only at hSw)
    exact exec_fa (a := ⟨H, 0, none⟩) (.tmp 18) rfl (by kernel_rfl) (by kernel_rfl)
  (try simp only [Act.put, List.setIfInBounds_toArray, List.set_cons_zero, List.set_cons_succ])
  refine wpAnyH_take (i := 7) (v := (.agg (clA st x (.slice aw ns.length cw)))) rfl (by kernel_rfl) (by kernel_rfl) (by kernel_rfl) (fun _ _ _ h => h) (Or.inl ⟨by rfl, ?_⟩) (by assumption) ?_
  · intro w' hSw
    (try dsimp only at hSw)
    exact exec_mid (.tmp 19) rfl (by kernel_rfl) (FF.out _ hSw).rw0
  (try simp only [Act.put, List.setIfInBounds_toArray, List.set_cons_zero, List.set_cons_succ])
  refine wpAnyH_ready (rs := [8]) (by kernel_rfl) (by simp) ?_
  refine AllReadyH.cons rfl (fun K hK => ?_) AllReadyH.nil
  go_simp
  refine Calls.mono SC.out ?_
  rintro e W1 ⟨rfl, hb⟩
  have B1 : Hid (Below W.heap.size W W1) := ⟨hb.os, hb.tape, hb.output, hb.size, hb.block⟩
  clear hb SC
  refine hK.out _ _ (B1.out) (fun hHeld => ?_)
  clear hK
  (try simp only [Act.put, List.setIfInBounds_toArray, List.set_cons_zero, List.set_cons_succ])
  refine wpAnyH_take (i := 9) (v := (.bool false)) rfl (by kernel_rfl) (by kernel_rfl) (by kernel_rfl) (fun _ _ _ h => h) (Or.inl ⟨by rfl, ?_⟩) (by assumption) ?_
  · intro w' hSw
    (try dsimp only at hSw)
    exact exec_not (.tmp 21) _ rfl (by kernel_rfl)
  (try simp only [Act.put, List.setIfInBounds_toArray, List.set_cons_zero, List.set_cons_succ])
  refine wpAnyH_take (i := 10) (v := (.bool false)) rfl (by kernel_rfl) (by kernel_rfl) (by kernel_rfl) (fun _ _ _ h => h) (Or.inl ⟨by rfl, ?_⟩) (by assumption) ?_
  · intro w' hSw
    (try dsimp only at hSw)
    exact exec_move (.tmp 22) rfl (by kernel_rfl)
  (try simp only [Act.put, List.setIfInBounds_toArray, List.set_cons_zero, List.set_cons_succ])
  refine wpAnyH_take (i := 11) (v := (.pointer (some ⟨H, 0, none⟩))) rfl (by kernel_rfl) (by kernel_rfl) (by kernel_rfl) (fun _ _ _ h => h) (Or.inl ⟨by kernel_rfl, ?_⟩) (by assumption) ?_
  · intro w' hSw
    (try dsimp only at hSw)
    exact exec_move (.tmp 0) rfl (by kernel_rfl)
  (try simp only [Act.put, List.setIfInBounds_toArray, List.set_cons_zero, List.set_cons_succ])
  refine wpAnyH_take (i := 12) (v := (.pointer (some ⟨H, 0, none⟩))) rfl (by kernel_rfl) (by kernel_rfl) (by kernel_rfl) (fun _ _ _ h => h) (Or.inl ⟨by kernel_rfl, ?_⟩) (by assumption) ?_
  · intro w' hSw
    (try dsimp only at hSw)
    exact exec_nil (.tmp 24) rfl (by kernel_rfl)
  (try simp only [Act.put, List.setIfInBounds_toArray, List.set_cons_zero, List.set_cons_succ])
  refine wpAnyH_take (i := 13) (v := (.pointer (some ⟨H, 46, none⟩))) rfl (by kernel_rfl) (by kernel_rfl) (by kernel_rfl) (fun _ _ _ h => h) (Or.inl ⟨by kernel_rfl, ?_⟩) (by assumption) ?_
  · intro w' hSw
    (try dsimp only at hSw)
    exact exec_fa (a := ⟨H, 0, none⟩) (.tmp 25) rfl (by kernel_rfl) (by kernel_rfl)
  (try simp only [Act.put, List.setIfInBounds_toArray, List.set_cons_zero, List.set_cons_succ])
  refine wpAnyH_take (i := 14) (v := (.slice (some ⟨gn, 0, none⟩) (ns.length + 2) cn)) rfl (by kernel_rfl) (by kernel_rfl) (by kernel_rfl) (fun _ _ _ h => h) (Or.inl ⟨by kernel_rfl, ?_⟩) (by assumption) ?_
  · intro w' hSw
    (try dsimp only at hSw)
    exact exec_ld (.tmp 26) rfl (by decide) (by kernel_rfl) (FF.out _ hSw).vn
  (try simp only [Act.put, List.setIfInBounds_toArray, List.set_cons_zero, List.set_cons_succ])
  refine wpAnyH_take (i := 15) (v := (.int .i64 ((((ns.length + 2) : Nat) : Int)))) rfl (by kernel_rfl) (by kernel_rfl) (by kernel_rfl) (fun _ _ _ h => h) (Or.inl ⟨by kernel_rfl, ?_⟩) (by assumption) ?_
  · intro w' hSw
    (try dsimp only at hSw)
    exact exec_len (ba := (some ⟨gn, 0, none⟩)) (n := (ns.length + 2)) (c := cn) (.tmp 27) rfl (by decide) (by kernel_rfl)
  (try simp only [Act.put, List.setIfInBounds_toArray, List.set_cons_zero, List.set_cons_succ])
  refine wpAnyH_take (i := 16) (v := (.int .i64 ((ns.length : Int)))) rfl (by kernel_rfl) (by kernel_rfl) (by kernel_rfl) (fun _ _ _ h => h) (Or.inl ⟨by kernel_rfl, ?_⟩) (by assumption) ?_
  · intro w' hSw
    (try dsimp only at hSw)
    exact exec_move (.tmp 3) rfl (by kernel_rfl)
  (try simp only [Act.put, List.setIfInBounds_toArray, List.set_cons_zero, List.set_cons_succ])
  refine wpAnyH_take (i := 17) (v := (.int .i64 (((ns.length : Nat) : Int) + 2))) rfl (by kernel_rfl) (by kernel_rfl) (by kernel_rfl) (fun _ _ _ h => h) (Or.inl ⟨by kernel_rfl, ?_⟩) (by assumption) ?_
  · intro w' hSw
    (try dsimp only at hSw)
    exact exec_addi (n := ((ns.length : Nat) : Int)) (.tmp 29) rfl (by kernel_rfl) rfl (by omega) (by omega)
  (try simp only [Act.put, List.setIfInBounds_toArray, List.set_cons_zero, List.set_cons_succ])
  refine wpAnyH_take (i := 18) (v := (.bool false)) rfl (by kernel_rfl) (by kernel_rfl) (by kernel_rfl) (fun _ _ _ h => h) (Or.inl ⟨by kernel_rfl, ?_⟩) (by assumption) ?_
  · intro w' hSw
    (try dsimp only at hSw)
    exact exec_neqi (n := ((ns.length : Nat) : Int) + 2) (.tmp 28) (.tmp 30) rfl (by kernel_rfl) (by kernel_rfl)
  (try simp only [Act.put, List.setIfInBounds_toArray, List.set_cons_zero, List.set_cons_succ])
  refine wpAnyH_take (i := 19) (v := (.bool false)) rfl (by kernel_rfl) (by kernel_rfl) (by kernel_rfl) (fun _ _ _ h => h) (Or.inl ⟨by rfl, ?_⟩) (by assumption) ?_
  · intro w' hSw
    (try dsimp only at hSw)
    exact exec_pickf (.tmp 23) _ (.tmp 31) rfl (by kernel_rfl) (by kernel_rfl)
  (try simp only [Act.put, List.setIfInBounds_toArray, List.set_cons_zero, List.set_cons_succ])
  refine wpAnyH_take (i := 20) (v := (.bool false)) rfl (by kernel_rfl) (by kernel_rfl) (by kernel_rfl) (fun _ _ _ h => h) (Or.inl ⟨by rfl, ?_⟩) (by assumption) ?_
  · intro w' hSw
    (try dsimp only at hSw)
    exact exec_move (.tmp 32) rfl (by kernel_rfl)
  (try simp only [Act.put, List.setIfInBounds_toArray, List.set_cons_zero, List.set_cons_succ])
  refine wpAnyH_take (i := 21) (v := (.pointer (some ⟨H, 0, none⟩))) rfl (by kernel_rfl) (by kernel_rfl) (by kernel_rfl) (fun _ _ _ h => h) (Or.inl ⟨by kernel_rfl, ?_⟩) (by assumption) ?_
  · intro w' hSw
    (try dsimp only at hSw)
    exact exec_move (.tmp 0) rfl (by kernel_rfl)
  (try simp only [Act.put, List.setIfInBounds_toArray, List.set_cons_zero, List.set_cons_succ])
  refine wpAnyH_take (i := 22) (v := (.pointer (some ⟨H, 0, none⟩))) rfl (by kernel_rfl) (by kernel_rfl) (by kernel_rfl) (fun _ _ _ h => h) (Or.inl ⟨by kernel_rfl, ?_⟩) (by assumption) ?_
  · intro w' hSw
    (try dsimp only at hSw)
    exact exec_nil (.tmp 34) rfl (by kernel_rfl)
  (try simp only [Act.put, List.setIfInBounds_toArray, List.set_cons_zero, List.set_cons_succ])
  refine wpAnyH_take (i := 23) (v := (.pointer (some ⟨H, 46, none⟩))) rfl (by kernel_rfl) (by kernel_rfl) (by kernel_rfl) (fun _ _ _ h => h) (Or.inl ⟨by kernel_rfl, ?_⟩) (by assumption) ?_
  · intro w' hSw
    (try dsimp only at hSw)
    exact exec_fa (a := ⟨H, 0, none⟩) (.tmp 35) rfl (by kernel_rfl) (by kernel_rfl)
  (try simp only [Act.put, List.setIfInBounds_toArray, List.set_cons_zero, List.set_cons_succ])
  refine wpAnyH_take (i := 24) (v := (.slice (some ⟨gn, 0, none⟩) (ns.length + 2) cn)) rfl (by kernel_rfl) (by kernel_rfl) (by kernel_rfl) (fun _ _ _ h => h) (Or.inl ⟨by kernel_rfl, ?_⟩) (by assumption) ?_
  · intro w' hSw
    (try dsimp only at hSw)
    exact exec_ld (.tmp 36) rfl (by decide) (by kernel_rfl) (FF.out _ hSw).vn
  (try simp only [Act.put, List.setIfInBounds_toArray, List.set_cons_zero, List.set_cons_succ])
  refine wpAnyH_take (i := 25) (v := (.int .i64 ((ns.length : Int)))) rfl (by kernel_rfl) (by kernel_rfl) (by kernel_rfl) (fun _ _ _ h => h) (Or.inl ⟨by kernel_rfl, ?_⟩) (by assumption) ?_
  · intro w' hSw
    (try dsimp only at hSw)
    exact exec_move (.tmp 3) rfl (by kernel_rfl)
  (try simp only [Act.put, List.setIfInBounds_toArray, List.set_cons_zero, List.set_cons_succ])
  refine wpAnyH_take (i := 26) (v := (.pointer (some ⟨gn, 0 + ns.length * 2, none⟩))) rfl (by kernel_rfl) (by kernel_rfl) (by kernel_rfl) (fun _ _ _ h => h) (Or.inl ⟨by kernel_rfl, ?_⟩) (by assumption) ?_
  · intro w' hSw
    (try dsimp only at hSw)
    exact exec_ixN (b := gn) (o := 0) (n := (ns.length + 2)) (c := cn) (q := ns.length) (.tmp 37) (.tmp 38) rfl (by kernel_rfl) (by kernel_rfl) (by omega)
  (try simp only [Act.put, List.setIfInBounds_toArray, List.set_cons_zero, List.set_cons_succ])
  refine wpAnyH_take (i := 27) (v := (.pointer (some ⟨gn, 0 + ns.length * 2, none⟩))) rfl (by kernel_rfl) (by kernel_rfl) (by kernel_rfl) (fun _ _ _ h => h) (Or.inl ⟨by kernel_rfl, ?_⟩) (by assumption) ?_
  · intro w' hSw
    (try dsimp only at hSw)
    exact exec_fa (a := ⟨gn, 0 + ns.length * 2, none⟩) (.tmp 39) rfl (by kernel_rfl) (by kernel_rfl)
  (try simp only [Act.put, List.setIfInBounds_toArray, List.set_cons_zero, List.set_cons_succ])
  refine wpAnyH_take (i := 28) (v := (.int .i64 (801))) rfl (by kernel_rfl) (by kernel_rfl) (by kernel_rfl) (fun _ _ _ h => h) (Or.inl ⟨by kernel_rfl, ?_⟩) (by assumption) ?_
  · intro w' hSw
    (try dsimp only at hSw)
    exact exec_ld (.tmp 40) rfl (by decide) (by kernel_rfl) (FF.out _ hSw).m1
  (try simp only [Act.put, List.setIfInBounds_toArray, List.set_cons_zero, List.set_cons_succ])
  refine wpAnyH_take (i := 29) (v := (.bool false)) rfl (by kernel_rfl) (by kernel_rfl) (by kernel_rfl) (fun _ _ _ h => h) (Or.inl ⟨by kernel_rfl, ?_⟩) (by assumption) ?_
  · intro w' hSw
    (try dsimp only at hSw)
    exact exec_neqi (n := 801) (.tmp 41) (.const (.int .i64 801)) rfl (by kernel_rfl) (by kernel_rfl)
  (try simp only [Act.put, List.setIfInBounds_toArray, List.set_cons_zero, List.set_cons_succ])
  refine wpAnyH_take (i := 30) (v := (.bool false)) rfl (by kernel_rfl) (by kernel_rfl) (by kernel_rfl) (fun _ _ _ h => h) (Or.inl ⟨by rfl, ?_⟩) (by assumption) ?_
  · intro w' hSw
    (try dsimp only at hSw)
    exact exec_pickf (.tmp 33) _ (.tmp 42) rfl (by kernel_rfl) (by kernel_rfl)
  (try simp only [Act.put, List.setIfInBounds_toArray, List.set_cons_zero, List.set_cons_succ])
  refine wpAnyH_take (i := 31) (v := (.bool false)) rfl (by kernel_rfl) (by kernel_rfl) (by kernel_rfl) (fun _ _ _ h => h) (Or.inl ⟨by rfl, ?_⟩) (by assumption) ?_
  · intro w' hSw
    (try dsimp only at hSw)
    exact exec_move (.tmp 43) rfl (by kernel_rfl)
  (try simp only [Act.put, List.setIfInBounds_toArray, List.set_cons_zero, List.set_cons_succ])
  refine wpAnyH_take (i := 32) (v := (.pointer (some ⟨H, 0, none⟩))) rfl (by kernel_rfl) (by kernel_rfl) (by kernel_rfl) (fun _ _ _ h => h) (Or.inl ⟨by kernel_rfl, ?_⟩) (by assumption) ?_
  · intro w' hSw
    (try dsimp only at hSw)
    exact exec_move (.tmp 0) rfl (by kernel_rfl)
  (try simp only [Act.put, List.setIfInBounds_toArray, List.set_cons_zero, List.set_cons_succ])
  refine wpAnyH_take (i := 33) (v := (.pointer (some ⟨H, 0, none⟩))) rfl (by kernel_rfl) (by kernel_rfl) (by kernel_rfl) (fun _ _ _ h => h) (Or.inl ⟨by kernel_rfl, ?_⟩) (by assumption) ?_
  · intro w' hSw
    (try dsimp only at hSw)
    exact exec_nil (.tmp 45) rfl (by kernel_rfl)
  (try simp only [Act.put, List.setIfInBounds_toArray, List.set_cons_zero, List.set_cons_succ])
  refine wpAnyH_take (i := 34) (v := (.pointer (some ⟨H, 46, none⟩))) rfl (by kernel_rfl) (by kernel_rfl) (by kernel_rfl) (fun _ _ _ h => h) (Or.inl ⟨by kernel_rfl, ?_⟩) (by assumption) ?_
  · intro w' hSw
    (try dsimp only at hSw)
    exact exec_fa (a := ⟨H, 0, none⟩) (.tmp 46) rfl (by kernel_rfl) (by kernel_rfl)
  (try simp only [Act.put, List.setIfInBounds_toArray, List.set_cons_zero, List.set_cons_succ])
  refine wpAnyH_take (i := 35) (v := (.slice (some ⟨gn, 0, none⟩) (ns.length + 2) cn)) rfl (by kernel_rfl) (by kernel_rfl) (by kernel_rfl) (fun _ _ _ h => h) (Or.inl ⟨by kernel_rfl, ?_⟩) (by assumption) ?_
  · intro w' hSw
    (try dsimp only at hSw)
    exact exec_ld (.tmp 47) rfl (by decide) (by kernel_rfl) (FF.out _ hSw).vn
  (try simp only [Act.put, List.setIfInBounds_toArray, List.set_cons_zero, List.set_cons_succ])
  refine wpAnyH_take (i := 36) (v := (.int .i64 ((ns.length : Int)))) rfl (by kernel_rfl) (by kernel_rfl) (by kernel_rfl) (fun _ _ _ h => h) (Or.inl ⟨by kernel_rfl, ?_⟩) (by assumption) ?_
  · intro w' hSw
    (try dsimp only at hSw)
    exact exec_move (.tmp 3) rfl (by kernel_rfl)
  (try simp only [Act.put, List.setIfInBounds_toArray, List.set_cons_zero, List.set_cons_succ])
  refine wpAnyH_take (i := 37) (v := (.int .i64 (((ns.length : Nat) : Int) + 1))) rfl (by kernel_rfl) (by kernel_rfl) (by kernel_rfl) (fun _ _ _ h => h) (Or.inl ⟨by kernel_rfl, ?_⟩) (by assumption) ?_
  · intro w' hSw
    (try dsimp only at hSw)
    exact exec_addi (n := ((ns.length : Nat) : Int)) (.tmp 49) rfl (by kernel_rfl) rfl (by omega) (by omega)
  (try simp only [Act.put, List.setIfInBounds_toArray, List.set_cons_zero, List.set_cons_succ])
  refine wpAnyH_take (i := 38) (v := (.pointer (some ⟨gn, 0 + (ns.length + 1) * 2, none⟩))) rfl (by kernel_rfl) (by kernel_rfl) (by kernel_rfl) (fun _ _ _ h => h) (Or.inl ⟨by kernel_rfl, ?_⟩) (by assumption) ?_
  · intro w' hSw
    (try dsimp only at hSw)
    exact exec_ixN (b := gn) (o := 0) (n := (ns.length + 2)) (c := cn) (q := (ns.length + 1)) (.tmp 48) (.tmp 50) rfl (by kernel_rfl) (by kernel_rfl) (by omega)
  (try simp only [Act.put, List.setIfInBounds_toArray, List.set_cons_zero, List.set_cons_succ])
  refine wpAnyH_take (i := 39) (v := (.pointer (some ⟨gn, 0 + (ns.length + 1) * 2, none⟩))) rfl (by kernel_rfl) (by kernel_rfl) (by kernel_rfl) (fun _ _ _ h => h) (Or.inl ⟨by kernel_rfl, ?_⟩) (by assumption) ?_
  · intro w' hSw
    (try dsimp only at hSw)
    exact exec_fa (a := ⟨gn, 0 + (ns.length + 1) * 2, none⟩) (.tmp 51) rfl (by kernel_rfl) (by kernel_rfl)
  (try simp only [Act.put, List.setIfInBounds_toArray, List.set_cons_zero, List.set_cons_succ])
  refine wpAnyH_take (i := 40) (v := (.int .i64 (802))) rfl (by kernel_rfl) (by kernel_rfl) (by kernel_rfl) (fun _ _ _ h => h) (Or.inl ⟨by kernel_rfl, ?_⟩) (by assumption) ?_
  · intro w' hSw
    (try dsimp only at hSw)
    exact exec_ld (.tmp 52) rfl (by decide) (by kernel_rfl) (FF.out _ hSw).m2
  (try simp only [Act.put, List.setIfInBounds_toArray, List.set_cons_zero, List.set_cons_succ])
  refine wpAnyH_take (i := 41) (v := (.bool false)) rfl (by kernel_rfl) (by kernel_rfl) (by kernel_rfl) (fun _ _ _ h => h) (Or.inl ⟨by kernel_rfl, ?_⟩) (by assumption) ?_
  · intro w' hSw
    (try dsimp only at hSw)
    exact exec_neqi (n := 802) (.tmp 53) (.const (.int .i64 802)) rfl (by kernel_rfl) (by kernel_rfl)
  (try simp only [Act.put, List.setIfInBounds_toArray, List.set_cons_zero, List.set_cons_succ])
  refine wpAnyH_take (i := 42) (v := (.bool false)) rfl (by kernel_rfl) (by kernel_rfl) (by kernel_rfl) (fun _ _ _ h => h) (Or.inl ⟨by rfl, ?_⟩) (by assumption) ?_
  · intro w' hSw
    (try dsimp only at hSw)
    exact exec_pickf (.tmp 44) _ (.tmp 54) rfl (by kernel_rfl) (by kernel_rfl)
  (try simp only [Act.put, List.setIfInBounds_toArray, List.set_cons_zero, List.set_cons_succ])
  refine wpAnyH_take (i := 43) (v := (.bool false)) rfl (by kernel_rfl) (by kernel_rfl) (by kernel_rfl) (fun _ _ _ h => h) (Or.inl ⟨by rfl, ?_⟩) (by assumption) ?_
  · intro w' hSw
    (try dsimp only at hSw)
    exact exec_move (.tmp 55) rfl (by kernel_rfl)
  (try simp only [Act.put, List.setIfInBounds_toArray, List.set_cons_zero, List.set_cons_succ])
  refine wpAnyH_take (i := 44) (v := (.pointer (some ⟨H, 0, none⟩))) rfl (by kernel_rfl) (by kernel_rfl) (by kernel_rfl) (fun _ _ _ h => h) (Or.inl ⟨by kernel_rfl, ?_⟩) (by assumption) ?_
  · intro w' hSw
    (try dsimp only at hSw)
    exact exec_move (.tmp 0) rfl (by kernel_rfl)
  (try simp only [Act.put, List.setIfInBounds_toArray, List.set_cons_zero, List.set_cons_succ])
  refine wpAnyH_take (i := 45) (v := (.pointer (some ⟨H, 0, none⟩))) rfl (by kernel_rfl) (by kernel_rfl) (by kernel_rfl) (fun _ _ _ h => h) (Or.inl ⟨by kernel_rfl, ?_⟩) (by assumption) ?_
  · intro w' hSw
    (try dsimp only at hSw)
    exact exec_nil (.tmp 57) rfl (by kernel_rfl)
  (try simp only [Act.put, List.setIfInBounds_toArray, List.set_cons_zero, List.set_cons_succ])
  refine wpAnyH_take (i := 46) (v := (.pointer (some ⟨H, 46, none⟩))) rfl (by kernel_rfl) (by kernel_rfl) (by kernel_rfl) (fun _ _ _ h => h) (Or.inl ⟨by kernel_rfl, ?_⟩) (by assumption) ?_
  · intro w' hSw
    (try dsimp only at hSw)
    exact exec_fa (a := ⟨H, 0, none⟩) (.tmp 58) rfl (by kernel_rfl) (by kernel_rfl)
  (try simp only [Act.put, List.setIfInBounds_toArray, List.set_cons_zero, List.set_cons_succ])
  refine wpAnyH_take (i := 47) (v := (.slice (some ⟨gn, 0, none⟩) (ns.length + 2) cn)) rfl (by kernel_rfl) (by kernel_rfl) (by kernel_rfl) (fun _ _ _ h => h) (Or.inl ⟨by kernel_rfl, ?_⟩) (by assumption) ?_
  · intro w' hSw
    (try dsimp only at hSw)
    exact exec_ld (.tmp 59) rfl (by decide) (by kernel_rfl) (FF.out _ hSw).vn
  (try simp only [Act.put, List.setIfInBounds_toArray, List.set_cons_zero, List.set_cons_succ])
  refine wpAnyH_take (i := 48) (v := (.int .i64 ((ns.length : Int)))) rfl (by kernel_rfl) (by kernel_rfl) (by kernel_rfl) (fun _ _ _ h => h) (Or.inl ⟨by kernel_rfl, ?_⟩) (by assumption) ?_
  · intro w' hSw
    (try dsimp only at hSw)
    exact exec_move (.tmp 3) rfl (by kernel_rfl)
  (try simp only [Act.put, List.setIfInBounds_toArray, List.set_cons_zero, List.set_cons_succ])
  refine wpAnyH_take (i := 49) (v := (.pointer (some ⟨gn, 0 + ns.length * 2, none⟩))) rfl (by kernel_rfl) (by kernel_rfl) (by kernel_rfl) (fun _ _ _ h => h) (Or.inl ⟨by kernel_rfl, ?_⟩) (by assumption) ?_
  · intro w' hSw
    (try dsimp only at hSw)
    exact exec_ixN (b := gn) (o := 0) (n := (ns.length + 2)) (c := cn) (q := ns.length) (.tmp 60) (.tmp 61) rfl (by kernel_rfl) (by kernel_rfl) (by omega)
  (try simp only [Act.put, List.setIfInBounds_toArray, List.set_cons_zero, List.set_cons_succ])
  refine wpAnyH_take (i := 50) (v := (.pointer (some ⟨gn, 0 + ns.length * 2 + 1, none⟩))) rfl (by kernel_rfl) (by kernel_rfl) (by kernel_rfl) (fun _ _ _ h => h) (Or.inl ⟨by kernel_rfl, ?_⟩) (by assumption) ?_
  · intro w' hSw
    (try dsimp only at hSw)
    exact exec_fa (a := ⟨gn, 0 + ns.length * 2, none⟩) (.tmp 62) rfl (by kernel_rfl) (by kernel_rfl)
  (try simp only [Act.put, List.setIfInBounds_toArray, List.set_cons_zero, List.set_cons_succ])
  refine wpAnyH_take (i := 51) (v := (.slice none 0 0)) rfl (by kernel_rfl) (by kernel_rfl) (by kernel_rfl) (fun _ _ _ h => h) (Or.inl ⟨by kernel_rfl, ?_⟩) (by assumption) ?_
  · intro w' hSw
    (try dsimp only at hSw)
    exact exec_ld (.tmp 63) rfl (by decide) (by kernel_rfl) (FF.out _ hSw).m3
  (try simp only [Act.put, List.setIfInBounds_toArray, List.set_cons_zero, List.set_cons_succ])
  refine wpAnyH_take (i := 52) (v := (.int .i64 (((0 : Nat) : Int)))) rfl (by kernel_rfl) (by kernel_rfl) (by kernel_rfl) (fun _ _ _ h => h) (Or.inl ⟨by kernel_rfl, ?_⟩) (by assumption) ?_
  · intro w' hSw
    (try dsimp only at hSw)
    exact exec_len (ba := none) (n := 0) (c := 0) (.tmp 64) rfl (by decide) (by kernel_rfl)
  (try simp only [Act.put, List.setIfInBounds_toArray, List.set_cons_zero, List.set_cons_succ])
  refine wpAnyH_take (i := 53) (v := (.bool false)) rfl (by kernel_rfl) (by kernel_rfl) (by kernel_rfl) (fun _ _ _ h => h) (Or.inl ⟨by kernel_rfl, ?_⟩) (by assumption) ?_
  · intro w' hSw
    (try dsimp only at hSw)
    exact exec_neqi (n := 0) (.tmp 65) (.const (.int .i64 0)) rfl (by kernel_rfl) (by kernel_rfl)
  (try simp only [Act.put, List.setIfInBounds_toArray, List.set_cons_zero, List.set_cons_succ])
  refine wpAnyH_take (i := 54) (v := (.bool false)) rfl (by kernel_rfl) (by kernel_rfl) (by kernel_rfl) (fun _ _ _ h => h) (Or.inl ⟨by rfl, ?_⟩) (by assumption) ?_
  · intro w' hSw
    (try dsimp only at hSw)
    exact exec_pickf (.tmp 56) _ (.tmp 66) rfl (by kernel_rfl) (by kernel_rfl)
  (try simp only [Act.put, List.setIfInBounds_toArray, List.set_cons_zero, List.set_cons_succ])
  refine wpAnyH_take (i := 55) (v := (.bool false)) rfl (by kernel_rfl) (by kernel_rfl) (by kernel_rfl) (fun _ _ _ h => h) (Or.inl ⟨by rfl, ?_⟩) (by assumption) ?_
  · intro w' hSw
    (try dsimp only at hSw)
    exact exec_move (.tmp 67) rfl (by kernel_rfl)
  (try simp only [Act.put, List.setIfInBounds_toArray, List.set_cons_zero, List.set_cons_succ])
  refine wpAnyH_take (i := 56) (v := (.pointer (some ⟨H, 0, none⟩))) rfl (by kernel_rfl) (by kernel_rfl) (by kernel_rfl) (fun _ _ _ h => h) (Or.inl ⟨by kernel_rfl, ?_⟩) (by assumption) ?_
  · intro w' hSw
    (try dsimp only at hSw)
    exact exec_move (.tmp 0) rfl (by kernel_rfl)
  (try simp only [Act.put, List.setIfInBounds_toArray, List.set_cons_zero, List.set_cons_succ])
  refine wpAnyH_take (i := 57) (v := (.pointer (some ⟨H, 0, none⟩))) rfl (by kernel_rfl) (by kernel_rfl) (by kernel_rfl) (fun _ _ _ h => h) (Or.inl ⟨by kernel_rfl, ?_⟩) (by assumption) ?_
  · intro w' hSw
    (try dsimp only at hSw)
    exact exec_nil (.tmp 69) rfl (by kernel_rfl)
  (try simp only [Act.put, List.setIfInBounds_toArray, List.set_cons_zero, List.set_cons_succ])
  refine wpAnyH_take (i := 58) (v := (.pointer (some ⟨H, 46, none⟩))) rfl (by kernel_rfl) (by kernel_rfl) (by kernel_rfl) (fun _ _ _ h => h) (Or.inl ⟨by kernel_rfl, ?_⟩) (by assumption) ?_
  · intro w' hSw
    (try dsimp only at hSw)
    exact exec_fa (a := ⟨H, 0, none⟩) (.tmp 70) rfl (by kernel_rfl) (by kernel_rfl)
  (try simp only [Act.put, List.setIfInBounds_toArray, List.set_cons_zero, List.set_cons_succ])
  refine wpAnyH_take (i := 59) (v := (.slice (some ⟨gn, 0, none⟩) (ns.length + 2) cn)) rfl (by kernel_rfl) (by kernel_rfl) (by kernel_rfl) (fun _ _ _ h => h) (Or.inl ⟨by kernel_rfl, ?_⟩) (by assumption) ?_
  · intro w' hSw
    (try dsimp only at hSw)
    exact exec_ld (.tmp 71) rfl (by decide) (by kernel_rfl) (FF.out _ hSw).vn
  (try simp only [Act.put, List.setIfInBounds_toArray, List.set_cons_zero, List.set_cons_succ])
  refine wpAnyH_take (i := 60) (v := (.int .i64 ((ns.length : Int)))) rfl (by kernel_rfl) (by kernel_rfl) (by kernel_rfl) (fun _ _ _ h => h) (Or.inl ⟨by kernel_rfl, ?_⟩) (by assumption) ?_
  · intro w' hSw
    (try dsimp only at hSw)
    exact exec_move (.tmp 3) rfl (by kernel_rfl)
  (try simp only [Act.put, List.setIfInBounds_toArray, List.set_cons_zero, List.set_cons_succ])
  refine wpAnyH_take (i := 61) (v := (.int .i64 (((ns.length : Nat) : Int) + 1))) rfl (by kernel_rfl) (by kernel_rfl) (by kernel_rfl) (fun _ _ _ h => h) (Or.inl ⟨by kernel_rfl, ?_⟩) (by assumption) ?_
  · intro w' hSw
    (try dsimp only at hSw)
    exact exec_addi (n := ((ns.length : Nat) : Int)) (.tmp 73) rfl (by kernel_rfl) rfl (by omega) (by omega)
  (try simp only [Act.put, List.setIfInBounds_toArray, List.set_cons_zero, List.set_cons_succ])
  refine wpAnyH_take (i := 62) (v := (.pointer (some ⟨gn, 0 + (ns.length + 1) * 2, none⟩))) rfl (by kernel_rfl) (by kernel_rfl) (by kernel_rfl) (fun _ _ _ h => h) (Or.inl ⟨by kernel_rfl, ?_⟩) (by assumption) ?_
  · intro w' hSw
    (try dsimp only at hSw)
    exact exec_ixN (b := gn) (o := 0) (n := (ns.length + 2)) (c := cn) (q := (ns.length + 1)) (.tmp 72) (.tmp 74) rfl (by kernel_rfl) (by kernel_rfl) (by omega)
  (try simp only [Act.put, List.setIfInBounds_toArray, List.set_cons_zero, List.set_cons_succ])
  refine wpAnyH_take (i := 63) (v := (.pointer (some ⟨gn, 0 + (ns.length + 1) * 2 + 1, none⟩))) rfl (by kernel_rfl) (by kernel_rfl) (by kernel_rfl) (fun _ _ _ h => h) (Or.inl ⟨by kernel_rfl, ?_⟩) (by assumption) ?_
  · intro w' hSw
    (try dsimp only at hSw)
    exact exec_fa (a := ⟨gn, 0 + (ns.length + 1) * 2, none⟩) (.tmp 75) rfl (by kernel_rfl) (by kernel_rfl)
  (try simp only [Act.put, List.setIfInBounds_toArray, List.set_cons_zero, List.set_cons_succ])
  refine wpAnyH_take (i := 64) (v := (.slice none 0 0)) rfl (by kernel_rfl) (by kernel_rfl) (by kernel_rfl) (fun _ _ _ h => h) (Or.inl ⟨by kernel_rfl, ?_⟩) (by assumption) ?_
  · intro w' hSw
    (try dsimp only at hSw)
    exact exec_ld (.tmp 76) rfl (by decide) (by kernel_rfl) (FF.out _ hSw).m4
  (try simp only [Act.put, List.setIfInBounds_toArray, List.set_cons_zero, List.set_cons_succ])
  refine wpAnyH_take (i := 65) (v := (.int .i64 (((0 : Nat) : Int)))) rfl (by kernel_rfl) (by kernel_rfl) (by kernel_rfl) (fun _ _ _ h => h) (Or.inl ⟨by kernel_rfl, ?_⟩) (by assumption) ?_
  · intro w' hSw
    (try dsimp only at hSw)
    exact exec_len (ba := none) (n := 0) (c := 0) (.tmp 77) rfl (by decide) (by kernel_rfl)
  (try simp only [Act.put, List.setIfInBounds_toArray, List.set_cons_zero, List.set_cons_succ])
  refine wpAnyH_take (i := 66) (v := (.bool false)) rfl (by kernel_rfl) (by kernel_rfl) (by kernel_rfl) (fun _ _ _ h => h) (Or.inl ⟨by kernel_rfl, ?_⟩) (by assumption) ?_
  · intro w' hSw
    (try dsimp only at hSw)
    exact exec_neqi (n := 0) (.tmp 78) (.const (.int .i64 0)) rfl (by kernel_rfl) (by kernel_rfl)
  (try simp only [Act.put, List.setIfInBounds_toArray, List.set_cons_zero, List.set_cons_succ])
  refine wpAnyH_ready (rs := [67]) (by kernel_rfl) (by simp) ?_
  refine AllReadyH.cons rfl (fun K hK => ?_) AllReadyH.nil
  go_simp
  refine hK.out _ _ (B1.out) (fun hHeld => ?_)
  clear hK
  (try simp only [Act.put, List.setIfInBounds_toArray, List.set_cons_zero, List.set_cons_succ])
  refine wpAnyH_done (by kernel_rfl) ?_ _
  clear hHeld
  go_wp2_with fail
  go_loopw [4] (fun vi wr => ∃ (q : Nat), q ≤ ns.length ∧ vi = .int .i64 (q : Int) ∧ Below W.heap.size W wr) (fun vi _ => ns.length - (intOf vi).toNat)
  case atStart => exact ⟨0, Nat.zero_le _, rfl, B1.out⟩
  case round =>
    clear B1
    obtain ⟨q, hq, rfl, hB⟩ := hrel
    have HB := hide hB
    clear hB
    by_cases hql : q < ns.length
    case neg =>
      obtain rfl : q = ns.length := by omega
      have hqi : ¬ (ns.length : Int) < (ns.length : Int) := by omega
      go_wp2_with fail
      go_ret
      exact ⟨rfl, HB.out⟩
    case pos =>
      have hqi : (q : Int) < (ns.length : Int) := by omega
      have haw := NT.out.at0 (by omega)
      subst haw
      have hzl := HH.out.zl
      have hll := HH.out.ll
      obtain ⟨g, c, ez, el, og⟩ := HH.out.l q (by omega) (by omega) hql
      have hkp := HP.out q hql
      have vps : ∃ gp cp, vp = .slice (some ⟨gp, 0, none⟩) ns.length cp := own_some HH.out.rp (by omega)
      obtain ⟨gp, cp, hvp⟩ := vps
      subst hvp
      have lq : Hid (∀ Y, Below W.heap.size W Y → Y.cell? ⟨gp, q, none⟩ = some (.slice (some ⟨g, 0, none⟩) (ns[q].ps.length + 3) c)) := fun Y hY => by
        have rp := own_keep (X' := Y) HH.out.rp fun g hg => hY.block g (own_lt HH.out.rp hg).2
        rw [rp.cellAt q (by omega), List.getElem?_eq_getElem (by omega), el]
      rw [el] at og
      have hcc := own_cap og
      have OG := hide og
      have PT := hide (NT.out.ps q hql)
      have PZ := hide (NH.out.ps q hql)
      have GG0 : Hid (∀ Y, Below W.heap.size W Y → Y.cell? ⟨g, 0 + ns[q].ps.length, none⟩ = some (.int .i64 701) ∧ Y.cell? ⟨g, 0 + (ns[q].ps.length + 1), none⟩ = some (.int .i64 702) ∧ Y.cell? ⟨g, 0 + (ns[q].ps.length + 2), none⟩ = some (.int .i64 703) ∧ Y.cell? ⟨bw, 0 + q * 2 + 1, none⟩ = some ((zt[q]?.map (·.2)).getD (.slice none 0 0)) ∧ Y.cell? ⟨gn, 0 + q * 2 + 1, none⟩ = some (pvZ zs q)) := fun Y hY => by
        have r := own_keep (X' := Y) OG.out fun g hg => hY.block g (own_lt OG.out hg).2
        have m0 := ints_mark ns[q].ps 0 (by omega)
        have m1 := ints_mark ns[q].ps 1 (by omega)
        have m2 := ints_mark ns[q].ps 2 (by omega)
        refine ⟨by rw [Nat.zero_add, r.cellAt _ (by omega)]; exact m0, by rw [Nat.zero_add, r.cellAt _ (by omega)]; exact m1, by rw [Nat.zero_add, r.cellAt _ (by omega)]; exact m2, (NT.out.below hY).cp q hql, (NH.out.below hY).cp q hql⟩
      have PL : Hid (Pv W.heap.size W (.slice (some ⟨g, 0, none⟩) ns[q].ps.length c) ns[q].ps) := ⟨_, g, 0, c, rfl, marks_ps OG.out hkp⟩
      obtain ⟨ta, tb, to_, tc, hvt, htp⟩ := PT.out
      have TL : Hid (∃ ba cc, (zt[q]?.map (·.2)).getD (.slice none 0 0) = .slice ba ns[q].ps.length cc) := ⟨_, _, hvt⟩
      clear ez el og hvt htp
      have S1 := hide (sameInts_eq W.heap.size wr.drew _ _ _ (PL.out.below HB.out.drew) (PT.out.below HB.out.drew) HB.out.size)
      have S2 : Hid (∀ Y, Below W.heap.size W Y → Calls Tryd.prog 40 #[pvZ zs q, (zt[q]?.map (·.2)).getD (.slice none 0 0)] Y fun e w' => e = .returned (.bool true) ∧ Below Y.heap.size Y w') := fun Y hY => sameInts_eq W.heap.size Y _ _ _ (PZ.out.below hY) (PT.out.below hY) hY.size
      generalize hvT : (zt[q]?.map (·.2)).getD (.slice none 0 0) = vT at *
      generalize hvZ : pvZ zs q = vZ at *
      generalize hkk : ns[q].ps.length = k at *
      generalize ns[q].ps = ps at *
      have GG : Hid (∀ Y, Below W.heap.size W Y → Y.cell? ⟨g, 0 + k, none⟩ = some (.int .i64 701) ∧ Y.cell? ⟨g, 0 + (k + 1), none⟩ = some (.int .i64 702) ∧ Y.cell? ⟨g, 0 + (k + 2), none⟩ = some (.int .i64 703) ∧ Y.cell? ⟨bw, 0 + q * 2 + 1, none⟩ = some vT ∧ Y.cell? ⟨gn, 0 + q * 2 + 1, none⟩ = some vZ) := GG0.out
      have w45 := (FF.out _ HB.out).vw
      have w47 := (FF.out _ HB.out).vp
      have wlq := lq.out _ HB.out
      have wT := (GG.out _ HB.out).2.2.2.1
      rw [Nat.zero_add] at wT
      obtain ⟨ta2, tc2, htt⟩ := TL.out
      have HTT := hide htt
      rw [htt] at wT
      clear htt TL PL PT PZ OG GG0 hvT hvZ hkk hzl hll
      go_wp2_with fail
      clear w45 w47 wlq wT
      refine wp_region_held_drew (S := fun Y => Below W.heap.size W Y) (by kernel_rfl) (HB.out.drew) (fun hHeld => ?_)
      refine wpAnyH_take (i := 0) (v := (.slice (some ⟨g, 0, none⟩) (k + 3) c)) rfl (by kernel_rfl) (by kernel_rfl) (by kernel_rfl) (fun _ _ _ h => h) (Or.inl ⟨by rfl, ?_⟩) (by assumption) ?_
      · intro w' hSw
        (try dsimp only at hSw)
        exact exec_move (.tmp 5) rfl (by kernel_rfl)
      (try simp only [Act.put, List.setIfInBounds_toArray, List.set_cons_zero, List.set_cons_succ])
      refine wpAnyH_take (i := 1) (v := (.int .i64 ((((k + 3) : Nat) : Int)))) rfl (by kernel_rfl) (by kernel_rfl) (by kernel_rfl) (fun _ _ _ h => h) (Or.inl ⟨by rfl, ?_⟩) (by assumption) ?_
      · intro w' hSw
        (try dsimp only at hSw)
        exact exec_len (ba := (some ⟨g, 0, none⟩)) (n := (k + 3)) (c := c) (.tmp 103) rfl (by decide) (by kernel_rfl)
      (try simp only [Act.put, List.setIfInBounds_toArray, List.set_cons_zero, List.set_cons_succ])
      refine wpAnyH_take (i := 2) (v := (.int .i64 ((k : Int)))) rfl (by kernel_rfl) (by kernel_rfl) (by kernel_rfl) (fun _ _ _ h => h) (Or.inl ⟨by rfl, ?_⟩) (by assumption) ?_
      · intro w' hSw
        (try dsimp only at hSw)
        exact exec_move (.tmp 6) rfl (by kernel_rfl)
      (try simp only [Act.put, List.setIfInBounds_toArray, List.set_cons_zero, List.set_cons_succ])
      refine wpAnyH_take (i := 3) (v := (.int .i64 (((k : Nat) : Int) + 3))) rfl (by kernel_rfl) (by kernel_rfl) (by kernel_rfl) (fun _ _ _ h => h) (Or.inl ⟨by rfl, ?_⟩) (by assumption) ?_
      · intro w' hSw
        (try dsimp only at hSw)
        exact exec_addi (n := ((k : Nat) : Int)) (.tmp 105) rfl (by kernel_rfl) rfl (by omega) (by omega)
      (try simp only [Act.put, List.setIfInBounds_toArray, List.set_cons_zero, List.set_cons_succ])
      refine wpAnyH_take (i := 4) (v := (.bool false)) rfl (by kernel_rfl) (by kernel_rfl) (by kernel_rfl) (fun _ _ _ h => h) (Or.inl ⟨by rfl, ?_⟩) (by assumption) ?_
      · intro w' hSw
        (try dsimp only at hSw)
        exact exec_neqi (n := ((k : Nat) : Int) + 3) (.tmp 104) (.tmp 106) rfl (by kernel_rfl) (by kernel_rfl)
      (try simp only [Act.put, List.setIfInBounds_toArray, List.set_cons_zero, List.set_cons_succ])
      refine wpAnyH_take (i := 5) (v := (.bool false)) rfl (by kernel_rfl) (by kernel_rfl) (by kernel_rfl) (fun _ _ _ h => h) (Or.inl ⟨by rfl, ?_⟩) (by assumption) ?_
      · intro w' hSw
        (try dsimp only at hSw)
        exact exec_move (.tmp 107) rfl (by kernel_rfl)
      (try simp only [Act.put, List.setIfInBounds_toArray, List.set_cons_zero, List.set_cons_succ])
      refine wpAnyH_take (i := 6) (v := (.slice (some ⟨g, 0, none⟩) (k + 3) c)) rfl (by kernel_rfl) (by kernel_rfl) (by kernel_rfl) (fun _ _ _ h => h) (Or.inl ⟨by kernel_rfl, ?_⟩) (by assumption) ?_
      · intro w' hSw
        (try dsimp only at hSw)
        exact exec_move (.tmp 5) rfl (by kernel_rfl)
      (try simp only [Act.put, List.setIfInBounds_toArray, List.set_cons_zero, List.set_cons_succ])
      refine wpAnyH_take (i := 7) (v := (.int .i64 ((k : Int)))) rfl (by kernel_rfl) (by kernel_rfl) (by kernel_rfl) (fun _ _ _ h => h) (Or.inl ⟨by kernel_rfl, ?_⟩) (by assumption) ?_
      · intro w' hSw
        (try dsimp only at hSw)
        exact exec_move (.tmp 6) rfl (by kernel_rfl)
      (try simp only [Act.put, List.setIfInBounds_toArray, List.set_cons_zero, List.set_cons_succ])
      refine wpAnyH_take (i := 8) (v := (.pointer (some ⟨g, 0 + k, none⟩))) rfl (by kernel_rfl) (by kernel_rfl) (by kernel_rfl) (fun _ _ _ h => h) (Or.inl ⟨by kernel_rfl, ?_⟩) (by assumption) ?_
      · intro w' hSw
        (try dsimp only at hSw)
        exact exec_ixI (b := g) (o := 0) (n := (k + 3)) (c := c) (q := k) (.tmp 109) (.tmp 110) rfl (by kernel_rfl) (by kernel_rfl) (by omega)
      (try simp only [Act.put, List.setIfInBounds_toArray, List.set_cons_zero, List.set_cons_succ])
      refine wpAnyH_take (i := 9) (v := (.int .i64 (701))) rfl (by kernel_rfl) (by kernel_rfl) (by kernel_rfl) (fun _ _ _ h => h) (Or.inl ⟨by kernel_rfl, ?_⟩) (by assumption) ?_
      · intro w' hSw
        (try dsimp only at hSw)
        exact exec_ld (.tmp 111) rfl (by decide) (by kernel_rfl) (GG.out _ hSw).1
      (try simp only [Act.put, List.setIfInBounds_toArray, List.set_cons_zero, List.set_cons_succ])
      refine wpAnyH_take (i := 10) (v := (.bool false)) rfl (by kernel_rfl) (by kernel_rfl) (by kernel_rfl) (fun _ _ _ h => h) (Or.inl ⟨by kernel_rfl, ?_⟩) (by assumption) ?_
      · intro w' hSw
        (try dsimp only at hSw)
        exact exec_neqi (n := 701) (.tmp 112) (.const (.int .i64 701)) rfl (by kernel_rfl) (by kernel_rfl)
      (try simp only [Act.put, List.setIfInBounds_toArray, List.set_cons_zero, List.set_cons_succ])
      refine wpAnyH_take (i := 11) (v := (.bool false)) rfl (by kernel_rfl) (by kernel_rfl) (by kernel_rfl) (fun _ _ _ h => h) (Or.inl ⟨by rfl, ?_⟩) (by assumption) ?_
      · intro w' hSw
        (try dsimp only at hSw)
        exact exec_pickf (.tmp 108) _ (.tmp 113) rfl (by kernel_rfl) (by kernel_rfl)
      (try simp only [Act.put, List.setIfInBounds_toArray, List.set_cons_zero, List.set_cons_succ])
      refine wpAnyH_take (i := 12) (v := (.bool false)) rfl (by kernel_rfl) (by kernel_rfl) (by kernel_rfl) (fun _ _ _ h => h) (Or.inl ⟨by rfl, ?_⟩) (by assumption) ?_
      · intro w' hSw
        (try dsimp only at hSw)
        exact exec_move (.tmp 114) rfl (by kernel_rfl)
      (try simp only [Act.put, List.setIfInBounds_toArray, List.set_cons_zero, List.set_cons_succ])
      refine wpAnyH_take (i := 13) (v := (.slice (some ⟨g, 0, none⟩) (k + 3) c)) rfl (by kernel_rfl) (by kernel_rfl) (by kernel_rfl) (fun _ _ _ h => h) (Or.inl ⟨by kernel_rfl, ?_⟩) (by assumption) ?_
      · intro w' hSw
        (try dsimp only at hSw)
        exact exec_move (.tmp 5) rfl (by kernel_rfl)
      (try simp only [Act.put, List.setIfInBounds_toArray, List.set_cons_zero, List.set_cons_succ])
      refine wpAnyH_take (i := 14) (v := (.int .i64 ((k : Int)))) rfl (by kernel_rfl) (by kernel_rfl) (by kernel_rfl) (fun _ _ _ h => h) (Or.inl ⟨by kernel_rfl, ?_⟩) (by assumption) ?_
      · intro w' hSw
        (try dsimp only at hSw)
        exact exec_move (.tmp 6) rfl (by kernel_rfl)
      (try simp only [Act.put, List.setIfInBounds_toArray, List.set_cons_zero, List.set_cons_succ])
      refine wpAnyH_take (i := 15) (v := (.int .i64 (((k : Nat) : Int) + 1))) rfl (by kernel_rfl) (by kernel_rfl) (by kernel_rfl) (fun _ _ _ h => h) (Or.inl ⟨by kernel_rfl, ?_⟩) (by assumption) ?_
      · intro w' hSw
        (try dsimp only at hSw)
        exact exec_addi (n := ((k : Nat) : Int)) (.tmp 117) rfl (by kernel_rfl) rfl (by omega) (by omega)
      (try simp only [Act.put, List.setIfInBounds_toArray, List.set_cons_zero, List.set_cons_succ])
      refine wpAnyH_take (i := 16) (v := (.pointer (some ⟨g, 0 + (k + 1), none⟩))) rfl (by kernel_rfl) (by kernel_rfl) (by kernel_rfl) (fun _ _ _ h => h) (Or.inl ⟨by kernel_rfl, ?_⟩) (by assumption) ?_
      · intro w' hSw
        (try dsimp only at hSw)
        exact exec_ixI (b := g) (o := 0) (n := (k + 3)) (c := c) (q := (k + 1)) (.tmp 116) (.tmp 118) rfl (by kernel_rfl) (by kernel_rfl) (by omega)
      (try simp only [Act.put, List.setIfInBounds_toArray, List.set_cons_zero, List.set_cons_succ])
      refine wpAnyH_take (i := 17) (v := (.int .i64 (702))) rfl (by kernel_rfl) (by kernel_rfl) (by kernel_rfl) (fun _ _ _ h => h) (Or.inl ⟨by kernel_rfl, ?_⟩) (by assumption) ?_
      · intro w' hSw
        (try dsimp only at hSw)
        exact exec_ld (.tmp 119) rfl (by decide) (by kernel_rfl) (GG.out _ hSw).2.1
      (try simp only [Act.put, List.setIfInBounds_toArray, List.set_cons_zero, List.set_cons_succ])
      refine wpAnyH_take (i := 18) (v := (.bool false)) rfl (by kernel_rfl) (by kernel_rfl) (by kernel_rfl) (fun _ _ _ h => h) (Or.inl ⟨by kernel_rfl, ?_⟩) (by assumption) ?_
      · intro w' hSw
        (try dsimp only at hSw)
        exact exec_neqi (n := 702) (.tmp 120) (.const (.int .i64 702)) rfl (by kernel_rfl) (by kernel_rfl)
      (try simp only [Act.put, List.setIfInBounds_toArray, List.set_cons_zero, List.set_cons_succ])
      refine wpAnyH_take (i := 19) (v := (.bool false)) rfl (by kernel_rfl) (by kernel_rfl) (by kernel_rfl) (fun _ _ _ h => h) (Or.inl ⟨by rfl, ?_⟩) (by assumption) ?_
      · intro w' hSw
        (try dsimp only at hSw)
        exact exec_pickf (.tmp 115) _ (.tmp 121) rfl (by kernel_rfl) (by kernel_rfl)
      (try simp only [Act.put, List.setIfInBounds_toArray, List.set_cons_zero, List.set_cons_succ])
      refine wpAnyH_take (i := 20) (v := (.bool false)) rfl (by kernel_rfl) (by kernel_rfl) (by kernel_rfl) (fun _ _ _ h => h) (Or.inl ⟨by rfl, ?_⟩) (by assumption) ?_
      · intro w' hSw
        (try dsimp only at hSw)
        exact exec_move (.tmp 122) rfl (by kernel_rfl)
      (try simp only [Act.put, List.setIfInBounds_toArray, List.set_cons_zero, List.set_cons_succ])
      refine wpAnyH_take (i := 21) (v := (.slice (some ⟨g, 0, none⟩) (k + 3) c)) rfl (by kernel_rfl) (by kernel_rfl) (by kernel_rfl) (fun _ _ _ h => h) (Or.inl ⟨by kernel_rfl, ?_⟩) (by assumption) ?_
      · intro w' hSw
        (try dsimp only at hSw)
        exact exec_move (.tmp 5) rfl (by kernel_rfl)
      (try simp only [Act.put, List.setIfInBounds_toArray, List.set_cons_zero, List.set_cons_succ])
      refine wpAnyH_take (i := 22) (v := (.int .i64 ((k : Int)))) rfl (by kernel_rfl) (by kernel_rfl) (by kernel_rfl) (fun _ _ _ h => h) (Or.inl ⟨by kernel_rfl, ?_⟩) (by assumption) ?_
      · intro w' hSw
        (try dsimp only at hSw)
        exact exec_move (.tmp 6) rfl (by kernel_rfl)
      (try simp only [Act.put, List.setIfInBounds_toArray, List.set_cons_zero, List.set_cons_succ])
      refine wpAnyH_take (i := 23) (v := (.int .i64 (((k : Nat) : Int) + 2))) rfl (by kernel_rfl) (by kernel_rfl) (by kernel_rfl) (fun _ _ _ h => h) (Or.inl ⟨by kernel_rfl, ?_⟩) (by assumption) ?_
      · intro w' hSw
        (try dsimp only at hSw)
        exact exec_addi (n := ((k : Nat) : Int)) (.tmp 125) rfl (by kernel_rfl) rfl (by omega) (by omega)
      (try simp only [Act.put, List.setIfInBounds_toArray, List.set_cons_zero, List.set_cons_succ])
      refine wpAnyH_take (i := 24) (v := (.pointer (some ⟨g, 0 + (k + 2), none⟩))) rfl (by kernel_rfl) (by kernel_rfl) (by kernel_rfl) (fun _ _ _ h => h) (Or.inl ⟨by kernel_rfl, ?_⟩) (by assumption) ?_
      · intro w' hSw
        (try dsimp only at hSw)
        exact exec_ixI (b := g) (o := 0) (n := (k + 3)) (c := c) (q := (k + 2)) (.tmp 124) (.tmp 126) rfl (by kernel_rfl) (by kernel_rfl) (by omega)
      (try simp only [Act.put, List.setIfInBounds_toArray, List.set_cons_zero, List.set_cons_succ])
      refine wpAnyH_take (i := 25) (v := (.int .i64 (703))) rfl (by kernel_rfl) (by kernel_rfl) (by kernel_rfl) (fun _ _ _ h => h) (Or.inl ⟨by kernel_rfl, ?_⟩) (by assumption) ?_
      · intro w' hSw
        (try dsimp only at hSw)
        exact exec_ld (.tmp 127) rfl (by decide) (by kernel_rfl) (GG.out _ hSw).2.2.1
      (try simp only [Act.put, List.setIfInBounds_toArray, List.set_cons_zero, List.set_cons_succ])
      refine wpAnyH_take (i := 26) (v := (.bool false)) rfl (by kernel_rfl) (by kernel_rfl) (by kernel_rfl) (fun _ _ _ h => h) (Or.inl ⟨by kernel_rfl, ?_⟩) (by assumption) ?_
      · intro w' hSw
        (try dsimp only at hSw)
        exact exec_neqi (n := 703) (.tmp 128) (.const (.int .i64 703)) rfl (by kernel_rfl) (by kernel_rfl)
      (try simp only [Act.put, List.setIfInBounds_toArray, List.set_cons_zero, List.set_cons_succ])
      refine wpAnyH_take (i := 27) (v := (.bool false)) rfl (by kernel_rfl) (by kernel_rfl) (by kernel_rfl) (fun _ _ _ h => h) (Or.inl ⟨by rfl, ?_⟩) (by assumption) ?_
      · intro w' hSw
        (try dsimp only at hSw)
        exact exec_pickf (.tmp 123) _ (.tmp 129) rfl (by kernel_rfl) (by kernel_rfl)
      (try simp only [Act.put, List.setIfInBounds_toArray, List.set_cons_zero, List.set_cons_succ])
      refine wpAnyH_take (i := 28) (v := (.bool false)) rfl (by kernel_rfl) (by kernel_rfl) (by kernel_rfl) (fun _ _ _ h => h) (Or.inl ⟨by rfl, ?_⟩) (by assumption) ?_
      · intro w' hSw
        (try dsimp only at hSw)
        exact exec_move (.tmp 130) rfl (by kernel_rfl)
      (try simp only [Act.put, List.setIfInBounds_toArray, List.set_cons_zero, List.set_cons_succ])
      refine wpAnyH_take (i := 29) (v := (.slice (some ⟨g, 0, none⟩) (k + 3) c)) rfl (by kernel_rfl) (by kernel_rfl) (by kernel_rfl) (fun _ _ _ h => h) (Or.inl ⟨by kernel_rfl, ?_⟩) (by assumption) ?_
      · intro w' hSw
        (try dsimp only at hSw)
        exact exec_move (.tmp 5) rfl (by kernel_rfl)
      (try simp only [Act.put, List.setIfInBounds_toArray, List.set_cons_zero, List.set_cons_succ])
      refine wpAnyH_take (i := 30) (v := (.int .i64 ((k : Int)))) rfl (by kernel_rfl) (by kernel_rfl) (by kernel_rfl) (fun _ _ _ h => h) (Or.inl ⟨by kernel_rfl, ?_⟩) (by assumption) ?_
      · intro w' hSw
        (try dsimp only at hSw)
        exact exec_move (.tmp 6) rfl (by kernel_rfl)
      (try simp only [Act.put, List.setIfInBounds_toArray, List.set_cons_zero, List.set_cons_succ])
      refine wpAnyH_take (i := 31) (v := (.slice (some ⟨g, 0, none⟩) k c)) rfl (by kernel_rfl) (by kernel_rfl) (by kernel_rfl) (fun _ _ _ h => h) (Or.inl ⟨by kernel_rfl, ?_⟩) (by assumption) ?_
      · intro w' hSw
        (try dsimp only at hSw)
        exact exec_cut (n := (k + 3)) (by omega) (.tmp 132) (.tmp 133) rfl (by kernel_rfl) (by kernel_rfl)
      (try simp only [Act.put, List.setIfInBounds_toArray, List.set_cons_zero, List.set_cons_succ])
      refine wpAnyH_take (i := 32) (v := (.pointer (some ⟨H, 0, none⟩))) rfl (by kernel_rfl) (by kernel_rfl) (by kernel_rfl) (fun _ _ _ h => h) (Or.inl ⟨by kernel_rfl, ?_⟩) (by assumption) ?_
      · intro w' hSw
        (try dsimp only at hSw)
        exact exec_move (.tmp 0) rfl (by kernel_rfl)
      (try simp only [Act.put, List.setIfInBounds_toArray, List.set_cons_zero, List.set_cons_succ])
      refine wpAnyH_take (i := 33) (v := (.pointer (some ⟨H, 0, none⟩))) rfl (by kernel_rfl) (by kernel_rfl) (by kernel_rfl) (fun _ _ _ h => h) (Or.inl ⟨by kernel_rfl, ?_⟩) (by assumption) ?_
      · intro w' hSw
        (try dsimp only at hSw)
        exact exec_nil (.tmp 135) rfl (by kernel_rfl)
      (try simp only [Act.put, List.setIfInBounds_toArray, List.set_cons_zero, List.set_cons_succ])
      refine wpAnyH_take (i := 34) (v := (.pointer (some ⟨H, 23, none⟩))) rfl (by kernel_rfl) (by kernel_rfl) (by kernel_rfl) (fun _ _ _ h => h) (Or.inl ⟨by kernel_rfl, ?_⟩) (by assumption) ?_
      · intro w' hSw
        (try dsimp only at hSw)
        exact exec_fa (a := ⟨H, 0, none⟩) (.tmp 136) rfl (by kernel_rfl) (by kernel_rfl)
      (try simp only [Act.put, List.setIfInBounds_toArray, List.set_cons_zero, List.set_cons_succ])
      refine wpAnyH_take (i := 35) (v := (.pointer (some ⟨H, 45, none⟩))) rfl (by kernel_rfl) (by kernel_rfl) (by kernel_rfl) (fun _ _ _ h => h) (Or.inl ⟨by kernel_rfl, ?_⟩) (by assumption) ?_
      · intro w' hSw
        (try dsimp only at hSw)
        exact exec_fa (a := ⟨H, 23, none⟩) (.tmp 137) rfl (by kernel_rfl) (by kernel_rfl)
      (try simp only [Act.put, List.setIfInBounds_toArray, List.set_cons_zero, List.set_cons_succ])
      refine wpAnyH_take (i := 36) (v := (.slice (some ⟨bw, 0, none⟩) ns.length cw)) rfl (by kernel_rfl) (by kernel_rfl) (by kernel_rfl) (fun _ _ _ h => h) (Or.inl ⟨by kernel_rfl, ?_⟩) (by assumption) ?_
      · intro w' hSw
        (try dsimp only at hSw)
        exact exec_ld (.tmp 138) rfl (by decide) (by kernel_rfl) (FF.out _ hSw).vw
      (try simp only [Act.put, List.setIfInBounds_toArray, List.set_cons_zero, List.set_cons_succ])
      refine wpAnyH_take (i := 37) (v := (.int .i64 ((q : Int)))) rfl (by kernel_rfl) (by kernel_rfl) (by kernel_rfl) (fun _ _ _ h => h) (Or.inl ⟨by kernel_rfl, ?_⟩) (by assumption) ?_
      · intro w' hSw
        (try dsimp only at hSw)
        exact exec_move (.tmp 4) rfl (by kernel_rfl)
      (try simp only [Act.put, List.setIfInBounds_toArray, List.set_cons_zero, List.set_cons_succ])
      refine wpAnyH_take (i := 38) (v := (.pointer (some ⟨bw, 0 + q * 2, none⟩))) rfl (by kernel_rfl) (by kernel_rfl) (by kernel_rfl) (fun _ _ _ h => h) (Or.inl ⟨by kernel_rfl, ?_⟩) (by assumption) ?_
      · intro w' hSw
        (try dsimp only at hSw)
        exact exec_ixN (b := bw) (o := 0) (n := ns.length) (c := cw) (q := q) (.tmp 139) (.tmp 140) rfl (by kernel_rfl) (by kernel_rfl) (by omega)
      (try simp only [Act.put, List.setIfInBounds_toArray, List.set_cons_zero, List.set_cons_succ])
      refine wpAnyH_take (i := 39) (v := (.pointer (some ⟨bw, 0 + q * 2 + 1, none⟩))) rfl (by kernel_rfl) (by kernel_rfl) (by kernel_rfl) (fun _ _ _ h => h) (Or.inl ⟨by kernel_rfl, ?_⟩) (by assumption) ?_
      · intro w' hSw
        (try dsimp only at hSw)
        exact exec_fa (a := ⟨bw, 0 + q * 2, none⟩) (.tmp 141) rfl (by kernel_rfl) (by kernel_rfl)
      (try simp only [Act.put, List.setIfInBounds_toArray, List.set_cons_zero, List.set_cons_succ])
      refine wpAnyH_take (i := 40) (v := vT) rfl (by kernel_rfl) (by kernel_rfl) (by kernel_rfl) (fun _ _ _ h => h) (Or.inl ⟨by kernel_rfl, ?_⟩) (by assumption) ?_
      · intro w' hSw
        (try dsimp only at hSw)
        exact exec_ld (.tmp 142) rfl (by decide) (by kernel_rfl) (GG.out _ hSw).2.2.2.1
      (try simp only [Act.put, List.setIfInBounds_toArray, List.set_cons_zero, List.set_cons_succ])
      refine wpAnyH_ready (rs := [41]) (by kernel_rfl) (by simp) ?_
      refine AllReadyH.cons rfl (fun K hK => ?_) AllReadyH.nil
      go_simp
      refine Calls.mono S1.out ?_
      rintro e W5 ⟨rfl, hb⟩
      have hb2 : Below wr.heap.size wr W5 := ⟨hb.os, hb.tape, hb.output, hb.size, hb.block⟩
      have B5 : Hid (Below W.heap.size W W5) := HB.out.trans (hb2.mono HB.out.size)
      clear hb hb2
      refine hK.out _ _ (B5.out) (fun hHeld => ?_)
      clear hK
      (try simp only [Act.put, List.setIfInBounds_toArray, List.set_cons_zero, List.set_cons_succ])
      refine wpAnyH_take (i := 42) (v := (.bool false)) rfl (by kernel_rfl) (by kernel_rfl) (by kernel_rfl) (fun _ _ _ h => h) (Or.inl ⟨by kernel_rfl, ?_⟩) (by assumption) ?_
      · intro w' hSw
        (try dsimp only at hSw)
        exact exec_not (.tmp 144) _ rfl (by kernel_rfl)
      (try simp only [Act.put, List.setIfInBounds_toArray, List.set_cons_zero, List.set_cons_succ])
      refine wpAnyH_take (i := 43) (v := (.bool false)) rfl (by kernel_rfl) (by kernel_rfl) (by kernel_rfl) (fun _ _ _ h => h) (Or.inl ⟨by rfl, ?_⟩) (by assumption) ?_
      · intro w' hSw
        (try dsimp only at hSw)
        exact exec_pickf (.tmp 131) _ (.tmp 145) rfl (by kernel_rfl) (by kernel_rfl)
      (try simp only [Act.put, List.setIfInBounds_toArray, List.set_cons_zero, List.set_cons_succ])
      refine wpAnyH_take (i := 44) (v := (.bool false)) rfl (by kernel_rfl) (by kernel_rfl) (by kernel_rfl) (fun _ _ _ h => h) (Or.inl ⟨by rfl, ?_⟩) (by assumption) ?_
      · intro w' hSw
        (try dsimp only at hSw)
        exact exec_move (.tmp 146) rfl (by kernel_rfl)
      (try simp only [Act.put, List.setIfInBounds_toArray, List.set_cons_zero, List.set_cons_succ])
      refine wpAnyH_take (i := 45) (v := (.pointer (some ⟨H, 0, none⟩))) rfl (by kernel_rfl) (by kernel_rfl) (by kernel_rfl) (fun _ _ _ h => h) (Or.inl ⟨by kernel_rfl, ?_⟩) (by assumption) ?_
      · intro w' hSw
        (try dsimp only at hSw)
        exact exec_move (.tmp 0) rfl (by kernel_rfl)
      (try simp only [Act.put, List.setIfInBounds_toArray, List.set_cons_zero, List.set_cons_succ])
      refine wpAnyH_take (i := 46) (v := (.pointer (some ⟨H, 0, none⟩))) rfl (by kernel_rfl) (by kernel_rfl) (by kernel_rfl) (fun _ _ _ h => h) (Or.inl ⟨by kernel_rfl, ?_⟩) (by assumption) ?_
      · intro w' hSw
        (try dsimp only at hSw)
        exact exec_nil (.tmp 148) rfl (by kernel_rfl)
      (try simp only [Act.put, List.setIfInBounds_toArray, List.set_cons_zero, List.set_cons_succ])
      refine wpAnyH_take (i := 47) (v := (.pointer (some ⟨H, 46, none⟩))) rfl (by kernel_rfl) (by kernel_rfl) (by kernel_rfl) (fun _ _ _ h => h) (Or.inl ⟨by kernel_rfl, ?_⟩) (by assumption) ?_
      · intro w' hSw
        (try dsimp only at hSw)
        exact exec_fa (a := ⟨H, 0, none⟩) (.tmp 149) rfl (by kernel_rfl) (by kernel_rfl)
      (try simp only [Act.put, List.setIfInBounds_toArray, List.set_cons_zero, List.set_cons_succ])
      refine wpAnyH_take (i := 48) (v := (.slice (some ⟨gn, 0, none⟩) (ns.length + 2) cn)) rfl (by kernel_rfl) (by kernel_rfl) (by kernel_rfl) (fun _ _ _ h => h) (Or.inl ⟨by kernel_rfl, ?_⟩) (by assumption) ?_
      · intro w' hSw
        (try dsimp only at hSw)
        exact exec_ld (.tmp 150) rfl (by decide) (by kernel_rfl) (FF.out _ hSw).vn
      (try simp only [Act.put, List.setIfInBounds_toArray, List.set_cons_zero, List.set_cons_succ])
      refine wpAnyH_take (i := 49) (v := (.int .i64 ((q : Int)))) rfl (by kernel_rfl) (by kernel_rfl) (by kernel_rfl) (fun _ _ _ h => h) (Or.inl ⟨by kernel_rfl, ?_⟩) (by assumption) ?_
      · intro w' hSw
        (try dsimp only at hSw)
        exact exec_move (.tmp 4) rfl (by kernel_rfl)
      (try simp only [Act.put, List.setIfInBounds_toArray, List.set_cons_zero, List.set_cons_succ])
      refine wpAnyH_take (i := 50) (v := (.pointer (some ⟨gn, 0 + q * 2, none⟩))) rfl (by kernel_rfl) (by kernel_rfl) (by kernel_rfl) (fun _ _ _ h => h) (Or.inl ⟨by kernel_rfl, ?_⟩) (by assumption) ?_
      · intro w' hSw
        (try dsimp only at hSw)
        exact exec_ixN (b := gn) (o := 0) (n := (ns.length + 2)) (c := cn) (q := q) (.tmp 151) (.tmp 152) rfl (by kernel_rfl) (by kernel_rfl) (by omega)
      (try simp only [Act.put, List.setIfInBounds_toArray, List.set_cons_zero, List.set_cons_succ])
      refine wpAnyH_take (i := 51) (v := (.pointer (some ⟨gn, 0 + q * 2 + 1, none⟩))) rfl (by kernel_rfl) (by kernel_rfl) (by kernel_rfl) (fun _ _ _ h => h) (Or.inl ⟨by kernel_rfl, ?_⟩) (by assumption) ?_
      · intro w' hSw
        (try dsimp only at hSw)
        exact exec_fa (a := ⟨gn, 0 + q * 2, none⟩) (.tmp 153) rfl (by kernel_rfl) (by kernel_rfl)
      (try simp only [Act.put, List.setIfInBounds_toArray, List.set_cons_zero, List.set_cons_succ])
      refine wpAnyH_take (i := 52) (v := vZ) rfl (by kernel_rfl) (by kernel_rfl) (by kernel_rfl) (fun _ _ _ h => h) (Or.inl ⟨by kernel_rfl, ?_⟩) (by assumption) ?_
      · intro w' hSw
        (try dsimp only at hSw)
        exact exec_ld (.tmp 154) rfl (by decide) (by kernel_rfl) (GG.out _ hSw).2.2.2.2
      (try simp only [Act.put, List.setIfInBounds_toArray, List.set_cons_zero, List.set_cons_succ])
      refine wpAnyH_take (i := 53) (v := (.pointer (some ⟨H, 0, none⟩))) rfl (by kernel_rfl) (by kernel_rfl) (by kernel_rfl) (fun _ _ _ h => h) (Or.inl ⟨by kernel_rfl, ?_⟩) (by assumption) ?_
      · intro w' hSw
        (try dsimp only at hSw)
        exact exec_move (.tmp 0) rfl (by kernel_rfl)
      (try simp only [Act.put, List.setIfInBounds_toArray, List.set_cons_zero, List.set_cons_succ])
      refine wpAnyH_take (i := 54) (v := (.pointer (some ⟨H, 0, none⟩))) rfl (by kernel_rfl) (by kernel_rfl) (by kernel_rfl) (fun _ _ _ h => h) (Or.inl ⟨by kernel_rfl, ?_⟩) (by assumption) ?_
      · intro w' hSw
        (try dsimp only at hSw)
        exact exec_nil (.tmp 156) rfl (by kernel_rfl)
      (try simp only [Act.put, List.setIfInBounds_toArray, List.set_cons_zero, List.set_cons_succ])
      refine wpAnyH_take (i := 55) (v := (.pointer (some ⟨H, 23, none⟩))) rfl (by kernel_rfl) (by kernel_rfl) (by kernel_rfl) (fun _ _ _ h => h) (Or.inl ⟨by kernel_rfl, ?_⟩) (by assumption) ?_
      · intro w' hSw
        (try dsimp only at hSw)
        exact exec_fa (a := ⟨H, 0, none⟩) (.tmp 157) rfl (by kernel_rfl) (by kernel_rfl)
      (try simp only [Act.put, List.setIfInBounds_toArray, List.set_cons_zero, List.set_cons_succ])
      refine wpAnyH_take (i := 56) (v := (.pointer (some ⟨H, 45, none⟩))) rfl (by kernel_rfl) (by kernel_rfl) (by kernel_rfl) (fun _ _ _ h => h) (Or.inl ⟨by kernel_rfl, ?_⟩) (by assumption) ?_
      · intro w' hSw
        (try dsimp only at hSw)
        exact exec_fa (a := ⟨H, 23, none⟩) (.tmp 158) rfl (by kernel_rfl) (by kernel_rfl)
      (try simp only [Act.put, List.setIfInBounds_toArray, List.set_cons_zero, List.set_cons_succ])
      refine wpAnyH_take (i := 57) (v := (.slice (some ⟨bw, 0, none⟩) ns.length cw)) rfl (by kernel_rfl) (by kernel_rfl) (by kernel_rfl) (fun _ _ _ h => h) (Or.inl ⟨by kernel_rfl, ?_⟩) (by assumption) ?_
      · intro w' hSw
        (try dsimp only at hSw)
        exact exec_ld (.tmp 159) rfl (by decide) (by kernel_rfl) (FF.out _ hSw).vw
      (try simp only [Act.put, List.setIfInBounds_toArray, List.set_cons_zero, List.set_cons_succ])
      refine wpAnyH_take (i := 58) (v := (.int .i64 ((q : Int)))) rfl (by kernel_rfl) (by kernel_rfl) (by kernel_rfl) (fun _ _ _ h => h) (Or.inl ⟨by kernel_rfl, ?_⟩) (by assumption) ?_
      · intro w' hSw
        (try dsimp only at hSw)
        exact exec_move (.tmp 4) rfl (by kernel_rfl)
      (try simp only [Act.put, List.setIfInBounds_toArray, List.set_cons_zero, List.set_cons_succ])
      refine wpAnyH_take (i := 59) (v := (.pointer (some ⟨bw, 0 + q * 2, none⟩))) rfl (by kernel_rfl) (by kernel_rfl) (by kernel_rfl) (fun _ _ _ h => h) (Or.inl ⟨by kernel_rfl, ?_⟩) (by assumption) ?_
      · intro w' hSw
        (try dsimp only at hSw)
        exact exec_ixN (b := bw) (o := 0) (n := ns.length) (c := cw) (q := q) (.tmp 160) (.tmp 161) rfl (by kernel_rfl) (by kernel_rfl) (by omega)
      (try simp only [Act.put, List.setIfInBounds_toArray, List.set_cons_zero, List.set_cons_succ])
      refine wpAnyH_take (i := 60) (v := (.pointer (some ⟨bw, 0 + q * 2 + 1, none⟩))) rfl (by kernel_rfl) (by kernel_rfl) (by kernel_rfl) (fun _ _ _ h => h) (Or.inl ⟨by kernel_rfl, ?_⟩) (by assumption) ?_
      · intro w' hSw
        (try dsimp only at hSw)
        exact exec_fa (a := ⟨bw, 0 + q * 2, none⟩) (.tmp 162) rfl (by kernel_rfl) (by kernel_rfl)
      (try simp only [Act.put, List.setIfInBounds_toArray, List.set_cons_zero, List.set_cons_succ])
      refine wpAnyH_take (i := 61) (v := vT) rfl (by kernel_rfl) (by kernel_rfl) (by kernel_rfl) (fun _ _ _ h => h) (Or.inl ⟨by kernel_rfl, ?_⟩) (by assumption) ?_
      · intro w' hSw
        (try dsimp only at hSw)
        exact exec_ld (.tmp 163) rfl (by decide) (by kernel_rfl) (GG.out _ hSw).2.2.2.1
      (try simp only [Act.put, List.setIfInBounds_toArray, List.set_cons_zero, List.set_cons_succ])
      refine wpAnyH_ready (rs := [62]) (by kernel_rfl) (by simp) ?_
      refine AllReadyH.cons rfl (fun K hK => ?_) AllReadyH.nil
      go_simp
      refine Calls.mono (S2.out W5 B5.out) ?_
      rintro e W6 ⟨rfl, hb⟩
      have hb2 : Below W5.heap.size W5 W6 := ⟨hb.os, hb.tape, hb.output, hb.size, hb.block⟩
      have B6 : Hid (Below W.heap.size W W6) := B5.out.trans (hb2.mono B5.out.size)
      clear hb hb2
      refine hK.out _ _ (B6.out) (fun hHeld => ?_)
      clear hK
      (try simp only [Act.put, List.setIfInBounds_toArray, List.set_cons_zero, List.set_cons_succ])
      refine wpAnyH_take (i := 63) (v := (.bool false)) rfl (by kernel_rfl) (by kernel_rfl) (by kernel_rfl) (fun _ _ _ h => h) (Or.inl ⟨by kernel_rfl, ?_⟩) (by assumption) ?_
      · intro w' hSw
        (try dsimp only at hSw)
        exact exec_not (.tmp 165) _ rfl (by kernel_rfl)
      (try simp only [Act.put, List.setIfInBounds_toArray, List.set_cons_zero, List.set_cons_succ])
      refine wpAnyH_ready (rs := [64]) (by kernel_rfl) (by simp) ?_
      refine AllReadyH.cons rfl (fun K hK => ?_) AllReadyH.nil
      go_simp
      refine hK.out _ _ (B6.out) (fun hHeld => ?_)
      clear hK
      (try simp only [Act.put, List.setIfInBounds_toArray, List.set_cons_zero, List.set_cons_succ])
      refine wpAnyH_done (by kernel_rfl) ?_ _
      clear hHeld
      go_wp2_with fail
      go_roundw
      case rel => exact ⟨q + 1, by omega, by go_num, B6.out⟩
      case measure => simp [intOf]; omega
end Go.Proofs.YtioiphonajinmaaDoor
