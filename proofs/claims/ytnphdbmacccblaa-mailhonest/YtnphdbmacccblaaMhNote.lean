import Derived.Test.YtnphdbmacccblaaMhBook
namespace Go.Proofs.Ytnphdbmacccblaa
open Go.RowKit
set_option maxHeartbeats 8000000 in
set_option maxRecDepth 100000 in
set_option linter.unusedSimpArgs false in
set_option linter.unusedVariables false in
theorem note_any {w : World} {S : Nat → Prop} {Eb : Nat} {A : AB} (h : Bo w S Eb A) (x : Lt) (hx : x.id = (A.length : Int) + 1) (hA : A.length ≤ 3298534883328) :
    Calls Try.prog 38 #[.pointer (some ⟨Eb, 0, none⟩), x.v] w fun e w' => e = .returned (.bool true) ∧ ∃ S', Bo w' S' Eb (A ++ [(x, false)]) ∧ Kp w w' S ∧ Nr w S S' := by
  obtain ⟨i0, hi0, hz0, hz1, hz2⟩ := info_parts4 infoLt
  obtain ⟨j0, hj0, hy0, hy1, hy2⟩ := info_parts4 infoB
  obtain ⟨vA, vG, h⟩ := h
  have e1 : (A.map (·.1)).length = A.length := List.length_map _
  have e2 : (A.map (·.2)).length = A.length := List.length_map _
  have HE := hide (And.intro e1 e2)
  have hm1 : A.length + 1 ≤ maxLen := by unfold maxLen; omega
  have hm2 : (A.length + 1) * 40 ≤ 140737488355328 := by omega
  have hm3 : (A.length + 1) * 1 ≤ 140737488355328 := by omega
  obtain ⟨ba, cap, hvA⟩ := own_sl h.rA
  obtain ⟨bg, capg, hvG⟩ := own_sl h.rG
  rw [e1] at hvA
  rw [e2] at hvG
  subst hvA
  subst hvG
  have HXI := hide hx
  obtain ⟨W0, hW0⟩ : ∃ W0, W0 = w.alloc (.cells #[.int .i64 x.id, .int .i64 x.fr, .int .i64 x.td, .string x.tx] 33) := ⟨_, rfl⟩
  obtain ⟨I, hI⟩ : ∃ I, I = w.heap.size := ⟨_, rfl⟩
  have HX : Hid (BkY W0.drew S Eb (.slice ba A.length cap) (.slice bg A.length capg) (A.map (·.1)) (A.map (·.2))) := by subst hW0; exact (h.alloc _).drew
  have II : Hid (LtAt W0.drew I x) := by subst hW0; subst hI; exact heap_last w _
  have K0 : Hid (Kp w W0.drew non) := by subst hW0; exact ((Kp.refl w non).alloc _).drew
  have k2 := HX.out.c0
  have NI : Hid (some I ≠ (Value.slice ba A.length cap).ownBlock ∧ I ≠ Eb) := by
    refine ⟨fun e => ?_, fun e => ?_⟩
    · have := h.sb I (h.sA I e.symm)
      omega
    · have := h.sb Eb h.sK
      omega
  clear h e1 e2 hx
  go_enter Try.func38, Try.ntmps38
  unfold Lt.v
  go_wp2_with fail
  rw [← hW0, ← hI]
  clear hW0 hI
  refine wp_region_held_drew (S := fun X => LtAt X I x) (by kernel_rfl) II.out (fun hHeld => ?_)
  refine wpAnyH_take (i := 0) (v := (.pointer (some ⟨Eb, 0, none⟩))) rfl (by kernel_rfl) (by kernel_rfl) (by kernel_rfl) (fun _ _ _ h => h) (Or.inl ⟨by rfl, ?_⟩) (by assumption) ?_
  · intro w' hSw
    (try dsimp only at hSw)
    go_simp
  (try simp only [Act.put, List.setIfInBounds_toArray, List.set_cons_zero, List.set_cons_succ])
  refine wpAnyH_take (i := 1) (v := (.pointer (some ⟨Eb, 0, none⟩))) rfl (by kernel_rfl) (by kernel_rfl) (by kernel_rfl) (fun _ _ _ h => h) (Or.inl ⟨by rfl, ?_⟩) (by assumption) ?_
  · intro w' hSw
    (try dsimp only at hSw)
    go_simp
  (try simp only [Act.put, List.setIfInBounds_toArray, List.set_cons_zero, List.set_cons_succ])
  refine wpAnyH_take (i := 2) (v := (.pointer (some ⟨Eb, 0, none⟩))) rfl (by kernel_rfl) (by kernel_rfl) (by kernel_rfl) (fun _ _ _ h => h) (Or.inl ⟨by rfl, ?_⟩) (by assumption) ?_
  · intro w' hSw
    (try dsimp only at hSw)
    go_simp
  (try simp only [Act.put, List.setIfInBounds_toArray, List.set_cons_zero, List.set_cons_succ])
  refine wpAnyH_take (i := 3) (v := (.pointer (some ⟨Eb, 0, none⟩))) rfl (by kernel_rfl) (by kernel_rfl) (by kernel_rfl) (fun _ _ _ h => h) (Or.inl ⟨by rfl, ?_⟩) (by assumption) ?_
  · intro w' hSw
    (try dsimp only at hSw)
    go_simp
  (try simp only [Act.put, List.setIfInBounds_toArray, List.set_cons_zero, List.set_cons_succ])
  refine wpAnyH_take (i := 5) (v := (.agg #[.int .i64 x.id, .int .i64 x.fr, .int .i64 x.td, .string x.tx])) rfl (by kernel_rfl) (by kernel_rfl) (by kernel_rfl) (fun _ _ _ h => h) (Or.inl ⟨by rfl, ?_⟩) (by assumption) ?_
  · intro w' hSw
    (try dsimp only at hSw)
    (have y0 := hSw.c0; have y1 := hSw.c1; have y2 := hSw.c2; have y3 := hSw.c3; clear hHeld k2; go_simp)
  (try simp only [Act.put, List.setIfInBounds_toArray, List.set_cons_zero, List.set_cons_succ])
  obtain ⟨W2, hW2⟩ : ∃ W2, W2 = (W0.alloc (.cells #[.int .i64 x.id, .int .i64 x.fr, .int .i64 x.td, .string x.tx] 33)).drew := ⟨_, rfl⟩
  obtain ⟨J, hJ⟩ : ∃ J, J = W0.heap.size := ⟨_, rfl⟩
  have HJ : Hid (LtAt W2 J x) := by subst hW2; subst hJ; exact heap_last W0.drew _
  have HI2 : Hid (LtAt W2 I x) := by subst hW2; exact (((Below.refl _ _).alloc (Nat.le_refl _) _).block _ (blk_lt II.out)).trans II.out
  have HX2 : Hid (BkY W2 S Eb (.slice ba A.length cap) (.slice bg A.length capg) (A.map (·.1)) (A.map (·.2))) := by subst hW2; exact HX.out.alloc _
  have RW2 : Hid (W2.ownsRow 0 33 4 (.slice ba A.length cap) A.length (ltc (A.map (·.1)))) := by
    have := HX2.out.rA
    rw [HE.out.1] at this
    exact this
  have K2 : Hid (Kp w W2 non) := by subst hW2; exact K0.out.alloc _
  refine wpAnyH_ready (rs := [4, 6]) (by kernel_rfl) (by simp) ?_
  refine AllReadyH.cons rfl (fun K hK => ?_) (AllReadyH.cons rfl (fun K hK => ?_) AllReadyH.nil)
  · skip
    go_simp
    refine hK.out _ _ (II.out) (fun hHeld => ?_)
    clear hK
    (try simp only [Act.put, List.setIfInBounds_toArray, List.set_cons_zero, List.set_cons_succ])
    refine wpAnyH_ready (rs := [6]) (by kernel_rfl) (by simp) ?_
    refine AllReadyH.cons rfl (fun K hK => ?_) AllReadyH.nil
    go_simp
    rw [← hW2, ← hJ]
    clear hW2 hJ
    refine hK.out _ _ (HI2.out) (fun hHeld => ?_)
    clear hK
    (try simp only [Act.put, List.setIfInBounds_toArray, List.set_cons_zero, List.set_cons_succ])
    refine wpAnyH_ready (rs := [7]) (by kernel_rfl) (by simp) ?_
    refine AllReadyH.cons rfl (fun K hK => ?_) AllReadyH.nil
    refine ite_yes (by rfl) ?_
    refine wp_appendA W2 (.tmp 9) (.tmp 11) 46 ?hAo 0 33 i0 _ 4 40 Try.underlying46 hi0 hz0 hz1 hz2 ?hAzs (by decide) (.slice ba A.length cap) A.length (ltc (A.map (·.1))) ?hAs RW2.out ⟨J, 0, none⟩ 1 1 (ltc [x]) ?hAx rfl (lt_cells HJ.out) (ltc_one _) hm1 hm2 (Nat.zero_le _) ?hAk
    case hAo => rfl
    case hAzs => rfl
    case hAs => kernel_rfl
    case hAx => kernel_rfl
    intro v2 w4 o4 g4 at4
    obtain ⟨hQ4, hR4, hK4, hN4⟩ := HX2.out.growA (by rw [HE.out.1]; exact o4) g4 at4
    have HI4 : Hid (LtAt w4 I x) := (g4.block _ (blk_lt HI2.out) NI.out.1).trans HI2.out
    obtain ⟨g2, cap2, hv2⟩ := own_g o4 (by omega)
    subst hv2
    have k3 : w4.cell? ⟨Eb, 0, none⟩ = some (.slice ba A.length cap) := by unfold World.cell?; rw [hQ4]; rfl
    have z3 : w4.frozen? ⟨Eb, 0, none⟩ = false := by unfold World.frozen?; rw [hQ4]; simp
    have HZ := hide hR4
    have KZ : Hid (Kp w (w4.setCell ⟨Eb, 0, none⟩ (.slice (some ⟨g2, 0, none⟩) (A.length + 1) cap2)) S ∧ Nr w S (fun k => S k ∨ (Value.slice (some ⟨g2, 0, none⟩) (A.length + 1) cap2).ownBlock = some k)) := ⟨(K2.out.mono (fun _ f => f.elim)).trans hK4 (fun k e => Or.inl e), fun k e => by rcases hN4 k e with a | a; exact Or.inl a; exact Or.inr (Nat.le_trans K2.out.size a)⟩
    have HI5 : Hid (LtAt (w4.setCell ⟨Eb, 0, none⟩ (.slice (some ⟨g2, 0, none⟩) (A.length + 1) cap2)) I x) := (Below.heap_setCell _ _ _ I NI.out.2).trans HI4.out
    clear hR4 hQ4 o4 g4 hK4 hN4 at4
    refine hK.out _ _ (HI4.out) (fun hHeld => ?_)
    clear hK
    (try simp only [Act.put, List.setIfInBounds_toArray, List.set_cons_zero, List.set_cons_succ])
    refine wpAnyH_take (i := 8) (v := (.pointer (some ⟨Eb, 0, none⟩))) rfl (by kernel_rfl) (by kernel_rfl) (by kernel_rfl) (fun _ _ _ h => h) (Or.inl ⟨by rfl, ?_⟩) (by assumption) ?_
    · intro w' hSw
      (try dsimp only at hSw)
      go_simp
    (try simp only [Act.put, List.setIfInBounds_toArray, List.set_cons_zero, List.set_cons_succ])
    refine wpAnyH_take (i := 9) (v := (.pointer (some ⟨Eb, 0, none⟩))) rfl (by kernel_rfl) (by kernel_rfl) (by kernel_rfl) (fun _ _ _ h => h) (Or.inl ⟨by rfl, ?_⟩) (by assumption) ?_
    · intro w' hSw
      (try dsimp only at hSw)
      go_simp
    (try simp only [Act.put, List.setIfInBounds_toArray, List.set_cons_zero, List.set_cons_succ])
    refine wpAnyH_ready (rs := [10]) (by kernel_rfl) (by simp) ?_
    refine AllReadyH.cons rfl (fun K hK => ?_) AllReadyH.nil
    go_simp
    refine hK.out _ _ (HI5.out) (fun hHeld => ?_)
    clear hK
    (try simp only [Act.put, List.setIfInBounds_toArray, List.set_cons_zero, List.set_cons_succ])
    refine wpAnyH_done (by kernel_rfl) ?_ _
    clear hHeld k3 z3
    generalize w4.setCell ⟨Eb, 0, none⟩ (.slice (some ⟨g2, 0, none⟩) (A.length + 1) cap2) = W9 at *
    have d1 := HZ.out.c1
    have hrG : Hid ((W9.alloc (.cells #[.bool false] 4)).ownsRow 0 4 1 (.slice bg A.length capg) A.length (blc (A.map (·.2)))) := by
      have := HZ.out.rG
      rw [HE.out.2] at this
      exact this.alloc _
    have NI9 : Hid (some I ≠ (Value.slice bg A.length capg).ownBlock ∧ I ≠ Eb) := ⟨fun e => own_ty HZ.out.rG (show W9.heap[I]? = _ from HI5.out) (by decide) e.symm, NI.out.2⟩
    go_upto_region 3 with (at_builtin; refine wpList_append_own_at _ rfl _ _ 31 rfl 0 4 j0 _ 1 1 Try.underlying31 hj0 hy0 hy1 hy2 rfl (by decide) _ _ _ rfl hrG.out ⟨W9.heap.size, 0, none⟩ 1 1 (blc [false]) rfl rfl (bl_cells W9 false) (blc_one _) hm1 hm3 (Nat.zero_le _) ?_; intro v6 w6 o6 g6 n6 a6; clear n6; obtain ⟨hQ6, HY6, K6, N6⟩ := (HZ.out.alloc _).growG (by rw [HE.out.2]; exact o6) g6 a6; have HI6 : LtAt w6 I x := (g6.block _ (by simp; have := blk_lt HI5.out; omega) NI9.out.1).trans ((((Below.refl _ W9).alloc (Nat.le_refl _) _).block _ (blk_lt HI5.out)).trans HI5.out); obtain ⟨g6', cap6, hv6⟩ := own_g o6 (by omega); subst hv6; have k2 : w6.cell? ⟨Eb, 1, none⟩ = some (.slice bg A.length capg) := (by unfold World.cell?; rw [hQ6]; rfl); have z2 : w6.frozen? ⟨Eb, 1, none⟩ = false := (by unfold World.frozen?; rw [hQ6]; simp); clear o6 g6 a6 hQ6)
    have Y6 := hide HY6
    have I6 : Hid (LtAt (w6.setCell ⟨Eb, 1, none⟩ (.slice (some ⟨g6', 0, none⟩) (A.length + 1) cap6)) I x) := (Below.heap_setCell _ _ _ I NI9.out.2).trans HI6
    have Z6 : Hid (Kp w (w6.setCell ⟨Eb, 1, none⟩ (.slice (some ⟨g6', 0, none⟩) (A.length + 1) cap6)) S ∧ Nr w S (fun k => (S k ∨ (Value.slice (some ⟨g2, 0, none⟩) (A.length + 1) cap2).ownBlock = some k) ∨ (Value.slice (some ⟨g6', 0, none⟩) (A.length + 1) cap6).ownBlock = some k)) := ⟨KZ.out.1.trans ((Kp.al _ _).trans K6 (fun k e => Or.inl e)) (fun k e => KZ.out.2 k e), fun k e => by
      rcases N6 k e with a | a
      · exact KZ.out.2 k a
      · have := KZ.out.1.size
        simp only [World.size_alloc] at a
        exact Or.inr (by omega)⟩
    clear HY6 K6 N6 HI6 k2 z2 HZ KZ d1 hrG
    generalize w6.setCell ⟨Eb, 1, none⟩ (.slice (some ⟨g6', 0, none⟩) (A.length + 1) cap6) = W7 at *
    have f0 := I6.out.c0
    have f1 := Y6.out.c0
    rw [HXI.out] at f0
    go_quiet (fail)
    have Y7 := hide (Y6.out.kp (Kp.of_below (show Below W7.heap.size W7 (W7.drewN nq) from ⟨rfl, rfl, rfl, Nat.le_refl _, fun _ _ => rfl⟩) non) (fun _ _ f => f))
    have Z7 : Hid (Kp w (W7.drewN nq) S) := Z6.out.1.drewN nq
    generalize W7.drewN nq = W8 at *
    clear f0 f1
    go_wp2_with fail
    go_ret
    exact ⟨by simp, _, ⟨_, _, by rw [List.map_append, List.map_append]; exact Y7.out⟩, Z7.out, Z6.out.2⟩
  · skip
    go_simp
    rw [← hW2, ← hJ]
    clear hW2 hJ
    have k22 := HX2.out.c0
    refine hK.out _ _ (HI2.out) (fun hHeld => ?_)
    clear hK
    (try simp only [Act.put, List.setIfInBounds_toArray, List.set_cons_zero, List.set_cons_succ])
    refine wpAnyH_ready (rs := [4]) (by kernel_rfl) (by simp) ?_
    refine AllReadyH.cons rfl (fun K hK => ?_) AllReadyH.nil
    go_simp
    refine hK.out _ _ (HI2.out) (fun hHeld => ?_)
    clear hK
    (try simp only [Act.put, List.setIfInBounds_toArray, List.set_cons_zero, List.set_cons_succ])
    clear k22
    refine wpAnyH_ready (rs := [7]) (by kernel_rfl) (by simp) ?_
    refine AllReadyH.cons rfl (fun K hK => ?_) AllReadyH.nil
    refine ite_yes (by rfl) ?_
    refine wp_appendA W2 (.tmp 9) (.tmp 11) 46 ?hBo 0 33 i0 _ 4 40 Try.underlying46 hi0 hz0 hz1 hz2 ?hBzs (by decide) (.slice ba A.length cap) A.length (ltc (A.map (·.1))) ?hBs RW2.out ⟨J, 0, none⟩ 1 1 (ltc [x]) ?hBx rfl (lt_cells HJ.out) (ltc_one _) hm1 hm2 (Nat.zero_le _) ?hBk
    case hBo => rfl
    case hBzs => rfl
    case hBs => kernel_rfl
    case hBx => kernel_rfl
    intro v2 w4 o4 g4 at4
    obtain ⟨hQ4, hR4, hK4, hN4⟩ := HX2.out.growA (by rw [HE.out.1]; exact o4) g4 at4
    have HI4 : Hid (LtAt w4 I x) := (g4.block _ (blk_lt HI2.out) NI.out.1).trans HI2.out
    obtain ⟨g2, cap2, hv2⟩ := own_g o4 (by omega)
    subst hv2
    have k3 : w4.cell? ⟨Eb, 0, none⟩ = some (.slice ba A.length cap) := by unfold World.cell?; rw [hQ4]; rfl
    have z3 : w4.frozen? ⟨Eb, 0, none⟩ = false := by unfold World.frozen?; rw [hQ4]; simp
    have HZ := hide hR4
    have KZ : Hid (Kp w (w4.setCell ⟨Eb, 0, none⟩ (.slice (some ⟨g2, 0, none⟩) (A.length + 1) cap2)) S ∧ Nr w S (fun k => S k ∨ (Value.slice (some ⟨g2, 0, none⟩) (A.length + 1) cap2).ownBlock = some k)) := ⟨(K2.out.mono (fun _ f => f.elim)).trans hK4 (fun k e => Or.inl e), fun k e => by rcases hN4 k e with a | a; exact Or.inl a; exact Or.inr (Nat.le_trans K2.out.size a)⟩
    have HI5 : Hid (LtAt (w4.setCell ⟨Eb, 0, none⟩ (.slice (some ⟨g2, 0, none⟩) (A.length + 1) cap2)) I x) := (Below.heap_setCell _ _ _ I NI.out.2).trans HI4.out
    clear hR4 hQ4 o4 g4 hK4 hN4 at4
    refine hK.out _ _ (HI4.out) (fun hHeld => ?_)
    clear hK
    (try simp only [Act.put, List.setIfInBounds_toArray, List.set_cons_zero, List.set_cons_succ])
    refine wpAnyH_take (i := 8) (v := (.pointer (some ⟨Eb, 0, none⟩))) rfl (by kernel_rfl) (by kernel_rfl) (by kernel_rfl) (fun _ _ _ h => h) (Or.inl ⟨by rfl, ?_⟩) (by assumption) ?_
    · intro w' hSw
      (try dsimp only at hSw)
      go_simp
    (try simp only [Act.put, List.setIfInBounds_toArray, List.set_cons_zero, List.set_cons_succ])
    refine wpAnyH_take (i := 9) (v := (.pointer (some ⟨Eb, 0, none⟩))) rfl (by kernel_rfl) (by kernel_rfl) (by kernel_rfl) (fun _ _ _ h => h) (Or.inl ⟨by rfl, ?_⟩) (by assumption) ?_
    · intro w' hSw
      (try dsimp only at hSw)
      go_simp
    (try simp only [Act.put, List.setIfInBounds_toArray, List.set_cons_zero, List.set_cons_succ])
    refine wpAnyH_ready (rs := [10]) (by kernel_rfl) (by simp) ?_
    refine AllReadyH.cons rfl (fun K hK => ?_) AllReadyH.nil
    go_simp
    refine hK.out _ _ (HI5.out) (fun hHeld => ?_)
    clear hK
    (try simp only [Act.put, List.setIfInBounds_toArray, List.set_cons_zero, List.set_cons_succ])
    refine wpAnyH_done (by kernel_rfl) ?_ _
    clear hHeld k3 z3
    generalize w4.setCell ⟨Eb, 0, none⟩ (.slice (some ⟨g2, 0, none⟩) (A.length + 1) cap2) = W9 at *
    have d1 := HZ.out.c1
    have hrG : Hid ((W9.alloc (.cells #[.bool false] 4)).ownsRow 0 4 1 (.slice bg A.length capg) A.length (blc (A.map (·.2)))) := by
      have := HZ.out.rG
      rw [HE.out.2] at this
      exact this.alloc _
    have NI9 : Hid (some I ≠ (Value.slice bg A.length capg).ownBlock ∧ I ≠ Eb) := ⟨fun e => own_ty HZ.out.rG (show W9.heap[I]? = _ from HI5.out) (by decide) e.symm, NI.out.2⟩
    go_upto_region 3 with (at_builtin; refine wpList_append_own_at _ rfl _ _ 31 rfl 0 4 j0 _ 1 1 Try.underlying31 hj0 hy0 hy1 hy2 rfl (by decide) _ _ _ rfl hrG.out ⟨W9.heap.size, 0, none⟩ 1 1 (blc [false]) rfl rfl (bl_cells W9 false) (blc_one _) hm1 hm3 (Nat.zero_le _) ?_; intro v6 w6 o6 g6 n6 a6; clear n6; obtain ⟨hQ6, HY6, K6, N6⟩ := (HZ.out.alloc _).growG (by rw [HE.out.2]; exact o6) g6 a6; have HI6 : LtAt w6 I x := (g6.block _ (by simp; have := blk_lt HI5.out; omega) NI9.out.1).trans ((((Below.refl _ W9).alloc (Nat.le_refl _) _).block _ (blk_lt HI5.out)).trans HI5.out); obtain ⟨g6', cap6, hv6⟩ := own_g o6 (by omega); subst hv6; have k2 : w6.cell? ⟨Eb, 1, none⟩ = some (.slice bg A.length capg) := (by unfold World.cell?; rw [hQ6]; rfl); have z2 : w6.frozen? ⟨Eb, 1, none⟩ = false := (by unfold World.frozen?; rw [hQ6]; simp); clear o6 g6 a6 hQ6)
    have Y6 := hide HY6
    have I6 : Hid (LtAt (w6.setCell ⟨Eb, 1, none⟩ (.slice (some ⟨g6', 0, none⟩) (A.length + 1) cap6)) I x) := (Below.heap_setCell _ _ _ I NI9.out.2).trans HI6
    have Z6 : Hid (Kp w (w6.setCell ⟨Eb, 1, none⟩ (.slice (some ⟨g6', 0, none⟩) (A.length + 1) cap6)) S ∧ Nr w S (fun k => (S k ∨ (Value.slice (some ⟨g2, 0, none⟩) (A.length + 1) cap2).ownBlock = some k) ∨ (Value.slice (some ⟨g6', 0, none⟩) (A.length + 1) cap6).ownBlock = some k)) := ⟨KZ.out.1.trans ((Kp.al _ _).trans K6 (fun k e => Or.inl e)) (fun k e => KZ.out.2 k e), fun k e => by
      rcases N6 k e with a | a
      · exact KZ.out.2 k a
      · have := KZ.out.1.size
        simp only [World.size_alloc] at a
        exact Or.inr (by omega)⟩
    clear HY6 K6 N6 HI6 k2 z2 HZ KZ d1 hrG
    generalize w6.setCell ⟨Eb, 1, none⟩ (.slice (some ⟨g6', 0, none⟩) (A.length + 1) cap6) = W7 at *
    have f0 := I6.out.c0
    have f1 := Y6.out.c0
    rw [HXI.out] at f0
    go_quiet (fail)
    have Y7 := hide (Y6.out.kp (Kp.of_below (show Below W7.heap.size W7 (W7.drewN nq) from ⟨rfl, rfl, rfl, Nat.le_refl _, fun _ _ => rfl⟩) non) (fun _ _ f => f))
    have Z7 : Hid (Kp w (W7.drewN nq) S) := Z6.out.1.drewN nq
    generalize W7.drewN nq = W8 at *
    clear f0 f1
    go_wp2_with fail
    go_ret
    exact ⟨by simp, _, ⟨_, _, by rw [List.map_append, List.map_append]; exact Y7.out⟩, Z7.out, Z6.out.2⟩
theorem BkY.kill {w : World} {S : Nat → Prop} {Eb g capg : Nat} {vA : Value} {A : AB} (h : BkY w S Eb vA (.slice (some ⟨g, 0, none⟩) A.length capg) (A.map (·.1)) (A.map (·.2))) (k : Nat) (x : Lt) (hk : k < A.length) (hx : A[k].1 = x) : Bo (w.setCell ⟨g, k, none⟩ (.bool true)) S Eb (A.set k (x, true)) ∧ Kp w (w.setCell ⟨g, k, none⟩ (.bool true)) S := by
  have el : (A.map (·.2)).length = A.length := List.length_map _
  have hrG : w.ownsRow 0 4 1 (.slice (some ⟨g, 0, none⟩) A.length capg) A.length (blc (A.map (·.2))) := by
    have := h.rG
    rw [el] at this
    exact this
  obtain ⟨o, gr⟩ := hrG.stored k (.bool true)
  have hk2 : Kp w (w.setCell ⟨g, k, none⟩ (.bool true)) S := (Kp.refl w S).set (Or.inl (h.sG g rfl)) k _
  have kk : Kp w (w.setCell ⟨g, k, none⟩ (.bool true)) (fun q => q = g) := Kp.set (S := fun q => q = g) (Kp.refl w _) (Or.inl rfl) k _
  have nQ : Eb ≠ g := fun e => own_ty h.rG h.blk (by decide) (by rw [e]; rfl)
  have e1 : (A.set k (x, true)).map (·.1) = A.map (·.1) := by
    rw [List.map_set]
    refine List.ext_getElem? fun j => ?_
    rw [List.getElem?_set]
    split
    · rename_i hj
      subst hj
      rw [if_pos (by simpa using hk)]
      simp [hk, hx]
    · rfl
  have e2 : blc ((A.set k (x, true)).map (·.2)) = (blc (A.map (·.2))).set k (.bool true) := by
    rw [List.map_set]
    unfold blc
    rw [List.map_set]
  refine ⟨⟨vA, .slice (some ⟨g, 0, none⟩) A.length capg, (kk.block _ (blk_lt h.blk) nQ).trans h.blk, ?_, ?_, h.sK, h.sA, h.sG, fun q e => by rw [World.size_setCell]; exact h.sb q e⟩, hk2⟩
  · rw [e1]
    exact own_kp h.rA kk (fun q e1 e2 => own_apart h.rA h.rG (by decide) q e1 (by rw [e2]; rfl))
  · rw [e2, List.length_map, List.length_set]
    exact o
end Go.Proofs.Ytnphdbmacccblaa
