import Derived.Test.YtndfhpfhgdamgaaGreatDoorGRvClus
namespace Go.Proofs.YtndfhpfhgdamgaaGreatDoor.Cn
open Go.RowKit
set_option maxHeartbeats 16000000 in
set_option maxRecDepth 100000 in
set_option linter.unusedSimpArgs false in
set_option linter.unusedVariables false in
theorem dtake_no {w : World} {S T : Nat → Prop} {R base B : Nat} {c : Cl} {P : List Gp} {v : Rv} {k : Dk} {m : Mg} {er : Int} (h : RtAt w S R c P v) (hd : DkAt w base T B R k) (her : er ≠ 0)
    (TK : ∀ X, RtAt X S R c P v → Calls Tryz.prog 30 #[.pointer (some ⟨R, 0, none⟩), .agg (mgV m)] X fun e w' => e = .returned (.tuple #[.slice none 0 0, .slice none 0 0, .int .i64 er]) ∧ RtAt w' S R c P v ∧ Kp X w' S) :
    Calls Tryz.prog 44 #[.pointer (some ⟨B, 0, none⟩), .agg (mgV m)] w fun e w' => e = .returned (.bool true) ∧ Desk w w' S T R base B c (P.map (·.g)) v k := by
  have AP := hd.apart h
  obtain ⟨MB, hMB⟩ : ∃ MB, MB = w.heap.size := ⟨_, rfl⟩
  obtain ⟨W0, hW0⟩ : ∃ W0, W0 = w.alloc (.cells (mgV m) 58) := ⟨_, rfl⟩
  have k0 : Kp w W0 non := by rw [hW0]; exact (Kp.refl w non).alloc _
  have m0 : MgAt W0 MB m := by rw [hW0, hMB]; exact MgAt.new w m
  have kd : Kp w W0.drew non := k0.drew
  have TK0 := hide (TK W0.drew (h.kp kd (fun _ _ f => f)))
  have D0 := hd.kp k0 (fun _ _ f => f)
  have b0 : W0.cell? ⟨B, 0, none⟩ = some (.pointer (some ⟨R, 0, none⟩)) := by
    obtain ⟨vw, vk, vd, hx, hT⟩ := D0
    rw [cell_row hx.blk]
    rfl
  have Blt : B < W0.heap.size := World.block_lt_of_cell? W0 _ b0
  have BS : Hid (¬ S B) := fun q => by
    obtain ⟨vw, vk, vd, hx, hT⟩ := hd
    exact AP B ((hT B).2 (Or.inl rfl)) q
  have MS : Hid (¬ S MB) := fun q => by have := h.lt q; omega
  have C0 : Hid (W0.cell? ⟨B, 0, none⟩ = some (.pointer (some ⟨R, 0, none⟩)) ∧ W0.heap[MB]? = some (.cells (mgV m) 58)) := ⟨b0, m0⟩
  have HD := hide hd
  have HAP := hide AP
  have KD := hide kd
  have HMB := hide hMB
  have NU := hide fun w n => num_r w n
  have q1 : (er == 0) = false := by simp [her]
  have q2 : (er != 0) = true := by simp [her]
  have HBlt := hide Blt
  clear h hd TK k0 m0 kd D0 b0 hMB Blt AP
  go_enter Tryz.func44, Tryz.ntmps44
  go_upto_region 1 with fail
  rw [← hW0, ← HMB.out]
  clear hW0
  refine wp_region_held_drew (S := fun X => X.cell? ⟨B, 0, none⟩ = some (.pointer (some ⟨R, 0, none⟩)) ∧ X.heap[MB]? = some (.cells (mgV m) 58)) (by kernel_rfl) C0.out (fun hHeld => ?_)
  refine wpAnyH_take (i := 0) (v := (.pointer (some ⟨B, 0, none⟩))) rfl (by kernel_rfl) (by kernel_rfl) (by kernel_rfl) (fun _ _ _ h => h) (Or.inl ⟨by rfl, ?_⟩) (by assumption) ?_
  · intro w' hSw
    (try dsimp only at hSw)
    go_simp
  (try simp only [Act.put, List.getElem_toArray, List.getElem_cons_zero, List.getElem_cons_succ, List.setIfInBounds_toArray, List.set_cons_zero, List.set_cons_succ])
  refine wpAnyH_take (i := 1) (v := (.pointer (some ⟨B, 0, none⟩))) rfl (by kernel_rfl) (by kernel_rfl) (by kernel_rfl) (fun _ _ _ h => h) (Or.inl ⟨by rfl, ?_⟩) (by assumption) ?_
  · intro w' hSw
    (try dsimp only at hSw)
    go_simp
  (try simp only [Act.put, List.getElem_toArray, List.getElem_cons_zero, List.getElem_cons_succ, List.setIfInBounds_toArray, List.set_cons_zero, List.set_cons_succ])
  refine wpAnyH_take (i := 2) (v := (.pointer (some ⟨B, 0, none⟩))) rfl (by kernel_rfl) (by kernel_rfl) (by kernel_rfl) (fun _ _ _ h => h) (Or.inl ⟨by rfl, ?_⟩) (by assumption) ?_
  · intro w' hSw
    (try dsimp only at hSw)
    go_simp
  (try simp only [Act.put, List.getElem_toArray, List.getElem_cons_zero, List.getElem_cons_succ, List.setIfInBounds_toArray, List.set_cons_zero, List.set_cons_succ])
  refine wpAnyH_take (i := 3) (v := (.pointer (some ⟨R, 0, none⟩))) rfl (by kernel_rfl) (by kernel_rfl) (by kernel_rfl) (fun _ _ _ h => h) (Or.inl ⟨by rfl, ?_⟩) (by assumption) ?_
  · intro w' hSw
    (try dsimp only at hSw)
    (have hs1 := hSw.1; go_simp)
  (try simp only [Act.put, List.getElem_toArray, List.getElem_cons_zero, List.getElem_cons_succ, List.setIfInBounds_toArray, List.set_cons_zero, List.set_cons_succ])
  refine wpAnyH_take (i := 4) (v := (.agg (mgV m))) rfl (by kernel_rfl) (by kernel_rfl) (by kernel_rfl) (fun _ _ _ h => h) (Or.inl ⟨by rfl, ?_⟩) (by assumption) ?_
  · intro w' hSw
    (try dsimp only at hSw)
    (exact exec_ldR 58 (.tmp 3) rfl rfl _ hSw.2 Tryz.underlying58 mg_info)
  (try simp only [Act.put, List.getElem_toArray, List.getElem_cons_zero, List.getElem_cons_succ, List.setIfInBounds_toArray, List.set_cons_zero, List.set_cons_succ])
  refine wpAnyH_ready (rs := [5]) (by kernel_rfl) (by simp) ?_
  refine AllReadyH.cons rfl (fun K hK => ?_) AllReadyH.nil
  go_simp
  refine Calls.mono TK0.out ?_
  rintro e W2 ⟨rfl, r2, k2⟩
  have C2 : Hid (W2.cell? ⟨B, 0, none⟩ = some (.pointer (some ⟨R, 0, none⟩)) ∧ W2.heap[MB]? = some (.cells (mgV m) 58)) := ⟨(k2.cell (b := B) HBlt.out BS.out).trans C0.out.1, (k2.block _ (blk_lt (w := W0) C0.out.2) MS.out).trans C0.out.2⟩
  have KF : Hid (Kp w W2 (fun j => S j ∨ T j)) := (KD.out.mono (fun _ f => f.elim)).trans k2 (fun j q => Or.inl (Or.inl q))
  have DF := hide ((HD.out.kp KD.out (fun _ _ f => f)).kp k2 (fun j q => HAP.out j q))
  have RF := hide r2
  clear r2 k2 TK0
  refine hK.out _ _ (C2.out) (fun hHeld => ?_)
  clear hK
  (try simp only [Act.put, List.setIfInBounds_toArray, List.set_cons_zero, List.set_cons_succ])
  refine wpAnyH_take (i := 6) (v := (.tuple #[.slice none 0 0, .slice none 0 0, .int .i64 er])) rfl (by kernel_rfl) (by kernel_rfl) (by kernel_rfl) (fun _ _ _ h => h) (Or.inl ⟨by rfl, ?_⟩) (by assumption) ?_
  · intro w' hSw
    (try dsimp only at hSw)
    go_simp
  (try simp only [Act.put, List.getElem_toArray, List.getElem_cons_zero, List.getElem_cons_succ, List.setIfInBounds_toArray, List.set_cons_zero, List.set_cons_succ])
  refine wpAnyH_take (i := 7) (v := (.slice none 0 0)) rfl (by kernel_rfl) (by kernel_rfl) (by kernel_rfl) (fun _ _ _ h => h) (Or.inl ⟨by rfl, ?_⟩) (by assumption) ?_
  · intro w' hSw
    (try dsimp only at hSw)
    go_simp
  (try simp only [Act.put, List.getElem_toArray, List.getElem_cons_zero, List.getElem_cons_succ, List.setIfInBounds_toArray, List.set_cons_zero, List.set_cons_succ])
  refine wpAnyH_take (i := 8) (v := (.slice none 0 0)) rfl (by kernel_rfl) (by kernel_rfl) (by kernel_rfl) (fun _ _ _ h => h) (Or.inl ⟨by rfl, ?_⟩) (by assumption) ?_
  · intro w' hSw
    (try dsimp only at hSw)
    go_simp
  (try simp only [Act.put, List.getElem_toArray, List.getElem_cons_zero, List.getElem_cons_succ, List.setIfInBounds_toArray, List.set_cons_zero, List.set_cons_succ])
  refine wpAnyH_take (i := 9) (v := (.int .i64 er)) rfl (by kernel_rfl) (by kernel_rfl) (by kernel_rfl) (fun _ _ _ h => h) (Or.inl ⟨by rfl, ?_⟩) (by assumption) ?_
  · intro w' hSw
    (try dsimp only at hSw)
    go_simp
  (try simp only [Act.put, List.getElem_toArray, List.getElem_cons_zero, List.getElem_cons_succ, List.setIfInBounds_toArray, List.set_cons_zero, List.set_cons_succ])
  refine wpAnyH_ready (rs := [10]) (by kernel_rfl) (by simp) ?_
  refine AllReadyH.cons rfl (fun K hK => ?_) AllReadyH.nil
  go_simp
  refine hK.out _ _ (C2.out) (fun hHeld => ?_)
  clear hK
  (try simp only [Act.put, List.setIfInBounds_toArray, List.set_cons_zero, List.set_cons_succ])
  refine wpAnyH_ready (rs := [11]) (by kernel_rfl) (by simp) ?_
  refine AllReadyH.cons rfl (fun K hK => ?_) AllReadyH.nil
  go_simp
  refine hK.out _ _ (C2.out) (fun hHeld => ?_)
  clear hK
  (try simp only [Act.put, List.setIfInBounds_toArray, List.set_cons_zero, List.set_cons_succ])
  refine wpAnyH_ready (rs := [12]) (by kernel_rfl) (by simp) ?_
  refine AllReadyH.cons rfl (fun K hK => ?_) AllReadyH.nil
  go_simp
  refine hK.out _ _ (C2.out) (fun hHeld => ?_)
  clear hK
  (try simp only [Act.put, List.setIfInBounds_toArray, List.set_cons_zero, List.set_cons_succ])
  refine wpAnyH_done (by kernel_rfl) ?_ _
  go_wp2_with (go_at_call 8; refine Calls.mono (NU.out _ _) ?_; rintro e w' ⟨rfl, rfl⟩)
  go_ret
  exact ⟨rfl, S, T, P, RF.out, rfl, DF.out, KF.out, fun j q => Or.inl q, fun j q => Or.inl q⟩
theorem took_any {w : World} {base B R be : Nat} {T : Nat → Prop} {k : Dk} {m : Mg} {E : List Oc} {ea : Option Addr} {ec : Nat} (hd : DkAt w base T B R k) (he : w.ownsRow be 96 6 (.slice ea E.length ec) E.length (ocs E)) (ho : tookOk k m E) (hwl : k.went.length ≤ 1000000000000) : Calls Tryz.prog 69 #[.pointer (some ⟨B, 0, none⟩), .agg (mgV m), .slice ea E.length ec] w fun e w' => e = .returned (.bool true) ∧ Kp w w' non := by
  rcases ho with rfl | ⟨o, rfl, ho⟩
  · exact took_zero ea ec
  · obtain ⟨g, gc, hg⟩ := own_g he (by simp)
    injection hg with hg _ hgc
    subst hg
    subst hgc
    rcases ho with ho | ho
    · exact took_lost he ho
    · exact took_says hd he ho hwl
set_option maxHeartbeats 16000000 in
set_option maxRecDepth 100000 in
set_option linter.unusedSimpArgs false in
set_option linter.unusedVariables false in
theorem dtake_any {w : World} {S T : Nat → Prop} {R base B : Nat} {c : Cl} {P : List Gp} {v v' : Rv} {gs' : List Gt} {k : Dk} {m : Mg} {L : List Mg} {E : List Oc} (h : RtAt w S R c P v) (hd : DkAt w base T B R k) (hb : base ≤ w.heap.size)
    (TK : ∀ X, RtAt X S R c P v → Calls Tryz.prog 30 #[.pointer (some ⟨R, 0, none⟩), .agg (mgV m)] X fun e w' => ∃ S' P' vo ve, e = .returned (.tuple #[vo, ve, .int .i64 0]) ∧ RtAt w' S' R c P' v' ∧ P'.map (·.g) = gs' ∧ w'.ownsRow X.heap.size 58 11 vo L.length (mgs L) ∧ w'.ownsRow X.heap.size 96 6 ve E.length (ocs E) ∧ Kp X w' S ∧ ∀ j, S' j → S j)
    (hto : tookOk k m E) (hok : okEnds k E) (hdl : k.done.length = k.keys.length) (hkl : k.keys.length ≤ 400000000000) (hwl : k.went.length ≤ 400000000000) (hLl : L.length ≤ 1000000) (hEl : E.length ≤ 1000000) :
    Calls Tryz.prog 44 #[.pointer (some ⟨B, 0, none⟩), .agg (mgV m)] w fun e w' => e = .returned (.bool true) ∧ Desk w w' S T R base B c gs' v' ((k.ends E).wnt L) := by
  have AP := hd.apart h
  obtain ⟨MB, hMB⟩ : ∃ MB, MB = w.heap.size := ⟨_, rfl⟩
  obtain ⟨W0, hW0⟩ : ∃ W0, W0 = w.alloc (.cells (mgV m) 58) := ⟨_, rfl⟩
  have k0 : Kp w W0 non := by rw [hW0]; exact (Kp.refl w non).alloc _
  have m0 : MgAt W0 MB m := by rw [hW0, hMB]; exact MgAt.new w m
  have kd : Kp w W0.drew non := k0.drew
  have TK0 := hide (TK W0.drew (h.kp kd (fun _ _ f => f)))
  have D0 := hd.kp k0 (fun _ _ f => f)
  have b0 : W0.cell? ⟨B, 0, none⟩ = some (.pointer (some ⟨R, 0, none⟩)) := by
    obtain ⟨vw, vk, vd, hx, hT⟩ := D0
    rw [cell_row hx.blk]
    rfl
  have Blt : B < W0.heap.size := World.block_lt_of_cell? W0 _ b0
  have BS : Hid (¬ S B) := fun q => by
    obtain ⟨vw, vk, vd, hx, hT⟩ := hd
    exact AP B ((hT B).2 (Or.inl rfl)) q
  have MS : Hid (¬ S MB) := fun q => by have := h.lt q; omega
  have C0 : Hid (W0.cell? ⟨B, 0, none⟩ = some (.pointer (some ⟨R, 0, none⟩)) ∧ W0.heap[MB]? = some (.cells (mgV m) 58)) := ⟨b0, m0⟩
  have HD := hide hd
  have HAP := hide AP
  have KD := hide kd
  have HMB := hide hMB
  have NU := hide fun w n => num_r w n
  have Tlt : Hid (∀ j, T j → j < w.heap.size) := fun j q => by
    obtain ⟨_, A, t, e, _⟩ := hd.kind q
    exact blk_lt e
  have hz0 : Hid (w.heap.size ≤ W0.drew.heap.size) := k0.drew.size
  have HBlt := hide Blt
  clear h hd TK k0 m0 kd D0 b0 hMB Blt AP
  go_enter Tryz.func44, Tryz.ntmps44
  go_upto_region 1 with fail
  rw [← hW0, ← HMB.out]
  clear hW0
  refine wp_region_held_drew (S := fun X => X.cell? ⟨B, 0, none⟩ = some (.pointer (some ⟨R, 0, none⟩)) ∧ X.heap[MB]? = some (.cells (mgV m) 58)) (by kernel_rfl) C0.out (fun hHeld => ?_)
  refine wpAnyH_take (i := 0) (v := (.pointer (some ⟨B, 0, none⟩))) rfl (by kernel_rfl) (by kernel_rfl) (by kernel_rfl) (fun _ _ _ h => h) (Or.inl ⟨by rfl, ?_⟩) (by assumption) ?_
  · intro w' hSw
    (try dsimp only at hSw)
    go_simp
  (try simp only [Act.put, List.getElem_toArray, List.getElem_cons_zero, List.getElem_cons_succ, List.setIfInBounds_toArray, List.set_cons_zero, List.set_cons_succ])
  refine wpAnyH_take (i := 1) (v := (.pointer (some ⟨B, 0, none⟩))) rfl (by kernel_rfl) (by kernel_rfl) (by kernel_rfl) (fun _ _ _ h => h) (Or.inl ⟨by rfl, ?_⟩) (by assumption) ?_
  · intro w' hSw
    (try dsimp only at hSw)
    go_simp
  (try simp only [Act.put, List.getElem_toArray, List.getElem_cons_zero, List.getElem_cons_succ, List.setIfInBounds_toArray, List.set_cons_zero, List.set_cons_succ])
  refine wpAnyH_take (i := 2) (v := (.pointer (some ⟨B, 0, none⟩))) rfl (by kernel_rfl) (by kernel_rfl) (by kernel_rfl) (fun _ _ _ h => h) (Or.inl ⟨by rfl, ?_⟩) (by assumption) ?_
  · intro w' hSw
    (try dsimp only at hSw)
    go_simp
  (try simp only [Act.put, List.getElem_toArray, List.getElem_cons_zero, List.getElem_cons_succ, List.setIfInBounds_toArray, List.set_cons_zero, List.set_cons_succ])
  refine wpAnyH_take (i := 3) (v := (.pointer (some ⟨R, 0, none⟩))) rfl (by kernel_rfl) (by kernel_rfl) (by kernel_rfl) (fun _ _ _ h => h) (Or.inl ⟨by rfl, ?_⟩) (by assumption) ?_
  · intro w' hSw
    (try dsimp only at hSw)
    (have hs1 := hSw.1; go_simp)
  (try simp only [Act.put, List.getElem_toArray, List.getElem_cons_zero, List.getElem_cons_succ, List.setIfInBounds_toArray, List.set_cons_zero, List.set_cons_succ])
  refine wpAnyH_take (i := 4) (v := (.agg (mgV m))) rfl (by kernel_rfl) (by kernel_rfl) (by kernel_rfl) (fun _ _ _ h => h) (Or.inl ⟨by rfl, ?_⟩) (by assumption) ?_
  · intro w' hSw
    (try dsimp only at hSw)
    (exact exec_ldR 58 (.tmp 3) rfl rfl _ hSw.2 Tryz.underlying58 mg_info)
  (try simp only [Act.put, List.getElem_toArray, List.getElem_cons_zero, List.getElem_cons_succ, List.setIfInBounds_toArray, List.set_cons_zero, List.set_cons_succ])
  refine wpAnyH_ready (rs := [5]) (by kernel_rfl) (by simp) ?_
  refine AllReadyH.cons rfl (fun K hK => ?_) AllReadyH.nil
  go_simp
  refine Calls.mono TK0.out ?_
  rintro e W2 ⟨S', P', vo, ve, rfl, r2, g2, o2, e2, k2, s2⟩
  obtain ⟨oa, oc, hvo⟩ := own_sl o2
  obtain ⟨ea, ec, hve⟩ := own_sl e2
  subst hvo
  subst hve
  have C2 : Hid (W2.cell? ⟨B, 0, none⟩ = some (.pointer (some ⟨R, 0, none⟩)) ∧ W2.heap[MB]? = some (.cells (mgV m) 58)) := ⟨(k2.cell (b := B) HBlt.out BS.out).trans C0.out.1, (k2.block _ (blk_lt (w := W0) C0.out.2) MS.out).trans C0.out.2⟩
  have K2 : Hid (Kp w W2 S) := (KD.out.mono (fun _ f => f.elim)).trans k2 (fun j q => Or.inl q)
  have d2 := (HD.out.kp KD.out (fun _ _ f => f)).kp k2 (fun j q => HAP.out j q)
  have D2 := hide d2
  have R2 := hide r2
  have GS2 := hide g2
  have O2 := hide (own_base o2 hz0.out)
  have E2 := hide (own_base e2 hz0.out)
  have S2 := hide s2
  have TO := hide (took_any (m := m) d2 e2 hto (by omega))
  have M2 : Hid (MgAt W2 MB m) := C2.out.2
  clear r2 g2 o2 e2 k2 s2 d2 TK0
  refine hK.out _ _ (C2.out) (fun hHeld => ?_)
  clear hK
  (try simp only [Act.put, List.setIfInBounds_toArray, List.set_cons_zero, List.set_cons_succ])
  refine wpAnyH_take (i := 6) (v := (.tuple #[.slice oa L.length oc, .slice ea E.length ec, .int .i64 0])) rfl (by kernel_rfl) (by kernel_rfl) (by kernel_rfl) (fun _ _ _ h => h) (Or.inl ⟨by rfl, ?_⟩) (by assumption) ?_
  · intro w' hSw
    (try dsimp only at hSw)
    go_simp
  (try simp only [Act.put, List.getElem_toArray, List.getElem_cons_zero, List.getElem_cons_succ, List.setIfInBounds_toArray, List.set_cons_zero, List.set_cons_succ])
  refine wpAnyH_take (i := 7) (v := (.slice oa L.length oc)) rfl (by kernel_rfl) (by kernel_rfl) (by kernel_rfl) (fun _ _ _ h => h) (Or.inl ⟨by rfl, ?_⟩) (by assumption) ?_
  · intro w' hSw
    (try dsimp only at hSw)
    go_simp
  (try simp only [Act.put, List.getElem_toArray, List.getElem_cons_zero, List.getElem_cons_succ, List.setIfInBounds_toArray, List.set_cons_zero, List.set_cons_succ])
  refine wpAnyH_take (i := 8) (v := (.slice ea E.length ec)) rfl (by kernel_rfl) (by kernel_rfl) (by kernel_rfl) (fun _ _ _ h => h) (Or.inl ⟨by rfl, ?_⟩) (by assumption) ?_
  · intro w' hSw
    (try dsimp only at hSw)
    go_simp
  (try simp only [Act.put, List.getElem_toArray, List.getElem_cons_zero, List.getElem_cons_succ, List.setIfInBounds_toArray, List.set_cons_zero, List.set_cons_succ])
  refine wpAnyH_take (i := 9) (v := (.int .i64 0)) rfl (by kernel_rfl) (by kernel_rfl) (by kernel_rfl) (fun _ _ _ h => h) (Or.inl ⟨by rfl, ?_⟩) (by assumption) ?_
  · intro w' hSw
    (try dsimp only at hSw)
    go_simp
  (try simp only [Act.put, List.getElem_toArray, List.getElem_cons_zero, List.getElem_cons_succ, List.setIfInBounds_toArray, List.set_cons_zero, List.set_cons_succ])
  refine wpAnyH_ready (rs := [10]) (by kernel_rfl) (by simp) ?_
  refine AllReadyH.cons rfl (fun K hK => ?_) AllReadyH.nil
  go_simp
  refine hK.out _ _ (C2.out) (fun hHeld => ?_)
  clear hK
  (try simp only [Act.put, List.setIfInBounds_toArray, List.set_cons_zero, List.set_cons_succ])
  refine wpAnyH_ready (rs := [11]) (by kernel_rfl) (by simp) ?_
  refine AllReadyH.cons rfl (fun K hK => ?_) AllReadyH.nil
  go_simp
  refine hK.out _ _ (C2.out) (fun hHeld => ?_)
  clear hK
  (try simp only [Act.put, List.setIfInBounds_toArray, List.set_cons_zero, List.set_cons_succ])
  refine wpAnyH_ready (rs := [12]) (by kernel_rfl) (by simp) ?_
  refine AllReadyH.cons rfl (fun K hK => ?_) AllReadyH.nil
  go_simp
  refine hK.out _ _ (C2.out) (fun hHeld => ?_)
  clear hK
  (try simp only [Act.put, List.setIfInBounds_toArray, List.set_cons_zero, List.set_cons_succ])
  refine wpAnyH_done (by kernel_rfl) ?_ _
  clear C0 C2 hHeld
  go_upto_region 4 with (go_at_call 8; refine Calls.mono (NU.out _ _) ?_; rintro e w' ⟨rfl, rfl⟩)
  go_wp2_with (refine wpList_ldM rfl (.tmp 3) rfl m MB rfl M2.out ?_)
  refine Calls.mono TO.out ?_
  rintro e W3 ⟨rfl, k3⟩
  have d3 := D2.out.kp k3 (fun _ _ f => f)
  have e3 := own_kp E2.out k3 (fun _ _ f => f)
  have EN := hide (ended_any d3 e3 hok hdl (by omega) hEl)
  have K3 : Hid (Kp w W3 S) := K2.out.trans k3 (fun _ f => f.elim)
  have R3 := hide (R2.out.kp k3 (fun _ _ f => f))
  have O3 := hide (own_kp O2.out k3 (fun _ _ f => f))
  have AP3 : Hid (∀ j, T j → ¬ S' j) := d3.apart R3.out
  clear d3 e3 k3 TO D2 E2 R2 O2 M2
  go_wp2_with fail
  refine Calls.mono EN.out ?_
  rintro e W4 ⟨rfl, d4, k4⟩
  have R4 := hide (R3.out.kp k4 (fun j q s => AP3.out j s q))
  have K4 : Hid (Kp w W4 (fun j => S j ∨ T j)) := (K3.out.mono (fun j q => Or.inl q)).trans k4 (fun j q => Or.inl (Or.inr q))
  have OT : ∀ j, (Value.slice oa L.length oc).ownBlock = some j → ¬ T j := fun j q s => by
    have := own_ge O3.out q
    have := Tlt.out j s
    omega
  have O4 := hide (own_kp O3.out k4 OT)
  obtain ⟨q1, q2, q3⟩ := ends_keys k E
  obtain ⟨vw, vk, vd, hx, hT⟩ := d4
  obtain ⟨wa, wc, hvw⟩ := own_sl hx.fw
  subst hvw
  generalize hke : k.ends E = ke at *
  have b1 : W4.cell? ⟨B, 1, none⟩ = some (.slice wa ke.went.length wc) := by rw [cell_row hx.blk]; rfl
  have JO := hide (joined_any hx.fw O4.out (by rw [q2]; omega))
  have HX := hide hx
  have HT := hide hT
  have HKE := hide hke
  clear hx hT k4 OT q1 q2 q3 EN hke
  go_upto_region 5 with fail
  go_wp2_with fail
  refine Calls.mono JO.out ?_
  rintro e W5 ⟨u, rfl, o5, b5⟩
  obtain ⟨ua, uc, hu⟩ := own_sl o5
  subst hu
  have k5 := Kp.of_below b5 non
  have gb : base ≤ W4.heap.size := Nat.le_trans hb K4.out.size
  obtain ⟨e6, x6, k6, s6⟩ := HX.out.putw (L := ke.went ++ L) (own_base o5 gb) (k5.mono (fun _ f => f.elim)) (fun j e => Or.inr (own_ge o5 e))
  have c6 : W5.cell? ⟨B, 1, none⟩ = some (.slice wa ke.went.length wc) := by rw [cell_row (e6.trans HX.out.blk)]; rfl
  have f6 : W5.frozen? ⟨B, 1, none⟩ = false := fz_row (e6.trans HX.out.blk) 1
  obtain ⟨W6, hW6⟩ : ∃ W6, W6 = W5.setCell ⟨B, 1, none⟩ (.slice ua (ke.went ++ L).length uc) := ⟨_, rfl⟩
  rw [← hW6] at x6 k6
  have kT : Kp W4 W6 T := k6.mono (fun j q => (HT.out j).2 q)
  have X6 := hide x6
  have R6 := hide (R4.out.kp kT (fun j q s => AP3.out j s q))
  have K6 : Hid (Kp w W6 (fun j => S j ∨ T j)) := K4.out.trans kT (fun j q => Or.inl (Or.inr q))
  have S6 : Hid (∀ j, DkS B (.slice ua (ke.went ++ L).length uc) vk vd j → T j ∨ w.heap.size ≤ j) := fun j q => by
    have := K4.out.size
    rcases s6 j q with q | q
    · exact Or.inl ((HT.out j).2 q)
    · exact Or.inr (by omega)
  generalize hwl' : (ke.went ++ L).length = wl at *
  clear o5 b5 k5 e6 x6 k6 s6 JO b1 kT
  go_upto_region 6 with fail
  rw [← hW6]
  clear hW6 c6 f6
  go_wp2_with fail
  go_ret
  exact ⟨rfl, S', _, P', R6.out, GS2.out, by rw [HKE.out]; exact ⟨_, _, _, X6.out, fun _ => Iff.rfl⟩, K6.out, fun j q => Or.inl (S2.out j q), S6.out⟩
end Go.Proofs.YtndfhpfhgdamgaaGreatDoor.Cn
namespace Go.Proofs.YtndfhpfhgdamgaaGreatDoor.Cn
open Go.RowKit
/-- a step of the script -/
structure Op2 where
  kd : Int
  n : Int
  s : ByteArray
  l : Value
  m : Mg
def opV (o : Op2) : Array Value := #[.int .i64 o.kd, .int .i64 o.n, .string o.s, o.l, .int .i64 o.m.kind, .int .i64 o.m.fr, .int .i64 o.m.td, .int .i64 o.m.id, .int .i64 o.m.ep, .int .i64 o.m.sq, .int .i64 o.m.ver, .int .i64 o.m.prev, .int .i64 o.m.code, .string o.m.key, .string o.m.val]
def ansM (m om : Mg) : Mg := if m.kind = 11 then ⟨12, m.td, m.fr, m.id, 0, 0, om.ver, 0, om.code, m.key, om.val⟩ else ⟨2, m.td, m.fr, m.id, 0, 0, 0, 0, 0, ⟨#[]⟩, ⟨#[]⟩⟩
set_option maxHeartbeats 16000000 in
set_option maxRecDepth 100000 in
set_option linter.unusedSimpArgs false in
set_option linter.unusedVariables false in
theorem answer_none {w : World} (o : Op2) (a : Option Addr) (cp : Nat) : Calls Tryz.prog 29 #[.slice a 0 cp, .agg (opV o)] w fun e w' => e = .returned (.tuple #[.agg (mgV mg0), .bool false]) ∧ Kp w w' non := by
  obtain ⟨W0, hW0⟩ : ∃ W0, W0 = (w.alloc (.cells (opV o) 60)).alloc (.cells (mgV mg0) 58) := ⟨_, rfl⟩
  have k0 : Kp w W0 non := by rw [hW0]; exact ((Kp.refl w non).alloc _).alloc _
  obtain ⟨B1, hB1⟩ : ∃ B1, B1 = w.heap.size + 1 := ⟨_, rfl⟩
  have m0 : Hid (W0.heap[B1]? = some (.cells (mgV mg0) 58)) := by
    rw [hW0, hB1]
    have := heap_last (w.alloc (.cells (opV o) 60)) (.cells (mgV mg0) 58)
    rw [World.size_alloc] at this
    exact this
  have K0 := hide k0
  have HB1 := hide hB1
  clear k0 hB1
  go_enter Tryz.func29, Tryz.ntmps29
  go_upto_region 1 with fail
  rw [show (w.alloc (.cells (opV o) 60)).alloc (.cells #[.int .i64 0, .int .i64 0, .int .i64 0, .int .i64 0, .int .i64 0, .int .i64 0, .int .i64 0, .int .i64 0, .int .i64 0, .string ⟨#[]⟩, .string ⟨#[]⟩] 58) = W0 from hW0.symm, ← HB1.out]
  clear hW0
  go_wp2_with (first | refine wpList_blR rfl 58 #[] rfl (mgV mg0) (by kernel_rfl) ?_ | refine wpList_stR rfl 58 (.tmp 4) (.tmp 11) rfl B1 rfl (mgV mg0) (mgV mg0) rfl _ m0.out mg_info rfl (mg_one _) ?_)
  have kr : Kp W0 (W0.setRow B1 (mgV mg0)) (fun j => j = B1) := ⟨rfl, rfl, rfl, by simp [World.setRow], fun j _ hj => by simp only [World.setRow, Array.getElem?_modify]; rw [if_neg (fun e => hj e.symm)]⟩
  refine bodyPost_ret (v := .tuple #[.agg (mgV mg0), .bool false]) (res_row2 Tryz.results29 _ _ _ B1 rfl _ rfl _ (setRow_heap _ _ _ _ _ _ m0.out) Tryz.underlying58 mg_info) rfl ⟨rfl, K0.out.trans kr (fun j e => Or.inr (by rw [e, HB1.out]; omega))⟩
set_option maxHeartbeats 16000000 in
set_option maxRecDepth 100000 in
set_option linter.unusedSimpArgs false in
set_option linter.unusedVariables false in
theorem answer_any {w : World} {base g cp : Nat} {WW : List Mg} (o : Op2) (h : w.ownsRow base 58 11 (.slice (some ⟨g, 0, none⟩) WW.length cp) WW.length (mgs WW)) (h0 : 0 < WW.length) (hl : WW.length ≤ 1000000000000) (hn : tkOk o.n) :
    ∃ (j : Nat) (hj : j < WW.length), Calls Tryz.prog 29 #[.slice (some ⟨g, 0, none⟩) WW.length cp, .agg (opV o)] w fun e w' => e = .returned (.tuple #[.agg (mgV (ansM WW[j] o.m)), .bool true]) ∧ Kp w w' non := by
  obtain ⟨n, hnn⟩ : ∃ n, n = o.n := ⟨_, rfl⟩
  have r1 : (n.tmod (WW.length : Int)) < (WW.length : Int) := Int.tmod_lt_of_pos n (by omega)
  have r2 : -(WW.length : Int) < n.tmod (WW.length : Int) := by
    exact Int.lt_tmod_of_pos n (by omega)
  obtain ⟨r, hr⟩ : ∃ r, n.tmod (WW.length : Int) = r := ⟨_, rfl⟩
  rw [hr] at r1 r2
  obtain ⟨j, hj⟩ : ∃ j : Nat, (r + (WW.length : Int)) % (WW.length : Int) = (j : Int) := ⟨((r + (WW.length : Int)) % (WW.length : Int)).toNat, by have := Int.emod_nonneg (r + (WW.length : Int)) (b := (WW.length : Int)) (by omega); omega⟩
  have hjl : j < WW.length := by
    have h1 := Int.emod_lt_of_pos (r + (WW.length : Int)) (b := (WW.length : Int)) (by omega)
    rw [hj] at h1
    omega
  have hq : (r + (WW.length : Int)).tmod (WW.length : Int) = (j : Int) := by rw [Int.tmod_eq_emod_of_nonneg (by omega), hj]
  refine ⟨j, hjl, ?_⟩
  obtain ⟨W0, hW0⟩ : ∃ W0, W0 = (w.alloc (.cells (opV o) 60)).alloc (.cells (mgV mg0) 58) := ⟨_, rfl⟩
  obtain ⟨B, hB⟩ : ∃ B, B = w.heap.size := ⟨_, rfl⟩
  have k0 : Kp w W0 non := by rw [hW0]; exact ((Kp.refl w non).alloc _).alloc _
  have ob0 : W0.heap[B]? = some (.cells (opV o) 60) := by
    rw [hW0, hB]
    exact ((Kp.refl _ non).alloc _).block _ (by rw [World.size_alloc]; omega) (fun f => f) |>.trans (heap_last w _)
  have m0 : W0.heap[B + 1]? = some (.cells (mgV mg0) 58) := by
    rw [hW0, hB]
    have := heap_last (w.alloc (.cells (opV o) 60)) (.cells (mgV mg0) 58)
    rw [World.size_alloc] at this
    exact this
  have s0 : W0.heap.size = B + 2 := by rw [hW0, hB]; simp
  have n1 : W0.cell? ⟨B, 1, none⟩ = some (.int .i64 n) := by rw [cell_row ob0, hnn]; rfl
  have RG := hide (mg_range (own_kp h k0 (fun _ _ f => f)) hjl rfl)
  have w2 := wrap_in (x := r + (WW.length : Int)) (by omega) (by omega)
  have hne : ¬ (WW.length : Int) = 0 := by omega
  have hneb : ((WW.length : Int) == 0) = false := by rw [beq_eq_false_iff_ne]; omega
  have hneb2 : (WW.length == 0) = false := by rw [beq_eq_false_iff_ne]; omega
  have hneb3 : ¬ WW.length = 0 := by omega
  have hjI : (j : Int) < (WW.length : Int) := by omega
  have K0 := hide k0
  have OB0 := hide ob0
  have HM0 := hide m0
  have HS0 := hide s0
  have HB := hide hB
  generalize hmi : WW[j] = mi at *
  clear h k0 ob0 m0 s0 hB hmi hnn hj hn
  go_enter Tryz.func29, Tryz.ntmps29
  go_upto_region 1 with fail
  rw [show (w.alloc (.cells (opV o) 60)).alloc (.cells #[.int .i64 0, .int .i64 0, .int .i64 0, .int .i64 0, .int .i64 0, .int .i64 0, .int .i64 0, .int .i64 0, .int .i64 0, .string ⟨#[]⟩, .string ⟨#[]⟩] 58) = W0 from hW0.symm, ← HB.out]
  clear hW0
  go_upto_region 4 with (first | refine wpList_load_mid rfl 58 (.tmp 24) rfl g (j * 11) rfl (mgV mi).toList _ RG.out Tryz.underlying58 rfl mg_info ?_ | refine wpList_stR rfl 58 (.tmp 6) (.tmp 25) rfl W0.heap.size rfl (mgV mi) (mgV mg0) rfl _ (heap_last W0 _) mg_info rfl (mg_one _) ?_)
  obtain ⟨MI, hMI⟩ : ∃ MI, MI = W0.heap.size := ⟨_, rfl⟩
  obtain ⟨W1, hW1⟩ : ∃ W1, W1 = W0.alloc (.cells (mgV mi) 58) := ⟨_, rfl⟩
  have k1 : Kp W0 W1 non := by rw [hW1]; exact (Kp.refl W0 non).alloc _
  have m1 : MgAt W1 MI mi := by rw [hW1, hMI]; exact MgAt.new W0 mi
  obtain ⟨c0, c1, c2, c3, _, _, _, _, _, c9, _⟩ := m1.cells
  obtain ⟨a0, ha0⟩ : ∃ a0 : Mg, a0 = ⟨2, mi.td, mi.fr, mi.id, 0, 0, 0, 0, 0, ⟨#[]⟩, ⟨#[]⟩⟩ := ⟨_, rfl⟩
  obtain ⟨A, hA⟩ : ∃ A, A = W1.heap.size := ⟨_, rfl⟩
  obtain ⟨W2, hW2⟩ : ∃ W2, W2 = W1.alloc (.cells (mgV a0) 58) := ⟨_, rfl⟩
  have k2 : Kp W1 W2 non := by rw [hW2]; exact (Kp.refl W1 non).alloc _
  have m2 : MgAt W2 A a0 := by rw [hW2, hA]; exact MgAt.new W1 a0
  have HA0 := hide ha0
  have hAM : A ≠ MI := by
    have := blk_lt m1
    omega
  have hAB : A ≠ B := by
    have := blk_lt OB0.out
    have := k1.size
    omega
  have hAB1 : A ≠ B + 1 := by
    have := blk_lt HM0.out
    have := k1.size
    omega
  have mi2 : MgAt W2 MI mi := m1.keep k2 (fun f => f)
  have ob2 : W2.heap[B]? = some (.cells (opV o) 60) := (k2.block _ (Nat.lt_of_lt_of_le (blk_lt OB0.out) k1.size) (fun f => f)).trans ((k1.block _ (blk_lt OB0.out) (fun f => f)).trans OB0.out)
  have hm2 : W2.heap[B + 1]? = some (.cells (mgV mg0) 58) := (k2.block _ (Nat.lt_of_lt_of_le (blk_lt HM0.out) k1.size) (fun f => f)).trans ((k1.block _ (blk_lt HM0.out) (fun f => f)).trans HM0.out)
  have K2 : Hid (Kp w W2 non) := (K0.out.trans k1 (fun _ f => f.elim)).trans k2 (fun _ f => f.elim)
  have FIN : Hid (∀ (X : World) (a : Mg), Kp W2 X (fun q => q = A) → MgAt X A a → X.heap[B + 1]? = some (.cells (mgV mg0) 58)) := fun X a hk _ => (hk.block _ (blk_lt hm2) (fun e => hAB1 e.symm)).trans hm2
  have hAw : Hid (w.heap.size ≤ A) := by
    have z0 := K0.out.size
    have z1 := k1.size
    rw [hA]
    exact Nat.le_trans z0 z1
  have HM2 := hide m2
  have HMI2 := hide mi2
  have HOB2 := hide ob2
  have HHM2 := hide hm2
  clear k1 k2 m1 m2 mi2 ob2 hm2 ha0
  simp only [Act.put]
  rw [World.setRow_alloc_new, ← hW1, ← hMI]
  clear hW1 hMI RG n1 hr w2 hq
  go_upto_region 5 with (first | refine wpList_blR rfl 58 #[(0, .const (.int .i64 2)), (1, .tmp 27), (2, .tmp 29), (3, .tmp 31)] rfl (mgV a0) (by rw [HA0.out]; kernel_rfl) ?_ | refine wpList_stR rfl 58 (.tmp 7) (.tmp 32) rfl W1.heap.size rfl (mgV a0) (mgV mg0) rfl _ (heap_last W1 _) mg_info rfl (mg_one _) ?_)
  rw [World.setRow_alloc_new, ← hW2, ← hA]
  clear hW2 hA c0 c1 c2 c3 c9
  obtain ⟨d0, _, _, _, _, _, _, _, _, d9, _⟩ := HMI2.out.cells
  have hMA : ¬ MI = A := fun e => hAM e.symm
  have hBA : ¬ B = A := fun e => hAB e.symm
  by_cases hk : mi.kind = 11
  · have g0 : W2.cell? ⟨A, 0, none⟩ = some (.int .i64 a0.kind) := HM2.out.cells.1
    have g6 : W2.cell? ⟨A, 6, none⟩ = some (.int .i64 a0.ver) := HM2.out.cells.2.2.2.2.2.2.1
    have g8 : W2.cell? ⟨A, 8, none⟩ = some (.int .i64 a0.code) := HM2.out.cells.2.2.2.2.2.2.2.2.1
    have g9 : W2.cell? ⟨A, 9, none⟩ = some (.string a0.key) := HM2.out.cells.2.2.2.2.2.2.2.2.2.1
    have g10 : W2.cell? ⟨A, 10, none⟩ = some (.string a0.val) := HM2.out.cells.2.2.2.2.2.2.2.2.2.2
    have fz : ∀ i, W2.frozen? ⟨A, i, none⟩ = false := fun i => fz_row HM2.out i
    have z0 := fz 0
    have z6 := fz 6
    have z8 := fz 8
    have z9 := fz 9
    have z10 := fz 10
    have v6 : W2.cell? ⟨B, 10, none⟩ = some (.int .i64 o.m.ver) := by rw [cell_row HOB2.out]; rfl
    have v8 : W2.cell? ⟨B, 12, none⟩ = some (.int .i64 o.m.code) := by rw [cell_row HOB2.out]; rfl
    have v10 : W2.cell? ⟨B, 14, none⟩ = some (.string o.m.val) := by rw [cell_row HOB2.out]; rfl
    obtain ⟨X, hX⟩ : ∃ X, X = ((((W2.setCell ⟨A, 0, none⟩ (.int .i64 12)).setCell ⟨A, 9, none⟩ (.string mi.key)).setCell ⟨A, 8, none⟩ (.int .i64 o.m.code)).setCell ⟨A, 6, none⟩ (.int .i64 o.m.ver)).setCell ⟨A, 10, none⟩ (.string o.m.val) := ⟨_, rfl⟩
    have kX : Kp W2 X (fun q => q = A) := by
      rw [hX]
      exact ((((((Kp.refl W2 (fun q => q = A)).set (Or.inl rfl) _ _).set (Or.inl rfl) _ _).set (Or.inl rfl) _ _).set (Or.inl rfl) _ _).set (Or.inl rfl) _ _)
    have mX : Hid (MgAt X A (ansM mi o.m)) := by
      have e1 := heap_setCell W2 A 0 (.int .i64 12) _ _ _ HM2.out
      have e2 := heap_setCell _ A 9 (.string mi.key) _ _ _ e1
      have e3 := heap_setCell _ A 8 (.int .i64 o.m.code) _ _ _ e2
      have e4 := heap_setCell _ A 6 (.int .i64 o.m.ver) _ _ _ e3
      have e5 := heap_setCell _ A 10 (.string o.m.val) _ _ _ e4
      rw [hX]
      refine e5.trans ?_
      unfold ansM
      rw [if_pos hk, HA0.out]
      rfl
    have bX := hide (FIN.out X _ kX mX.out)
    have KX : Hid (Kp w X non) := K2.out.trans kX (fun q e => Or.inr (by rw [e]; exact hAw.out))
    clear fz kX FIN
    go_upto_region 11 with fail
    rw [← hX]
    clear hX g0 g6 g8 g9 g10 z0 z6 z8 z9 z10 v6 v8 v10 d0 d9
    go_wp2_with (first | refine wpList_ldM rfl (.tmp 7) rfl (ansM mi o.m) A rfl mX.out ?_ | refine wpList_stR rfl 58 (.tmp 4) (.tmp 52) rfl (B + 1) rfl (mgV (ansM mi o.m)) (mgV mg0) rfl _ bX.out mg_info rfl (mg_one _) ?_)
    have kr : Kp X (X.setRow (B + 1) (mgV (ansM mi o.m))) (fun j => j = B + 1) := ⟨rfl, rfl, rfl, by simp [World.setRow], fun j _ hj => by simp only [World.setRow, Array.getElem?_modify]; rw [if_neg (fun e => hj e.symm)]⟩
    refine bodyPost_ret (v := .tuple #[.agg (mgV (ansM mi o.m)), .bool true]) (res_row2 Tryz.results29 _ _ _ (B + 1) rfl _ rfl _ (setRow_heap _ _ _ _ _ _ bX.out) Tryz.underlying58 mg_info) rfl ⟨rfl, KX.out.trans kr (fun j e => Or.inr (by rw [e, HB.out]; omega))⟩
  · have q11 : (mi.kind == 11) = false := by simp [hk]
    have hans : a0 = ansM mi o.m := by rw [HA0.out]; unfold ansM; rw [if_neg hk]
    have HAN := hide hans
    clear hans
    clear d9
    go_upto_region 11 with fail
    go_wp2_with (first | refine wpList_ldM rfl (.tmp 7) rfl a0 A rfl HM2.out ?_ | refine wpList_stR rfl 58 (.tmp 4) (.tmp 52) rfl (B + 1) rfl (mgV a0) (mgV mg0) rfl _ HHM2.out mg_info rfl (mg_one _) ?_)
    have kr : Kp W2 (W2.setRow (B + 1) (mgV a0)) (fun j => j = B + 1) := ⟨rfl, rfl, rfl, by simp [World.setRow], fun j _ hj => by simp only [World.setRow, Array.getElem?_modify]; rw [if_neg (fun e => hj e.symm)]⟩
    rw [← HAN.out]
    refine bodyPost_ret (v := .tuple #[.agg (mgV a0), .bool true]) (res_row2 Tryz.results29 _ _ _ (B + 1) rfl _ rfl _ (setRow_heap _ _ _ _ _ _ HHM2.out) Tryz.underlying58 mg_info) rfl ⟨by rw [HAN.out], K2.out.trans kr (fun j e => Or.inr (by rw [e, HB.out]; omega))⟩
end Go.Proofs.YtndfhpfhgdamgaaGreatDoor.Cn
namespace Go.Proofs.YtndfhpfhgdamgaaGreatDoor.Cn
open Go.RowKit
theorem Desk.ahead {w X w' : World} {S T : Nat → Prop} {R base B : Nat} {c : Cl} {gs : List Gt} {v : Rv} {k : Dk} (k0 : Kp w X non) (h : Desk X w' S T R base B c gs v k) : Desk w w' S T R base B c gs v k := by
  obtain ⟨S', T', P, a1, a2, a3, a4, a5, a6⟩ := h
  have hz := k0.size
  refine ⟨S', T', P, a1, a2, a3, (k0.mono (T := fun j => S j ∨ T j) (fun _ f => f.elim)).trans a4 (fun _ e => Or.inl e), fun j q => ?_, fun j q => ?_⟩
  · rcases a5 j q with q | q
    · exact Or.inl q
    · exact Or.inr (by omega)
  · rcases a6 j q with q | q
    · exact Or.inl q
    · exact Or.inr (by omega)
theorem op_cells {w : World} {b : Nat} {o : Op2} (h : w.heap[b]? = some (.cells (opV o) 60)) : w.cell? ⟨b, 0, none⟩ = some (.int .i64 o.kd) ∧ w.cell? ⟨b, 2, none⟩ = some (.string o.s) ∧ w.cell? ⟨b, 3, none⟩ = some o.l ∧ w.rangeAt b 4 (mgV o.m).toList := by
  refine ⟨by rw [cell_row h]; rfl, by rw [cell_row h]; rfl, by rw [cell_row h]; rfl, fun j u hj => ?_⟩
  have hj' := (List.getElem?_eq_some_iff.1 hj).1
  have h11 : (mgV o.m).toList.length = 11 := rfl
  rw [h11] at hj'
  rw [cell_row h]
  have e : opV o = #[.int .i64 o.kd, .int .i64 o.n, .string o.s, o.l] ++ mgV o.m := rfl
  rw [e, Array.getElem?_append_right (by simp)]
  have : 4 + j - (#[Value.int .i64 o.kd, .int .i64 o.n, .string o.s, o.l]).size = j := by simp
  rw [this]
  simpa using hj
set_option maxHeartbeats 16000000 in
set_option maxRecDepth 100000 in
set_option linter.unusedSimpArgs false in
set_option linter.unusedVariables false in
/-- another kind: nothing is done -/
theorem step_else {w : World} {B : Nat} {o : Op2} (h1 : o.kd ≠ 1) (h2 : o.kd ≠ 2) (h3 : o.kd ≠ 3) (h4 : o.kd ≠ 4) (h6 : o.kd ≠ 6) : Calls Tryz.prog 19 #[.pointer (some ⟨B, 0, none⟩), .agg (opV o)] w fun e w' => e = .returned (.bool true) ∧ Kp w w' non := by
  obtain ⟨OB, hOB⟩ : ∃ OB, OB = w.heap.size := ⟨_, rfl⟩
  obtain ⟨W0, hW0⟩ : ∃ W0, W0 = w.alloc (.cells (opV o) 60) := ⟨_, rfl⟩
  have k0 : Kp w W0 non := by rw [hW0]; exact (Kp.refl w non).alloc _
  have o0 := (op_cells (show W0.heap[OB]? = _ by rw [hW0, hOB]; exact heap_last _ _)).1
  have K0 := hide k0
  have HOB := hide hOB
  have q1 : (o.kd == 1) = false := by simp [h1]
  have q2 : (o.kd == 2) = false := by simp [h2]
  have q3 : (o.kd == 3) = false := by simp [h3]
  have q4 : (o.kd == 4) = false := by simp [h4]
  have q6 : (o.kd == 6) = false := by simp [h6]
  generalize o.kd = kd at *
  clear k0 hOB
  go_enter Tryz.func19, Tryz.ntmps19
  go_upto_region 1 with fail
  rw [← hW0, ← HOB.out]
  clear hW0
  go_wp2_with fail
  go_ret
  exact ⟨rfl, K0.out⟩
set_option maxHeartbeats 16000000 in
set_option maxRecDepth 100000 in
set_option linter.unusedSimpArgs false in
set_option linter.unusedVariables false in
theorem step_tick {w : World} {S T : Nat → Prop} {R base B : Nat} {c : Cl} {gs : List Gt} {v : Rv} {k : Dk} {o : Op2} (h4 : o.kd = 4) (TI : ∀ X, Kp w X non → Calls Tryz.prog 21 #[.pointer (some ⟨B, 0, none⟩)] X fun e w' => e = .returned (.bool true) ∧ Desk X w' S T R base B c gs v k) : Calls Tryz.prog 19 #[.pointer (some ⟨B, 0, none⟩), .agg (opV o)] w fun e w' => e = .returned (.bool true) ∧ Desk w w' S T R base B c gs v k := by
  obtain ⟨OB, hOB⟩ : ∃ OB, OB = w.heap.size := ⟨_, rfl⟩
  obtain ⟨W0, hW0⟩ : ∃ W0, W0 = w.alloc (.cells (opV o) 60) := ⟨_, rfl⟩
  have k0 : Kp w W0 non := by rw [hW0]; exact (Kp.refl w non).alloc _
  have o0 := (op_cells (show W0.heap[OB]? = _ by rw [hW0, hOB]; exact heap_last _ _)).1
  rw [h4] at o0
  have TI0 := hide (TI W0 k0)
  have K0 := hide k0
  have HOB := hide hOB
  clear k0 hOB TI h4
  go_enter Tryz.func19, Tryz.ntmps19
  go_upto_region 1 with fail
  rw [← hW0, ← HOB.out]
  clear hW0
  go_wp2_with fail
  refine Calls.mono TI0.out ?_
  rintro e W1 ⟨rfl, d1⟩
  have D1 := hide (Desk.ahead K0.out d1)
  clear d1
  go_wp2_with fail
  go_ret
  exact ⟨rfl, D1.out⟩
set_option maxHeartbeats 16000000 in
set_option maxRecDepth 100000 in
set_option linter.unusedSimpArgs false in
set_option linter.unusedVariables false in
theorem step_take {w : World} {S T : Nat → Prop} {R base B : Nat} {c : Cl} {gs : List Gt} {v : Rv} {k : Dk} {o : Op2} (h3 : o.kd = 3) (TI : ∀ X, Kp w X non → Calls Tryz.prog 44 #[.pointer (some ⟨B, 0, none⟩), .agg (mgV o.m)] X fun e w' => e = .returned (.bool true) ∧ Desk X w' S T R base B c gs v k) : Calls Tryz.prog 19 #[.pointer (some ⟨B, 0, none⟩), .agg (opV o)] w fun e w' => e = .returned (.bool true) ∧ Desk w w' S T R base B c gs v k := by
  obtain ⟨OB, hOB⟩ : ∃ OB, OB = w.heap.size := ⟨_, rfl⟩
  obtain ⟨W0, hW0⟩ : ∃ W0, W0 = w.alloc (.cells (opV o) 60) := ⟨_, rfl⟩
  have k0 : Kp w W0 non := by rw [hW0]; exact (Kp.refl w non).alloc _
  obtain ⟨o0, _, _, om⟩ := op_cells (show W0.heap[OB]? = some (.cells (opV o) 60) by rw [hW0, hOB]; exact heap_last _ _)
  rw [h3] at o0
  have OM := hide om
  have TI0 := hide (TI W0 k0)
  have K0 := hide k0
  have HOB := hide hOB
  clear k0 hOB TI h3 om
  go_enter Tryz.func19, Tryz.ntmps19
  go_upto_region 1 with fail
  rw [← hW0, ← HOB.out]
  clear hW0
  go_wp2_with (refine wpList_load_mid rfl 58 (.tmp 90) rfl OB 4 rfl (mgV o.m).toList _ OM.out Tryz.underlying58 rfl mg_info ?_)
  refine Calls.mono TI0.out ?_
  rintro e W1 ⟨rfl, d1⟩
  have D1 := hide (Desk.ahead K0.out d1)
  clear d1
  go_wp2_with fail
  go_ret
  exact ⟨rfl, D1.out⟩
end Go.Proofs.YtndfhpfhgdamgaaGreatDoor.Cn
