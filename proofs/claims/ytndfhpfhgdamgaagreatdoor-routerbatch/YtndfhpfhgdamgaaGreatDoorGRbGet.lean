import Derived.Test.YtndfhpfhgdamgaaGreatDoorGRvClus
namespace Go.Proofs.YtndfhpfhgdamgaaGreatDoor.Cn
open Go.RowKit
set_option maxHeartbeats 16000000 in
set_option maxRecDepth 100000 in
set_option linter.unusedSimpArgs false in
set_option linter.unusedVariables false in
theorem step_getno {w : World} {S T : Nat → Prop} {R base B : Nat} {c : Cl} {P : List Gp} {v : Rv} {k : Dk} {o : Op2} {er : Int} (h : RtAt w S R c P v) (hd : DkAt w base T B R k) (h1 : o.kd = 1) (her : er ≠ 0)
    (GE : ∀ X, Kp w X non → Calls Tryz.prog 13 #[.pointer (some ⟨R, 0, none⟩), .string o.s] X fun e w' => e = .returned (.tuple #[.int .i64 0, .slice none 0 0, .int .i64 er]) ∧ Kp X w' non) :
    Calls Tryz.prog 19 #[.pointer (some ⟨B, 0, none⟩), .agg (opV o)] w fun e w' => e = .returned (.bool true) ∧ Desk w w' S T R base B c (P.map (·.g)) v k := by
  have AP := hd.apart h
  obtain ⟨OB, hOB⟩ : ∃ OB, OB = w.heap.size := ⟨_, rfl⟩
  obtain ⟨W0, hW0⟩ : ∃ W0, W0 = w.alloc (.cells (opV o) 60) := ⟨_, rfl⟩
  have k0 : Kp w W0 non := by rw [hW0]; exact (Kp.refl w non).alloc _
  have ob : W0.heap[OB]? = some (.cells (opV o) 60) := by rw [hW0, hOB]; exact heap_last _ _
  obtain ⟨o0, o2, _, _⟩ := op_cells ob
  rw [h1] at o0
  have kd : Kp w W0.drew non := k0.drew
  have GE0 := hide (GE W0.drew kd)
  have b0 : W0.cell? ⟨B, 0, none⟩ = some (.pointer (some ⟨R, 0, none⟩)) := by
    obtain ⟨vw, vk, vd, hx, hT⟩ := hd.kp k0 (fun _ _ f => f)
    rw [cell_row hx.blk]
    rfl
  have HBlt : Hid (B < W0.heap.size) := World.block_lt_of_cell? W0 _ b0
  have BS : Hid (¬ S B) := fun q => by
    obtain ⟨vw, vk, vd, hx, hT⟩ := hd
    exact AP B ((hT B).2 (Or.inl rfl)) q
  have OS : Hid (¬ S OB) := fun q => by have := h.lt q; omega
  have C0 : Hid (W0.cell? ⟨B, 0, none⟩ = some (.pointer (some ⟨R, 0, none⟩)) ∧ W0.cell? ⟨OB, 2, none⟩ = some (.string o.s)) := ⟨b0, o2⟩
  have HOl : Hid (OB < W0.heap.size) := blk_lt ob
  have HD := hide hd
  have HH := hide h
  have HAP := hide AP
  have KD := hide kd
  have HOB := hide hOB
  have NU := hide fun w n => num_r w n
  have Tlt : Hid (∀ j, T j → j < w.heap.size) := fun j q => by
    obtain ⟨_, A, t, e, _⟩ := hd.kind q
    exact blk_lt e
  generalize o.s = s at *
  have q1 : (er == 0) = false := by simp [her]
  have q2 : (er != 0) = true := by simp [her]
  clear h hd GE k0 ob o2 kd b0 hOB AP h1
  go_enter Tryz.func19, Tryz.ntmps19
  go_upto_region 1 with fail
  rw [← hW0, ← HOB.out]
  clear hW0
  go_upto_region 3 with fail
  clear o0
  refine wp_region_held_drew (S := fun X => X.cell? ⟨B, 0, none⟩ = some (.pointer (some ⟨R, 0, none⟩)) ∧ X.cell? ⟨OB, 2, none⟩ = some (.string s)) (by kernel_rfl) C0.out (fun hHeld => ?_)
  refine wpAnyH_take (i := 0) (v := (.pointer (some ⟨B, 0, none⟩))) rfl (by kernel_rfl) (by kernel_rfl) (by kernel_rfl) (fun _ _ _ h => h) (Or.inl ⟨by rfl, ?_⟩) (by assumption) ?_
  · intro w' hSw
    (try dsimp only at hSw)
    go_simp
  (try simp only [Act.put, List.getElem_toArray, List.getElem_cons_zero, List.getElem_cons_succ, List.setIfInBounds_toArray, List.set_cons_zero, List.set_cons_succ])
  refine wpAnyH_take (i := 1) (v := (.pointer (some ⟨B, 0, none⟩))) rfl (by kernel_rfl) (by kernel_rfl) (by kernel_rfl) (fun _ _ _ h => h) (Or.inl ⟨by rfl, ?_⟩) (by assumption) ?_
  · intro w' hSw
    (try dsimp only at hSw)
    go_simp
  (try simp only [Act.put, List.getElem_toArray, List.getElem_cons_zero, List.getElem_cons_succ, List.setIfInBounds_toArray, List.set_cons_zero, List.set_cons_succ])
  refine wpAnyH_take (i := 2) (v := (.pointer (some ⟨B, 0, none⟩))) rfl (by kernel_rfl) (by kernel_rfl) (by kernel_rfl) (fun _ _ _ h => h) (Or.inl ⟨by rfl, ?_⟩) (by assumption) ?_
  · intro w' hSw
    (try dsimp only at hSw)
    go_simp
  (try simp only [Act.put, List.getElem_toArray, List.getElem_cons_zero, List.getElem_cons_succ, List.setIfInBounds_toArray, List.set_cons_zero, List.set_cons_succ])
  refine wpAnyH_take (i := 3) (v := (.pointer (some ⟨R, 0, none⟩))) rfl (by kernel_rfl) (by kernel_rfl) (by kernel_rfl) (fun _ _ _ h => h) (Or.inl ⟨by rfl, ?_⟩) (by assumption) ?_
  · intro w' hSw
    (try dsimp only at hSw)
    (have hs1 := hSw.1; go_simp)
  (try simp only [Act.put, List.getElem_toArray, List.getElem_cons_zero, List.getElem_cons_succ, List.setIfInBounds_toArray, List.set_cons_zero, List.set_cons_succ])
  refine wpAnyH_take (i := 4) (v := (.pointer (some ⟨OB, 2, none⟩))) rfl (by kernel_rfl) (by kernel_rfl) (by kernel_rfl) (fun _ _ _ h => h) (Or.inl ⟨by rfl, ?_⟩) (by assumption) ?_
  · intro w' hSw
    (try dsimp only at hSw)
    go_simp
  (try simp only [Act.put, List.getElem_toArray, List.getElem_cons_zero, List.getElem_cons_succ, List.setIfInBounds_toArray, List.set_cons_zero, List.set_cons_succ])
  refine wpAnyH_take (i := 5) (v := (.string s)) rfl (by kernel_rfl) (by kernel_rfl) (by kernel_rfl) (fun _ _ _ h => h) (Or.inl ⟨by rfl, ?_⟩) (by assumption) ?_
  · intro w' hSw
    (try dsimp only at hSw)
    (have hs2 := hSw.2; go_simp)
  (try simp only [Act.put, List.getElem_toArray, List.getElem_cons_zero, List.getElem_cons_succ, List.setIfInBounds_toArray, List.set_cons_zero, List.set_cons_succ])
  refine wpAnyH_ready (rs := [6]) (by kernel_rfl) (by simp) ?_
  refine AllReadyH.cons rfl (fun K hK => ?_) AllReadyH.nil
  go_simp
  refine Calls.mono GE0.out ?_
  rintro e W2 ⟨rfl, k2⟩
  have C2 : Hid (W2.cell? ⟨B, 0, none⟩ = some (.pointer (some ⟨R, 0, none⟩)) ∧ W2.cell? ⟨OB, 2, none⟩ = some (.string s)) := ⟨(k2.cell (b := B) HBlt.out (fun f => f)).trans C0.out.1, (k2.cell (b := OB) HOl.out (fun f => f)).trans C0.out.2⟩
  have KF : Hid (Kp w W2 non) := KD.out.trans k2 (fun _ f => f.elim)
  clear k2 GE0
  refine hK.out _ _ (C2.out) (fun hHeld => ?_)
  clear hK
  (try simp only [Act.put, List.setIfInBounds_toArray, List.set_cons_zero, List.set_cons_succ])
  refine wpAnyH_take (i := 7) (v := (.tuple #[.int .i64 0, .slice none 0 0, .int .i64 er])) rfl (by kernel_rfl) (by kernel_rfl) (by kernel_rfl) (fun _ _ _ h => h) (Or.inl ⟨by rfl, ?_⟩) (by assumption) ?_
  · intro w' hSw
    (try dsimp only at hSw)
    go_simp
  (try simp only [Act.put, List.getElem_toArray, List.getElem_cons_zero, List.getElem_cons_succ, List.setIfInBounds_toArray, List.set_cons_zero, List.set_cons_succ])
  refine wpAnyH_take (i := 8) (v := (.int .i64 0)) rfl (by kernel_rfl) (by kernel_rfl) (by kernel_rfl) (fun _ _ _ h => h) (Or.inl ⟨by rfl, ?_⟩) (by assumption) ?_
  · intro w' hSw
    (try dsimp only at hSw)
    go_simp
  (try simp only [Act.put, List.getElem_toArray, List.getElem_cons_zero, List.getElem_cons_succ, List.setIfInBounds_toArray, List.set_cons_zero, List.set_cons_succ])
  refine wpAnyH_take (i := 9) (v := (.slice none 0 0)) rfl (by kernel_rfl) (by kernel_rfl) (by kernel_rfl) (fun _ _ _ h => h) (Or.inl ⟨by rfl, ?_⟩) (by assumption) ?_
  · intro w' hSw
    (try dsimp only at hSw)
    go_simp
  (try simp only [Act.put, List.getElem_toArray, List.getElem_cons_zero, List.getElem_cons_succ, List.setIfInBounds_toArray, List.set_cons_zero, List.set_cons_succ])
  refine wpAnyH_take (i := 10) (v := (.int .i64 er)) rfl (by kernel_rfl) (by kernel_rfl) (by kernel_rfl) (fun _ _ _ h => h) (Or.inl ⟨by rfl, ?_⟩) (by assumption) ?_
  · intro w' hSw
    (try dsimp only at hSw)
    go_simp
  (try simp only [Act.put, List.getElem_toArray, List.getElem_cons_zero, List.getElem_cons_succ, List.setIfInBounds_toArray, List.set_cons_zero, List.set_cons_succ])
  refine wpAnyH_ready (rs := [11]) (by kernel_rfl) (by simp) ?_
  refine AllReadyH.cons rfl (fun K hK => ?_) AllReadyH.nil
  go_simp
  refine hK.out _ _ (C2.out) (fun hHeld => ?_)
  clear hK
  (try simp only [Act.put, List.setIfInBounds_toArray, List.set_cons_zero, List.set_cons_succ])
  refine wpAnyH_ready (rs := [12]) (by kernel_rfl) (by simp) ?_
  refine AllReadyH.cons rfl (fun K hK => ?_) AllReadyH.nil
  go_simp
  refine hK.out _ _ (C2.out) (fun hHeld => ?_)
  clear hK
  (try simp only [Act.put, List.setIfInBounds_toArray, List.set_cons_zero, List.set_cons_succ])
  refine wpAnyH_ready (rs := [13]) (by kernel_rfl) (by simp) ?_
  refine AllReadyH.cons rfl (fun K hK => ?_) AllReadyH.nil
  go_simp
  refine hK.out _ _ (C2.out) (fun hHeld => ?_)
  clear hK
  (try simp only [Act.put, List.setIfInBounds_toArray, List.set_cons_zero, List.set_cons_succ])
  refine wpAnyH_done (by kernel_rfl) ?_ _
  go_wp2_with (go_at_call 8; refine Calls.mono (NU.out _ _) ?_; rintro e w' ⟨rfl, rfl⟩)
  go_ret
  exact ⟨rfl, S, T, P, HH.out.kp KF.out (fun _ _ f => f), rfl, HD.out.kp KF.out (fun _ _ f => f), KF.out.mono (fun _ f => f.elim), fun j q => Or.inl q, fun j q => Or.inl q⟩
set_option maxHeartbeats 16000000 in
set_option maxRecDepth 100000 in
set_option linter.unusedSimpArgs false in
set_option linter.unusedVariables false in
theorem step_get {w : World} {S T : Nat → Prop} {R base B : Nat} {c : Cl} {P : List Gp} {v v' : Rv} {gs' : List Gt} {k : Dk} {o : Op2} {mm : Mg} (h : RtAt w S R c P v) (hd : DkAt w base T B R k) (h1 : o.kd = 1) (hb : base ≤ w.heap.size) (hss : o.s.size ≤ 9223372036854775807)
    (GE : ∀ X, Kp w X non → Calls Tryz.prog 13 #[.pointer (some ⟨R, 0, none⟩), .string o.s] X fun e w' => ∃ S' P' vo, e = .returned (.tuple #[.int .i64 ((k.keys.length : Int) + 1), vo, .int .i64 0]) ∧ RtAt w' S' R c P' v' ∧ P'.map (·.g) = gs' ∧ w'.ownsRow X.heap.size 58 11 vo 1 (mgs [mm]) ∧ Kp X w' S ∧ ∀ j, S' j → S j ∨ X.heap.size ≤ j)
    (hm : mm.kind = 11 ∧ mm.id = (k.keys.length : Int) + 1 ∧ mm.key = o.s) (hkl : k.keys.length ≤ 400000000000) (hdl : k.done.length = k.keys.length) (hwl : k.went.length ≤ 400000000000) :
    Calls Tryz.prog 19 #[.pointer (some ⟨B, 0, none⟩), .agg (opV o)] w fun e w' => e = .returned (.bool true) ∧ Desk w w' S T R base B c gs' v' ((k.opn [o.s]).wnt [mm]) := by
  have AP := hd.apart h
  obtain ⟨OB, hOB⟩ : ∃ OB, OB = w.heap.size := ⟨_, rfl⟩
  obtain ⟨W0, hW0⟩ : ∃ W0, W0 = w.alloc (.cells (opV o) 60) := ⟨_, rfl⟩
  have k0 : Kp w W0 non := by rw [hW0]; exact (Kp.refl w non).alloc _
  have ob : W0.heap[OB]? = some (.cells (opV o) 60) := by rw [hW0, hOB]; exact heap_last _ _
  obtain ⟨o0, o2, _, _⟩ := op_cells ob
  rw [h1] at o0
  have kd : Kp w W0.drew non := k0.drew
  have GE0 := hide (GE W0.drew kd)
  have b0 : W0.cell? ⟨B, 0, none⟩ = some (.pointer (some ⟨R, 0, none⟩)) := by
    obtain ⟨vw, vk, vd, hx, hT⟩ := hd.kp k0 (fun _ _ f => f)
    rw [cell_row hx.blk]
    rfl
  have HBlt : Hid (B < W0.heap.size) := World.block_lt_of_cell? W0 _ b0
  have BS : Hid (¬ S B) := fun q => by
    obtain ⟨vw, vk, vd, hx, hT⟩ := hd
    exact AP B ((hT B).2 (Or.inl rfl)) q
  have OS : Hid (¬ S OB) := fun q => by have := h.lt q; omega
  have C0 : Hid (W0.cell? ⟨B, 0, none⟩ = some (.pointer (some ⟨R, 0, none⟩)) ∧ W0.cell? ⟨OB, 2, none⟩ = some (.string o.s)) := ⟨b0, o2⟩
  have HOl : Hid (OB < W0.heap.size) := blk_lt ob
  have HD := hide hd
  have HH := hide h
  have HAP := hide AP
  have KD := hide kd
  have HOB := hide hOB
  have NU := hide fun w n => num_r w n
  have Tlt : Hid (∀ j, T j → j < w.heap.size) := fun j q => by
    obtain ⟨_, A, t, e, _⟩ := hd.kind q
    exact blk_lt e
  generalize o.s = s at *
  have HM := hide hm
  have hz0 : Hid (w.heap.size ≤ W0.drew.heap.size) := k0.drew.size
  obtain ⟨kk, hkk⟩ : ∃ kk : Int, kk = (k.keys.length : Int) + 1 := ⟨_, rfl⟩
  rw [← hkk] at GE0
  have HKK := hide hkk
  clear hkk hm
  clear h hd GE k0 ob o2 kd b0 hOB AP h1
  go_enter Tryz.func19, Tryz.ntmps19
  go_upto_region 1 with fail
  rw [← hW0, ← HOB.out]
  clear hW0
  go_upto_region 3 with fail
  clear o0
  refine wp_region_held_drew (S := fun X => X.cell? ⟨B, 0, none⟩ = some (.pointer (some ⟨R, 0, none⟩)) ∧ X.cell? ⟨OB, 2, none⟩ = some (.string s)) (by kernel_rfl) C0.out (fun hHeld => ?_)
  refine wpAnyH_take (i := 0) (v := (.pointer (some ⟨B, 0, none⟩))) rfl (by kernel_rfl) (by kernel_rfl) (by kernel_rfl) (fun _ _ _ h => h) (Or.inl ⟨by rfl, ?_⟩) (by assumption) ?_
  · intro w' hSw
    (try dsimp only at hSw)
    go_simp
  (try simp only [Act.put, List.getElem_toArray, List.getElem_cons_zero, List.getElem_cons_succ, List.setIfInBounds_toArray, List.set_cons_zero, List.set_cons_succ])
  refine wpAnyH_take (i := 1) (v := (.pointer (some ⟨B, 0, none⟩))) rfl (by kernel_rfl) (by kernel_rfl) (by kernel_rfl) (fun _ _ _ h => h) (Or.inl ⟨by rfl, ?_⟩) (by assumption) ?_
  · intro w' hSw
    (try dsimp only at hSw)
    go_simp
  (try simp only [Act.put, List.getElem_toArray, List.getElem_cons_zero, List.getElem_cons_succ, List.setIfInBounds_toArray, List.set_cons_zero, List.set_cons_succ])
  refine wpAnyH_take (i := 2) (v := (.pointer (some ⟨B, 0, none⟩))) rfl (by kernel_rfl) (by kernel_rfl) (by kernel_rfl) (fun _ _ _ h => h) (Or.inl ⟨by rfl, ?_⟩) (by assumption) ?_
  · intro w' hSw
    (try dsimp only at hSw)
    go_simp
  (try simp only [Act.put, List.getElem_toArray, List.getElem_cons_zero, List.getElem_cons_succ, List.setIfInBounds_toArray, List.set_cons_zero, List.set_cons_succ])
  refine wpAnyH_take (i := 3) (v := (.pointer (some ⟨R, 0, none⟩))) rfl (by kernel_rfl) (by kernel_rfl) (by kernel_rfl) (fun _ _ _ h => h) (Or.inl ⟨by rfl, ?_⟩) (by assumption) ?_
  · intro w' hSw
    (try dsimp only at hSw)
    (have hs1 := hSw.1; go_simp)
  (try simp only [Act.put, List.getElem_toArray, List.getElem_cons_zero, List.getElem_cons_succ, List.setIfInBounds_toArray, List.set_cons_zero, List.set_cons_succ])
  refine wpAnyH_take (i := 4) (v := (.pointer (some ⟨OB, 2, none⟩))) rfl (by kernel_rfl) (by kernel_rfl) (by kernel_rfl) (fun _ _ _ h => h) (Or.inl ⟨by rfl, ?_⟩) (by assumption) ?_
  · intro w' hSw
    (try dsimp only at hSw)
    go_simp
  (try simp only [Act.put, List.getElem_toArray, List.getElem_cons_zero, List.getElem_cons_succ, List.setIfInBounds_toArray, List.set_cons_zero, List.set_cons_succ])
  refine wpAnyH_take (i := 5) (v := (.string s)) rfl (by kernel_rfl) (by kernel_rfl) (by kernel_rfl) (fun _ _ _ h => h) (Or.inl ⟨by rfl, ?_⟩) (by assumption) ?_
  · intro w' hSw
    (try dsimp only at hSw)
    (have hs2 := hSw.2; go_simp)
  (try simp only [Act.put, List.getElem_toArray, List.getElem_cons_zero, List.getElem_cons_succ, List.setIfInBounds_toArray, List.set_cons_zero, List.set_cons_succ])
  refine wpAnyH_ready (rs := [6]) (by kernel_rfl) (by simp) ?_
  refine AllReadyH.cons rfl (fun K hK => ?_) AllReadyH.nil
  go_simp
  refine Calls.mono GE0.out ?_
  rintro e W2 ⟨S', P', vo, rfl, r2, g2, o2, k2, s2⟩
  obtain ⟨oa, oc, hvo⟩ := own_sl o2
  subst hvo
  have C2 : Hid (W2.cell? ⟨B, 0, none⟩ = some (.pointer (some ⟨R, 0, none⟩)) ∧ W2.cell? ⟨OB, 2, none⟩ = some (.string s)) := ⟨(k2.cell (b := B) HBlt.out BS.out).trans C0.out.1, (k2.cell (b := OB) HOl.out OS.out).trans C0.out.2⟩
  have K2 : Hid (Kp w W2 S) := (KD.out.mono (fun _ f => f.elim)).trans k2 (fun j q => Or.inl q)
  have D2 := hide ((HD.out.kp KD.out (fun _ _ f => f)).kp k2 (fun j q => HAP.out j q))
  have R2 := hide r2
  have GS2 := hide g2
  have O2 := hide (own_base o2 hz0.out)
  have S2 : Hid (∀ j, S' j → S j ∨ w.heap.size ≤ j) := fun j q => by
    have := hz0.out
    rcases s2 j q with q | q
    · exact Or.inl q
    · exact Or.inr (by omega)
  clear r2 g2 o2 k2 s2 GE0
  refine hK.out _ _ (C2.out) (fun hHeld => ?_)
  clear hK
  (try simp only [Act.put, List.setIfInBounds_toArray, List.set_cons_zero, List.set_cons_succ])
  refine wpAnyH_take (i := 7) (v := (.tuple #[.int .i64 kk, .slice oa 1 oc, .int .i64 0])) rfl (by kernel_rfl) (by kernel_rfl) (by kernel_rfl) (fun _ _ _ h => h) (Or.inl ⟨by rfl, ?_⟩) (by assumption) ?_
  · intro w' hSw
    (try dsimp only at hSw)
    go_simp
  (try simp only [Act.put, List.getElem_toArray, List.getElem_cons_zero, List.getElem_cons_succ, List.setIfInBounds_toArray, List.set_cons_zero, List.set_cons_succ])
  refine wpAnyH_take (i := 8) (v := (.int .i64 kk)) rfl (by kernel_rfl) (by kernel_rfl) (by kernel_rfl) (fun _ _ _ h => h) (Or.inl ⟨by rfl, ?_⟩) (by assumption) ?_
  · intro w' hSw
    (try dsimp only at hSw)
    go_simp
  (try simp only [Act.put, List.getElem_toArray, List.getElem_cons_zero, List.getElem_cons_succ, List.setIfInBounds_toArray, List.set_cons_zero, List.set_cons_succ])
  refine wpAnyH_take (i := 9) (v := (.slice oa 1 oc)) rfl (by kernel_rfl) (by kernel_rfl) (by kernel_rfl) (fun _ _ _ h => h) (Or.inl ⟨by rfl, ?_⟩) (by assumption) ?_
  · intro w' hSw
    (try dsimp only at hSw)
    go_simp
  (try simp only [Act.put, List.getElem_toArray, List.getElem_cons_zero, List.getElem_cons_succ, List.setIfInBounds_toArray, List.set_cons_zero, List.set_cons_succ])
  refine wpAnyH_take (i := 10) (v := (.int .i64 0)) rfl (by kernel_rfl) (by kernel_rfl) (by kernel_rfl) (fun _ _ _ h => h) (Or.inl ⟨by rfl, ?_⟩) (by assumption) ?_
  · intro w' hSw
    (try dsimp only at hSw)
    go_simp
  (try simp only [Act.put, List.getElem_toArray, List.getElem_cons_zero, List.getElem_cons_succ, List.setIfInBounds_toArray, List.set_cons_zero, List.set_cons_succ])
  refine wpAnyH_ready (rs := [11]) (by kernel_rfl) (by simp) ?_
  refine AllReadyH.cons rfl (fun K hK => ?_) AllReadyH.nil
  go_simp
  refine hK.out _ _ (C2.out) (fun hHeld => ?_)
  clear hK
  (try simp only [Act.put, List.setIfInBounds_toArray, List.set_cons_zero, List.set_cons_succ])
  refine wpAnyH_ready (rs := [12]) (by kernel_rfl) (by simp) ?_
  refine AllReadyH.cons rfl (fun K hK => ?_) AllReadyH.nil
  go_simp
  refine hK.out _ _ (C2.out) (fun hHeld => ?_)
  clear hK
  (try simp only [Act.put, List.setIfInBounds_toArray, List.set_cons_zero, List.set_cons_succ])
  refine wpAnyH_ready (rs := [13]) (by kernel_rfl) (by simp) ?_
  refine AllReadyH.cons rfl (fun K hK => ?_) AllReadyH.nil
  go_simp
  refine hK.out _ _ (C2.out) (fun hHeld => ?_)
  clear hK
  (try simp only [Act.put, List.setIfInBounds_toArray, List.set_cons_zero, List.set_cons_succ])
  refine wpAnyH_done (by kernel_rfl) ?_ _
  have cs2 := C2.out.2
  obtain ⟨W3, hW3⟩ : ∃ W3, W3 = W2.alloc (.cells #[.string s] 9) := ⟨_, rfl⟩
  have k3 : Kp W2 W3 non := by rw [hW3]; exact (Kp.refl W2 non).alloc _
  have G3 : Hid (W3.heap[W2.heap.size]? = some (.cells #[.string s] 9)) := by rw [hW3]; exact heap_last _ _
  have K3 := hide k3
  have N3 : Hid (W3.ownsRow w.heap.size 9 1 (.slice none 0 0) 0 (txs [])) := World.ownsRow_nil _ _ _ _
  have hb3 : Hid (w.heap.size ≤ W3.heap.size) := Nat.le_trans K2.out.size k3.size
  clear k3 C0 C2 hHeld
  go_upto_region 7 with (go_at_call 8; refine Calls.mono (NU.out _ _) ?_; rintro e w' ⟨rfl, rfl⟩)
  go_wp2_with (at_builtin; rw [← hW3]; refine wpList_apT rfl (.tmp 40) (.tmp 43) rfl w.heap.size (.slice none 0 0) [] rfl N3.out W2.heap.size s rfl G3.out (by simp) hb3.out ?_; intro vl W4 o4 g4 n4; obtain ⟨la, lc, rfl⟩ := own_sl o4; have O4 := hide o4; have KG := hide (Kp.of_grown g4); have N4 := hide n4; clear o4 g4 n4)
  have kg : Kp W3 W4 non := KG.out.mono (fun j e => by simp [Value.ownBlock] at e)
  have k24 : Kp W2 W4 non := K3.out.trans kg (fun _ f => f.elim)
  obtain ⟨lg, lgc, hlg⟩ := own_g O4.out (by simp)
  injection hlg with hlg _ hlgc
  subst hlg
  subst hlgc
  have KS : KsAt W4 (some ⟨lg, 0, none⟩) lg 0 [s] := by
    refine ⟨fun _ => rfl, fun i hi => ?_, by simp, fun k hk => by rw [List.mem_singleton.1 hk]; exact hss⟩
    have hi0 : i = 0 := by simp at hi; omega
    subst hi0
    rw [Nat.zero_add, O4.out.cellAt 0 (by simp)]
    rfl
  have d4 := D2.out.kp k24 (fun _ _ f => f)
  have o4 := own_kp O2.out k24 (fun _ _ f => f)
  have lgT : ¬ T lg := fun q => by
    have h1 := own_ge O4.out (g := lg) rfl
    have h2 := Tlt.out lg q
    omega
  have oT : ∀ j, (Value.slice oa 1 oc).ownBlock = some j → ¬ T j := fun j q s => by
    have h1 := own_ge O2.out q
    have h2 := Tlt.out j s
    omega
  have K4 : Hid (Kp w W4 S) := K2.out.trans k24 (fun _ f => f.elim)
  have OP := hide (opened_any (ks := [s]) (L := [mm]) d4 o4 oT kk HKK.out (some ⟨lg, 0, none⟩) lg 0 lc KS (fun _ => lgT) rfl (fun i h1 h2 => by
    have hi0 : i = 0 := by simp at h1; omega
    subst hi0
    refine ⟨HM.out.1, ?_, HM.out.2.2⟩
    rw [HKK.out]
    simpa using HM.out.2.1) hkl hdl hwl (by simp) (Nat.le_trans hb K4.out.size))
  have R4 := hide (R2.out.kp k24 (fun _ _ f => f))
  have AP4 : Hid (∀ j, T j → ¬ S' j) := d4.apart R4.out
  clear kg k24 KS d4 o4 lgT oT
  refine Calls.mono OP.out ?_
  rintro e W5 ⟨T5, rfl, d5, k5, t5⟩
  have RF := hide (R4.out.kp k5 (fun j q s => AP4.out j s q))
  have DF := hide d5
  have KF : Hid (Kp w W5 (fun j => S j ∨ T j)) := (K4.out.mono (fun j q => Or.inl q)).trans k5 (fun j q => Or.inl (Or.inr q))
  have TF : Hid (∀ j, T5 j → T j ∨ w.heap.size ≤ j) := fun j q => by
    have := K4.out.size
    rcases t5 j q with q | q
    · exact Or.inl q
    · exact Or.inr (by omega)
  clear d5 k5 t5 OP
  go_wp2_with fail
  go_ret
  exact ⟨rfl, S', T5, P', RF.out, GS2.out, DF.out, KF.out, S2.out, TF.out⟩
end Go.Proofs.YtndfhpfhgdamgaaGreatDoor.Cn
namespace Go.Proofs.YtndfhpfhgdamgaaGreatDoor.Cn
open Go.RowKit
def dk0 : Dk := ⟨[], [], []⟩
def rv0 (c : Cl) : Rv := ⟨Dt.new c.ns.length (c.x 18) (c.x 19), 0, 0⟩
theorem rv_ok {st : ByteArray} {x : Nat → Int} {ns : List ND} (he : errP st x ns = 0) (hs : st.size ≤ 9223372036854775807) : Ok ⟨st, x, ns⟩ [] ⟨Dt.new ns.length (x 18) (x 19), 0, 0⟩ 0 := by
  obtain ⟨a1, a2, a3, a4, a5, a6⟩ := errP_all he
  have l18 : 1 ≤ x 18 ∧ x 18 ≤ 64 := sfP_lim a2 18 (by omega)
  have l19 : 1 ≤ x 19 ∧ x 19 ≤ 1024 := sfP_lim a2 19 (by omega)
  have hnl := nfP_len a3
  have hf : (Dt.new ns.length (x 18) (x 19)).fits := ⟨hnl.1, hnl.2, l18.1, l18.2, l19.1, l19.2, Int.le_refl 0⟩
  refine ⟨he, hs, ⟨hf, fun _ => Int.le_refl 0, fun _ => Int.le_refl 0, Int.le_refl 0⟩, fun _ => ?_, rfl, Int.le_refl 0, Int.le_refl 0, fun g hg => absurd hg (by simp), List.Pairwise.nil, fun g hg => absurd hg (by simp), fun g hg => absurd hg (by simp), fun g hg => absurd hg (by simp), by simp⟩
  show (0 : Int) ≤ 0 + x 19
  omega
theorem dk_new {w : World} {base B R : Nat} (hb : w.heap[B]? = some (.cells #[.pointer (some ⟨R, 0, none⟩), .slice none 0 0, .slice none 0 0, .slice none 0 0] 63)) (hB : base ≤ B) : DkAt w base (fun j => j = B) B R dk0 := by
  refine ⟨.slice none 0 0, .slice none 0 0, .slice none 0 0, ⟨hb, hB, ⟨rfl, Or.inl ⟨rfl, rfl⟩⟩, ⟨rfl, Or.inl ⟨rfl, rfl⟩⟩, ⟨rfl, Or.inl ⟨rfl, rfl⟩⟩⟩, fun j => ⟨fun q => Or.inl q, fun q => ?_⟩⟩
  rcases q with q | q | q | q
  · exact q
  all_goals exact absurd q (by simp [Value.ownBlock])
def fst : ByteArray := ⟨#[102, 105, 114, 115, 116]⟩
def opF : Op2 := ⟨1, 0, fst, .slice none 0 0, mg0⟩
noncomputable def gtF (c : Cl) : Gt := ⟨0 + 1, fst, ordL (rv0 c).d (baseOf c fst), 1, 0⟩
noncomputable def kF (c : Cl) : Dk := (dk0.opn [fst]).wnt [getMg (gtF c)]
set_option maxHeartbeats 16000000 in
set_option maxRecDepth 100000 in
set_option linter.unusedSimpArgs false in
set_option linter.unusedVariables false in
/-- a desk with its first get -/
theorem seat_any (N : Nat) (w : World) (st : ByteArray) (x : Nat → Int) (ao : Option Addr) (b o cap : Nat) (pv : Nat → Value) (ns : List ND) (h : NsAt N w ao b o pv ns) (hN : N ≤ w.heap.size) (hs : st.size ≤ 281474976710656) (he : errP st x ns = 0) (hT : TabD w) (h3 : 3 ≤ w.heap.size) :
    Calls Tryz.prog 18 #[.agg (clA st x (.slice ao ns.length cap))] w fun e w' => ∃ S T R B P, e = .returned (.tuple #[.pointer (some ⟨B, 0, none⟩), .bool true]) ∧ RtAt w' S R ⟨st, x, ns⟩ P { rv0 ⟨st, x, ns⟩ with last := 0 + 1 } ∧ P.map (·.g) = [gtF ⟨st, x, ns⟩] ∧ DkAt w' w.heap.size T B R (kF ⟨st, x, ns⟩) ∧ Below w.heap.size w w' ∧ ∀ j, S j → w.heap.size ≤ j := by
  obtain ⟨a1, a2, a3, a4, a5, a6⟩ := errP_all he
  have hnl := nfP_len a3
  have hps := ps_small a4
  obtain ⟨W0, hW0, hX⟩ := boxed st x cap h hN
  have HX := hide (hX.stand hN)
  have B0 := hide hX.bel
  clear hX h
  have CL := hide (cluster_any N W0 st x ao b o cap pv ns HX.out.nd HX.out.le hps (by omega))
  have NW : Hid (∀ W1 vl zs, zs.length = ns.length → Tw (W0.heap.size + 2) W1 ns vl zs → ∃ ao' cap', vl = .slice ao' ns.length cap' ∧ Calls Tryz.prog 11 #[.agg (clA st x (.slice ao' ns.length cap'))] W1 fun e w' => ∃ R S, e = .returned (.tuple #[.pointer (some ⟨R, 0, none⟩), .int .i64 0]) ∧ RtAt w' S R ⟨st, x, ns⟩ [] ⟨Dt.new ns.length (x 18) (x 19), 0, 0⟩ ∧ Below W1.heap.size W1 w' ∧ ∀ k, S k → W1.heap.size ≤ k) := fun W1 vl zs hl tw => by
    obtain ⟨ao', b', cap', hv, nd⟩ := tw.nodes hl (by omega) (fun q hq => Nat.le_trans (hps q hq) (by omega))
    exact ⟨ao', cap', hv, New_r W1.heap.size W1 st x ao' b' 0 cap' _ ns nd (Nat.le_refl _) hs he⟩
  have NU := hide fun w n => num_r w n
  have PU := hide (rv_ok (st := st) (x := x) (ns := ns) he (by omega))
  have HT := hide hT
  clear hT he a1 a2 a3 a4 a5 a6 hps
  go_enter Tryz.func18, Tryz.ntmps18
  go_upto_region 1 with fail
  rw [← hW0]
  clear hW0
  go_wp2_with (refine wpList_loadCl rfl (.tmp 1) rfl w.heap.size st x _ rfl HX.out.cl ?_)
  refine Calls.mono CL.out ?_
  rintro e W1 ⟨vl, zs, rfl, hl, tw, hb1⟩
  obtain ⟨ao', cap', hv, NW1⟩ := NW.out W1 vl zs hl tw
  subst hv
  have B1 := hide (B0.out.trans (hb1.mono B0.out.size))
  have NW2 := hide NW1
  clear hl tw hb1 NW1 NW CL HX
  go_wp2_with fail
  refine Calls.mono NW2.out ?_
  rintro e W2 ⟨R, S, rfl, r2, b2, s2⟩
  have B2 := hide (B1.out.trans (b2.mono B1.out.size))
  have R2 := hide r2
  have S2 : Hid (∀ k, S k → w.heap.size ≤ k) := fun k q => Nat.le_trans B1.out.size (s2 k q)
  clear r2 b2 s2 NW2
  go_upto_region 4 with (go_at_call 8; refine Calls.mono (NU.out _ _) ?_; rintro e w' ⟨rfl, rfl⟩)
  obtain ⟨B, hB⟩ : ∃ B, B = W2.heap.size := ⟨_, rfl⟩
  obtain ⟨W3, hW3⟩ : ∃ W3, W3 = W2.alloc (.cells #[.pointer (some ⟨R, 0, none⟩), .slice none 0 0, .slice none 0 0, .slice none 0 0] 63) := ⟨_, rfl⟩
  have k3 : Kp W2 W3 non := by rw [hW3]; exact (Kp.refl W2 non).alloc _
  have b3 : W3.heap[B]? = some (.cells #[.pointer (some ⟨R, 0, none⟩), .slice none 0 0, .slice none 0 0, .slice none 0 0] 63) := by rw [hW3, hB]; exact heap_last _ _
  have B3 : Hid (Below w.heap.size w W3) := by rw [hW3]; exact B2.out.alloc B2.out.size _
  have D3 : Hid (DkAt W3 w.heap.size (fun j => j = B) B R dk0) := dk_new b3 (by rw [hB]; exact B2.out.size)
  have R3 := hide (R2.out.kp k3 (fun _ _ f => f))
  have T3 : Hid (TabD W3) := tab_kp HT.out (Kp.of_below B3.out non) (fun _ f => f.elim)
  have SG := hide (step_get (o := opF) (mm := getMg (gtF ⟨st, x, ns⟩)) (k := dk0) (v := rv0 ⟨st, x, ns⟩) (v' := { rv0 ⟨st, x, ns⟩ with last := 0 + 1 }) (gs' := [gtF ⟨st, x, ns⟩]) R3.out D3.out rfl B3.out.size (by decide) (fun X kx => Get_any (R3.out.kp kx (fun _ _ f => f)) PU.out (tab_kp T3.out kx (fun _ f => f.elim)) (fun j q => Nat.le_trans h3 (S2.out j q)) (by show (0 : Int) ≤ 1000000000000000; decide) fst (by decide) (by show mayE 0 [fst] = 0; decide)) ⟨rfl, rfl, rfl⟩ (by decide) rfl (by decide))
  have HB := hide hB
  have BG : Hid (w.heap.size ≤ B) := by rw [hB]; exact B2.out.size
  clear k3 b3 hB PU D3 T3
  go_upto_region 5 with (refine wpList_blR rfl 63 _ rfl #[.pointer (some ⟨R, 0, none⟩), .slice none 0 0, .slice none 0 0, .slice none 0 0] (by kernel_rfl) ?_)
  rw [← hW3, ← HB.out]
  clear hW3
  go_wp2_with (refine wpList_blR rfl 60 _ rfl (opV opF) (by kernel_rfl) ?_)
  refine Calls.mono SG.out ?_
  rintro e W4 ⟨rfl, d4⟩
  obtain ⟨S', T', P', r4, g4, dk4, kp4, s4, t4⟩ := d4
  obtain ⟨vw, vk, vd, hx4, hT4⟩ := dk4
  have e4 : W4.cell? ⟨B, 2, none⟩ = some vk := by rw [cell_row hx4.blk]; rfl
  have fk4 := hx4.fk
  obtain ⟨ka, kc, hvk⟩ := own_sl (n := 1) fk4
  subst hvk
  have D4 : Hid (DkAt W4 w.heap.size T' B R (kF ⟨st, x, ns⟩)) := ⟨_, _, _, hx4, hT4⟩
  have R4 := hide r4
  have G4 := hide g4
  have C4 : Hid (W4.cell? ⟨B, 2, none⟩ = some (.slice ka 1 kc)) := e4
  have S4 : Hid (∀ j, S' j → w.heap.size ≤ j) := fun j q => by
    have := B3.out.size
    rcases s4 j q with q | q
    · exact S2.out j q
    · omega
  have B4 : Hid (Below w.heap.size w W4) := B3.out.trans ⟨kp4.os, kp4.tape, kp4.output, kp4.size, fun j hj => kp4.block j (Nat.lt_of_lt_of_le hj B3.out.size) (fun q => q.elim (fun q => by have := S2.out j q; omega) (fun q => by have := BG.out; omega))⟩
  clear hx4 hT4 e4 fk4 r4 g4 kp4 s4 t4 SG R3
  go_upto_region 6 with fail
  refine wp_region_held_drew (S := fun X => X.cell? ⟨B, 2, none⟩ = some (.slice ka 1 kc)) (by kernel_rfl) C4.out (fun hHeld => ?_)
  refine wpAnyH_take (i := 0) (v := (.pointer (some ⟨B, 0, none⟩))) rfl (by kernel_rfl) (by kernel_rfl) (by kernel_rfl) (fun _ _ _ h => h) (Or.inl ⟨by rfl, ?_⟩) (by assumption) ?_
  · intro w' hSw
    (try dsimp only at hSw)
    go_simp
  (try simp only [Act.put, List.getElem_toArray, List.getElem_cons_zero, List.getElem_cons_succ, List.setIfInBounds_toArray, List.set_cons_zero, List.set_cons_succ])
  refine wpAnyH_take (i := 1) (v := (.bool true)) rfl (by kernel_rfl) (by kernel_rfl) (by kernel_rfl) (fun _ _ _ h => h) (Or.inl ⟨by rfl, ?_⟩) (by assumption) ?_
  · intro w' hSw
    (try dsimp only at hSw)
    go_simp
  (try simp only [Act.put, List.getElem_toArray, List.getElem_cons_zero, List.getElem_cons_succ, List.setIfInBounds_toArray, List.set_cons_zero, List.set_cons_succ])
  refine wpAnyH_take (i := 2) (v := (.bool true)) rfl (by kernel_rfl) (by kernel_rfl) (by kernel_rfl) (fun _ _ _ h => h) (Or.inl ⟨by rfl, ?_⟩) (by assumption) ?_
  · intro w' hSw
    (try dsimp only at hSw)
    go_simp
  (try simp only [Act.put, List.getElem_toArray, List.getElem_cons_zero, List.getElem_cons_succ, List.setIfInBounds_toArray, List.set_cons_zero, List.set_cons_succ])
  refine wpAnyH_take (i := 3) (v := (.pointer (some ⟨B, 0, none⟩))) rfl (by kernel_rfl) (by kernel_rfl) (by kernel_rfl) (fun _ _ _ h => h) (Or.inl ⟨by kernel_rfl, ?_⟩) (by assumption) ?_
  · intro w' hSw
    (try dsimp only at hSw)
    go_simp
  (try simp only [Act.put, List.setIfInBounds_toArray, List.set_cons_zero, List.set_cons_succ])
  refine wpAnyH_take (i := 4) (v := (.pointer (some ⟨B, 0, none⟩))) rfl (by kernel_rfl) (by kernel_rfl) (by kernel_rfl) (fun _ _ _ h => h) (Or.inl ⟨by kernel_rfl, ?_⟩) (by assumption) ?_
  · intro w' hSw
    (try dsimp only at hSw)
    go_simp
  (try simp only [Act.put, List.setIfInBounds_toArray, List.set_cons_zero, List.set_cons_succ])
  refine wpAnyH_take (i := 5) (v := (.pointer (some ⟨B, 2, none⟩))) rfl (by kernel_rfl) (by kernel_rfl) (by kernel_rfl) (fun _ _ _ h => h) (Or.inl ⟨by kernel_rfl, ?_⟩) (by assumption) ?_
  · intro w' hSw
    (try dsimp only at hSw)
    go_simp
  (try simp only [Act.put, List.setIfInBounds_toArray, List.set_cons_zero, List.set_cons_succ])
  refine wpAnyH_take (i := 6) (v := (.slice ka 1 kc)) rfl (by kernel_rfl) (by kernel_rfl) (by kernel_rfl) (fun _ _ _ h => h) (Or.inl ⟨by kernel_rfl, ?_⟩) (by assumption) ?_
  · intro w' hSw
    (try dsimp only at hSw)
    go_simp
  (try simp only [Act.put, List.setIfInBounds_toArray, List.set_cons_zero, List.set_cons_succ])
  refine wpAnyH_take (i := 7) (v := (.int .i64 1)) rfl (by kernel_rfl) (by kernel_rfl) (by kernel_rfl) (fun _ _ _ h => h) (Or.inl ⟨by kernel_rfl, ?_⟩) (by assumption) ?_
  · intro w' hSw
    (try dsimp only at hSw)
    go_simp
  (try simp only [Act.put, List.setIfInBounds_toArray, List.set_cons_zero, List.set_cons_succ])
  refine wpAnyH_take (i := 8) (v := (.bool true)) rfl (by kernel_rfl) (by kernel_rfl) (by kernel_rfl) (fun _ _ _ h => h) (Or.inl ⟨by kernel_rfl, ?_⟩) (by assumption) ?_
  · intro w' hSw
    (try dsimp only at hSw)
    go_simp
  (try simp only [Act.put, List.setIfInBounds_toArray, List.set_cons_zero, List.set_cons_succ])
  refine wpAnyH_take (i := 9) (v := (.bool true)) rfl (by kernel_rfl) (by kernel_rfl) (by kernel_rfl) (fun _ _ _ h => h) (Or.inl ⟨by rfl, ?_⟩) (by assumption) ?_
  · intro w' hSw
    (try dsimp only at hSw)
    go_simp
  (try simp only [Act.put, List.getElem_toArray, List.getElem_cons_zero, List.getElem_cons_succ, List.setIfInBounds_toArray, List.set_cons_zero, List.set_cons_succ])
  refine wpAnyH_ready (rs := [10]) (by kernel_rfl) (by simp) ?_
  refine AllReadyH.cons rfl (fun K hK => ?_) AllReadyH.nil
  go_simp
  refine hK.out _ _ (C4.out) (fun hHeld => ?_)
  clear hK
  (try simp only [Act.put, List.setIfInBounds_toArray, List.set_cons_zero, List.set_cons_succ])
  refine wpAnyH_ready (rs := [11]) (by kernel_rfl) (by simp) ?_
  refine AllReadyH.cons rfl (fun K hK => ?_) AllReadyH.nil
  go_simp
  refine hK.out _ _ (C4.out) (fun hHeld => ?_)
  clear hK
  (try simp only [Act.put, List.setIfInBounds_toArray, List.set_cons_zero, List.set_cons_succ])
  refine wpAnyH_done (by kernel_rfl) ?_ _
  go_wp2_with fail
  go_ret2
  exact ⟨S', T', R, B, P', rfl, R4.out.kp ((Kp.refl W4 non).drew) (fun _ _ f => f), G4.out, D4.out.kp ((Kp.refl W4 non).drew) (fun _ _ f => f), B4.out.drew, S4.out⟩
end Go.Proofs.YtndfhpfhgdamgaaGreatDoor.Cn
