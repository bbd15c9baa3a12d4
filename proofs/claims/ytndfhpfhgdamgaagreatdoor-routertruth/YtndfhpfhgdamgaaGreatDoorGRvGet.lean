import Derived.Test.YtndfhpfhgdamgaaGreatDoorGRvTake
namespace Go.Proofs.YtndfhpfhgdamgaaGreatDoor.Cn
open Go.RowKit
set_option maxHeartbeats 16000000 in
set_option maxRecDepth 100000 in
set_option linter.unusedSimpArgs false in
set_option linter.unusedVariables false in
theorem step_getno {w : World} {S T : Nat → Prop} {R base B : Nat} {c : Cl} {P : List Gp} {v : Rv} {k : Dk} {o : Op2} {er : Int} (h : RtAt w S R c P v) (hd : DkAt w base T B R k) (h1 : o.kd = 1) (her : er ≠ 0)
    (GE : ∀ X, Kp w X non → Calls Tryz.prog 13 #[.pointer (some ⟨R, 0, none⟩), .string o.s] X fun e w' => e = .returned (.tuple #[.int .i64 0, .slice none 0 0, .int .i64 er]) ∧ Kp X w' non) :
    Calls Tryz.prog 19 #[.pointer (some ⟨B, 0, none⟩), .agg (opV o)] w fun e w' => e = .returned (.bool true) ∧ Desk w w' S T R base B c (P.map (·.g)) v k := by
  have AP := hd.apart h
  obtain ⟨OB, hOB⟩ : ∃ OB, OB = w.heap.size := ⟨_, rfl⟩
  obtain ⟨W0, hW0⟩ : ∃ W0, W0 = w.alloc (.cells (opV o) 60) := ⟨_, rfl⟩
  have k0 : Kp w W0 non := by rw [hW0]; exact (Kp.refl w non).alloc _
  have ob : W0.heap[OB]? = some (.cells (opV o) 60) := by rw [hW0, hOB]; exact heap_last _ _
  obtain ⟨o0, o2, _, _⟩ := op_cells ob
  rw [h1] at o0
  have kd : Kp w W0.drew non := k0.drew
  have GE0 := hide (GE W0.drew kd)
  have b0 : W0.cell? ⟨B, 0, none⟩ = some (.pointer (some ⟨R, 0, none⟩)) := by
    obtain ⟨vw, vk, vd, hx, hT⟩ := hd.kp k0 (fun _ _ f => f)
    rw [cell_row hx.blk]
    rfl
  have HBlt : Hid (B < W0.heap.size) := World.block_lt_of_cell? W0 _ b0
  have BS : Hid (¬ S B) := fun q => by
    obtain ⟨vw, vk, vd, hx, hT⟩ := hd
    exact AP B ((hT B).2 (Or.inl rfl)) q
  have OS : Hid (¬ S OB) := fun q => by have := h.lt q; omega
  have C0 : Hid (W0.cell? ⟨B, 0, none⟩ = some (.pointer (some ⟨R, 0, none⟩)) ∧ W0.cell? ⟨OB, 2, none⟩ = some (.string o.s)) := ⟨b0, o2⟩
  have HOl : Hid (OB < W0.heap.size) := blk_lt ob
  have HD := hide hd
  have HH := hide h
  have HAP := hide AP
  have KD := hide kd
  have HOB := hide hOB
  have NU := hide fun w n => num_r w n
  have Tlt : Hid (∀ j, T j → j < w.heap.size) := fun j q => by
    obtain ⟨_, A, t, e, _⟩ := hd.kind q
    exact blk_lt e
  generalize o.s = s at *
  have q1 : (er == 0) = false := by simp [her]
  have q2 : (er != 0) = true := by simp [her]
  clear h hd GE k0 ob o2 kd b0 hOB AP h1
  go_enter Tryz.func19, Tryz.ntmps19
  go_upto_region 1 with fail
  rw [← hW0, ← HOB.out]
  clear hW0
  go_upto_region 3 with fail
  clear o0
  refine wp_region_held_drew (S := fun X => X.cell? ⟨B, 0, none⟩ = some (.pointer (some ⟨R, 0, none⟩)) ∧ X.cell? ⟨OB, 2, none⟩ = some (.string s)) (by kernel_rfl) C0.out (fun hHeld => ?_)
  refine wpAnyH_take (i := 0) (v := (.pointer (some ⟨B, 0, none⟩))) rfl (by kernel_rfl) (by kernel_rfl) (by kernel_rfl) (fun _ _ _ h => h) (Or.inl ⟨by rfl, ?_⟩) (by assumption) ?_
  · intro w' hSw
    (try dsimp only at hSw)
    go_simp
  (try simp only [Act.put, List.getElem_toArray, List.getElem_cons_zero, List.getElem_cons_succ, List.setIfInBounds_toArray, List.set_cons_zero, List.set_cons_succ])
  refine wpAnyH_take (i := 1) (v := (.pointer (some ⟨B, 0, none⟩))) rfl (by kernel_rfl) (by kernel_rfl) (by kernel_rfl) (fun _ _ _ h => h) (Or.inl ⟨by rfl, ?_⟩) (by assumption) ?_
  · intro w' hSw
    (try dsimp only at hSw)
    go_simp
  (try simp only [Act.put, List.getElem_toArray, List.getElem_cons_zero, List.getElem_cons_succ, List.setIfInBounds_toArray, List.set_cons_zero, List.set_cons_succ])
  refine wpAnyH_take (i := 2) (v := (.pointer (some ⟨B, 0, none⟩))) rfl (by kernel_rfl) (by kernel_rfl) (by kernel_rfl) (fun _ _ _ h => h) (Or.inl ⟨by rfl, ?_⟩) (by assumption) ?_
  · intro w' hSw
    (try dsimp only at hSw)
    go_simp
  (try simp only [Act.put, List.getElem_toArray, List.getElem_cons_zero, List.getElem_cons_succ, List.setIfInBounds_toArray, List.set_cons_zero, List.set_cons_succ])
  refine wpAnyH_take (i := 3) (v := (.pointer (some ⟨R, 0, none⟩))) rfl (by kernel_rfl) (by kernel_rfl) (by kernel_rfl) (fun _ _ _ h => h) (Or.inl ⟨by rfl, ?_⟩) (by assumption) ?_
  · intro w' hSw
    (try dsimp only at hSw)
    (have hs1 := hSw.1; go_simp)
  (try simp only [Act.put, List.getElem_toArray, List.getElem_cons_zero, List.getElem_cons_succ, List.setIfInBounds_toArray, List.set_cons_zero, List.set_cons_succ])
  refine wpAnyH_take (i := 4) (v := (.pointer (some ⟨OB, 2, none⟩))) rfl (by kernel_rfl) (by kernel_rfl) (by kernel_rfl) (fun _ _ _ h => h) (Or.inl ⟨by rfl, ?_⟩) (by assumption) ?_
  · intro w' hSw
    (try dsimp only at hSw)
    go_simp
  (try simp only [Act.put, List.getElem_toArray, List.getElem_cons_zero, List.getElem_cons_succ, List.setIfInBounds_toArray, List.set_cons_zero, List.set_cons_succ])
  refine wpAnyH_take (i := 5) (v := (.string s)) rfl (by kernel_rfl) (by kernel_rfl) (by kernel_rfl) (fun _ _ _ h => h) (Or.inl ⟨by rfl, ?_⟩) (by assumption) ?_
  · intro w' hSw
    (try dsimp only at hSw)
    (have hs2 := hSw.2; go_simp)
  (try simp only [Act.put, List.getElem_toArray, List.getElem_cons_zero, List.getElem_cons_succ, List.setIfInBounds_toArray, List.set_cons_zero, List.set_cons_succ])
  refine wpAnyH_ready (rs := [6]) (by kernel_rfl) (by simp) ?_
  refine AllReadyH.cons rfl (fun K hK => ?_) AllReadyH.nil
  go_simp
  refine Calls.mono GE0.out ?_
  rintro e W2 ⟨rfl, k2⟩
  have C2 : Hid (W2.cell? ⟨B, 0, none⟩ = some (.pointer (some ⟨R, 0, none⟩)) ∧ W2.cell? ⟨OB, 2, none⟩ = some (.string s)) := ⟨(k2.cell (b := B) HBlt.out (fun f => f)).trans C0.out.1, (k2.cell (b := OB) HOl.out (fun f => f)).trans C0.out.2⟩
  have KF : Hid (Kp w W2 non) := KD.out.trans k2 (fun _ f => f.elim)
  clear k2 GE0
  refine hK.out _ _ (C2.out) (fun hHeld => ?_)
  clear hK
  (try simp only [Act.put, List.setIfInBounds_toArray, List.set_cons_zero, List.set_cons_succ])
  refine wpAnyH_take (i := 7) (v := (.tuple #[.int .i64 0, .slice none 0 0, .int .i64 er])) rfl (by kernel_rfl) (by kernel_rfl) (by kernel_rfl) (fun _ _ _ h => h) (Or.inl ⟨by rfl, ?_⟩) (by assumption) ?_
  · intro w' hSw
    (try dsimp only at hSw)
    go_simp
  (try simp only [Act.put, List.getElem_toArray, List.getElem_cons_zero, List.getElem_cons_succ, List.setIfInBounds_toArray, List.set_cons_zero, List.set_cons_succ])
  refine wpAnyH_take (i := 8) (v := (.int .i64 0)) rfl (by kernel_rfl) (by kernel_rfl) (by kernel_rfl) (fun _ _ _ h => h) (Or.inl ⟨by rfl, ?_⟩) (by assumption) ?_
  · intro w' hSw
    (try dsimp only at hSw)
    go_simp
  (try simp only [Act.put, List.getElem_toArray, List.getElem_cons_zero, List.getElem_cons_succ, List.setIfInBounds_toArray, List.set_cons_zero, List.set_cons_succ])
  refine wpAnyH_take (i := 9) (v := (.slice none 0 0)) rfl (by kernel_rfl) (by kernel_rfl) (by kernel_rfl) (fun _ _ _ h => h) (Or.inl ⟨by rfl, ?_⟩) (by assumption) ?_
  · intro w' hSw
    (try dsimp only at hSw)
    go_simp
  (try simp only [Act.put, List.getElem_toArray, List.getElem_cons_zero, List.getElem_cons_succ, List.setIfInBounds_toArray, List.set_cons_zero, List.set_cons_succ])
  refine wpAnyH_take (i := 10) (v := (.int .i64 er)) rfl (by kernel_rfl) (by kernel_rfl) (by kernel_rfl) (fun _ _ _ h => h) (Or.inl ⟨by rfl, ?_⟩) (by assumption) ?_
  · intro w' hSw
    (try dsimp only at hSw)
    go_simp
  (try simp only [Act.put, List.getElem_toArray, List.getElem_cons_zero, List.getElem_cons_succ, List.setIfInBounds_toArray, List.set_cons_zero, List.set_cons_succ])
  refine wpAnyH_ready (rs := [11]) (by kernel_rfl) (by simp) ?_
  refine AllReadyH.cons rfl (fun K hK => ?_) AllReadyH.nil
  go_simp
  refine hK.out _ _ (C2.out) (fun hHeld => ?_)
  clear hK
  (try simp only [Act.put, List.setIfInBounds_toArray, List.set_cons_zero, List.set_cons_succ])
  refine wpAnyH_ready (rs := [12]) (by kernel_rfl) (by simp) ?_
  refine AllReadyH.cons rfl (fun K hK => ?_) AllReadyH.nil
  go_simp
  refine hK.out _ _ (C2.out) (fun hHeld => ?_)
  clear hK
  (try simp only [Act.put, List.setIfInBounds_toArray, List.set_cons_zero, List.set_cons_succ])
  refine wpAnyH_ready (rs := [13]) (by kernel_rfl) (by simp) ?_
  refine AllReadyH.cons rfl (fun K hK => ?_) AllReadyH.nil
  go_simp
  refine hK.out _ _ (C2.out) (fun hHeld => ?_)
  clear hK
  (try simp only [Act.put, List.setIfInBounds_toArray, List.set_cons_zero, List.set_cons_succ])
  refine wpAnyH_done (by kernel_rfl) ?_ _
  go_wp2_with (go_at_call 8; refine Calls.mono (NU.out _ _) ?_; rintro e w' ⟨rfl, rfl⟩)
  go_ret
  exact ⟨rfl, S, T, P, HH.out.kp KF.out (fun _ _ f => f), rfl, HD.out.kp KF.out (fun _ _ f => f), KF.out.mono (fun _ f => f.elim), fun j q => Or.inl q, fun j q => Or.inl q⟩
set_option maxHeartbeats 16000000 in
set_option maxRecDepth 100000 in
set_option linter.unusedSimpArgs false in
set_option linter.unusedVariables false in
theorem step_get {w : World} {S T : Nat → Prop} {R base B : Nat} {c : Cl} {P : List Gp} {v v' : Rv} {gs' : List Gt} {k : Dk} {o : Op2} {mm : Mg} (h : RtAt w S R c P v) (hd : DkAt w base T B R k) (h1 : o.kd = 1) (hb : base ≤ w.heap.size) (hss : o.s.size ≤ 9223372036854775807)
    (GE : ∀ X, Kp w X non → Calls Tryz.prog 13 #[.pointer (some ⟨R, 0, none⟩), .string o.s] X fun e w' => ∃ S' P' vo, e = .returned (.tuple #[.int .i64 ((k.keys.length : Int) + 1), vo, .int .i64 0]) ∧ RtAt w' S' R c P' v' ∧ P'.map (·.g) = gs' ∧ w'.ownsRow X.heap.size 58 11 vo 1 (mgs [mm]) ∧ Kp X w' S ∧ ∀ j, S' j → S j ∨ X.heap.size ≤ j)
    (hm : mm.kind = 11 ∧ mm.id = (k.keys.length : Int) + 1 ∧ mm.key = o.s) (hkl : k.keys.length ≤ 400000000000) (hdl : k.done.length = k.keys.length) (hwl : k.went.length ≤ 400000000000) :
    Calls Tryz.prog 19 #[.pointer (some ⟨B, 0, none⟩), .agg (opV o)] w fun e w' => e = .returned (.bool true) ∧ Desk w w' S T R base B c gs' v' ((k.opn [o.s]).wnt [mm]) := by
  have AP := hd.apart h
  obtain ⟨OB, hOB⟩ : ∃ OB, OB = w.heap.size := ⟨_, rfl⟩
  obtain ⟨W0, hW0⟩ : ∃ W0, W0 = w.alloc (.cells (opV o) 60) := ⟨_, rfl⟩
  have k0 : Kp w W0 non := by rw [hW0]; exact (Kp.refl w non).alloc _
  have ob : W0.heap[OB]? = some (.cells (opV o) 60) := by rw [hW0, hOB]; exact heap_last _ _
  obtain ⟨o0, o2, _, _⟩ := op_cells ob
  rw [h1] at o0
  have kd : Kp w W0.drew non := k0.drew
  have GE0 := hide (GE W0.drew kd)
  have b0 : W0.cell? ⟨B, 0, none⟩ = some (.pointer (some ⟨R, 0, none⟩)) := by
    obtain ⟨vw, vk, vd, hx, hT⟩ := hd.kp k0 (fun _ _ f => f)
    rw [cell_row hx.blk]
    rfl
  have HBlt : Hid (B < W0.heap.size) := World.block_lt_of_cell? W0 _ b0
  have BS : Hid (¬ S B) := fun q => by
    obtain ⟨vw, vk, vd, hx, hT⟩ := hd
    exact AP B ((hT B).2 (Or.inl rfl)) q
  have OS : Hid (¬ S OB) := fun q => by have := h.lt q; omega
  have C0 : Hid (W0.cell? ⟨B, 0, none⟩ = some (.pointer (some ⟨R, 0, none⟩)) ∧ W0.cell? ⟨OB, 2, none⟩ = some (.string o.s)) := ⟨b0, o2⟩
  have HOl : Hid (OB < W0.heap.size) := blk_lt ob
  have HD := hide hd
  have HH := hide h
  have HAP := hide AP
  have KD := hide kd
  have HOB := hide hOB
  have NU := hide fun w n => num_r w n
  have Tlt : Hid (∀ j, T j → j < w.heap.size) := fun j q => by
    obtain ⟨_, A, t, e, _⟩ := hd.kind q
    exact blk_lt e
  generalize o.s = s at *
  have HM := hide hm
  have hz0 : Hid (w.heap.size ≤ W0.drew.heap.size) := k0.drew.size
  obtain ⟨kk, hkk⟩ : ∃ kk : Int, kk = (k.keys.length : Int) + 1 := ⟨_, rfl⟩
  rw [← hkk] at GE0
  have HKK := hide hkk
  clear hkk hm
  clear h hd GE k0 ob o2 kd b0 hOB AP h1
  go_enter Tryz.func19, Tryz.ntmps19
  go_upto_region 1 with fail
  rw [← hW0, ← HOB.out]
  clear hW0
  go_upto_region 3 with fail
  clear o0
  refine wp_region_held_drew (S := fun X => X.cell? ⟨B, 0, none⟩ = some (.pointer (some ⟨R, 0, none⟩)) ∧ X.cell? ⟨OB, 2, none⟩ = some (.string s)) (by kernel_rfl) C0.out (fun hHeld => ?_)
  refine wpAnyH_take (i := 0) (v := (.pointer (some ⟨B, 0, none⟩))) rfl (by kernel_rfl) (by kernel_rfl) (by kernel_rfl) (fun _ _ _ h => h) (Or.inl ⟨by rfl, ?_⟩) (by assumption) ?_
  · intro w' hSw
    (try dsimp only at hSw)
    go_simp
  (try simp only [Act.put, List.getElem_toArray, List.getElem_cons_zero, List.getElem_cons_succ, List.setIfInBounds_toArray, List.set_cons_zero, List.set_cons_succ])
  refine wpAnyH_take (i := 1) (v := (.pointer (some ⟨B, 0, none⟩))) rfl (by kernel_rfl) (by kernel_rfl) (by kernel_rfl) (fun _ _ _ h => h) (Or.inl ⟨by rfl, ?_⟩) (by assumption) ?_
  · intro w' hSw
    (try dsimp only at hSw)
    go_simp
  (try simp only [Act.put, List.getElem_toArray, List.getElem_cons_zero, List.getElem_cons_succ, List.setIfInBounds_toArray, List.set_cons_zero, List.set_cons_succ])
  refine wpAnyH_take (i := 2) (v := (.pointer (some ⟨B, 0, none⟩))) rfl (by kernel_rfl) (by kernel_rfl) (by kernel_rfl) (fun _ _ _ h => h) (Or.inl ⟨by rfl, ?_⟩) (by assumption) ?_
  · intro w' hSw
    (try dsimp only at hSw)
    go_simp
  (try simp only [Act.put, List.getElem_toArray, List.getElem_cons_zero, List.getElem_cons_succ, List.setIfInBounds_toArray, List.set_cons_zero, List.set_cons_succ])
  refine wpAnyH_take (i := 3) (v := (.pointer (some ⟨R, 0, none⟩))) rfl (by kernel_rfl) (by kernel_rfl) (by kernel_rfl) (fun _ _ _ h => h) (Or.inl ⟨by rfl, ?_⟩) (by assumption) ?_
  · intro w' hSw
    (try dsimp only at hSw)
    (have hs1 := hSw.1; go_simp)
  (try simp only [Act.put, List.getElem_toArray, List.getElem_cons_zero, List.getElem_cons_succ, List.setIfInBounds_toArray, List.set_cons_zero, List.set_cons_succ])
  refine wpAnyH_take (i := 4) (v := (.pointer (some ⟨OB, 2, none⟩))) rfl (by kernel_rfl) (by kernel_rfl) (by kernel_rfl) (fun _ _ _ h => h) (Or.inl ⟨by rfl, ?_⟩) (by assumption) ?_
  · intro w' hSw
    (try dsimp only at hSw)
    go_simp
  (try simp only [Act.put, List.getElem_toArray, List.getElem_cons_zero, List.getElem_cons_succ, List.setIfInBounds_toArray, List.set_cons_zero, List.set_cons_succ])
  refine wpAnyH_take (i := 5) (v := (.string s)) rfl (by kernel_rfl) (by kernel_rfl) (by kernel_rfl) (fun _ _ _ h => h) (Or.inl ⟨by rfl, ?_⟩) (by assumption) ?_
  · intro w' hSw
    (try dsimp only at hSw)
    (have hs2 := hSw.2; go_simp)
  (try simp only [Act.put, List.getElem_toArray, List.getElem_cons_zero, List.getElem_cons_succ, List.setIfInBounds_toArray, List.set_cons_zero, List.set_cons_succ])
  refine wpAnyH_ready (rs := [6]) (by kernel_rfl) (by simp) ?_
  refine AllReadyH.cons rfl (fun K hK => ?_) AllReadyH.nil
  go_simp
  refine Calls.mono GE0.out ?_
  rintro e W2 ⟨S', P', vo, rfl, r2, g2, o2, k2, s2⟩
  obtain ⟨oa, oc, hvo⟩ := own_sl o2
  subst hvo
  have C2 : Hid (W2.cell? ⟨B, 0, none⟩ = some (.pointer (some ⟨R, 0, none⟩)) ∧ W2.cell? ⟨OB, 2, none⟩ = some (.string s)) := ⟨(k2.cell (b := B) HBlt.out BS.out).trans C0.out.1, (k2.cell (b := OB) HOl.out OS.out).trans C0.out.2⟩
  have K2 : Hid (Kp w W2 S) := (KD.out.mono (fun _ f => f.elim)).trans k2 (fun j q => Or.inl q)
  have D2 := hide ((HD.out.kp KD.out (fun _ _ f => f)).kp k2 (fun j q => HAP.out j q))
  have R2 := hide r2
  have GS2 := hide g2
  have O2 := hide (own_base o2 hz0.out)
  have S2 : Hid (∀ j, S' j → S j ∨ w.heap.size ≤ j) := fun j q => by
    have := hz0.out
    rcases s2 j q with q | q
    · exact Or.inl q
    · exact Or.inr (by omega)
  clear r2 g2 o2 k2 s2 GE0
  refine hK.out _ _ (C2.out) (fun hHeld => ?_)
  clear hK
  (try simp only [Act.put, List.setIfInBounds_toArray, List.set_cons_zero, List.set_cons_succ])
  refine wpAnyH_take (i := 7) (v := (.tuple #[.int .i64 kk, .slice oa 1 oc, .int .i64 0])) rfl (by kernel_rfl) (by kernel_rfl) (by kernel_rfl) (fun _ _ _ h => h) (Or.inl ⟨by rfl, ?_⟩) (by assumption) ?_
  · intro w' hSw
    (try dsimp only at hSw)
    go_simp
  (try simp only [Act.put, List.getElem_toArray, List.getElem_cons_zero, List.getElem_cons_succ, List.setIfInBounds_toArray, List.set_cons_zero, List.set_cons_succ])
  refine wpAnyH_take (i := 8) (v := (.int .i64 kk)) rfl (by kernel_rfl) (by kernel_rfl) (by kernel_rfl) (fun _ _ _ h => h) (Or.inl ⟨by rfl, ?_⟩) (by assumption) ?_
  · intro w' hSw
    (try dsimp only at hSw)
    go_simp
  (try simp only [Act.put, List.getElem_toArray, List.getElem_cons_zero, List.getElem_cons_succ, List.setIfInBounds_toArray, List.set_cons_zero, List.set_cons_succ])
  refine wpAnyH_take (i := 9) (v := (.slice oa 1 oc)) rfl (by kernel_rfl) (by kernel_rfl) (by kernel_rfl) (fun _ _ _ h => h) (Or.inl ⟨by rfl, ?_⟩) (by assumption) ?_
  · intro w' hSw
    (try dsimp only at hSw)
    go_simp
  (try simp only [Act.put, List.getElem_toArray, List.getElem_cons_zero, List.getElem_cons_succ, List.setIfInBounds_toArray, List.set_cons_zero, List.set_cons_succ])
  refine wpAnyH_take (i := 10) (v := (.int .i64 0)) rfl (by kernel_rfl) (by kernel_rfl) (by kernel_rfl) (fun _ _ _ h => h) (Or.inl ⟨by rfl, ?_⟩) (by assumption) ?_
  · intro w' hSw
    (try dsimp only at hSw)
    go_simp
  (try simp only [Act.put, List.getElem_toArray, List.getElem_cons_zero, List.getElem_cons_succ, List.setIfInBounds_toArray, List.set_cons_zero, List.set_cons_succ])
  refine wpAnyH_ready (rs := [11]) (by kernel_rfl) (by simp) ?_
  refine AllReadyH.cons rfl (fun K hK => ?_) AllReadyH.nil
  go_simp
  refine hK.out _ _ (C2.out) (fun hHeld => ?_)
  clear hK
  (try simp only [Act.put, List.setIfInBounds_toArray, List.set_cons_zero, List.set_cons_succ])
  refine wpAnyH_ready (rs := [12]) (by kernel_rfl) (by simp) ?_
  refine AllReadyH.cons rfl (fun K hK => ?_) AllReadyH.nil
  go_simp
  refine hK.out _ _ (C2.out) (fun hHeld => ?_)
  clear hK
  (try simp only [Act.put, List.setIfInBounds_toArray, List.set_cons_zero, List.set_cons_succ])
  refine wpAnyH_ready (rs := [13]) (by kernel_rfl) (by simp) ?_
  refine AllReadyH.cons rfl (fun K hK => ?_) AllReadyH.nil
  go_simp
  refine hK.out _ _ (C2.out) (fun hHeld => ?_)
  clear hK
  (try simp only [Act.put, List.setIfInBounds_toArray, List.set_cons_zero, List.set_cons_succ])
  refine wpAnyH_done (by kernel_rfl) ?_ _
  have cs2 := C2.out.2
  obtain ⟨W3, hW3⟩ : ∃ W3, W3 = W2.alloc (.cells #[.string s] 9) := ⟨_, rfl⟩
  have k3 : Kp W2 W3 non := by rw [hW3]; exact (Kp.refl W2 non).alloc _
  have G3 : Hid (W3.heap[W2.heap.size]? = some (.cells #[.string s] 9)) := by rw [hW3]; exact heap_last _ _
  have K3 := hide k3
  have N3 : Hid (W3.ownsRow w.heap.size 9 1 (.slice none 0 0) 0 (txs [])) := World.ownsRow_nil _ _ _ _
  have hb3 : Hid (w.heap.size ≤ W3.heap.size) := Nat.le_trans K2.out.size k3.size
  clear k3 C0 C2 hHeld
  go_upto_region 7 with (go_at_call 8; refine Calls.mono (NU.out _ _) ?_; rintro e w' ⟨rfl, rfl⟩)
  go_wp2_with (at_builtin; rw [← hW3]; refine wpList_apT rfl (.tmp 40) (.tmp 43) rfl w.heap.size (.slice none 0 0) [] rfl N3.out W2.heap.size s rfl G3.out (by simp) hb3.out ?_; intro vl W4 o4 g4 n4; obtain ⟨la, lc, rfl⟩ := own_sl o4; have O4 := hide o4; have KG := hide (Kp.of_grown g4); have N4 := hide n4; clear o4 g4 n4)
  have kg : Kp W3 W4 non := KG.out.mono (fun j e => by simp [Value.ownBlock] at e)
  have k24 : Kp W2 W4 non := K3.out.trans kg (fun _ f => f.elim)
  obtain ⟨lg, lgc, hlg⟩ := own_g O4.out (by simp)
  injection hlg with hlg _ hlgc
  subst hlg
  subst hlgc
  have KS : KsAt W4 (some ⟨lg, 0, none⟩) lg 0 [s] := by
    refine ⟨fun _ => rfl, fun i hi => ?_, by simp, fun k hk => by rw [List.mem_singleton.1 hk]; exact hss⟩
    have hi0 : i = 0 := by simp at hi; omega
    subst hi0
    rw [Nat.zero_add, O4.out.cellAt 0 (by simp)]
    rfl
  have d4 := D2.out.kp k24 (fun _ _ f => f)
  have o4 := own_kp O2.out k24 (fun _ _ f => f)
  have lgT : ¬ T lg := fun q => by
    have h1 := own_ge O4.out (g := lg) rfl
    have h2 := Tlt.out lg q
    omega
  have oT : ∀ j, (Value.slice oa 1 oc).ownBlock = some j → ¬ T j := fun j q s => by
    have h1 := own_ge O2.out q
    have h2 := Tlt.out j s
    omega
  have K4 : Hid (Kp w W4 S) := K2.out.trans k24 (fun _ f => f.elim)
  have OP := hide (opened_any (ks := [s]) (L := [mm]) d4 o4 oT kk HKK.out (some ⟨lg, 0, none⟩) lg 0 lc KS (fun _ => lgT) rfl (fun i h1 h2 => by
    have hi0 : i = 0 := by simp at h1; omega
    subst hi0
    refine ⟨HM.out.1, ?_, HM.out.2.2⟩
    rw [HKK.out]
    simpa using HM.out.2.1) hkl hdl hwl (by simp) (Nat.le_trans hb K4.out.size))
  have R4 := hide (R2.out.kp k24 (fun _ _ f => f))
  have AP4 : Hid (∀ j, T j → ¬ S' j) := d4.apart R4.out
  clear kg k24 KS d4 o4 lgT oT
  refine Calls.mono OP.out ?_
  rintro e W5 ⟨T5, rfl, d5, k5, t5⟩
  have RF := hide (R4.out.kp k5 (fun j q s => AP4.out j s q))
  have DF := hide d5
  have KF : Hid (Kp w W5 (fun j => S j ∨ T j)) := (K4.out.mono (fun j q => Or.inl q)).trans k5 (fun j q => Or.inl (Or.inr q))
  have TF : Hid (∀ j, T5 j → T j ∨ w.heap.size ≤ j) := fun j q => by
    have := K4.out.size
    rcases t5 j q with q | q
    · exact Or.inl q
    · exact Or.inr (by omega)
  clear d5 k5 t5 OP
  go_wp2_with fail
  go_ret
  exact ⟨rfl, S', T5, P', RF.out, GS2.out, DF.out, KF.out, S2.out, TF.out⟩
end Go.Proofs.YtndfhpfhgdamgaaGreatDoor.Cn
namespace Go.Proofs.YtndfhpfhgdamgaaGreatDoor.Cn
open Go.RowKit
theorem ks_of_own {w : World} {base cap : Nat} {a : Option Addr} {ks : List ByteArray} (h : w.ownsRow base 9 1 (.slice a ks.length cap) ks.length (txs ks)) (hs : ∀ k ∈ ks, k.size ≤ 9223372036854775807) (hl : ks.length ≤ 1000000000000000) : ∃ b o, KsAt w a b o ks ∧ (0 < ks.length → base ≤ b) := by
  by_cases h0 : 0 < ks.length
  · obtain ⟨g, gc, hg⟩ := own_g h h0
    injection hg with hg _ hgc
    subst hg
    subst hgc
    exact ⟨g, 0, ⟨fun _ => rfl, fun i hi => by rw [Nat.zero_add, h.cellAt i (by omega), txs_at ks i hi], hl, hs⟩, fun _ => own_ge h (g := g) rfl⟩
  · exact ⟨0, 0, ⟨fun q => absurd q h0, fun i hi => by omega, hl, hs⟩, fun q => absurd q h0⟩
set_option maxHeartbeats 16000000 in
set_option maxRecDepth 100000 in
set_option linter.unusedSimpArgs false in
set_option linter.unusedVariables false in
theorem step_allno {w : World} {S T : Nat → Prop} {R base B : Nat} {c : Cl} {P : List Gp} {v : Rv} {k : Dk} {o : Op2} {er : Int} (h : RtAt w S R c P v) (hd : DkAt w base T B R k) (h2 : o.kd = 2) (ao : Option Addr) (lb lo lcap : Nat) (ks : List ByteArray) (hol : o.l = .slice ao ks.length lcap) (hks : KsAt w ao lb lo ks) (hkl0 : ks.length ≤ 8796093022200) (her : er ≠ 0 ∨ ks = [])
    (GE : ∀ X ao' b' o' cap', Kp w X non → KsAt X ao' b' o' ks → (0 < ks.length → ¬ S b') → Calls Tryz.prog 23 #[.pointer (some ⟨R, 0, none⟩), .slice ao' ks.length cap'] X fun e w' => e = .returned (.tuple #[.int .i64 0, .slice none 0 0, .int .i64 er]) ∧ X = w') :
    Calls Tryz.prog 19 #[.pointer (some ⟨B, 0, none⟩), .agg (opV o)] w fun e w' => e = .returned (.bool true) ∧ Desk w w' S T R base B c (P.map (·.g)) v k := by
  have HSZ : Hid (∀ k ∈ ks, k.size ≤ 9223372036854775807) := hks.sz
  have AP := hd.apart h
  obtain ⟨OB, hOB⟩ : ∃ OB, OB = w.heap.size := ⟨_, rfl⟩
  obtain ⟨W0, hW0⟩ : ∃ W0, W0 = w.alloc (.cells (opV o) 60) := ⟨_, rfl⟩
  have k0 : Kp w W0 non := by rw [hW0]; exact (Kp.refl w non).alloc _
  have ob : W0.heap[OB]? = some (.cells (opV o) 60) := by rw [hW0, hOB]; exact heap_last _ _
  obtain ⟨o0, _, o3, _⟩ := op_cells ob
  rw [h2] at o0
  rw [hol] at o3
  have TX := hide (texts_any ao lb lo lcap ks (hks.kp k0 (fun _ f => f)) (by omega))
  have b0 : W0.cell? ⟨B, 0, none⟩ = some (.pointer (some ⟨R, 0, none⟩)) := by
    obtain ⟨vw, vk, vd, hx, hT⟩ := hd.kp k0 (fun _ _ f => f)
    rw [cell_row hx.blk]
    rfl
  have HBlt : Hid (B < W0.heap.size) := World.block_lt_of_cell? W0 _ b0
  have BS : Hid (¬ S B) := fun q => by
    obtain ⟨vw, vk, vd, hx, hT⟩ := hd
    exact AP B ((hT B).2 (Or.inl rfl)) q
  have OS : Hid (¬ S OB) := fun q => by have := h.lt q; omega
  have B00 := hide b0
  have O30 := hide o3
  have HOl : Hid (OB < W0.heap.size) := blk_lt ob
  have HD := hide hd
  have HH := hide h
  have HAP := hide AP
  have K0 := hide k0
  have HGE := hide GE
  have HOB := hide hOB
  have HKS := hide hks
  have NU := hide fun w n => num_r w n
  have Slt : Hid (∀ j, S j → j < w.heap.size) := fun j q => h.lt q
  have Tlt : Hid (∀ j, T j → j < w.heap.size) := fun j q => by
    obtain ⟨_, A, t, e, _⟩ := hd.kind q
    exact blk_lt e
  clear h hd GE k0 ob b0 hOB AP h2 hks hol
  go_enter Tryz.func19, Tryz.ntmps19
  go_upto_region 1 with fail
  rw [← hW0, ← HOB.out]
  clear hW0
  go_wp2_with fail
  refine Calls.mono TX.out ?_
  rintro e W1 ⟨vl, rfl, ol, bl⟩
  have k1 := Kp.of_below bl non
  obtain ⟨la, lc, hvl⟩ := own_sl ol
  subst hvl
  have K1 : Hid (Kp w W1 non) := K0.out.trans k1 (fun _ f => f.elim)
  have b1 : W1.cell? ⟨B, 0, none⟩ = some (.pointer (some ⟨R, 0, none⟩)) := (k1.cell HBlt.out (fun f => f)).trans B00.out
  have o1 : W1.cell? ⟨OB, 3, none⟩ = some (.slice ao ks.length lcap) := (k1.cell HOl.out (fun f => f)).trans O30.out
  have GL : Hid (Calls Tryz.prog 23 #[.pointer (some ⟨R, 0, none⟩), .slice la ks.length lc] W1 (fun e w' => e = .returned (.tuple #[.int .i64 0, .slice none 0 0, .int .i64 er]) ∧ W1 = w')) := by
    obtain ⟨b', o', hks', hge⟩ := ks_of_own ol HSZ.out (by omega)
    exact HGE.out W1 la b' o' lc K1.out hks' (fun hp q => by have h1 := hge hp; have h2 := Slt.out b' q; have h3 := K0.out.size; omega)
  have B11 := hide b1
  have O11 := hide o1
  have OBL : Hid (OB < W1.heap.size) := Nat.lt_of_lt_of_le HOl.out k1.size
  clear k1 bl ol TX o0 o3 HGE
  go_wp2_with fail
  refine Calls.mono GL.out ?_
  rintro e W2 ⟨rfl, rfl⟩
  have FINAL : Hid (Desk w W1 S T R base B c (P.map (·.g)) v k) := ⟨S, T, P, HH.out.kp K1.out (fun _ _ f => f), rfl, HD.out.kp K1.out (fun _ _ f => f), K1.out.mono (fun _ f => f.elim), fun j q => Or.inl q, fun j q => Or.inl q⟩
  by_cases he : er = 0
  · subst he
    have hnil : ks = [] := by
      rcases her with q | q
      · exact absurd rfl q
      · exact q
    subst hnil
    have o1' := O11.out
    go_wp2_with (go_at_call 8; refine Calls.mono (NU.out _ _) ?_; rintro e w' ⟨rfl, rfl⟩)
    go_ret
    exact ⟨rfl, FINAL.out⟩
  · have q1 : (er == 0) = false := by simp [he]
    have q2 : (er != 0) = true := by simp [he]
    go_wp2_with (go_at_call 8; refine Calls.mono (NU.out _ _) ?_; rintro e w' ⟨rfl, rfl⟩)
    go_ret
    exact ⟨rfl, FINAL.out⟩
set_option maxHeartbeats 16000000 in
set_option maxRecDepth 100000 in
set_option linter.unusedSimpArgs false in
set_option linter.unusedVariables false in
theorem step_all {w : World} {S T : Nat → Prop} {R base B : Nat} {c : Cl} {P : List Gp} {v v' : Rv} {gs' : List Gt} {k : Dk} {o : Op2} {L : List Mg} (h : RtAt w S R c P v) (hd : DkAt w base T B R k) (h2 : o.kd = 2) (hb : base ≤ w.heap.size) (ao : Option Addr) (lb lo lcap : Nat) (ks : List ByteArray) (hol : o.l = .slice ao ks.length lcap) (hks : KsAt w ao lb lo ks) (hkl0 : ks.length ≤ 1000000) (hne : ks ≠ []) (hlS : ¬ S lb) (hlT : ¬ T lb)
    (GE : ∀ X ao' b' o' cap', Kp w X non → KsAt X ao' b' o' ks → (0 < ks.length → ¬ S b') → Calls Tryz.prog 23 #[.pointer (some ⟨R, 0, none⟩), .slice ao' ks.length cap'] X fun e w' => ∃ S' P' vo, e = .returned (.tuple #[.int .i64 ((k.keys.length : Int) + 1), vo, .int .i64 0]) ∧ RtAt w' S' R c P' v' ∧ P'.map (·.g) = gs' ∧ w'.ownsRow X.heap.size 58 11 vo L.length (mgs L) ∧ Kp X w' S ∧ ∀ j, S' j → S j ∨ X.heap.size ≤ j)
    (hL : L.length = ks.length) (hm : ∀ (i : Nat) (h1 : i < L.length) (h2 : i < ks.length), L[i].kind = 11 ∧ L[i].id = (k.keys.length : Int) + 1 + (i : Int) ∧ L[i].key = ks[i]) (hkl : k.keys.length ≤ 400000000000) (hdl : k.done.length = k.keys.length) (hwl : k.went.length ≤ 400000000000) :
    Calls Tryz.prog 19 #[.pointer (some ⟨B, 0, none⟩), .agg (opV o)] w fun e w' => e = .returned (.bool true) ∧ Desk w w' S T R base B c gs' v' ((k.opn ks).wnt L) := by
  have HSZ : Hid (∀ k ∈ ks, k.size ≤ 9223372036854775807) := hks.sz
  have hpos : 0 < ks.length := List.length_pos_iff.2 hne
  have HLl := hide hL
  have HMm := hide hm
  obtain ⟨kk, hkk⟩ : ∃ kk : Int, kk = (k.keys.length : Int) + 1 := ⟨_, rfl⟩
  rw [← hkk] at GE
  have HKK := hide hkk
  have hne0 : ((ks.length : Int) == 0) = false := by rw [beq_eq_false_iff_ne]; omega
  have hne1 : (ks.length == 0) = false := by rw [beq_eq_false_iff_ne]; omega
  have hne2 : ¬ ks.length = 0 := by omega
  have hne3 : ¬ (ks.length : Int) = 0 := by omega
  clear hkk hL hm hne
  have AP := hd.apart h
  obtain ⟨OB, hOB⟩ : ∃ OB, OB = w.heap.size := ⟨_, rfl⟩
  obtain ⟨W0, hW0⟩ : ∃ W0, W0 = w.alloc (.cells (opV o) 60) := ⟨_, rfl⟩
  have k0 : Kp w W0 non := by rw [hW0]; exact (Kp.refl w non).alloc _
  have ob : W0.heap[OB]? = some (.cells (opV o) 60) := by rw [hW0, hOB]; exact heap_last _ _
  obtain ⟨o0, _, o3, _⟩ := op_cells ob
  rw [h2] at o0
  rw [hol] at o3
  have TX := hide (texts_any ao lb lo lcap ks (hks.kp k0 (fun _ f => f)) (by omega))
  have b0 : W0.cell? ⟨B, 0, none⟩ = some (.pointer (some ⟨R, 0, none⟩)) := by
    obtain ⟨vw, vk, vd, hx, hT⟩ := hd.kp k0 (fun _ _ f => f)
    rw [cell_row hx.blk]
    rfl
  have HBlt : Hid (B < W0.heap.size) := World.block_lt_of_cell? W0 _ b0
  have BS : Hid (¬ S B) := fun q => by
    obtain ⟨vw, vk, vd, hx, hT⟩ := hd
    exact AP B ((hT B).2 (Or.inl rfl)) q
  have OS : Hid (¬ S OB) := fun q => by have := h.lt q; omega
  have B00 := hide b0
  have O30 := hide o3
  have HOl : Hid (OB < W0.heap.size) := blk_lt ob
  have HD := hide hd
  have HH := hide h
  have HAP := hide AP
  have K0 := hide k0
  have HGE := hide GE
  have HOB := hide hOB
  have HKS := hide hks
  have NU := hide fun w n => num_r w n
  have Slt : Hid (∀ j, S j → j < w.heap.size) := fun j q => h.lt q
  have Tlt : Hid (∀ j, T j → j < w.heap.size) := fun j q => by
    obtain ⟨_, A, t, e, _⟩ := hd.kind q
    exact blk_lt e
  clear h hd GE k0 ob b0 hOB AP h2 hks hol
  go_enter Tryz.func19, Tryz.ntmps19
  go_upto_region 1 with fail
  rw [← hW0, ← HOB.out]
  clear hW0
  go_wp2_with fail
  refine Calls.mono TX.out ?_
  rintro e W1 ⟨vl, rfl, ol, bl⟩
  have k1 := Kp.of_below bl non
  obtain ⟨la, lc, hvl⟩ := own_sl ol
  subst hvl
  have K1 : Hid (Kp w W1 non) := K0.out.trans k1 (fun _ f => f.elim)
  have b1 : W1.cell? ⟨B, 0, none⟩ = some (.pointer (some ⟨R, 0, none⟩)) := (k1.cell HBlt.out (fun f => f)).trans B00.out
  have o1 : W1.cell? ⟨OB, 3, none⟩ = some (.slice ao ks.length lcap) := (k1.cell HOl.out (fun f => f)).trans O30.out
  have GL : Hid (Calls Tryz.prog 23 #[.pointer (some ⟨R, 0, none⟩), .slice la ks.length lc] W1 (fun e w' => ∃ S' P' vo, e = .returned (.tuple #[.int .i64 kk, vo, .int .i64 0]) ∧ RtAt w' S' R c P' v' ∧ P'.map (·.g) = gs' ∧ w'.ownsRow W1.heap.size 58 11 vo L.length (mgs L) ∧ Kp W1 w' S ∧ ∀ j, S' j → S j ∨ W1.heap.size ≤ j)) := by
    obtain ⟨b', o', hks', hge⟩ := ks_of_own ol HSZ.out (by omega)
    exact HGE.out W1 la b' o' lc K1.out hks' (fun hp q => by have h1 := hge hp; have h2 := Slt.out b' q; have h3 := K0.out.size; omega)
  have B11 := hide b1
  have O11 := hide o1
  have OBL : Hid (OB < W1.heap.size) := Nat.lt_of_lt_of_le HOl.out k1.size
  clear k1 bl ol TX o0 o3 HGE
  go_wp2_with fail
  refine Calls.mono GL.out ?_
  rintro e W2 ⟨S', P', vo, rfl, r2, g2, o2, k2, s2⟩
  obtain ⟨oa, oc, hvo⟩ := own_sl o2
  subst hvo
  have c3 : W2.cell? ⟨OB, 3, none⟩ = some (.slice ao ks.length lcap) := (k2.cell OBL.out OS.out).trans O11.out
  have K2 : Hid (Kp w W2 S) := (K1.out.mono (fun _ f => f.elim)).trans k2 (fun j q => Or.inl q)
  have d2 := (HD.out.kp K1.out (fun _ _ f => f)).kp k2 (fun j q => HAP.out j q)
  have O2 := hide (own_base o2 K1.out.size)
  have S2 : Hid (∀ j, S' j → S j ∨ w.heap.size ≤ j) := fun j q => by
    have := K1.out.size
    rcases s2 j q with q | q
    · exact Or.inl q
    · exact Or.inr (by omega)
  have oT : ∀ j, (Value.slice oa L.length oc).ownBlock = some j → ¬ T j := fun j q s => by
    have h1 := own_ge O2.out q
    have h2 := Tlt.out j s
    omega
  have OP := hide (opened_any (ks := ks) (L := L) d2 O2.out oT kk HKK.out ao lb lo lcap (HKS.out.kp K2.out (fun _ => hlS)) (fun _ => hlT) HLl.out (fun i h1 h2 => by rw [HKK.out]; exact HMm.out i h1 h2) hkl hdl hwl hkl0 (Nat.le_trans hb K2.out.size))
  have R2 := hide r2
  have GS2 := hide g2
  have AP2 : Hid (∀ j, T j → ¬ S' j) := d2.apart r2
  clear r2 g2 o2 k2 s2 d2 oT GL
  go_wp2_with (go_at_call 8; refine Calls.mono (NU.out _ _) ?_; rintro e w' ⟨rfl, rfl⟩)
  refine Calls.mono OP.out ?_
  rintro e W5 ⟨T5, rfl, d5, k5, t5⟩
  have RF := hide (R2.out.kp k5 (fun j q s => AP2.out j s q))
  have DF := hide d5
  have KF : Hid (Kp w W5 (fun j => S j ∨ T j)) := (K2.out.mono (fun j q => Or.inl q)).trans k5 (fun j q => Or.inl (Or.inr q))
  have TF : Hid (∀ j, T5 j → T j ∨ w.heap.size ≤ j) := fun j q => by
    have := K2.out.size
    rcases t5 j q with q | q
    · exact Or.inl q
    · exact Or.inr (by omega)
  clear d5 k5 t5 OP
  go_wp2_with fail
  go_ret
  exact ⟨rfl, S', T5, P', RF.out, GS2.out, DF.out, KF.out, S2.out, TF.out⟩
end Go.Proofs.YtndfhpfhgdamgaaGreatDoor.Cn
