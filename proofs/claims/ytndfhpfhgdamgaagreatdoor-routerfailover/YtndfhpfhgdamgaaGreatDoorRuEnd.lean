import Derived.Test.YtndfhpfhgdamgaaGreatDoorGRuOc
namespace Go.Proofs.YtndfhpfhgdamgaaGreatDoor.Cn
open Go.RowKit
def tkOk (n : Int) : Prop := -9223372036854775808 ≤ n ∧ n < 9223372036854775808
theorem exec_ldR {w : World} {op : Oper} {ρ : Operand → Value} (ty : TypeId) (x : Operand) (ho : op.op = .load ty x) {b : Nat} (hx : ρ x = .pointer (some ⟨b, 0, none⟩)) (A : Array Value) {t : TypeId} (hO : w.heap[b]? = some (.cells A t)) {fs} (hu : Tryz.prog.underlying ty = some (.struct fs)) (hi : (Tryz.prog.info? ty).map (·.size) = some A.size) : (execOp ρ op).run Tryz.prog w = .ok (.value (.agg A)) w := by
  have hl : (Instr.loadAt ty (.pointer (some ⟨b, 0, none⟩))).run Tryz.prog w = .ok (.agg A) w := by
    simp only [Instr.loadAt, Instr.sureAddr, Sem.run_bind, Sem.run_pure, Result.andThen]
    exact run_loadVar_row _ _ t ty A (0, 0) _ hO hu rfl hi
  unfold execOp
  simp only [ho, Sem.run_bind, Sem.run_pure, Result.andThen_ok, hx, hl]
set_option maxHeartbeats 8000000 in
set_option maxRecDepth 100000 in
set_option linter.unusedSimpArgs false in
set_option linter.unusedVariables false in
theorem end_any {w : World} {S N : Nat → Prop} {R base Nb : Nat} {c : Cl} {P : List Gp} {v : Rv} {L : List Mg} {E : List Oc} {p : Gp} (h : RtAt w S R c P v) (hp : p ∈ P) (hn : NwAt w base N Nb L E) (o : Oc) (hE : E.length ≤ 1000000) (ht : tkOk p.g.tk) (hb : base ≤ w.heap.size) :
    Calls Tryz.prog 70 #[.pointer (some ⟨R, 0, none⟩), .pointer (some ⟨p.b, 0, none⟩), .agg (ocV o), .pointer (some ⟨Nb, 0, none⟩)] w fun e w' => e = .returned (.tuple #[]) ∧ ∃ S' N', RtAt w' S' R c (goneP P p.g.tk) v ∧ NwAt w' base N' Nb L (E ++ [{ o with tk := p.g.tk, key := p.g.key }]) ∧ Kp w w' (fun k => S k ∨ N k) ∧ (∀ k, S' k → S k) ∧ (∀ k, N' k → N k ∨ w.heap.size ≤ k) := by
  have AP := h.apart hn
  obtain ⟨D, M, S1, Kb, ao, nb, no, ncap, pv, hx, hS⟩ := h
  obtain ⟨vo, ve, hnx, hN⟩ := hn
  obtain ⟨B0, hB0⟩ : ∃ B0, B0 = w.heap.size := ⟨_, rfl⟩
  obtain ⟨W0, hW0⟩ : ∃ W0, W0 = w.alloc (.cells (ocV o) 96) := ⟨_, rfl⟩
  have k0 : Kp w W0 non := by rw [hW0]; exact (Kp.refl w non).alloc _
  have hO0 : W0.heap[B0]? = some (.cells (ocV o) 96) := by rw [hW0, hB0]; exact heap_last _ _
  have x0 := hx.kp k0 (fun _ _ f => f)
  have n0 := hnx.kp k0 (fun _ _ f => f)
  have K0 := hide k0
  obtain ⟨X1, R1, m1, k1⟩ := Mp.del (ty := 0) ((x0.map.kp ((Kp.refl W0 non).drew) (fun f => f))) Tryz.underlying83 (k := p.g.tk) ht
  have R1 : (Builtin.delete_ #[83, 3] 0 #[.map (some M), .int .i64 p.g.tk]).run Tryz.prog W0.drew = .ok (.tuple #[]) X1 := R1
  have kd : Kp W0 X1 (fun b => b = M) := ((Kp.refl W0 (fun b => b = M)).drew).trans k1 (fun _ e => Or.inl e)
  have X1X := hide (x0.del m1 kd)
  have pX : Hid (p ∈ P) := hp
  obtain ⟨q1, q2, q3, q4, q5, q6, q7, q8, q9⟩ := x0.ne_b hp
  have g1 : GpAt X1 p := (x0.gts p hp).kp kd q4 q5
  have hMN : ∀ k, NwS Nb vo ve k → ¬ k = M := fun k hk e => AP M ((hS M).2 (Or.inr (Or.inr (Or.inl rfl)))) ((hN M).2 (e ▸ hk))
  have N1 := hide (n0.kp kd hMN)
  have hBM : B0 ≠ M := fun e => x0.map.kind (e ▸ hO0)
  have O1 : Hid (X1.heap[B0]? = some (.cells (ocV o) 96)) := (kd.block _ (blk_lt hO0) hBM).trans hO0
  have C1 : Hid (W0.cell? ⟨R, 26, none⟩ = some (.map (some M)) ∧ W0.cell? ⟨p.b, 0, none⟩ = some (.int .i64 p.g.tk)) := ⟨x0.cells.2.2.2.2.2.2, (x0.gts p hp).cells.1⟩
  have C2 : Hid (X1.cell? ⟨R, 26, none⟩ = some (.map (some M)) ∧ X1.cell? ⟨p.b, 0, none⟩ = some (.int .i64 p.g.tk)) := ⟨X1X.out.cells.2.2.2.2.2.2, g1.cells.1⟩
  have C3 : Hid (X1.cell? ⟨p.b, 1, none⟩ = some (.string p.g.key)) := g1.cells.2.1
  have KD := hide kd
  have kB : Hid (∀ k, NwS Nb vo ve k → k ≠ B0) := fun k hk e => by
    have : k < w.heap.size := by
      obtain ⟨_, A, t, q, _⟩ := hnx.kind hk
      exact blk_lt q
    omega
  have AP2 : Hid (∀ k, RtS R M S1 Kb P k → ¬ NwS Nb vo ve k) := fun k h1 h2 => AP k ((hS k).2 h1) ((hN k).2 h2)
  have HS := hide hS
  have HN := hide hN
  have PB : Hid (p.b ≠ B0) := fun e => by have := blk_lt (hx.gts p hp).blk; omega
  have SB : Hid (∀ k, RtS R M S1 Kb P k → k < B0) := fun k hk => by
    obtain ⟨oo, e, _⟩ := hx.kind hk
    have := blk_lt e
    omega
  obtain ⟨o', ho'⟩ : ∃ o' : Oc, o' = { o with tk := p.g.tk, key := p.g.key } := ⟨_, rfl⟩
  rw [← ho']
  have HO' := hide ho'
  generalize p.g.tk = tk at *
  generalize p.g.key = key at *
  generalize p.b = pb at *
  have HB0 := hide hB0
  clear hB0 hx hnx x0 n0 m1 k1 kd g1 hMN hN hS AP ho' hp
  go_enter Tryz.func70, Tryz.ntmps70
  go_upto_region 1 with fail
  rw [← hW0, ← HB0.out]
  clear hW0
  refine wp_region_held_drew (S := fun X => X.cell? ⟨R, 26, none⟩ = some (.map (some M)) ∧ X.cell? ⟨pb, 0, none⟩ = some (.int .i64 tk)) (by kernel_rfl) C1.out (fun hHeld => ?_)
  refine wpAnyH_take (i := 0) (v := (.pointer (some ⟨R, 0, none⟩))) rfl (by kernel_rfl) (by kernel_rfl) (by kernel_rfl) (fun _ _ _ h => h) (Or.inl ⟨by rfl, ?_⟩) (by assumption) ?_
  · intro w' hSw
    (try dsimp only at hSw)
    go_simp
  (try simp only [Act.put, List.getElem_toArray, List.getElem_cons_zero, List.getElem_cons_succ, List.setIfInBounds_toArray, List.set_cons_zero, List.set_cons_succ])
  refine wpAnyH_take (i := 1) (v := (.pointer (some ⟨R, 0, none⟩))) rfl (by kernel_rfl) (by kernel_rfl) (by kernel_rfl) (fun _ _ _ h => h) (Or.inl ⟨by rfl, ?_⟩) (by assumption) ?_
  · intro w' hSw
    (try dsimp only at hSw)
    go_simp
  (try simp only [Act.put, List.getElem_toArray, List.getElem_cons_zero, List.getElem_cons_succ, List.setIfInBounds_toArray, List.set_cons_zero, List.set_cons_succ])
  refine wpAnyH_take (i := 2) (v := (.pointer (some ⟨R, 26, none⟩))) rfl (by kernel_rfl) (by kernel_rfl) (by kernel_rfl) (fun _ _ _ h => h) (Or.inl ⟨by rfl, ?_⟩) (by assumption) ?_
  · intro w' hSw
    (try dsimp only at hSw)
    go_simp
  (try simp only [Act.put, List.getElem_toArray, List.getElem_cons_zero, List.getElem_cons_succ, List.setIfInBounds_toArray, List.set_cons_zero, List.set_cons_succ])
  refine wpAnyH_take (i := 3) (v := (.map (some M))) rfl (by kernel_rfl) (by kernel_rfl) (by kernel_rfl) (fun _ _ _ h => h) (Or.inl ⟨by rfl, ?_⟩) (by assumption) ?_
  · intro w' hSw
    (try dsimp only at hSw)
    (have hs1 := hSw.1; go_simp)
  (try simp only [Act.put, List.getElem_toArray, List.getElem_cons_zero, List.getElem_cons_succ, List.setIfInBounds_toArray, List.set_cons_zero, List.set_cons_succ])
  refine wpAnyH_take (i := 4) (v := (.pointer (some ⟨pb, 0, none⟩))) rfl (by kernel_rfl) (by kernel_rfl) (by kernel_rfl) (fun _ _ _ h => h) (Or.inl ⟨by rfl, ?_⟩) (by assumption) ?_
  · intro w' hSw
    (try dsimp only at hSw)
    go_simp
  (try simp only [Act.put, List.getElem_toArray, List.getElem_cons_zero, List.getElem_cons_succ, List.setIfInBounds_toArray, List.set_cons_zero, List.set_cons_succ])
  refine wpAnyH_take (i := 5) (v := (.pointer (some ⟨pb, 0, none⟩))) rfl (by kernel_rfl) (by kernel_rfl) (by kernel_rfl) (fun _ _ _ h => h) (Or.inl ⟨by rfl, ?_⟩) (by assumption) ?_
  · intro w' hSw
    (try dsimp only at hSw)
    go_simp
  (try simp only [Act.put, List.getElem_toArray, List.getElem_cons_zero, List.getElem_cons_succ, List.setIfInBounds_toArray, List.set_cons_zero, List.set_cons_succ])
  refine wpAnyH_take (i := 6) (v := (.pointer (some ⟨pb, 0, none⟩))) rfl (by kernel_rfl) (by kernel_rfl) (by kernel_rfl) (fun _ _ _ h => h) (Or.inl ⟨by rfl, ?_⟩) (by assumption) ?_
  · intro w' hSw
    (try dsimp only at hSw)
    go_simp
  (try simp only [Act.put, List.getElem_toArray, List.getElem_cons_zero, List.getElem_cons_succ, List.setIfInBounds_toArray, List.set_cons_zero, List.set_cons_succ])
  refine wpAnyH_take (i := 7) (v := (.int .i64 tk)) rfl (by kernel_rfl) (by kernel_rfl) (by kernel_rfl) (fun _ _ _ h => h) (Or.inl ⟨by rfl, ?_⟩) (by assumption) ?_
  · intro w' hSw
    (try dsimp only at hSw)
    (have hs2 := hSw.2; go_simp)
  (try simp only [Act.put, List.getElem_toArray, List.getElem_cons_zero, List.getElem_cons_succ, List.setIfInBounds_toArray, List.set_cons_zero, List.set_cons_succ])
  refine wpAnyH_ready (rs := [8]) (by kernel_rfl) (by simp) ?_
  refine AllReadyH.cons rfl (fun K hK => ?_) AllReadyH.nil
  go_simp
  refine hK.out _ _ (C2.out) (fun hHeld => ?_)
  clear hK
  (try simp only [Act.put, List.setIfInBounds_toArray, List.set_cons_zero, List.set_cons_succ])
  refine wpAnyH_done (by kernel_rfl) ?_ _
  clear C1 hHeld R1
  obtain ⟨Y1, hY1⟩ : ∃ Y1, Y1 = (X1.setCell ⟨B0, 0, none⟩ (.int .i64 tk)).drew := ⟨_, rfl⟩
  obtain ⟨Y2, hY2⟩ : ∃ Y2, Y2 = Y1.setCell ⟨B0, 1, none⟩ (.string key) := ⟨_, rfl⟩
  have oy1 : Y1.heap[B0]? = some (.cells (ocV { o with tk := tk }) 96) := by
    rw [hY1]
    refine (heap_setCell X1 B0 0 (.int .i64 tk) _ _ _ O1.out).trans ?_
    rfl
  have oy2 : Y2.heap[B0]? = some (.cells (ocV o') 96) := by
    rw [hY2, heap_setCell _ _ _ _ _ _ _ oy1, HO'.out]
    rfl
  have ky1 : Kp X1 Y1 (fun k => k = B0) := by rw [hY1]; exact ((Kp.refl X1 (fun k => k = B0)).set (Or.inl rfl) _ _).drew
  have ky2 : Kp X1 Y2 (fun k => k = B0) := by rw [hY2]; exact ky1.set (Or.inl rfl) _ _
  have pl : pb < X1.heap.size := World.block_lt_of_cell? X1 _ C3.out
  have F1 : Hid (Y1.cell? ⟨pb, 0, none⟩ = some (.int .i64 tk) ∧ Y1.cell? ⟨pb, 1, none⟩ = some (.string key)) := ⟨(ky1.cell pl PB.out).trans C2.out.2, (ky1.cell pl PB.out).trans C3.out⟩
  have F2 : Hid (Y2.cell? ⟨pb, 0, none⟩ = some (.int .i64 tk) ∧ Y2.cell? ⟨pb, 1, none⟩ = some (.string key)) := ⟨(ky2.cell pl PB.out).trans C2.out.2, (ky2.cell pl PB.out).trans C3.out⟩
  have z1 : X1.cell? ⟨B0, 0, none⟩ = some (.int .i64 o.tk) := by rw [cell_row O1.out]; rfl
  have z2 : X1.frozen? ⟨B0, 0, none⟩ = false := fz_row O1.out 0
  have z3 : Y1.cell? ⟨B0, 1, none⟩ = some (.string o.key) := by rw [cell_row oy1]; rfl
  have z4 : Y1.frozen? ⟨B0, 1, none⟩ = false := fz_row oy1 1
  have OY2 := hide oy2
  have XY2 : Hid (RtX Y2 R c (goneP P tk) v D M S1 Kb ao nb no ncap pv) := X1X.out.kp ky2 (fun k hk e => by have := SB.out k (RtS.del hk); omega)
  have NY2 : Hid (NwX Y2 base Nb vo ve L E) := N1.out.kp ky2 (fun k hk e => kB.out k hk e)
  have KY2 := hide ky2
  clear oy1 oy2 ky1 ky2
  go_upto_region 2 with fail
  refine wp_region_held_drew (S := fun X => X.cell? ⟨pb, 0, none⟩ = some (.int .i64 tk) ∧ X.cell? ⟨pb, 1, none⟩ = some (.string key)) (by kernel_rfl) ⟨C2.out.2, C3.out⟩ (fun hHeld => ?_)
  refine wpAnyH_take (i := 0) (v := (.pointer (some ⟨pb, 0, none⟩))) rfl (by kernel_rfl) (by kernel_rfl) (by kernel_rfl) (fun _ _ _ h => h) (Or.inl ⟨by rfl, ?_⟩) (by assumption) ?_
  · intro w' hSw
    (try dsimp only at hSw)
    go_simp
  (try simp only [Act.put, List.getElem_toArray, List.getElem_cons_zero, List.getElem_cons_succ, List.setIfInBounds_toArray, List.set_cons_zero, List.set_cons_succ])
  refine wpAnyH_take (i := 1) (v := (.pointer (some ⟨pb, 0, none⟩))) rfl (by kernel_rfl) (by kernel_rfl) (by kernel_rfl) (fun _ _ _ h => h) (Or.inl ⟨by rfl, ?_⟩) (by assumption) ?_
  · intro w' hSw
    (try dsimp only at hSw)
    go_simp
  (try simp only [Act.put, List.getElem_toArray, List.getElem_cons_zero, List.getElem_cons_succ, List.setIfInBounds_toArray, List.set_cons_zero, List.set_cons_succ])
  refine wpAnyH_take (i := 2) (v := (.pointer (some ⟨pb, 0, none⟩))) rfl (by kernel_rfl) (by kernel_rfl) (by kernel_rfl) (fun _ _ _ h => h) (Or.inl ⟨by rfl, ?_⟩) (by assumption) ?_
  · intro w' hSw
    (try dsimp only at hSw)
    go_simp
  (try simp only [Act.put, List.getElem_toArray, List.getElem_cons_zero, List.getElem_cons_succ, List.setIfInBounds_toArray, List.set_cons_zero, List.set_cons_succ])
  refine wpAnyH_take (i := 3) (v := (.int .i64 tk)) rfl (by kernel_rfl) (by kernel_rfl) (by kernel_rfl) (fun _ _ _ h => h) (Or.inl ⟨by rfl, ?_⟩) (by assumption) ?_
  · intro w' hSw
    (try dsimp only at hSw)
    (have hs2 := hSw.1; go_simp)
  (try simp only [Act.put, List.getElem_toArray, List.getElem_cons_zero, List.getElem_cons_succ, List.setIfInBounds_toArray, List.set_cons_zero, List.set_cons_succ])
  refine wpAnyH_take (i := 4) (v := (.pointer (some ⟨pb, 0, none⟩))) rfl (by kernel_rfl) (by kernel_rfl) (by kernel_rfl) (fun _ _ _ h => h) (Or.inl ⟨by rfl, ?_⟩) (by assumption) ?_
  · intro w' hSw
    (try dsimp only at hSw)
    go_simp
  (try simp only [Act.put, List.getElem_toArray, List.getElem_cons_zero, List.getElem_cons_succ, List.setIfInBounds_toArray, List.set_cons_zero, List.set_cons_succ])
  refine wpAnyH_take (i := 5) (v := (.pointer (some ⟨pb, 0, none⟩))) rfl (by kernel_rfl) (by kernel_rfl) (by kernel_rfl) (fun _ _ _ h => h) (Or.inl ⟨by rfl, ?_⟩) (by assumption) ?_
  · intro w' hSw
    (try dsimp only at hSw)
    go_simp
  (try simp only [Act.put, List.getElem_toArray, List.getElem_cons_zero, List.getElem_cons_succ, List.setIfInBounds_toArray, List.set_cons_zero, List.set_cons_succ])
  refine wpAnyH_take (i := 6) (v := (.pointer (some ⟨pb, 1, none⟩))) rfl (by kernel_rfl) (by kernel_rfl) (by kernel_rfl) (fun _ _ _ h => h) (Or.inl ⟨by rfl, ?_⟩) (by assumption) ?_
  · intro w' hSw
    (try dsimp only at hSw)
    go_simp
  (try simp only [Act.put, List.getElem_toArray, List.getElem_cons_zero, List.getElem_cons_succ, List.setIfInBounds_toArray, List.set_cons_zero, List.set_cons_succ])
  refine wpAnyH_take (i := 7) (v := (.string key)) rfl (by kernel_rfl) (by kernel_rfl) (by kernel_rfl) (fun _ _ _ h => h) (Or.inl ⟨by rfl, ?_⟩) (by assumption) ?_
  · intro w' hSw
    (try dsimp only at hSw)
    (have hs2 := hSw.2; go_simp)
  (try simp only [Act.put, List.getElem_toArray, List.getElem_cons_zero, List.getElem_cons_succ, List.setIfInBounds_toArray, List.set_cons_zero, List.set_cons_succ])
  refine wpAnyH_take (i := 8) (v := (.pointer (some ⟨B0, 0, none⟩))) rfl (by kernel_rfl) (by kernel_rfl) (by kernel_rfl) (fun _ _ _ h => h) (Or.inl ⟨by rfl, ?_⟩) (by assumption) ?_
  · intro w' hSw
    (try dsimp only at hSw)
    go_simp
  (try simp only [Act.put, List.getElem_toArray, List.getElem_cons_zero, List.getElem_cons_succ, List.setIfInBounds_toArray, List.set_cons_zero, List.set_cons_succ])
  refine wpAnyH_ready (rs := [9]) (by kernel_rfl) (by simp) ?_
  refine AllReadyH.cons rfl (fun K hK => ?_) AllReadyH.nil
  go_simp
  rw [← hY1]
  clear hY1 z1 z2
  refine hK.out _ _ (F1.out) (fun hHeld => ?_)
  clear hK
  (try simp only [Act.put, List.setIfInBounds_toArray, List.set_cons_zero, List.set_cons_succ])
  refine wpAnyH_take (i := 10) (v := (.pointer (some ⟨B0, 1, none⟩))) rfl (by kernel_rfl) (by kernel_rfl) (by kernel_rfl) (fun _ _ _ h => h) (Or.inl ⟨by rfl, ?_⟩) (by assumption) ?_
  · intro w' hSw
    (try dsimp only at hSw)
    go_simp
  (try simp only [Act.put, List.getElem_toArray, List.getElem_cons_zero, List.getElem_cons_succ, List.setIfInBounds_toArray, List.set_cons_zero, List.set_cons_succ])
  refine wpAnyH_ready (rs := [11]) (by kernel_rfl) (by simp) ?_
  refine AllReadyH.cons rfl (fun K hK => ?_) AllReadyH.nil
  go_simp
  rw [← hY2]
  clear hY2 z3 z4
  refine hK.out _ _ (F2.out) (fun hHeld => ?_)
  clear hK
  (try simp only [Act.put, List.setIfInBounds_toArray, List.set_cons_zero, List.set_cons_succ])
  refine wpAnyH_done (by kernel_rfl) ?_ _
  clear F1 F2 C2 C3 hHeld O1 X1X N1
  have d1 : Y2.cell? ⟨Nb, 1, none⟩ = some ve := by rw [cell_row NY2.out.blk]; rfl
  obtain ⟨ea, ec, hve⟩ := own_sl NY2.out.ends
  subst hve
  obtain ⟨J, hJ⟩ : ∃ J, J = Y2.heap.size := ⟨_, rfl⟩
  obtain ⟨Y3, hY3⟩ : ∃ Y3, Y3 = (Y2.drew).alloc (.cells (ocV o') 96) := ⟨_, rfl⟩
  have ky3 : Kp Y2 Y3 non := by rw [hY3]; exact ((Kp.refl Y2 non).drew).alloc _
  have J3 : Hid (Y3.heap[J]? = some (.cells (ocV o') 96)) := by rw [hY3, hJ]; exact heap_last _ _
  have N3 := hide (NY2.out.kp ky3 (fun _ _ f => f))
  have X3 := hide (XY2.out.kp ky3 (fun _ _ f => f))
  have D2 : Hid (Y2.cell? ⟨Nb, 1, none⟩ = some (.slice ea E.length ec) ∧ Y2.heap[B0]? = some (.cells (ocV o') 96)) := ⟨d1, OY2.out⟩
  have D3 : Hid (Y3.cell? ⟨Nb, 1, none⟩ = some (.slice ea E.length ec) ∧ Y3.heap[B0]? = some (.cells (ocV o') 96)) := ⟨(ky3.cell (blk_lt NY2.out.blk) (fun f => f)).trans d1, (ky3.block _ (blk_lt OY2.out) (fun f => f)).trans OY2.out⟩
  have KY3 := hide ky3
  clear ky3 d1
  go_upto_region 3 with fail
  refine wp_region_held_drew (S := fun X => X.heap[B0]? = some (.cells (ocV o') 96)) (by kernel_rfl) D2.out.2 (fun hHeld => ?_)
  refine wpAnyH_take (i := 0) (v := (.pointer (some ⟨Nb, 0, none⟩))) rfl (by kernel_rfl) (by kernel_rfl) (by kernel_rfl) (fun _ _ _ h => h) (Or.inl ⟨by rfl, ?_⟩) (by assumption) ?_
  · intro w' hSw
    (try dsimp only at hSw)
    go_simp
  (try simp only [Act.put, List.getElem_toArray, List.getElem_cons_zero, List.getElem_cons_succ, List.setIfInBounds_toArray, List.set_cons_zero, List.set_cons_succ])
  refine wpAnyH_take (i := 1) (v := (.pointer (some ⟨Nb, 0, none⟩))) rfl (by kernel_rfl) (by kernel_rfl) (by kernel_rfl) (fun _ _ _ h => h) (Or.inl ⟨by rfl, ?_⟩) (by assumption) ?_
  · intro w' hSw
    (try dsimp only at hSw)
    go_simp
  (try simp only [Act.put, List.getElem_toArray, List.getElem_cons_zero, List.getElem_cons_succ, List.setIfInBounds_toArray, List.set_cons_zero, List.set_cons_succ])
  refine wpAnyH_take (i := 2) (v := (.pointer (some ⟨Nb, 0, none⟩))) rfl (by kernel_rfl) (by kernel_rfl) (by kernel_rfl) (fun _ _ _ h => h) (Or.inl ⟨by rfl, ?_⟩) (by assumption) ?_
  · intro w' hSw
    (try dsimp only at hSw)
    go_simp
  (try simp only [Act.put, List.getElem_toArray, List.getElem_cons_zero, List.getElem_cons_succ, List.setIfInBounds_toArray, List.set_cons_zero, List.set_cons_succ])
  refine wpAnyH_take (i := 3) (v := (.pointer (some ⟨Nb, 1, none⟩))) rfl (by kernel_rfl) (by kernel_rfl) (by kernel_rfl) (fun _ _ _ h => h) (Or.inl ⟨by rfl, ?_⟩) (by assumption) ?_
  · intro w' hSw
    (try dsimp only at hSw)
    go_simp
  (try simp only [Act.put, List.getElem_toArray, List.getElem_cons_zero, List.getElem_cons_succ, List.setIfInBounds_toArray, List.set_cons_zero, List.set_cons_succ])
  refine wpAnyH_take (i := 5) (v := (.agg (ocV o'))) rfl (by kernel_rfl) (by kernel_rfl) (by kernel_rfl) (fun _ _ _ h => h) (Or.inl ⟨by rfl, ?_⟩) (by assumption) ?_
  · intro w' hSw
    (try dsimp only at hSw)
    (exact exec_ldR 96 (.tmp 6) rfl rfl _ hSw Tryz.underlying96 oc_info)
  (try simp only [Act.put, List.getElem_toArray, List.getElem_cons_zero, List.getElem_cons_succ, List.setIfInBounds_toArray, List.set_cons_zero, List.set_cons_succ])
  refine wpAnyH_ready (rs := [4, 6]) (by kernel_rfl) (by simp) ?_
  refine AllReadyH.cons rfl (fun K hK => ?_) (AllReadyH.cons rfl (fun K hK => ?_) AllReadyH.nil)
  · have c2 := D2.out.1
    go_simp
    refine hK.out _ _ (D2.out.2) (fun hHeld => ?_)
    clear hK
    (try simp only [Act.put, List.setIfInBounds_toArray, List.set_cons_zero, List.set_cons_succ])
    refine wpAnyH_ready (rs := [6]) (by kernel_rfl) (by simp) ?_
    refine AllReadyH.cons rfl (fun K hK => ?_) AllReadyH.nil
    refine wp_bsO (.tmp 31) rfl o' rfl ?_
    rw [← hY3]
    clear hY3 c2
    refine hK.out _ _ (D3.out.2) (fun hHeld => ?_)
    clear hK
    (try simp only [Act.put, List.setIfInBounds_toArray, List.set_cons_zero, List.set_cons_succ])
    refine wpAnyH_ready (rs := [7]) (by kernel_rfl) (by simp) ?_
    refine AllReadyH.cons rfl (fun K hK => ?_) AllReadyH.nil
    have hJb : base ≤ Y3.heap.size := Nat.le_trans hb (Nat.le_trans (by rw [← HB0.out]; exact Nat.le_of_lt (blk_lt D3.out.2)) (Nat.le_refl _))
    refine wp_apO (.tmp 30) (.tmp 32) rfl base (.slice ea E.length ec) E rfl N3.out.ends J o' (by rw [hJ]; rfl) J3.out (by omega) hJb ?_
    intro ve' Y4 ho hg hnb
    obtain ⟨e4, n5, k5, s5⟩ := N3.out.end1 ho hg hnb
    obtain ⟨ba, cp, rfl⟩ := own_sl ho
    have kg := Kp.of_grown hg
    have c4 : Y4.cell? ⟨Nb, 1, none⟩ = some (.slice ea E.length ec) := (kg.cell (blk_lt N3.out.blk) (fun e => N3.out.ne_ends e.symm)).trans D3.out.1
    have D4 : Hid (Y4.heap[B0]? = some (.cells (ocV o') 96)) := (kg.block _ (blk_lt D3.out.2) (fun e => kB.out B0 (Or.inr (Or.inr e.symm)) rfl)).trans D3.out.2
    have D5 : Hid ((Y4.setCell ⟨Nb, 1, none⟩ (.slice ba (E.length + 1) cp)).heap[B0]? = some (.cells (ocV o') 96)) := (((Kp.refl Y4 (fun k => k = Nb)).set (Or.inl rfl) _ _).block _ (blk_lt D4.out) (fun e => kB.out B0 (Or.inl e) rfl)).trans D4.out
    have f4 : Y4.frozen? ⟨Nb, 1, none⟩ = false := fz_row (e4.trans N3.out.blk) 1
    have X5 := hide (X3.out.kp k5 (fun k hk e => by
      have h1 := SB.out k (RtS.del hk)
      obtain ⟨_, A, t, q, _⟩ := N3.out.kind e
      exact AP2.out k (RtS.del hk) e))
    have N5 := hide n5
    have K5 := hide k5
    have S5 := hide s5
    clear ho hg hnb n5 k5 s5 kg e4 J3 hJb
    refine hK.out _ _ (D4.out) (fun hHeld => ?_)
    clear hK
    (try simp only [Act.put, List.setIfInBounds_toArray, List.set_cons_zero, List.set_cons_succ])
    refine wpAnyH_take (i := 8) (v := (.pointer (some ⟨Nb, 0, none⟩))) rfl (by kernel_rfl) (by kernel_rfl) (by kernel_rfl) (fun _ _ _ h => h) (Or.inl ⟨by rfl, ?_⟩) (by assumption) ?_
    · intro w' hSw
      (try dsimp only at hSw)
      go_simp
    (try simp only [Act.put, List.getElem_toArray, List.getElem_cons_zero, List.getElem_cons_succ, List.setIfInBounds_toArray, List.set_cons_zero, List.set_cons_succ])
    refine wpAnyH_take (i := 9) (v := (.pointer (some ⟨Nb, 1, none⟩))) rfl (by kernel_rfl) (by kernel_rfl) (by kernel_rfl) (fun _ _ _ h => h) (Or.inl ⟨by rfl, ?_⟩) (by assumption) ?_
    · intro w' hSw
      (try dsimp only at hSw)
      go_simp
    (try simp only [Act.put, List.getElem_toArray, List.getElem_cons_zero, List.getElem_cons_succ, List.setIfInBounds_toArray, List.set_cons_zero, List.set_cons_succ])
    refine wpAnyH_ready (rs := [10]) (by kernel_rfl) (by simp) ?_
    refine AllReadyH.cons rfl (fun K hK => ?_) AllReadyH.nil
    go_simp
    refine hK.out _ _ (D5.out) (fun hHeld => ?_)
    clear hK
    (try simp only [Act.put, List.setIfInBounds_toArray, List.set_cons_zero, List.set_cons_succ])
    refine wpAnyH_done (by kernel_rfl) ?_ _
    refine bodyPost_end (results_none rfl _ _ _) rfl ?_
    refine ⟨rfl, RtS R M S1 Kb (goneP P tk), NwS Nb vo (.slice ba (E.length + 1) cp), ⟨D, M, S1, Kb, ao, nb, no, ncap, pv, X5.out, fun _ => Iff.rfl⟩, ⟨_, _, N5.out, fun _ => Iff.rfl⟩, ?_, fun k hk => (HS.out k).2 (RtS.del hk), fun k hk => ?_⟩
    · have s3 : Y2.heap.size ≤ Y3.heap.size := KY3.out.size
      have a1 : Kp w X1 (fun k => S k ∨ N k) := (K0.out.mono (fun _ f => f.elim)).trans KD.out (fun k e => Or.inl (Or.inl ((HS.out k).2 (Or.inr (Or.inr (Or.inl e))))))
      have a2 : Kp w Y2 (fun k => S k ∨ N k) := a1.trans KY2.out (fun k e => Or.inr (by rw [e, HB0.out]; exact Nat.le_refl _))
      have a3 : Kp w Y3 (fun k => S k ∨ N k) := a2.trans KY3.out (fun k e => e.elim)
      exact a3.trans K5.out (fun k e => Or.inl (Or.inr ((HN.out k).2 e)))
    · have h1 := KD.out.size
      have h2 := KY2.out.size
      have h3 := KY3.out.size
      have h0 := K0.out.size
      rcases S5.out k hk with q | q
      · exact Or.inl ((HN.out k).2 q)
      · exact Or.inr (by omega)
  · refine wp_bsO (.tmp 31) rfl o' rfl ?_
    rw [← hY3]
    clear hY3
    refine hK.out _ _ (D3.out.2) (fun hHeld => ?_)
    clear hK
    (try simp only [Act.put, List.setIfInBounds_toArray, List.set_cons_zero, List.set_cons_succ])
    refine wpAnyH_ready (rs := [4]) (by kernel_rfl) (by simp) ?_
    refine AllReadyH.cons rfl (fun K hK => ?_) AllReadyH.nil
    have c3 := D3.out.1
    go_simp
    clear c3
    refine hK.out _ _ (D3.out.2) (fun hHeld => ?_)
    clear hK
    (try simp only [Act.put, List.setIfInBounds_toArray, List.set_cons_zero, List.set_cons_succ])
    refine wpAnyH_ready (rs := [7]) (by kernel_rfl) (by simp) ?_
    refine AllReadyH.cons rfl (fun K hK => ?_) AllReadyH.nil
    have hJb : base ≤ Y3.heap.size := Nat.le_trans hb (Nat.le_trans (by rw [← HB0.out]; exact Nat.le_of_lt (blk_lt D3.out.2)) (Nat.le_refl _))
    refine wp_apO (.tmp 30) (.tmp 32) rfl base (.slice ea E.length ec) E rfl N3.out.ends J o' (by rw [hJ]; rfl) J3.out (by omega) hJb ?_
    intro ve' Y4 ho hg hnb
    obtain ⟨e4, n5, k5, s5⟩ := N3.out.end1 ho hg hnb
    obtain ⟨ba, cp, rfl⟩ := own_sl ho
    have kg := Kp.of_grown hg
    have c4 : Y4.cell? ⟨Nb, 1, none⟩ = some (.slice ea E.length ec) := (kg.cell (blk_lt N3.out.blk) (fun e => N3.out.ne_ends e.symm)).trans D3.out.1
    have D4 : Hid (Y4.heap[B0]? = some (.cells (ocV o') 96)) := (kg.block _ (blk_lt D3.out.2) (fun e => kB.out B0 (Or.inr (Or.inr e.symm)) rfl)).trans D3.out.2
    have D5 : Hid ((Y4.setCell ⟨Nb, 1, none⟩ (.slice ba (E.length + 1) cp)).heap[B0]? = some (.cells (ocV o') 96)) := (((Kp.refl Y4 (fun k => k = Nb)).set (Or.inl rfl) _ _).block _ (blk_lt D4.out) (fun e => kB.out B0 (Or.inl e) rfl)).trans D4.out
    have f4 : Y4.frozen? ⟨Nb, 1, none⟩ = false := fz_row (e4.trans N3.out.blk) 1
    have X5 := hide (X3.out.kp k5 (fun k hk e => by
      have h1 := SB.out k (RtS.del hk)
      obtain ⟨_, A, t, q, _⟩ := N3.out.kind e
      exact AP2.out k (RtS.del hk) e))
    have N5 := hide n5
    have K5 := hide k5
    have S5 := hide s5
    clear ho hg hnb n5 k5 s5 kg e4 J3 hJb
    refine hK.out _ _ (D4.out) (fun hHeld => ?_)
    clear hK
    (try simp only [Act.put, List.setIfInBounds_toArray, List.set_cons_zero, List.set_cons_succ])
    refine wpAnyH_take (i := 8) (v := (.pointer (some ⟨Nb, 0, none⟩))) rfl (by kernel_rfl) (by kernel_rfl) (by kernel_rfl) (fun _ _ _ h => h) (Or.inl ⟨by rfl, ?_⟩) (by assumption) ?_
    · intro w' hSw
      (try dsimp only at hSw)
      go_simp
    (try simp only [Act.put, List.getElem_toArray, List.getElem_cons_zero, List.getElem_cons_succ, List.setIfInBounds_toArray, List.set_cons_zero, List.set_cons_succ])
    refine wpAnyH_take (i := 9) (v := (.pointer (some ⟨Nb, 1, none⟩))) rfl (by kernel_rfl) (by kernel_rfl) (by kernel_rfl) (fun _ _ _ h => h) (Or.inl ⟨by rfl, ?_⟩) (by assumption) ?_
    · intro w' hSw
      (try dsimp only at hSw)
      go_simp
    (try simp only [Act.put, List.getElem_toArray, List.getElem_cons_zero, List.getElem_cons_succ, List.setIfInBounds_toArray, List.set_cons_zero, List.set_cons_succ])
    refine wpAnyH_ready (rs := [10]) (by kernel_rfl) (by simp) ?_
    refine AllReadyH.cons rfl (fun K hK => ?_) AllReadyH.nil
    go_simp
    refine hK.out _ _ (D5.out) (fun hHeld => ?_)
    clear hK
    (try simp only [Act.put, List.setIfInBounds_toArray, List.set_cons_zero, List.set_cons_succ])
    refine wpAnyH_done (by kernel_rfl) ?_ _
    refine bodyPost_end (results_none rfl _ _ _) rfl ?_
    refine ⟨rfl, RtS R M S1 Kb (goneP P tk), NwS Nb vo (.slice ba (E.length + 1) cp), ⟨D, M, S1, Kb, ao, nb, no, ncap, pv, X5.out, fun _ => Iff.rfl⟩, ⟨_, _, N5.out, fun _ => Iff.rfl⟩, ?_, fun k hk => (HS.out k).2 (RtS.del hk), fun k hk => ?_⟩
    · have s3 : Y2.heap.size ≤ Y3.heap.size := KY3.out.size
      have a1 : Kp w X1 (fun k => S k ∨ N k) := (K0.out.mono (fun _ f => f.elim)).trans KD.out (fun k e => Or.inl (Or.inl ((HS.out k).2 (Or.inr (Or.inr (Or.inl e))))))
      have a2 : Kp w Y2 (fun k => S k ∨ N k) := a1.trans KY2.out (fun k e => Or.inr (by rw [e, HB0.out]; exact Nat.le_refl _))
      have a3 : Kp w Y3 (fun k => S k ∨ N k) := a2.trans KY3.out (fun k e => e.elim)
      exact a3.trans K5.out (fun k e => Or.inl (Or.inr ((HN.out k).2 e)))
    · have h1 := KD.out.size
      have h2 := KY2.out.size
      have h3 := KY3.out.size
      have h0 := K0.out.size
      rcases S5.out k hk with q | q
      · exact Or.inl ((HN.out k).2 q)
      · exact Or.inr (by omega)
end Go.Proofs.YtndfhpfhgdamgaaGreatDoor.Cn
