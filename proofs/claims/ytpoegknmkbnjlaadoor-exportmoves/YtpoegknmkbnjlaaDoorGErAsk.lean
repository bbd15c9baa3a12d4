import Derived.Test.YtpoegknmkbnjlaaDoorGGkRound
import Derived.Test.YtpoegknmkbnjlaaDoorEpCalls
namespace Go.Proofs.YtpoegknmkbnjlaaDoor.Cn
open Go.RowKit
theorem ite_yes {p : Prop} [Decidable p] {A B : Prop} (hp : p) (h : A) : if p then A else B := by rw [if_pos hp]; exact h
theorem wp_apM {w : World} {o : Oper} {a : Act} {K : Act → World → Prop} {Q : Exit → Act → World → Prop} (x y : Operand) (ho : o.op = .call { callee := .builtin .append, args := #[x, y], argTypes := #[29, 29] }) (base : Nat) (v : Value) (L : List Mg) (hx : a.eval x = v) (hv : w.ownsRow base 36 11 v L.length (mgs L)) (g : Nat) (m : Mg) (hy : a.eval y = .slice (some ⟨g, 0, none⟩) 1 1) (hg : w.heap[g]? = some (.cells (mgV m) 36)) (hl : L.length ≤ 1000000000000) (hb : base ≤ w.heap.size)
    (h : ∀ v' w', w'.ownsRow base 36 11 v' (L.length + 1) (mgs (L ++ [m])) → w.grownBy w' v.ownBlock → (v'.ownBlock = v.ownBlock ∨ v'.ownBlock = some w.heap.size) → K (a.put o.dst v') w') : o.wp Tryd.prog a w K Q := by
  obtain ⟨i0, hi, hz0, hz1, hz2⟩ := mg_parts mg_infos
  obtain ⟨v', w', hr, h2, h3, _, h5⟩ := run_append_own_at (P := Tryd.prog) w base 29 o.type 36 i0 _ 11 104 Tryd.underlying29 hi hz0 hz1 hz2 rfl (by decide) v L.length (mgs L) hv ⟨g, 0, none⟩ 1 1 (mgs [m]) (by rw [mgs_one]; rfl) (by
    rw [mgs_one]
    intro j u hj
    rw [Addr.add_mid, Nat.zero_add, cell_row hg]
    simpa using hj) (mgs_oneCell _) (mg_room hl).1 (mg_room hl).2 hb
  rw [← mgs_append] at h2
  unfold Oper.wp execOp
  simp only [ho, resolve, invoke, builtin, Sem.run_bind, Sem.run_pure, Result.andThen_ok, List.map_toArray, List.map_cons, List.map_nil, hx, hy, hr]
  exact h v' w' h2 h3 h5
set_option maxHeartbeats 16000000 in
set_option maxRecDepth 100000 in
set_option linter.unusedSimpArgs false in
set_option linter.unusedVariables false in
theorem question_r {w : World} {Y : Nat} {r : Rx} {Z : Zr} (h : RxAt w Y r Z) (hp : r.part < r.rows.length) (hl : r.left < (rowR r).length) (hb : r.of_.length ≤ 1000000) (h64 : r.rows.length ≤ 64) (h16 : (rowR r).length ≤ 16) :
    Calls Tryd.prog 49 #[.pointer (some ⟨Y, 0, none⟩)] w fun e w' => ∃ u, e = .returned u ∧ Out w w' u [qR r] ∧ Lr w w' Y Z (sentR r) Z := by
  obtain ⟨W1, hW1⟩ : ∃ W1, W1 = w.setCell ⟨Y, 9, none⟩ (.int .i64 r.now) := ⟨_, rfl⟩
  have l1 : Lr w W1 Y Z (sentR r) Z := Lr.set h 9 _ hW1 rfl rfl rfl rfl rfl rfl (fun q => q)
  have L1 := hide l1
  obtain ⟨-, -, c2, -, -, -, -, -, -, c9, -⟩ := rx_cells h.blk
  have f9 := fz_row h.blk 9
  obtain ⟨u0, hu0, ho0⟩ := l1.at_.ow.row r.part hp
  have hrow : rowR r = r.rows[r.part] := by unfold rowR; rw [List.getElem?_eq_getElem hp]; rfl
  have o1 := l1.at_.ow.rows
  obtain ⟨rb, rc, hrv⟩ := own_g o1 (by show 0 < r.rows.length; omega)
  obtain ⟨pl, hpl⟩ : ∃ pl, pl = r.rows.length := ⟨_, rfl⟩
  have hrv : Z.rv = .slice (some ⟨rb, 0, none⟩) pl rc := by rw [hpl]; exact hrv
  obtain ⟨row, hrw⟩ : ∃ row, row = rowR r := ⟨_, rfl⟩
  obtain ⟨rn, hrn⟩ : ∃ rn, rn = row.length := ⟨_, rfl⟩
  have ho0 : W1.ownsRow 0 3 1 u0 row.length (ints row) := by rw [hrw, hrow]; exact ho0
  rw [← hrn] at ho0
  rw [← hrw, ← hrn] at hl
  obtain ⟨g, gc, hug⟩ := own_g ho0 (by omega)
  subst hug
  obtain ⟨p, hpp⟩ : ∃ p, p = r.part := ⟨_, rfl⟩
  obtain ⟨lf, hlf⟩ : ∃ lf, lf = r.left := ⟨_, rfl⟩
  rw [← hpp, ← hpl] at hp
  rw [← hlf] at hl
  rw [← hpp] at hu0
  have a1 : W1.cell? ⟨rb, p, none⟩ = some (.slice (some ⟨g, 0, none⟩) rn gc) := by
    obtain ⟨g', c', e1, hc, _⟩ := own_at o1 hu0
    rw [hrv] at e1
    injection e1 with e1
    injection e1 with e1
    injection e1 with e1
    rw [e1]
    exact hc
  obtain ⟨ow, how⟩ : ∃ ow, ow = ownR r := ⟨_, rfl⟩
  have a2 : W1.cell? ⟨g, lf, none⟩ = some (.int .i64 ow) := by
    have hlr : lf < row.length := by rw [← hrn]; exact hl
    have z := ho0.cellAt lf (by omega)
    rw [ints_at2 row lf hlr] at z
    rw [z, how]
    unfold ownR
    rw [← hrw, ← hlf, List.getElem?_eq_getElem hlr]
    rfl
  have S0 : Hid ((fun X : World => X.heap[Y]? = some (.cells (rxA (sentR r) Z) 76) ∧ X.cell? ⟨rb, p, none⟩ = some (.slice (some ⟨g, 0, none⟩) rn gc) ∧ X.cell? ⟨g, lf, none⟩ = some (.int .i64 ow)) W1) := ⟨l1.at_.blk, a1, a2⟩
  obtain ⟨jb, hjb⟩ : ∃ jb, jb = r.job := ⟨_, rfl⟩
  obtain ⟨vr, hvr⟩ : ∃ vr, vr = r.ver := ⟨_, rfl⟩
  obtain ⟨ct, hct⟩ : ∃ ct, ct = cntR r := ⟨_, rfl⟩
  obtain ⟨nw, hnw⟩ : ∃ nw, nw = r.now := ⟨_, rfl⟩
  have RC : Hid (∀ X : World, X.heap[Y]? = some (.cells (rxA (sentR r) Z) 76) → X.cell? ⟨Y, 0, none⟩ = some (.slice (some ⟨rb, 0, none⟩) pl rc) ∧ X.cell? ⟨Y, 7, none⟩ = some (.int .i64 (p : Int)) ∧ X.cell? ⟨Y, 8, none⟩ = some (.int .i64 (lf : Int)) ∧ X.cell? ⟨Y, 3, none⟩ = some (.int .i64 jb) ∧ X.cell? ⟨Y, 4, none⟩ = some (.int .i64 vr)) := fun X hX => by
    obtain ⟨d0, _, _, d3, d4, _, _, d7, d8, _⟩ := rx_cells hX
    rw [hrv] at d0
    rw [hpp, hlf, hjb, hvr]
    exact ⟨d0, d7, d8, d3, d4⟩
  have CT := hide (count_r (l1.at_.kp0 ((Kp.refl W1 non).drew)) hb)
  rw [show cntR (sentR r) = ct from hct.symm] at CT
  have QM : Hid (qR r = ⟨15, 67, ow, jb, 0, (p : Int), vr, (ct : Int), 0, ⟨#[]⟩, ⟨#[]⟩⟩) := by rw [how, hjb, hpp, hvr, hct]; exact rfl
  obtain ⟨mm, hmm⟩ : ∃ mm : Mg, mm = ⟨15, 67, ow, jb, 0, (p : Int), vr, (ct : Int), 0, ⟨#[]⟩, ⟨#[]⟩⟩ := ⟨_, rfl⟩
  have HMM := hide hmm
  have HW1 := hide hW1
  have LE : Hid (w.heap.size ≤ W1.heap.size) := l1.kp.size
  rw [← hnw] at c2 HW1
  have plb : pl ≤ 64 := by rw [hpl]; exact h64
  have rnb : rn ≤ 16 := by rw [hrn, hrw]; exact h16
  have cb : ct ≤ 1000000 := by rw [hct]; exact Nat.le_trans List.countP_le_length hb
  clear h l1 hu0 ho0 hrow o1 hpl hrv hrw hrn hpp hlf a1 a2 how hjb hvr hct hnw hmm hW1 hb h64 h16
  go_enter Tryd.func49, Tryd.ntmps49
  go_upto_region 2 with fail
  rw [← HW1.out]
  clear c2 c9 f9 HW1
  go_upto_region 3 with fail
  refine wp_region_held_drew (S := fun X : World => X.heap[Y]? = some (.cells (rxA (sentR r) Z) 76) ∧ X.cell? ⟨rb, p, none⟩ = some (.slice (some ⟨g, 0, none⟩) rn gc) ∧ X.cell? ⟨g, lf, none⟩ = some (.int .i64 ow)) (by kernel_rfl) S0.out (fun hHeld => ?_)
  refine wTk (i := 0) (v := (.slice none 0 0)) rfl ?_ ?_
  · intro w' hSw
    (try dsimp only at hSw)
    go_simp
  (try simp only [Act.put, List.getElem_toArray, List.getElem_cons_zero, List.getElem_cons_succ, List.setIfInBounds_toArray, List.set_cons_zero, List.set_cons_succ])
  refine wTk (i := 1) (v := (.pointer (some ⟨Y, 0, none⟩))) rfl ?_ ?_
  · intro w' hSw
    (try dsimp only at hSw)
    go_simp
  (try simp only [Act.put, List.getElem_toArray, List.getElem_cons_zero, List.getElem_cons_succ, List.setIfInBounds_toArray, List.set_cons_zero, List.set_cons_succ])
  refine wTk (i := 2) (v := (.pointer (some ⟨Y, 0, none⟩))) rfl ?_ ?_
  · intro w' hSw
    (try dsimp only at hSw)
    go_simp
  (try simp only [Act.put, List.getElem_toArray, List.getElem_cons_zero, List.getElem_cons_succ, List.setIfInBounds_toArray, List.set_cons_zero, List.set_cons_succ])
  refine wTk (i := 3) (v := (.pointer (some ⟨Y, 0, none⟩))) rfl ?_ ?_
  · intro w' hSw
    (try dsimp only at hSw)
    go_simp
  (try simp only [Act.put, List.getElem_toArray, List.getElem_cons_zero, List.getElem_cons_succ, List.setIfInBounds_toArray, List.set_cons_zero, List.set_cons_succ])
  refine wTk (i := 4) (v := (.slice (some ⟨rb, 0, none⟩) pl rc)) rfl ?_ ?_
  · intro w' hSw
    (try dsimp only at hSw)
    (have z := (RC.out _ hSw.1).1; go_simp)
  (try simp only [Act.put, List.getElem_toArray, List.getElem_cons_zero, List.getElem_cons_succ, List.setIfInBounds_toArray, List.set_cons_zero, List.set_cons_succ])
  refine wTk (i := 5) (v := (.pointer (some ⟨Y, 0, none⟩))) rfl ?_ ?_
  · intro w' hSw
    (try dsimp only at hSw)
    go_simp
  (try simp only [Act.put, List.getElem_toArray, List.getElem_cons_zero, List.getElem_cons_succ, List.setIfInBounds_toArray, List.set_cons_zero, List.set_cons_succ])
  refine wTk (i := 6) (v := (.pointer (some ⟨Y, 0, none⟩))) rfl ?_ ?_
  · intro w' hSw
    (try dsimp only at hSw)
    go_simp
  (try simp only [Act.put, List.getElem_toArray, List.getElem_cons_zero, List.getElem_cons_succ, List.setIfInBounds_toArray, List.set_cons_zero, List.set_cons_succ])
  refine wTk (i := 7) (v := (.pointer (some ⟨Y, 7, none⟩))) rfl ?_ ?_
  · intro w' hSw
    (try dsimp only at hSw)
    go_simp
  (try simp only [Act.put, List.getElem_toArray, List.getElem_cons_zero, List.getElem_cons_succ, List.setIfInBounds_toArray, List.set_cons_zero, List.set_cons_succ])
  refine wTk (i := 8) (v := (.int .i64 (p : Int))) rfl ?_ ?_
  · intro w' hSw
    (try dsimp only at hSw)
    (have z := (RC.out _ hSw.1).2.1; go_simp)
  (try simp only [Act.put, List.getElem_toArray, List.getElem_cons_zero, List.getElem_cons_succ, List.setIfInBounds_toArray, List.set_cons_zero, List.set_cons_succ])
  refine wTk (i := 9) (v := (.pointer (some ⟨rb, p, none⟩))) rfl ?_ ?_
  · intro w' hSw
    (try dsimp only at hSw)
    go_simp
  (try simp only [Act.put, List.getElem_toArray, List.getElem_cons_zero, List.getElem_cons_succ, List.setIfInBounds_toArray, List.set_cons_zero, List.set_cons_succ])
  refine wTk (i := 10) (v := (.slice (some ⟨g, 0, none⟩) rn gc)) rfl ?_ ?_
  · intro w' hSw
    (try dsimp only at hSw)
    (have z := hSw.2.1; go_simp)
  (try simp only [Act.put, List.getElem_toArray, List.getElem_cons_zero, List.getElem_cons_succ, List.setIfInBounds_toArray, List.set_cons_zero, List.set_cons_succ])
  refine wTk (i := 11) (v := (.pointer (some ⟨Y, 0, none⟩))) rfl ?_ ?_
  · intro w' hSw
    (try dsimp only at hSw)
    go_simp
  (try simp only [Act.put, List.getElem_toArray, List.getElem_cons_zero, List.getElem_cons_succ, List.setIfInBounds_toArray, List.set_cons_zero, List.set_cons_succ])
  refine wTk (i := 12) (v := (.pointer (some ⟨Y, 0, none⟩))) rfl ?_ ?_
  · intro w' hSw
    (try dsimp only at hSw)
    go_simp
  (try simp only [Act.put, List.getElem_toArray, List.getElem_cons_zero, List.getElem_cons_succ, List.setIfInBounds_toArray, List.set_cons_zero, List.set_cons_succ])
  refine wTk (i := 13) (v := (.pointer (some ⟨Y, 8, none⟩))) rfl ?_ ?_
  · intro w' hSw
    (try dsimp only at hSw)
    go_simp
  (try simp only [Act.put, List.getElem_toArray, List.getElem_cons_zero, List.getElem_cons_succ, List.setIfInBounds_toArray, List.set_cons_zero, List.set_cons_succ])
  refine wTk (i := 14) (v := (.int .i64 (lf : Int))) rfl ?_ ?_
  · intro w' hSw
    (try dsimp only at hSw)
    (have z := (RC.out _ hSw.1).2.2.1; go_simp)
  (try simp only [Act.put, List.getElem_toArray, List.getElem_cons_zero, List.getElem_cons_succ, List.setIfInBounds_toArray, List.set_cons_zero, List.set_cons_succ])
  refine wTk (i := 15) (v := (.pointer (some ⟨g, lf, none⟩))) rfl ?_ ?_
  · intro w' hSw
    (try dsimp only at hSw)
    go_simp
  (try simp only [Act.put, List.getElem_toArray, List.getElem_cons_zero, List.getElem_cons_succ, List.setIfInBounds_toArray, List.set_cons_zero, List.set_cons_succ])
  refine wTk (i := 16) (v := (.int .i64 ow)) rfl ?_ ?_
  · intro w' hSw
    (try dsimp only at hSw)
    (have z := hSw.2.2; go_simp)
  (try simp only [Act.put, List.getElem_toArray, List.getElem_cons_zero, List.getElem_cons_succ, List.setIfInBounds_toArray, List.set_cons_zero, List.set_cons_succ])
  refine wTk (i := 17) (v := (.pointer (some ⟨Y, 0, none⟩))) rfl ?_ ?_
  · intro w' hSw
    (try dsimp only at hSw)
    go_simp
  (try simp only [Act.put, List.getElem_toArray, List.getElem_cons_zero, List.getElem_cons_succ, List.setIfInBounds_toArray, List.set_cons_zero, List.set_cons_succ])
  refine wTk (i := 18) (v := (.pointer (some ⟨Y, 0, none⟩))) rfl ?_ ?_
  · intro w' hSw
    (try dsimp only at hSw)
    go_simp
  (try simp only [Act.put, List.getElem_toArray, List.getElem_cons_zero, List.getElem_cons_succ, List.setIfInBounds_toArray, List.set_cons_zero, List.set_cons_succ])
  refine wTk (i := 19) (v := (.pointer (some ⟨Y, 3, none⟩))) rfl ?_ ?_
  · intro w' hSw
    (try dsimp only at hSw)
    go_simp
  (try simp only [Act.put, List.getElem_toArray, List.getElem_cons_zero, List.getElem_cons_succ, List.setIfInBounds_toArray, List.set_cons_zero, List.set_cons_succ])
  refine wTk (i := 20) (v := (.int .i64 jb)) rfl ?_ ?_
  · intro w' hSw
    (try dsimp only at hSw)
    (have z := (RC.out _ hSw.1).2.2.2.1; go_simp)
  (try simp only [Act.put, List.getElem_toArray, List.getElem_cons_zero, List.getElem_cons_succ, List.setIfInBounds_toArray, List.set_cons_zero, List.set_cons_succ])
  refine wTk (i := 21) (v := (.pointer (some ⟨Y, 0, none⟩))) rfl ?_ ?_
  · intro w' hSw
    (try dsimp only at hSw)
    go_simp
  (try simp only [Act.put, List.getElem_toArray, List.getElem_cons_zero, List.getElem_cons_succ, List.setIfInBounds_toArray, List.set_cons_zero, List.set_cons_succ])
  refine wTk (i := 22) (v := (.pointer (some ⟨Y, 0, none⟩))) rfl ?_ ?_
  · intro w' hSw
    (try dsimp only at hSw)
    go_simp
  (try simp only [Act.put, List.getElem_toArray, List.getElem_cons_zero, List.getElem_cons_succ, List.setIfInBounds_toArray, List.set_cons_zero, List.set_cons_succ])
  refine wTk (i := 23) (v := (.pointer (some ⟨Y, 7, none⟩))) rfl ?_ ?_
  · intro w' hSw
    (try dsimp only at hSw)
    go_simp
  (try simp only [Act.put, List.getElem_toArray, List.getElem_cons_zero, List.getElem_cons_succ, List.setIfInBounds_toArray, List.set_cons_zero, List.set_cons_succ])
  refine wTk (i := 24) (v := (.int .i64 (p : Int))) rfl ?_ ?_
  · intro w' hSw
    (try dsimp only at hSw)
    (have z := (RC.out _ hSw.1).2.1; go_simp)
  (try simp only [Act.put, List.getElem_toArray, List.getElem_cons_zero, List.getElem_cons_succ, List.setIfInBounds_toArray, List.set_cons_zero, List.set_cons_succ])
  refine wTk (i := 25) (v := (.pointer (some ⟨Y, 0, none⟩))) rfl ?_ ?_
  · intro w' hSw
    (try dsimp only at hSw)
    go_simp
  (try simp only [Act.put, List.getElem_toArray, List.getElem_cons_zero, List.getElem_cons_succ, List.setIfInBounds_toArray, List.set_cons_zero, List.set_cons_succ])
  refine wTk (i := 26) (v := (.pointer (some ⟨Y, 0, none⟩))) rfl ?_ ?_
  · intro w' hSw
    (try dsimp only at hSw)
    go_simp
  (try simp only [Act.put, List.getElem_toArray, List.getElem_cons_zero, List.getElem_cons_succ, List.setIfInBounds_toArray, List.set_cons_zero, List.set_cons_succ])
  refine wTk (i := 27) (v := (.pointer (some ⟨Y, 4, none⟩))) rfl ?_ ?_
  · intro w' hSw
    (try dsimp only at hSw)
    go_simp
  (try simp only [Act.put, List.getElem_toArray, List.getElem_cons_zero, List.getElem_cons_succ, List.setIfInBounds_toArray, List.set_cons_zero, List.set_cons_succ])
  refine wTk (i := 28) (v := (.int .i64 vr)) rfl ?_ ?_
  · intro w' hSw
    (try dsimp only at hSw)
    (have z := (RC.out _ hSw.1).2.2.2.2; go_simp)
  (try simp only [Act.put, List.getElem_toArray, List.getElem_cons_zero, List.getElem_cons_succ, List.setIfInBounds_toArray, List.set_cons_zero, List.set_cons_succ])
  refine wTk (i := 29) (v := (.pointer (some ⟨Y, 0, none⟩))) rfl ?_ ?_
  · intro w' hSw
    (try dsimp only at hSw)
    go_simp
  (try simp only [Act.put, List.getElem_toArray, List.getElem_cons_zero, List.getElem_cons_succ, List.setIfInBounds_toArray, List.set_cons_zero, List.set_cons_succ])
  refine wpAnyH_ready (rs := [30]) (by kernel_rfl) (by simp) ?_
  refine AllReadyH.cons rfl (fun K hK => ?_) AllReadyH.nil
  go_simp
  refine Calls.mono CT.out ?_
  rintro e W2 ⟨rfl, k2⟩
  have L2 := hide (L1.out.trans (Lr.same L1.out.at_ (((Kp.refl W1 non).drew).trans k2 (fun _ f => f.elim))))
  have S2 : Hid ((fun X : World => X.heap[Y]? = some (.cells (rxA (sentR r) Z) 76) ∧ X.cell? ⟨rb, p, none⟩ = some (.slice (some ⟨g, 0, none⟩) rn gc) ∧ X.cell? ⟨g, lf, none⟩ = some (.int .i64 ow)) W2) := ⟨k2.blk0 S0.out.1, k2.cell0 S0.out.2.1, k2.cell0 S0.out.2.2⟩
  clear k2 CT S0
  refine hK.out _ _ (S2.out) (fun hHeld => ?_)
  clear hK
  (try simp only [Act.put, List.setIfInBounds_toArray, List.set_cons_zero, List.set_cons_succ])
  refine wTk (i := 31) (v := (.agg (mgV mm))) rfl ?_ ?_
  · intro w' hSw
    (try dsimp only at hSw)
    (rw [HMM.out]; unfold mgV; go_simp)
  (try simp only [Act.put, List.getElem_toArray, List.getElem_cons_zero, List.getElem_cons_succ, List.setIfInBounds_toArray, List.set_cons_zero, List.set_cons_succ])
  obtain ⟨GB, hGB⟩ : ∃ GB, GB = W2.heap.size := ⟨_, rfl⟩
  obtain ⟨W3, hW3⟩ : ∃ W3, W3 = W2.alloc (.cells (mgV mm) 36) := ⟨_, rfl⟩
  have k3 : Kp W2 W3 non := by rw [hW3]; exact (Kp.refl W2 non).alloc _
  have GA : Hid (W3.heap[GB]? = some (.cells (mgV mm) 36)) := by rw [hW3, hGB]; exact heap_last _ _
  have L3 := hide (L2.out.trans (Lr.same L2.out.at_ k3))
  have S3 : Hid ((fun X : World => X.heap[Y]? = some (.cells (rxA (sentR r) Z) 76) ∧ X.cell? ⟨rb, p, none⟩ = some (.slice (some ⟨g, 0, none⟩) rn gc) ∧ X.cell? ⟨g, lf, none⟩ = some (.int .i64 ow)) W3) := ⟨k3.blk0 S2.out.1, k3.cell0 S2.out.2.1, k3.cell0 S2.out.2.2⟩
  have L3s : Hid (w.heap.size ≤ W3.heap.size) := L3.out.kp.size
  have ON : Hid (W3.ownsRow w.heap.size 36 11 (.slice none 0 0) (([] : List Mg)).length (mgs [])) := World.ownsRow_nil _ _ _ _
  refine wpAnyH_ready (rs := [32]) (by kernel_rfl) (by simp) ?_
  refine AllReadyH.cons rfl (fun K hK => ?_) AllReadyH.nil
  refine wp_bsM (.tmp 42) rfl mm rfl ?_
  rw [← hW3, ← hGB]
  clear hW3 hGB k3 S2 L2
  refine hK.out _ _ (S3.out) (fun hHeld => ?_)
  clear hK
  (try simp only [Act.put, List.setIfInBounds_toArray, List.set_cons_zero, List.set_cons_succ])
  refine wpAnyH_ready (rs := [33]) (by kernel_rfl) (by simp) ?_
  refine AllReadyH.cons rfl (fun K hK => ?_) AllReadyH.nil
  refine ite_yes (by rfl) ?_
  refine wp_apM (.tmp 11) (.tmp 43) ?hBo w.heap.size (.slice none 0 0) [] ?hBs ON.out GB mm ?hBx GA.out (Nat.zero_le _) L3s.out ?hBk
  case hBo => rfl
  case hBs => kernel_rfl
  case hBx => kernel_rfl
  intro u4 w4 o4 g4 n4
  have kg := Kp.of_grown g4
  have k4 : Kp W3 w4 non := kg.mono (fun k e => by simp [Value.ownBlock] at e)
  have L4 := hide (L3.out.trans (Lr.same L3.out.at_ k4))
  have S4 : Hid ((fun X : World => X.heap[Y]? = some (.cells (rxA (sentR r) Z) 76) ∧ X.cell? ⟨rb, p, none⟩ = some (.slice (some ⟨g, 0, none⟩) rn gc) ∧ X.cell? ⟨g, lf, none⟩ = some (.int .i64 ow)) w4) := ⟨k4.blk0 S3.out.1, k4.cell0 S3.out.2.1, k4.cell0 S3.out.2.2⟩
  have O4 : Hid (Out w w4 u4 [qR r]) := by
    show w4.ownsRow w.heap.size 36 11 u4 [qR r].length (mgs [qR r])
    rw [QM.out, ← HMM.out]
    exact o4
  clear o4 g4 n4 kg k4 S3 L3 GA ON
  refine hK.out _ _ (S4.out) (fun hHeld => ?_)
  clear hK
  (try simp only [Act.put, List.setIfInBounds_toArray, List.set_cons_zero, List.set_cons_succ])
  refine wpAnyH_ready (rs := [34]) (by kernel_rfl) (by simp) ?_
  refine AllReadyH.cons rfl (fun K hK => ?_) AllReadyH.nil
  go_simp
  refine hK.out _ _ (S4.out) (fun hHeld => ?_)
  clear hK
  (try simp only [Act.put, List.setIfInBounds_toArray, List.set_cons_zero, List.set_cons_succ])
  refine wpAnyH_done (by kernel_rfl) ?_ _
  clear hHeld
  go_wp2_with fail
  go_ret
  exact ⟨_, rfl, O4.out, L4.out⟩
end Go.Proofs.YtpoegknmkbnjlaaDoor.Cn
namespace Go.Proofs.YtpoegknmkbnjlaaDoor.Cn
open Go.RowKit
/-- what the document's exporter keeps, as far as its calls need it -/
structure Rok (r : Rx) : Prop where
  rl : 1 ≤ r.rows.length ∧ r.rows.length ≤ 64
  rw_ : ∀ q ∈ r.rows, 1 ≤ q.length ∧ q.length ≤ 16
  ob : r.of_.length ≤ 100000
theorem Rok.row {r : Rx} (h : Rok r) (hp : r.part < r.rows.length) : 1 ≤ (rowR r).length ∧ (rowR r).length ≤ 16 := by
  unfold rowR
  rw [List.getElem?_eq_getElem hp]
  exact h.rw_ _ (List.getElem_mem hp)
theorem upd_lastR (r : Rx) (Z : Zr) : updA (rxA { r with on := false, en := true } Z) 13 (toA ⟨r.job, r.ver, r.rd, r.lost⟩ Z.rd Z.lo).toList = rxA (endR r) { Z with lp := Z.rd, lm := Z.lo } := by kernel_rfl
theorem there_r {w : World} {Y : Nat} {r : Rx} {Z : Zr} (h : w.heap[Y]? = some (.cells (rxA r Z) 76)) (o n : Nat) (hn : o + n ≤ 17) : w.there Y o n := fun j hj => ⟨by
  rw [cell_row h, Array.getElem?_eq_getElem (by show o + j < 17; omega)]
  rfl, fz_row h _⟩
set_option maxHeartbeats 16000000 in
set_option maxRecDepth 100000 in
set_option linter.unusedSimpArgs false in
set_option linter.unusedVariables false in
theorem goOn_r {w : World} {Y : Nat} {r : Rx} {Z : Zr} (h : RxAt w Y r Z) (ok : Rok r) (hp : r.part < r.rows.length) (ho : r.on = true) :
    Calls Tryd.prog 53 #[.pointer (some ⟨Y, 0, none⟩)] w fun e w' => ∃ u Z', e = .returned u ∧ Out w w' u (goRL r) ∧ Lr w w' Y Z (goR r) Z' := by
  obtain ⟨p, hpp⟩ : ∃ p, p = r.part := ⟨_, rfl⟩
  obtain ⟨pl, hpl⟩ : ∃ pl, pl = r.rows.length := ⟨_, rfl⟩
  obtain ⟨W1, hW1⟩ : ∃ W1, W1 = w.setCell ⟨Y, 7, none⟩ (.int .i64 ((p : Int) + 1)) := ⟨_, rfl⟩
  have l1 : Lr w W1 Y Z { r with part := r.part + 1 } Z := Lr.set h 7 _ hW1 (by rw [hpp]; rfl) rfl rfl rfl rfl rfl (fun q => q)
  obtain ⟨W2, hW2⟩ : ∃ W2, W2 = W1.setCell ⟨Y, 8, none⟩ (.int .i64 0) := ⟨_, rfl⟩
  have l2 : Lr W1 W2 Y Z (nextR r) Z := Lr.set l1.at_ 8 _ hW2 rfl rfl rfl rfl rfl rfl (fun q => q)
  have L2 := hide (l1.trans l2)
  obtain ⟨-, -, -, -, -, -, -, c7, -⟩ := rx_cells h.blk
  rw [← hpp] at c7
  have f7 := fz_row h.blk 7
  have c8 : W1.cell? ⟨Y, 8, none⟩ = some (.int .i64 (r.left : Int)) := (rx_cells l1.at_.blk).2.2.2.2.2.2.2.2.1
  have f8 := fz_row l1.at_.blk 8
  obtain ⟨ra, rc, hrv⟩ := own_sl l2.at_.ow.rows
  have hrv : Z.rv = .slice ra pl rc := by rw [hpl]; exact hrv
  have hpb : p ≤ 64 := by have := ok.rl; omega
  have hplb : pl ≤ 64 := by rw [hpl]; exact ok.rl.2
  have RC : Hid (∀ X : World, X.heap[Y]? = some (.cells (rxA (nextR r) Z) 76) → X.cell? ⟨Y, 0, none⟩ = some (.slice ra pl rc) ∧ X.cell? ⟨Y, 7, none⟩ = some (.int .i64 ((p : Int) + 1))) := fun X hX => by
    obtain ⟨d0, _, _, _, _, _, _, d7, _⟩ := rx_cells hX
    rw [hrv] at d0
    rw [hpp]
    exact ⟨d0, d7⟩
  have ew := wrap_in (x := (p : Int) + 1) (by omega) (by omega)
  have OK := hide ok
  have HO := hide ho
  have HPP := hide hpp
  have HPL := hide hpl
  have HW1 := hide hW1
  have HW2 := hide hW2
  clear h l1 l2 hW1 hW2 hrv ok ho hpp hpl hp
  go_enter Tryd.func53, Tryd.ntmps53
  go_upto_region 2 with fail
  rw [← HW1.out]
  clear c7 f7 HW1 ew
  go_upto_region 3 with fail
  rw [← HW2.out]
  clear c8 f8 HW2
  obtain ⟨d0, d7⟩ := RC.out W2 L2.out.at_.blk
  by_cases hlt : p + 1 < pl
  · have hli : (p : Int) + 1 < (pl : Int) := by omega
    have GX : Hid (goR r = sentR (nextR r) ∧ goRL r = [qR (nextR r)]) := by
      rw [HPP.out, HPL.out] at hlt
      exact ⟨if_pos hlt, if_pos hlt⟩
    have hnp : (nextR r).part < (nextR r).rows.length := by show r.part + 1 < r.rows.length; rw [← HPP.out, ← HPL.out]; exact hlt
    have okn : Rok (nextR r) := ⟨OK.out.rl, OK.out.rw_, OK.out.ob⟩
    have rr := okn.row hnp
    have QN := hide fun n : Nat => question_r (L2.out.at_.kp0 (((Kp.refl W2 non).drewN n))) hnp (by show 0 < _; omega) (by have := OK.out.ob; show r.of_.length ≤ _; omega) OK.out.rl.2 rr.2
    clear hlt hnp okn rr
    go_quiet (fail)
    clear d0 d7
    go_wp2_with fail
    refine Calls.mono (QN.out _) ?_
    rintro e W3 ⟨u, rfl, o3, l3⟩
    have O3 := hide o3
    have L3 := hide (L2.out.trans ((Lr.same L2.out.at_ ((Kp.refl W2 non).drewN nq)).trans l3))
    have SZ : Hid (w.heap.size ≤ (W2.drewN nq).heap.size) := L2.out.kp.size
    clear o3 l3 QN
    go_wp2_with fail
    go_ret
    first | refine ⟨_, Z, rfl, ?_, ?_⟩ | refine ⟨_, rfl, ?_, Z, ?_⟩
    · rw [GX.out.2]
      exact own_base O3.out SZ.out
    · rw [GX.out.1]
      exact L3.out
  · have hli : ¬ (p : Int) + 1 < (pl : Int) := by omega
    have GX : Hid (goR r = endR (nextR r) ∧ goRL r = []) := by
      rw [HPP.out, HPL.out] at hlt
      exact ⟨if_neg hlt, if_neg hlt⟩
    clear hlt
    go_quiet (fail)
    clear d0 d7
    have LQ := hide (L2.out.trans (Lr.same L2.out.at_ ((Kp.refl W2 non).drewN nq)))
    obtain ⟨Wq, hWq⟩ : ∃ Wq, Wq = W2.drewN nq := ⟨_, rfl⟩
    rw [← hWq] at LQ ⊢
    clear hWq
    have HON : Hid ((nextR r).on = true) := HO.out
    obtain ⟨-, -, -, -, -, e5, -⟩ := rx_cells LQ.out.at_.blk
    have g5 := fz_row LQ.out.at_.blk 5
    obtain ⟨bo, hbo⟩ : ∃ bo, bo = (nextR r).on := ⟨_, rfl⟩
    rw [← hbo] at e5
    clear hbo
    obtain ⟨W4, hW4⟩ : ∃ W4, W4 = Wq.setCell ⟨Y, 5, none⟩ (.bool false) := ⟨_, rfl⟩
    have l4 : Lr Wq W4 Y Z { nextR r with on := false } Z := Lr.set LQ.out.at_ 5 _ hW4 rfl rfl rfl rfl rfl rfl (fun q => by simp at q)
    obtain ⟨-, -, -, -, -, -, e6, -⟩ := rx_cells l4.at_.blk
    have g6 := fz_row l4.at_.blk 6
    obtain ⟨W5, hW5⟩ : ∃ W5, W5 = W4.setCell ⟨Y, 6, none⟩ (.bool true) := ⟨_, rfl⟩
    have l5 : Lr W4 W5 Y Z { nextR r with on := false, en := true } Z := Lr.set l4.at_ 6 _ hW5 rfl rfl rfl rfl rfl rfl (fun q => by simp at q)
    have L5 := hide (LQ.out.trans (l4.trans l5))
    have HW4 := hide hW4
    have HW5 := hide hW5
    obtain ⟨be, hbe⟩ : ∃ be, be = ({ nextR r with on := false } : Rx).en := ⟨_, rfl⟩
    rw [← hbe] at e6
    clear hW4 hW5 l4 l5 LQ hbe
    go_upto_region 6 with fail
    rw [← HW4.out]
    clear e5 g5 HW4
    go_upto_region 7 with fail
    rw [← HW5.out]
    clear e6 g6 HW5
    obtain ⟨rd0, rdc, hrd⟩ := own_sl L5.out.at_.ow.rd
    obtain ⟨lo0, loc, hlo⟩ := own_sl L5.out.at_.ow.lo
    obtain ⟨rn, hrn⟩ : ∃ rn, rn = r.rd.length := ⟨_, rfl⟩
    obtain ⟨lon, hlon⟩ : ∃ lon, lon = r.lost.length := ⟨_, rfl⟩
    have hrd : Z.rd = .slice rd0 rn rdc := by rw [hrn]; exact hrd
    have hlo : Z.lo = .slice lo0 lon loc := by rw [hlon]; exact hlo
    obtain ⟨jb, hjb⟩ : ∃ jb, jb = r.job := ⟨_, rfl⟩
    obtain ⟨vr, hvr⟩ : ∃ vr, vr = r.ver := ⟨_, rfl⟩
    have RC2 : Hid (∀ X : World, X.cell? ⟨Y, 3, none⟩ = some (.int .i64 jb) ∧ X.cell? ⟨Y, 4, none⟩ = some (.int .i64 vr) ∧ X.cell? ⟨Y, 10, none⟩ = some (.slice rd0 rn rdc) ∧ X.cell? ⟨Y, 12, none⟩ = some (.slice lo0 lon loc) → True) := fun _ _ => trivial
    have CE : Hid (W5.cell? ⟨Y, 3, none⟩ = some (.int .i64 jb) ∧ W5.cell? ⟨Y, 4, none⟩ = some (.int .i64 vr) ∧ W5.cell? ⟨Y, 10, none⟩ = some (.slice rd0 rn rdc) ∧ W5.cell? ⟨Y, 12, none⟩ = some (.slice lo0 lon loc)) := by
      obtain ⟨_, _, _, d3, d4, _, _, _, _, _, da, _, dc⟩ := rx_cells L5.out.at_.blk
      rw [hrd] at da
      rw [hlo] at dc
      rw [hjb, hvr]
      exact ⟨d3, d4, da, dc⟩
    obtain ⟨A, hA⟩ : ∃ A, A = toA ⟨r.job, r.ver, r.rd, r.lost⟩ Z.rd Z.lo := ⟨_, rfl⟩
    have AE : Hid (A = #[.int .i64 jb, .int .i64 vr, .slice rd0 rn rdc, .slice lo0 lon loc]) := by rw [hA, hrd, hlo, hjb, hvr]; exact rfl
    have AO : Hid ((A.all (·.oneCell')) = true) := by rw [AE.out]; show _ = _; simp [Value.oneCell']
    obtain ⟨W6, hW6⟩ : ∃ W6, W6 = W5.drew.setCells Y 13 A.toList := ⟨_, rfl⟩
    have k6 : Kp W5 W6 (fun k => k = Y) := by rw [hW6]; exact ((Kp.refl W5 non).drew.mono (fun _ f => f.elim)).trans (kp_setCells _ _ _ _) (fun _ e => Or.inl e)
    have TH : Hid (W5.drew.there Y 13 A.size) := by rw [AE.out]; exact there_r (w := W5.drew) (r := { nextR r with on := false, en := true }) (Z := Z) L5.out.at_.blk 13 4 (by omega)
    have b6 : W6.heap[Y]? = some (.cells (rxA (endR (nextR r)) { Z with lp := Z.rd, lm := Z.lo }) 76) := by
      rw [hW6, hA, ← upd_lastR (nextR r) Z]
      exact heap_setCells _ _ _ _ _ _ L5.out.at_.blk
    have o6 := L5.out.at_.ow.setY L5.out.at_.blk k6
    have L6 : Hid (Lr w W6 Y Z (endR (nextR r)) { Z with lp := Z.rd, lm := Z.lo }) := by
      refine L5.out.trans ⟨⟨b6, ⟨o6.rows, o6.row, o6.rd, o6.ofv, o6.lo, o6.rd, o6.lo, fun q => by simp [endR] at q, fun q => by simp [endR] at q, fun q => by simp [endR] at q⟩⟩, k6.mono (fun _ e => Or.inl e), fun _ e => Or.inl e, fun k e => ?_⟩
      refine Or.inl ?_
      rcases e with e | e | e | e | e | e | e | e
      · exact Or.inl e
      · exact Or.inr (Or.inl e)
      · exact Or.inr (Or.inr (Or.inl e))
      · exact Or.inr (Or.inr (Or.inr (Or.inl e)))
      · exact Or.inr (Or.inr (Or.inr (Or.inr (Or.inl e))))
      · exact Or.inr (Or.inl e)
      · exact Or.inr (Or.inr (Or.inr (Or.inl e)))
      · exact Or.inr (Or.inr (Or.inr (Or.inr (Or.inr (Or.inr (Or.inr e))))))
    have C6 : Hid (W6.cell? ⟨Y, 3, none⟩ = some (.int .i64 jb) ∧ W6.cell? ⟨Y, 4, none⟩ = some (.int .i64 vr) ∧ W6.cell? ⟨Y, 10, none⟩ = some (.slice rd0 rn rdc) ∧ W6.cell? ⟨Y, 12, none⟩ = some (.slice lo0 lon loc)) := by
      obtain ⟨_, _, _, d3, d4, _, _, _, _, _, da, _, dc⟩ := rx_cells b6
      rw [show ({ Z with lp := Z.rd, lm := Z.lo } : Zr).rd = Z.rd from rfl, hrd] at da
      rw [show ({ Z with lp := Z.rd, lm := Z.lo } : Zr).lo = Z.lo from rfl, hlo] at dc
      rw [hjb, hvr]
      exact ⟨d3, d4, da, dc⟩
    have HW6 := hide hW6
    have TI := hide to_info
    clear hrd hlo hrn hlon hjb hvr hA k6 b6 o6 hW6 RC2 RC L5 L2
    refine wp_region_held_drew (S := fun X : World => X.cell? ⟨Y, 3, none⟩ = some (.int .i64 jb) ∧ X.cell? ⟨Y, 4, none⟩ = some (.int .i64 vr) ∧ X.cell? ⟨Y, 10, none⟩ = some (.slice rd0 rn rdc) ∧ X.cell? ⟨Y, 12, none⟩ = some (.slice lo0 lon loc)) (by kernel_rfl) CE.out (fun hHeld => ?_)
    refine wTk (i := 0) (v := (.pointer (some ⟨Y, 0, none⟩))) rfl ?_ ?_
    · intro w' hSw
      (try dsimp only at hSw)
      go_simp
    (try simp only [Act.put, List.getElem_toArray, List.getElem_cons_zero, List.getElem_cons_succ, List.setIfInBounds_toArray, List.set_cons_zero, List.set_cons_succ])
    refine wTk (i := 1) (v := (.pointer (some ⟨Y, 0, none⟩))) rfl ?_ ?_
    · intro w' hSw
      (try dsimp only at hSw)
      go_simp
    (try simp only [Act.put, List.getElem_toArray, List.getElem_cons_zero, List.getElem_cons_succ, List.setIfInBounds_toArray, List.set_cons_zero, List.set_cons_succ])
    refine wTk (i := 2) (v := (.pointer (some ⟨Y, 0, none⟩))) rfl ?_ ?_
    · intro w' hSw
      (try dsimp only at hSw)
      go_simp
    (try simp only [Act.put, List.getElem_toArray, List.getElem_cons_zero, List.getElem_cons_succ, List.setIfInBounds_toArray, List.set_cons_zero, List.set_cons_succ])
    refine wTk (i := 3) (v := (.pointer (some ⟨Y, 3, none⟩))) rfl ?_ ?_
    · intro w' hSw
      (try dsimp only at hSw)
      go_simp
    (try simp only [Act.put, List.getElem_toArray, List.getElem_cons_zero, List.getElem_cons_succ, List.setIfInBounds_toArray, List.set_cons_zero, List.set_cons_succ])
    refine wTk (i := 4) (v := (.int .i64 jb)) rfl ?_ ?_
    · intro w' hSw
      (try dsimp only at hSw)
      (have z := hSw.1; go_simp)
    (try simp only [Act.put, List.getElem_toArray, List.getElem_cons_zero, List.getElem_cons_succ, List.setIfInBounds_toArray, List.set_cons_zero, List.set_cons_succ])
    refine wTk (i := 5) (v := (.pointer (some ⟨Y, 0, none⟩))) rfl ?_ ?_
    · intro w' hSw
      (try dsimp only at hSw)
      go_simp
    (try simp only [Act.put, List.getElem_toArray, List.getElem_cons_zero, List.getElem_cons_succ, List.setIfInBounds_toArray, List.set_cons_zero, List.set_cons_succ])
    refine wTk (i := 6) (v := (.pointer (some ⟨Y, 0, none⟩))) rfl ?_ ?_
    · intro w' hSw
      (try dsimp only at hSw)
      go_simp
    (try simp only [Act.put, List.getElem_toArray, List.getElem_cons_zero, List.getElem_cons_succ, List.setIfInBounds_toArray, List.set_cons_zero, List.set_cons_succ])
    refine wTk (i := 7) (v := (.pointer (some ⟨Y, 4, none⟩))) rfl ?_ ?_
    · intro w' hSw
      (try dsimp only at hSw)
      go_simp
    (try simp only [Act.put, List.getElem_toArray, List.getElem_cons_zero, List.getElem_cons_succ, List.setIfInBounds_toArray, List.set_cons_zero, List.set_cons_succ])
    refine wTk (i := 8) (v := (.int .i64 vr)) rfl ?_ ?_
    · intro w' hSw
      (try dsimp only at hSw)
      (have z := hSw.2.1; go_simp)
    (try simp only [Act.put, List.getElem_toArray, List.getElem_cons_zero, List.getElem_cons_succ, List.setIfInBounds_toArray, List.set_cons_zero, List.set_cons_succ])
    refine wTk (i := 9) (v := (.pointer (some ⟨Y, 0, none⟩))) rfl ?_ ?_
    · intro w' hSw
      (try dsimp only at hSw)
      go_simp
    (try simp only [Act.put, List.getElem_toArray, List.getElem_cons_zero, List.getElem_cons_succ, List.setIfInBounds_toArray, List.set_cons_zero, List.set_cons_succ])
    refine wTk (i := 10) (v := (.pointer (some ⟨Y, 0, none⟩))) rfl ?_ ?_
    · intro w' hSw
      (try dsimp only at hSw)
      go_simp
    (try simp only [Act.put, List.getElem_toArray, List.getElem_cons_zero, List.getElem_cons_succ, List.setIfInBounds_toArray, List.set_cons_zero, List.set_cons_succ])
    refine wTk (i := 11) (v := (.pointer (some ⟨Y, 10, none⟩))) rfl ?_ ?_
    · intro w' hSw
      (try dsimp only at hSw)
      go_simp
    (try simp only [Act.put, List.getElem_toArray, List.getElem_cons_zero, List.getElem_cons_succ, List.setIfInBounds_toArray, List.set_cons_zero, List.set_cons_succ])
    refine wTk (i := 12) (v := (.slice rd0 rn rdc)) rfl ?_ ?_
    · intro w' hSw
      (try dsimp only at hSw)
      (have z := hSw.2.2.1; go_simp)
    (try simp only [Act.put, List.getElem_toArray, List.getElem_cons_zero, List.getElem_cons_succ, List.setIfInBounds_toArray, List.set_cons_zero, List.set_cons_succ])
    refine wTk (i := 13) (v := (.pointer (some ⟨Y, 0, none⟩))) rfl ?_ ?_
    · intro w' hSw
      (try dsimp only at hSw)
      go_simp
    (try simp only [Act.put, List.getElem_toArray, List.getElem_cons_zero, List.getElem_cons_succ, List.setIfInBounds_toArray, List.set_cons_zero, List.set_cons_succ])
    refine wTk (i := 14) (v := (.pointer (some ⟨Y, 0, none⟩))) rfl ?_ ?_
    · intro w' hSw
      (try dsimp only at hSw)
      go_simp
    (try simp only [Act.put, List.getElem_toArray, List.getElem_cons_zero, List.getElem_cons_succ, List.setIfInBounds_toArray, List.set_cons_zero, List.set_cons_succ])
    refine wTk (i := 15) (v := (.pointer (some ⟨Y, 12, none⟩))) rfl ?_ ?_
    · intro w' hSw
      (try dsimp only at hSw)
      go_simp
    (try simp only [Act.put, List.getElem_toArray, List.getElem_cons_zero, List.getElem_cons_succ, List.setIfInBounds_toArray, List.set_cons_zero, List.set_cons_succ])
    refine wTk (i := 16) (v := (.slice lo0 lon loc)) rfl ?_ ?_
    · intro w' hSw
      (try dsimp only at hSw)
      (have z := hSw.2.2.2; go_simp)
    (try simp only [Act.put, List.getElem_toArray, List.getElem_cons_zero, List.getElem_cons_succ, List.setIfInBounds_toArray, List.set_cons_zero, List.set_cons_succ])
    refine wTk (i := 17) (v := (.agg A)) rfl ?_ ?_
    · intro w' hSw
      (try dsimp only at hSw)
      (rw [AE.out]; go_simp)
    (try simp only [Act.put, List.getElem_toArray, List.getElem_cons_zero, List.getElem_cons_succ, List.setIfInBounds_toArray, List.set_cons_zero, List.set_cons_succ])
    refine wTk (i := 18) (v := (.pointer (some ⟨Y, 0, none⟩))) rfl ?_ ?_
    · intro w' hSw
      (try dsimp only at hSw)
      go_simp
    (try simp only [Act.put, List.getElem_toArray, List.getElem_cons_zero, List.getElem_cons_succ, List.setIfInBounds_toArray, List.set_cons_zero, List.set_cons_succ])
    refine wTk (i := 19) (v := (.pointer (some ⟨Y, 13, none⟩))) rfl ?_ ?_
    · intro w' hSw
      (try dsimp only at hSw)
      go_simp
    (try simp only [Act.put, List.getElem_toArray, List.getElem_cons_zero, List.getElem_cons_succ, List.setIfInBounds_toArray, List.set_cons_zero, List.set_cons_succ])
    refine wpAnyH_ready (rs := [20]) (by kernel_rfl) (by simp) ?_
    refine AllReadyH.cons rfl (fun K hK => ?_) AllReadyH.nil
    refine wp_store_mid 57 (.tmp 50) (.tmp 48) rfl Y 13 A rfl rfl TH.out (by rw [AE.out]; exact TI.out) AO.out ?_
    rw [← HW6.out]
    refine hK.out _ _ (C6.out) (fun hHeld => ?_)
    clear hK
    (try simp only [Act.put, List.setIfInBounds_toArray, List.set_cons_zero, List.set_cons_succ])
    refine wpAnyH_done (by kernel_rfl) ?_ _
    clear hHeld HW6 TH AO AE CE
    go_wp2_with fail
    go_ret
    first | refine ⟨_, { Z with lp := Z.rd, lm := Z.lo }, rfl, ?_, ?_⟩ | refine ⟨_, rfl, ?_, { Z with lp := Z.rd, lm := Z.lo }, ?_⟩
    · rw [GX.out.2]
      exact World.ownsRow_nil _ _ _ _
    · rw [GX.out.1]
      exact L6.out
end Go.Proofs.YtpoegknmkbnjlaaDoor.Cn
namespace Go.Proofs.YtpoegknmkbnjlaaDoor.Cn
open Go.RowKit
/-- what is read is written over by what stays -/
def cutR (r : Rx) (RR : List Pr) (OO : List Int) : Rx := { r with rd := RR, of_ := OO }
def Zr.cut (Z : Zr) (a b : Value) : Zr := { Z with rd := a, ofv := b }
theorem cut_lr {w wr W5 : World} {Y B3 : Nat} {r : Rx} {Z : Zr} {RR : List Pr} {OO : List Int} {u3 u4 : Value} (h : RxAt w Y r Z) (ho : r.on = true) (hB : B3 = w.heap.size) (kw : Kp w wr non) (o3 : wr.ownsRow B3 89 2 u3 RR.length (prs RR)) (o4 : wr.ownsRow B3 3 1 u4 OO.length (ints OO)) (hW5 : W5 = (wr.setCell ⟨Y, 10, none⟩ u3).setCell ⟨Y, 11, none⟩ u4) :
    Lr w W5 Y Z (cutR r RR OO) (Z.cut u3 u4) := by
  have x := h.kp0 kw
  have k5 : Kp wr W5 (fun k => k = Y) := by rw [hW5]; exact ((Kp.refl wr (fun k => k = Y)).set (Or.inl rfl) _ _).set (Or.inl rfl) _ _
  have b5 : W5.heap[Y]? = some (.cells (rxA (cutR r RR OO) (Z.cut u3 u4)) 76) := by rw [hW5]; exact set_row (set_row x.blk 10 _) 11 _
  have o5 := x.ow.setY x.blk k5
  have n3 : ∀ k, u3.ownBlock = some k → B3 ≤ k := fun k e => own_ge o3 e
  have n4 : ∀ k, u4.ownBlock = some k → B3 ≤ k := fun k e => own_ge o4 e
  have old : ∀ k, Lk Z k → k < B3 := fun k e => by rw [hB]; exact h.lt (Or.inr e)
  have kk : Kp w W5 (Fr Y Z) := (kw.mono (T := Fr Y Z) (fun _ f => f.elim)).trans k5 (fun k e => Or.inl (Or.inl e))
  refine ⟨⟨b5, ⟨o5.rows, o5.row, own_base (own_kp o3 k5 (fun k e q => ?_)) (Nat.zero_le _), own_base (own_kp o4 k5 (fun k e q => ?_)) (Nat.zero_le _), o5.lo, o5.lp, o5.lm, fun _ k e q => ?_, fun _ k e => ⟨fun q => ?_, fun q => ?_, fun u hu q => ?_⟩, fun q => h.ow.d3 ho⟩⟩, kk, fun k e => ?_, fun k e => ?_⟩
  · obtain ⟨c, hc⟩ := own_typ o3 e
    rw [q, x.blk] at hc
    simp at hc
  · obtain ⟨c, hc⟩ := own_typ o4 e
    rw [q, x.blk] at hc
    simp at hc
  · have a := n3 k e
    have b := old k (Or.inr (Or.inr (Or.inr (Or.inr (Or.inl q)))))
    omega
  · have a := n4 k e
    have b := old k (Or.inr (Or.inr (Or.inl q)))
    omega
  · have a := n4 k e
    have b := old k (Or.inr (Or.inr (Or.inr (Or.inr (Or.inr (Or.inl q))))))
    omega
  · have a := n4 k e
    have b := old k (Or.inr (Or.inr (Or.inr (Or.inr (Or.inr (Or.inr ⟨u, hu, q⟩))))))
    omega
  · rcases e with e | e | e | e
    · exact Or.inl (Or.inl e)
    · exact Or.inr (by rw [← hB]; exact n3 k e)
    · exact Or.inr (by rw [← hB]; exact n4 k e)
    · exact Or.inl (Or.inr (Or.inr (Or.inr e)))
  · rcases e with e | e | e | e | e | e | e | e
    · exact Or.inl (Or.inl e)
    · exact Or.inr (by rw [← hB]; exact n3 k e)
    · exact Or.inr (by rw [← hB]; exact n4 k e)
    · exact Or.inl (Or.inr (Or.inr (Or.inr (Or.inl e))))
    · exact Or.inl (Or.inr (Or.inr (Or.inr (Or.inr (Or.inl e)))))
    · exact Or.inl (Or.inr (Or.inr (Or.inr (Or.inr (Or.inr (Or.inl e))))))
    · exact Or.inl (Or.inr (Or.inr (Or.inr (Or.inr (Or.inr (Or.inr (Or.inl e)))))))
    · exact Or.inl (Or.inr (Or.inr (Or.inr (Or.inr (Or.inr (Or.inr (Or.inr e)))))))
/-- one more is lost -/
def lossR (r : Rx) : Rx := { r with lost := r.lost ++ [(r.part : Int)] }
theorem loss_lr {w w' : World} {Y : Nat} {r : Rx} {Z : Zr} (h : RxAt w Y r Z) (hon : r.on = true) (u : Value) (ho : w'.ownsRow 0 3 1 u (r.lost.length + 1) (ints (r.lost ++ [(r.part : Int)]))) (hg : w.grownBy w' Z.lo.ownBlock) (hn : u.ownBlock = Z.lo.ownBlock ∨ u.ownBlock = some w.heap.size) :
    w'.heap[Y]? = some (.cells (rxA r Z) 76) ∧ Lr w (w'.setCell ⟨Y, 12, none⟩ u) Y Z (lossR r) { Z with lo := u } := by
  have kg := Kp.of_grown hg
  have nY : ∀ k, some k = Z.lo.ownBlock → k ≠ Y := fun k e => h.ow.notY h.blk (Or.inr (Or.inr (Or.inl e.symm)))
  have b1 : w'.heap[Y]? = some (.cells (rxA r Z) 76) := (kg.block _ (blk_lt h.blk) (fun e => nY Y e rfl)).trans h.blk
  have kk : Kp w (w'.setCell ⟨Y, 12, none⟩ u) (Fr Y Z) := (kg.mono (T := Fr Y Z) (fun k e => Or.inr (Or.inr (Or.inr e.symm)))).set (Or.inl (Or.inl rfl)) _ _
  have ks : Kp w' (w'.setCell ⟨Y, 12, none⟩ u) (fun k => k = Y) := (Kp.refl w' (fun k => k = Y)).set (Or.inl rfl) _ _
  have hx := h.ow
  have old : ∀ {k : Nat}, Lk Z k → k < w.heap.size := fun hk => h.lt (Or.inr hk)
  have off : ∀ {e sz n : Nat} {q : Value} {xs : List Value}, w.ownsRow 0 e sz q n xs → (∀ k, q.ownBlock = some k → Lk Z k) → (∀ k, q.ownBlock = some k → Z.lo.ownBlock ≠ some k) → (w'.setCell ⟨Y, 12, none⟩ u).ownsRow 0 e sz q n xs := fun ho' h0 h1 => own_kp (own_kp ho' kg (fun k e q => h1 k e q.symm)) ks (fun k e q => hx.notY h.blk (h0 k e) q)
  have nP : ∀ {q : Value} {n : Nat} {xs : List Value}, w.ownsRow 0 89 2 q n xs → ∀ k, q.ownBlock = some k → Z.lo.ownBlock ≠ some k := fun ho' k e q => by
    obtain ⟨c1, h1⟩ := own_typ ho' e
    obtain ⟨c2, h2⟩ := own_typ hx.lo q
    rw [h1] at h2
    simp at h2
  have nR : ∀ k, Z.rv.ownBlock = some k → Z.lo.ownBlock ≠ some k := fun k e q => by
    obtain ⟨c1, h1⟩ := own_typ hx.rows e
    obtain ⟨c2, h2⟩ := own_typ hx.lo q
    rw [h1] at h2
    simp at h2
  have uN : ∀ k, u.ownBlock = some k → Z.lo.ownBlock = some k ∨ w.heap.size ≤ k := fun k e => by
    rcases hn with q | q
    · exact Or.inl (q.symm.trans e)
    · rw [e] at q
      injection q with q
      exact Or.inr (by omega)
  refine ⟨b1, ⟨⟨set_row b1 12 _, ⟨off hx.rows (fun k e => Or.inr (Or.inr (Or.inr (Or.inl e)))) nR, fun p hp => ?_, off hx.rd (fun k e => Or.inl e) (nP hx.rd), off hx.ofv (fun k e => Or.inr (Or.inl e)) (fun k e => (hx.d2 hon k e).1), ?_, off hx.lp (fun k e => Or.inr (Or.inr (Or.inr (Or.inr (Or.inl e))))) (nP hx.lp), off hx.lm (fun k e => Or.inr (Or.inr (Or.inr (Or.inr (Or.inr (Or.inl e)))))) (fun k e q => (hx.d3 hon k q).1 e), fun _ => hx.d1 hon, fun _ k e => ⟨fun q => ?_, (hx.d2 hon k e).2⟩, fun _ k e => ?_⟩⟩, kk, fun k e => ?_, fun k e => ?_⟩⟩
  · obtain ⟨u0, hu0, ho0⟩ := hx.row p hp
    have hm := List.mem_of_getElem? hu0
    exact ⟨u0, hu0, off ho0 (fun k e => Or.inr (Or.inr (Or.inr (Or.inr (Or.inr (Or.inr ⟨u0, hm, e⟩)))))) (fun k e q => (hx.d3 hon k q).2 u0 hm e)⟩
  · show World.ownsRow _ 0 3 1 u (r.lost ++ [(r.part : Int)]).length _
    rw [List.length_append]
    refine own_kp ho ks (fun k e q => ?_)
    obtain ⟨c, hc⟩ := own_typ ho e
    rw [q, b1] at hc
    simp at hc
  · have q : u.ownBlock = some k := q
    rcases uN k q with z | z
    · exact (hx.d2 hon k e).1 z
    · have := old (Or.inr (Or.inl e))
      omega
  · have e : u.ownBlock = some k := e
    rcases uN k e with z | z
    · exact hx.d3 hon k z
    · refine ⟨fun q => ?_, fun u0 hu q => ?_⟩
      · have := old (k := k) (Or.inr (Or.inr (Or.inr (Or.inr (Or.inr (Or.inl q))))))
        omega
      · have := old (k := k) (Or.inr (Or.inr (Or.inr (Or.inr (Or.inr (Or.inr ⟨u0, hu, q⟩))))))
        omega
  · rcases e with e | e | e | e
    · exact Or.inl (Or.inl e)
    · exact Or.inl (Or.inr (Or.inl e))
    · exact Or.inl (Or.inr (Or.inr (Or.inl e)))
    · rcases uN k e with z | z
      · exact Or.inl (Or.inr (Or.inr (Or.inr z)))
      · exact Or.inr z
  · rcases e with e | e | e | e | e | e | e | e
    · exact Or.inl (Or.inl e)
    · exact Or.inl (Or.inr (Or.inl e))
    · exact Or.inl (Or.inr (Or.inr (Or.inl e)))
    · rcases uN k e with z | z
      · exact Or.inl (Or.inr (Or.inr (Or.inr (Or.inl z))))
      · exact Or.inr z
    · exact Or.inl (Or.inr (Or.inr (Or.inr (Or.inr (Or.inl e)))))
    · exact Or.inl (Or.inr (Or.inr (Or.inr (Or.inr (Or.inr (Or.inl e))))))
    · exact Or.inl (Or.inr (Or.inr (Or.inr (Or.inr (Or.inr (Or.inr (Or.inl e)))))))
    · exact Or.inl (Or.inr (Or.inr (Or.inr (Or.inr (Or.inr (Or.inr (Or.inr e)))))))
end Go.Proofs.YtpoegknmkbnjlaaDoor.Cn
