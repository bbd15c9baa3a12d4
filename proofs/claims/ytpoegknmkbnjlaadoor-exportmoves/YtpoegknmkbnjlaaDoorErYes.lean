import Derived.Test.YtpoegknmkbnjlaaDoorGEtSame
namespace Go.Proofs.YtpoegknmkbnjlaaDoor.Cn
open Go.RowKit
set_option maxHeartbeats 16000000 in
set_option maxRecDepth 100000 in
set_option linter.unusedSimpArgs false in
set_option linter.unusedVariables false in
theorem take_end {w : World} {Y : Nat} {r : Rx} {Z : Zr} (h : RxAt w Y r Z) (ok : Rok r) (hj : r.on = true → Rjb r) (m : Mg) (hi : isR r m = true) (hc : m.code = 16) :
    Calls Tryd.prog 31 #[.pointer (some ⟨Y, 0, none⟩), .agg (mgV m)] w fun e w' => ∃ u Z', e = .returned (.tuple #[u, .int .i64 0]) ∧ Out w w' u (takeRL r m) ∧ Lr w w' Y Z (takeR r m) Z' := by
  obtain ⟨B, hB⟩ : ∃ B, B = w.heap.size := ⟨_, rfl⟩
  obtain ⟨W0, hW0⟩ : ∃ W0, W0 = w.alloc (.cells (mgV m) 36) := ⟨_, rfl⟩
  have k0 : Kp w W0 non := by rw [hW0]; exact (Kp.refl w non).alloc _
  have mg : MgAt W0 B m := by rw [hW0, hB]; exact MgAt.new w m
  have x0 := h.kp0 k0
  have K0 := hide k0
  have HB := hide hB
  have HW0 := hide hW0
  have TK : Hid (takeR r m = hearR r m ∧ takeRL r m = hearRL r m) := ⟨by unfold takeR; rw [if_pos hi], by unfold takeRL; rw [if_pos hi]⟩
  unfold isR at hi
  simp only [Bool.and_eq_true, beq_iff_eq] at hi
  obtain ⟨hon, i1, ⟨⟨⟨⟨i2, i3⟩, i4⟩, i5⟩, i6⟩⟩ := hi
  have jb9 := hj hon
  have hp := jb9.pt
  have hrw := ok.row hp
  obtain ⟨u0, hu0, ho00⟩ := x0.ow.row r.part hp
  have hrow : rowR r = r.rows[r.part] := by unfold rowR; rw [List.getElem?_eq_getElem hp]; rfl
  have o1 := x0.ow.rows
  obtain ⟨pl, hpl⟩ : ∃ pl, pl = r.rows.length := ⟨_, rfl⟩
  obtain ⟨rb, rc, hrv0⟩ := own_g o1 (by show 0 < r.rows.length; omega)
  have hrv : Z.rv = .slice (some ⟨rb, 0, none⟩) pl rc := by rw [hpl]; exact hrv0
  obtain ⟨row, hrww⟩ : ∃ row, row = rowR r := ⟨_, rfl⟩
  obtain ⟨rn, hrn⟩ : ∃ rn, rn = row.length := ⟨_, rfl⟩
  have ho0 : W0.ownsRow 0 3 1 u0 row.length (ints row) := by rw [hrww, hrow]; exact ho00
  rw [← hrn] at ho0
  have hl : r.left < rn := by rw [hrn, hrww]; exact jb9.lf
  obtain ⟨g, gc, hug⟩ := own_g ho0 (by omega)
  subst hug
  obtain ⟨p, hpp⟩ : ∃ p, p = r.part := ⟨_, rfl⟩
  obtain ⟨lf, hlf⟩ : ∃ lf, lf = r.left := ⟨_, rfl⟩
  rw [← hpp] at hu0
  rw [← hlf] at hl
  have a1 : W0.cell? ⟨rb, p, none⟩ = some (.slice (some ⟨g, 0, none⟩) rn gc) := by
    obtain ⟨g', c', e1, hc, _⟩ := own_at o1 hu0
    rw [hrv] at e1
    injection e1 with e1
    injection e1 with e1
    injection e1 with e1
    rw [e1]
    exact hc
  obtain ⟨ow, how⟩ : ∃ ow, ow = ownR r := ⟨_, rfl⟩
  have a2 : W0.cell? ⟨g, lf, none⟩ = some (.int .i64 ow) := by
    have hlr : lf < row.length := by rw [← hrn]; exact hl
    have z := ho0.cellAt lf (by omega)
    rw [ints_at2 row lf hlr] at z
    rw [z, how]
    unfold ownR
    rw [← hrww, ← hlf, List.getElem?_eq_getElem hlr]
    rfl
  obtain ⟨jb, hjb⟩ : ∃ jb, jb = r.job := ⟨_, rfl⟩
  obtain ⟨vr, hvr⟩ : ∃ vr, vr = r.ver := ⟨_, rfl⟩
  obtain ⟨ct, hct⟩ : ∃ ct, ct = cntR r := ⟨_, rfl⟩
  have RC : Hid (∀ X : World, X.heap[Y]? = some (.cells (rxA r Z) 76) → X.cell? ⟨Y, 5, none⟩ = some (.bool true) ∧ X.cell? ⟨Y, 0, none⟩ = some (.slice (some ⟨rb, 0, none⟩) pl rc) ∧ X.cell? ⟨Y, 7, none⟩ = some (.int .i64 (p : Int)) ∧ X.cell? ⟨Y, 8, none⟩ = some (.int .i64 (lf : Int)) ∧ X.cell? ⟨Y, 3, none⟩ = some (.int .i64 jb) ∧ X.cell? ⟨Y, 4, none⟩ = some (.int .i64 vr)) := fun X hX => by
    obtain ⟨d0, _, _, d3, d4, d5, _, d7, d8, _⟩ := rx_cells hX
    rw [hrv] at d0
    rw [hon] at d5
    rw [hpp, hlf, hjb, hvr]
    exact ⟨d5, d0, d7, d8, d3, d4⟩
  have SK : Hid (∀ X, Kp W0 X non → (fun X : World => MgAt X B m ∧ X.heap[Y]? = some (.cells (rxA r Z) 76) ∧ X.cell? ⟨rb, p, none⟩ = some (.slice (some ⟨g, 0, none⟩) rn gc) ∧ X.cell? ⟨g, lf, none⟩ = some (.int .i64 ow)) X) := fun X hk => ⟨mg.keep hk (fun f => f), hk.blk0 x0.blk, hk.cell0 a1, hk.cell0 a2⟩
  have CT := hide (count_r (x0.kp0 ((Kp.refl W0 non).drew)) (by have := ok.ob; omega))
  rw [← hct] at CT
  have plb : pl ≤ 64 := by rw [hpl]; exact ok.rl.2
  have rnb : rn ≤ 16 := by rw [hrn, hrww]; exact hrw.2
  have ppl : p < pl := by rw [hpp, hpl]; exact hp
  have n1 : (m.kind != 16) = false := by rw [i1]; rfl
  have n2 : (m.fr != ow) = false := by rw [i2, how]; simp
  have n3 : (m.id != jb) = false := by rw [i3, hjb]; simp
  have n4 : (m.sq != (p : Int)) = false := by rw [i4, hpp]; simp
  have n5 : (m.ver != vr) = false := by rw [i5, hvr]; simp
  have n6 : (m.prev != (ct : Int)) = false := by rw [i6, hct]; simp
  have X2 : Hid (∀ W2, Kp W0 W2 non → RxAt W2 Y r Z ∧ MgAt W2 B m) := fun W2 hk => ⟨x0.kp0 hk, mg.keep hk (fun f => f)⟩
  have OK := hide ok
  have JB := hide jb9
  have HON := hide hon
  have HCT := hide hct
  have HR : Hid (hearR r m = goR r ∧ hearRL r m = goRL r) := ⟨by unfold hearR; rw [if_pos hc], by unfold hearRL; rw [if_pos hc]⟩
  have h0 := hide h
  clear i1 i2 i3 i4 i5 i6
  clear h ok hj hon k0 mg x0 hB hW0 jb9 hp hrw hu0 ho00 hrow o1 hpl hrv0 hrv hrww hrn ho0 hpp hlf a1 a2 how hjb hvr hct
  go_enter Tryd.func31, Tryd.ntmps31
  go_upto_region 3 with fail
  rw [← HW0.out, ← HB.out]
  refine wp_region_held_drew (S := fun X : World => MgAt X B m ∧ X.heap[Y]? = some (.cells (rxA r Z) 76) ∧ X.cell? ⟨rb, p, none⟩ = some (.slice (some ⟨g, 0, none⟩) rn gc) ∧ X.cell? ⟨g, lf, none⟩ = some (.int .i64 ow)) (by kernel_rfl) (SK.out _ ((Kp.refl W0 non).drew)) (fun hHeld => ?_)
  refine wTk (i := 0) (v := (.pointer (some ⟨Y, 0, none⟩))) rfl ?_ ?_
  · intro w' hSw
    (try dsimp only at hSw)
    go_simp
  (try simp only [Act.put, List.getElem_toArray, List.getElem_cons_zero, List.getElem_cons_succ, List.setIfInBounds_toArray, List.set_cons_zero, List.set_cons_succ])
  refine wTk (i := 1) (v := (.pointer (some ⟨Y, 0, none⟩))) rfl ?_ ?_
  · intro w' hSw
    (try dsimp only at hSw)
    go_simp
  (try simp only [Act.put, List.getElem_toArray, List.getElem_cons_zero, List.getElem_cons_succ, List.setIfInBounds_toArray, List.set_cons_zero, List.set_cons_succ])
  refine wTk (i := 2) (v := (.pointer (some ⟨Y, 5, none⟩))) rfl ?_ ?_
  · intro w' hSw
    (try dsimp only at hSw)
    go_simp
  (try simp only [Act.put, List.getElem_toArray, List.getElem_cons_zero, List.getElem_cons_succ, List.setIfInBounds_toArray, List.set_cons_zero, List.set_cons_succ])
  refine wTk (i := 3) (v := (.bool true)) rfl ?_ ?_
  · intro w' hSw
    (try dsimp only at hSw)
    (have z := (RC.out _ hSw.2.1).1; go_simp)
  (try simp only [Act.put, List.getElem_toArray, List.getElem_cons_zero, List.getElem_cons_succ, List.setIfInBounds_toArray, List.set_cons_zero, List.set_cons_succ])
  refine wTk (i := 4) (v := (.bool false)) rfl ?_ ?_
  · intro w' hSw
    (try dsimp only at hSw)
    go_simp
  (try simp only [Act.put, List.getElem_toArray, List.getElem_cons_zero, List.getElem_cons_succ, List.setIfInBounds_toArray, List.set_cons_zero, List.set_cons_succ])
  refine wTk (i := 5) (v := (.bool false)) rfl ?_ ?_
  · intro w' hSw
    (try dsimp only at hSw)
    go_simp
  (try simp only [Act.put, List.getElem_toArray, List.getElem_cons_zero, List.getElem_cons_succ, List.setIfInBounds_toArray, List.set_cons_zero, List.set_cons_succ])
  refine wTk (i := 6) (v := (.pointer (some ⟨B, 0, none⟩))) rfl ?_ ?_
  · intro w' hSw
    (try dsimp only at hSw)
    go_simp
  (try simp only [Act.put, List.getElem_toArray, List.getElem_cons_zero, List.getElem_cons_succ, List.setIfInBounds_toArray, List.set_cons_zero, List.set_cons_succ])
  refine wTk (i := 7) (v := (.int .i64 m.kind)) rfl ?_ ?_
  · intro w' hSw
    (try dsimp only at hSw)
    (have z := hSw.1.cells.1; go_simp)
  (try simp only [Act.put, List.getElem_toArray, List.getElem_cons_zero, List.getElem_cons_succ, List.setIfInBounds_toArray, List.set_cons_zero, List.set_cons_succ])
  refine wTk (i := 8) (v := (.bool false)) rfl ?_ ?_
  · intro w' hSw
    (try dsimp only at hSw)
    go_simp
  (try simp only [Act.put, List.getElem_toArray, List.getElem_cons_zero, List.getElem_cons_succ, List.setIfInBounds_toArray, List.set_cons_zero, List.set_cons_succ])
  refine wTk (i := 9) (v := (.bool false)) rfl ?_ ?_
  · intro w' hSw
    (try dsimp only at hSw)
    go_simp
  (try simp only [Act.put, List.getElem_toArray, List.getElem_cons_zero, List.getElem_cons_succ, List.setIfInBounds_toArray, List.set_cons_zero, List.set_cons_succ])
  refine wTk (i := 10) (v := (.bool false)) rfl ?_ ?_
  · intro w' hSw
    (try dsimp only at hSw)
    go_simp
  (try simp only [Act.put, List.getElem_toArray, List.getElem_cons_zero, List.getElem_cons_succ, List.setIfInBounds_toArray, List.set_cons_zero, List.set_cons_succ])
  refine wTk (i := 11) (v := (.pointer (some ⟨B, 1, none⟩))) rfl ?_ ?_
  · intro w' hSw
    (try dsimp only at hSw)
    go_simp
  (try simp only [Act.put, List.getElem_toArray, List.getElem_cons_zero, List.getElem_cons_succ, List.setIfInBounds_toArray, List.set_cons_zero, List.set_cons_succ])
  refine wTk (i := 12) (v := (.int .i64 m.fr)) rfl ?_ ?_
  · intro w' hSw
    (try dsimp only at hSw)
    (have z := hSw.1.cells.2.1; go_simp)
  (try simp only [Act.put, List.getElem_toArray, List.getElem_cons_zero, List.getElem_cons_succ, List.setIfInBounds_toArray, List.set_cons_zero, List.set_cons_succ])
  refine wTk (i := 13) (v := (.pointer (some ⟨Y, 0, none⟩))) rfl ?_ ?_
  · intro w' hSw
    (try dsimp only at hSw)
    go_simp
  (try simp only [Act.put, List.getElem_toArray, List.getElem_cons_zero, List.getElem_cons_succ, List.setIfInBounds_toArray, List.set_cons_zero, List.set_cons_succ])
  refine wTk (i := 14) (v := (.pointer (some ⟨Y, 0, none⟩))) rfl ?_ ?_
  · intro w' hSw
    (try dsimp only at hSw)
    go_simp
  (try simp only [Act.put, List.getElem_toArray, List.getElem_cons_zero, List.getElem_cons_succ, List.setIfInBounds_toArray, List.set_cons_zero, List.set_cons_succ])
  refine wTk (i := 15) (v := (.pointer (some ⟨Y, 0, none⟩))) rfl ?_ ?_
  · intro w' hSw
    (try dsimp only at hSw)
    go_simp
  (try simp only [Act.put, List.getElem_toArray, List.getElem_cons_zero, List.getElem_cons_succ, List.setIfInBounds_toArray, List.set_cons_zero, List.set_cons_succ])
  refine wTk (i := 16) (v := (.slice (some ⟨rb, 0, none⟩) pl rc)) rfl ?_ ?_
  · intro w' hSw
    (try dsimp only at hSw)
    (have z := (RC.out _ hSw.2.1).2.1; go_simp)
  (try simp only [Act.put, List.getElem_toArray, List.getElem_cons_zero, List.getElem_cons_succ, List.setIfInBounds_toArray, List.set_cons_zero, List.set_cons_succ])
  refine wTk (i := 17) (v := (.pointer (some ⟨Y, 0, none⟩))) rfl ?_ ?_
  · intro w' hSw
    (try dsimp only at hSw)
    go_simp
  (try simp only [Act.put, List.getElem_toArray, List.getElem_cons_zero, List.getElem_cons_succ, List.setIfInBounds_toArray, List.set_cons_zero, List.set_cons_succ])
  refine wTk (i := 18) (v := (.pointer (some ⟨Y, 0, none⟩))) rfl ?_ ?_
  · intro w' hSw
    (try dsimp only at hSw)
    go_simp
  (try simp only [Act.put, List.getElem_toArray, List.getElem_cons_zero, List.getElem_cons_succ, List.setIfInBounds_toArray, List.set_cons_zero, List.set_cons_succ])
  refine wTk (i := 19) (v := (.pointer (some ⟨Y, 7, none⟩))) rfl ?_ ?_
  · intro w' hSw
    (try dsimp only at hSw)
    go_simp
  (try simp only [Act.put, List.getElem_toArray, List.getElem_cons_zero, List.getElem_cons_succ, List.setIfInBounds_toArray, List.set_cons_zero, List.set_cons_succ])
  refine wTk (i := 20) (v := (.int .i64 (p : Int))) rfl ?_ ?_
  · intro w' hSw
    (try dsimp only at hSw)
    (have z := (RC.out _ hSw.2.1).2.2.1; go_simp)
  (try simp only [Act.put, List.getElem_toArray, List.getElem_cons_zero, List.getElem_cons_succ, List.setIfInBounds_toArray, List.set_cons_zero, List.set_cons_succ])
  refine wTk (i := 21) (v := (.pointer (some ⟨rb, p, none⟩))) rfl ?_ ?_
  · intro w' hSw
    (try dsimp only at hSw)
    go_simp
  (try simp only [Act.put, List.getElem_toArray, List.getElem_cons_zero, List.getElem_cons_succ, List.setIfInBounds_toArray, List.set_cons_zero, List.set_cons_succ])
  refine wTk (i := 22) (v := (.slice (some ⟨g, 0, none⟩) rn gc)) rfl ?_ ?_
  · intro w' hSw
    (try dsimp only at hSw)
    (have z := hSw.2.2.1; go_simp)
  (try simp only [Act.put, List.getElem_toArray, List.getElem_cons_zero, List.getElem_cons_succ, List.setIfInBounds_toArray, List.set_cons_zero, List.set_cons_succ])
  refine wTk (i := 23) (v := (.pointer (some ⟨Y, 0, none⟩))) rfl ?_ ?_
  · intro w' hSw
    (try dsimp only at hSw)
    go_simp
  (try simp only [Act.put, List.getElem_toArray, List.getElem_cons_zero, List.getElem_cons_succ, List.setIfInBounds_toArray, List.set_cons_zero, List.set_cons_succ])
  refine wTk (i := 24) (v := (.pointer (some ⟨Y, 0, none⟩))) rfl ?_ ?_
  · intro w' hSw
    (try dsimp only at hSw)
    go_simp
  (try simp only [Act.put, List.getElem_toArray, List.getElem_cons_zero, List.getElem_cons_succ, List.setIfInBounds_toArray, List.set_cons_zero, List.set_cons_succ])
  refine wTk (i := 25) (v := (.pointer (some ⟨Y, 8, none⟩))) rfl ?_ ?_
  · intro w' hSw
    (try dsimp only at hSw)
    go_simp
  (try simp only [Act.put, List.getElem_toArray, List.getElem_cons_zero, List.getElem_cons_succ, List.setIfInBounds_toArray, List.set_cons_zero, List.set_cons_succ])
  refine wTk (i := 26) (v := (.int .i64 (lf : Int))) rfl ?_ ?_
  · intro w' hSw
    (try dsimp only at hSw)
    (have z := (RC.out _ hSw.2.1).2.2.2.1; go_simp)
  (try simp only [Act.put, List.getElem_toArray, List.getElem_cons_zero, List.getElem_cons_succ, List.setIfInBounds_toArray, List.set_cons_zero, List.set_cons_succ])
  refine wTk (i := 27) (v := (.pointer (some ⟨g, lf, none⟩))) rfl ?_ ?_
  · intro w' hSw
    (try dsimp only at hSw)
    go_simp
  (try simp only [Act.put, List.getElem_toArray, List.getElem_cons_zero, List.getElem_cons_succ, List.setIfInBounds_toArray, List.set_cons_zero, List.set_cons_succ])
  refine wTk (i := 28) (v := (.int .i64 ow)) rfl ?_ ?_
  · intro w' hSw
    (try dsimp only at hSw)
    (have z := hSw.2.2.2; go_simp)
  (try simp only [Act.put, List.getElem_toArray, List.getElem_cons_zero, List.getElem_cons_succ, List.setIfInBounds_toArray, List.set_cons_zero, List.set_cons_succ])
  refine wTk (i := 29) (v := (.bool false)) rfl ?_ ?_
  · intro w' hSw
    (try dsimp only at hSw)
    go_simp
  (try simp only [Act.put, List.getElem_toArray, List.getElem_cons_zero, List.getElem_cons_succ, List.setIfInBounds_toArray, List.set_cons_zero, List.set_cons_succ])
  refine wTk (i := 30) (v := (.bool false)) rfl ?_ ?_
  · intro w' hSw
    (try dsimp only at hSw)
    go_simp
  (try simp only [Act.put, List.getElem_toArray, List.getElem_cons_zero, List.getElem_cons_succ, List.setIfInBounds_toArray, List.set_cons_zero, List.set_cons_succ])
  refine wTk (i := 31) (v := (.bool false)) rfl ?_ ?_
  · intro w' hSw
    (try dsimp only at hSw)
    go_simp
  (try simp only [Act.put, List.getElem_toArray, List.getElem_cons_zero, List.getElem_cons_succ, List.setIfInBounds_toArray, List.set_cons_zero, List.set_cons_succ])
  refine wTk (i := 32) (v := (.pointer (some ⟨B, 3, none⟩))) rfl ?_ ?_
  · intro w' hSw
    (try dsimp only at hSw)
    go_simp
  (try simp only [Act.put, List.getElem_toArray, List.getElem_cons_zero, List.getElem_cons_succ, List.setIfInBounds_toArray, List.set_cons_zero, List.set_cons_succ])
  refine wTk (i := 33) (v := (.int .i64 m.id)) rfl ?_ ?_
  · intro w' hSw
    (try dsimp only at hSw)
    (have z := hSw.1.cells.2.2.2.1; go_simp)
  (try simp only [Act.put, List.getElem_toArray, List.getElem_cons_zero, List.getElem_cons_succ, List.setIfInBounds_toArray, List.set_cons_zero, List.set_cons_succ])
  refine wTk (i := 34) (v := (.pointer (some ⟨Y, 0, none⟩))) rfl ?_ ?_
  · intro w' hSw
    (try dsimp only at hSw)
    go_simp
  (try simp only [Act.put, List.getElem_toArray, List.getElem_cons_zero, List.getElem_cons_succ, List.setIfInBounds_toArray, List.set_cons_zero, List.set_cons_succ])
  refine wTk (i := 35) (v := (.pointer (some ⟨Y, 0, none⟩))) rfl ?_ ?_
  · intro w' hSw
    (try dsimp only at hSw)
    go_simp
  (try simp only [Act.put, List.getElem_toArray, List.getElem_cons_zero, List.getElem_cons_succ, List.setIfInBounds_toArray, List.set_cons_zero, List.set_cons_succ])
  refine wTk (i := 36) (v := (.pointer (some ⟨Y, 3, none⟩))) rfl ?_ ?_
  · intro w' hSw
    (try dsimp only at hSw)
    go_simp
  (try simp only [Act.put, List.getElem_toArray, List.getElem_cons_zero, List.getElem_cons_succ, List.setIfInBounds_toArray, List.set_cons_zero, List.set_cons_succ])
  refine wTk (i := 37) (v := (.int .i64 jb)) rfl ?_ ?_
  · intro w' hSw
    (try dsimp only at hSw)
    (have z := (RC.out _ hSw.2.1).2.2.2.2.1; go_simp)
  (try simp only [Act.put, List.getElem_toArray, List.getElem_cons_zero, List.getElem_cons_succ, List.setIfInBounds_toArray, List.set_cons_zero, List.set_cons_succ])
  refine wTk (i := 38) (v := (.bool false)) rfl ?_ ?_
  · intro w' hSw
    (try dsimp only at hSw)
    go_simp
  (try simp only [Act.put, List.getElem_toArray, List.getElem_cons_zero, List.getElem_cons_succ, List.setIfInBounds_toArray, List.set_cons_zero, List.set_cons_succ])
  refine wTk (i := 39) (v := (.bool false)) rfl ?_ ?_
  · intro w' hSw
    (try dsimp only at hSw)
    go_simp
  (try simp only [Act.put, List.getElem_toArray, List.getElem_cons_zero, List.getElem_cons_succ, List.setIfInBounds_toArray, List.set_cons_zero, List.set_cons_succ])
  refine wTk (i := 40) (v := (.bool false)) rfl ?_ ?_
  · intro w' hSw
    (try dsimp only at hSw)
    go_simp
  (try simp only [Act.put, List.getElem_toArray, List.getElem_cons_zero, List.getElem_cons_succ, List.setIfInBounds_toArray, List.set_cons_zero, List.set_cons_succ])
  refine wTk (i := 41) (v := (.pointer (some ⟨B, 5, none⟩))) rfl ?_ ?_
  · intro w' hSw
    (try dsimp only at hSw)
    go_simp
  (try simp only [Act.put, List.getElem_toArray, List.getElem_cons_zero, List.getElem_cons_succ, List.setIfInBounds_toArray, List.set_cons_zero, List.set_cons_succ])
  refine wTk (i := 42) (v := (.int .i64 m.sq)) rfl ?_ ?_
  · intro w' hSw
    (try dsimp only at hSw)
    (have z := hSw.1.cells.2.2.2.2.2.1; go_simp)
  (try simp only [Act.put, List.getElem_toArray, List.getElem_cons_zero, List.getElem_cons_succ, List.setIfInBounds_toArray, List.set_cons_zero, List.set_cons_succ])
  refine wTk (i := 43) (v := (.pointer (some ⟨Y, 0, none⟩))) rfl ?_ ?_
  · intro w' hSw
    (try dsimp only at hSw)
    go_simp
  (try simp only [Act.put, List.getElem_toArray, List.getElem_cons_zero, List.getElem_cons_succ, List.setIfInBounds_toArray, List.set_cons_zero, List.set_cons_succ])
  refine wTk (i := 44) (v := (.pointer (some ⟨Y, 0, none⟩))) rfl ?_ ?_
  · intro w' hSw
    (try dsimp only at hSw)
    go_simp
  (try simp only [Act.put, List.getElem_toArray, List.getElem_cons_zero, List.getElem_cons_succ, List.setIfInBounds_toArray, List.set_cons_zero, List.set_cons_succ])
  refine wTk (i := 45) (v := (.pointer (some ⟨Y, 7, none⟩))) rfl ?_ ?_
  · intro w' hSw
    (try dsimp only at hSw)
    go_simp
  (try simp only [Act.put, List.getElem_toArray, List.getElem_cons_zero, List.getElem_cons_succ, List.setIfInBounds_toArray, List.set_cons_zero, List.set_cons_succ])
  refine wTk (i := 46) (v := (.int .i64 (p : Int))) rfl ?_ ?_
  · intro w' hSw
    (try dsimp only at hSw)
    (have z := (RC.out _ hSw.2.1).2.2.1; go_simp)
  (try simp only [Act.put, List.getElem_toArray, List.getElem_cons_zero, List.getElem_cons_succ, List.setIfInBounds_toArray, List.set_cons_zero, List.set_cons_succ])
  refine wTk (i := 47) (v := (.bool false)) rfl ?_ ?_
  · intro w' hSw
    (try dsimp only at hSw)
    go_simp
  (try simp only [Act.put, List.getElem_toArray, List.getElem_cons_zero, List.getElem_cons_succ, List.setIfInBounds_toArray, List.set_cons_zero, List.set_cons_succ])
  refine wTk (i := 48) (v := (.bool false)) rfl ?_ ?_
  · intro w' hSw
    (try dsimp only at hSw)
    go_simp
  (try simp only [Act.put, List.getElem_toArray, List.getElem_cons_zero, List.getElem_cons_succ, List.setIfInBounds_toArray, List.set_cons_zero, List.set_cons_succ])
  refine wTk (i := 49) (v := (.bool false)) rfl ?_ ?_
  · intro w' hSw
    (try dsimp only at hSw)
    go_simp
  (try simp only [Act.put, List.getElem_toArray, List.getElem_cons_zero, List.getElem_cons_succ, List.setIfInBounds_toArray, List.set_cons_zero, List.set_cons_succ])
  refine wTk (i := 50) (v := (.pointer (some ⟨B, 6, none⟩))) rfl ?_ ?_
  · intro w' hSw
    (try dsimp only at hSw)
    go_simp
  (try simp only [Act.put, List.getElem_toArray, List.getElem_cons_zero, List.getElem_cons_succ, List.setIfInBounds_toArray, List.set_cons_zero, List.set_cons_succ])
  refine wTk (i := 51) (v := (.int .i64 m.ver)) rfl ?_ ?_
  · intro w' hSw
    (try dsimp only at hSw)
    (have z := hSw.1.cells.2.2.2.2.2.2.1; go_simp)
  (try simp only [Act.put, List.getElem_toArray, List.getElem_cons_zero, List.getElem_cons_succ, List.setIfInBounds_toArray, List.set_cons_zero, List.set_cons_succ])
  refine wTk (i := 52) (v := (.pointer (some ⟨Y, 0, none⟩))) rfl ?_ ?_
  · intro w' hSw
    (try dsimp only at hSw)
    go_simp
  (try simp only [Act.put, List.getElem_toArray, List.getElem_cons_zero, List.getElem_cons_succ, List.setIfInBounds_toArray, List.set_cons_zero, List.set_cons_succ])
  refine wTk (i := 53) (v := (.pointer (some ⟨Y, 0, none⟩))) rfl ?_ ?_
  · intro w' hSw
    (try dsimp only at hSw)
    go_simp
  (try simp only [Act.put, List.getElem_toArray, List.getElem_cons_zero, List.getElem_cons_succ, List.setIfInBounds_toArray, List.set_cons_zero, List.set_cons_succ])
  refine wTk (i := 54) (v := (.pointer (some ⟨Y, 4, none⟩))) rfl ?_ ?_
  · intro w' hSw
    (try dsimp only at hSw)
    go_simp
  (try simp only [Act.put, List.getElem_toArray, List.getElem_cons_zero, List.getElem_cons_succ, List.setIfInBounds_toArray, List.set_cons_zero, List.set_cons_succ])
  refine wTk (i := 55) (v := (.int .i64 vr)) rfl ?_ ?_
  · intro w' hSw
    (try dsimp only at hSw)
    (have z := (RC.out _ hSw.2.1).2.2.2.2.2; go_simp)
  (try simp only [Act.put, List.getElem_toArray, List.getElem_cons_zero, List.getElem_cons_succ, List.setIfInBounds_toArray, List.set_cons_zero, List.set_cons_succ])
  refine wTk (i := 56) (v := (.bool false)) rfl ?_ ?_
  · intro w' hSw
    (try dsimp only at hSw)
    go_simp
  (try simp only [Act.put, List.getElem_toArray, List.getElem_cons_zero, List.getElem_cons_succ, List.setIfInBounds_toArray, List.set_cons_zero, List.set_cons_succ])
  refine wTk (i := 57) (v := (.bool false)) rfl ?_ ?_
  · intro w' hSw
    (try dsimp only at hSw)
    go_simp
  (try simp only [Act.put, List.getElem_toArray, List.getElem_cons_zero, List.getElem_cons_succ, List.setIfInBounds_toArray, List.set_cons_zero, List.set_cons_succ])
  refine wTk (i := 58) (v := (.bool false)) rfl ?_ ?_
  · intro w' hSw
    (try dsimp only at hSw)
    go_simp
  (try simp only [Act.put, List.getElem_toArray, List.getElem_cons_zero, List.getElem_cons_succ, List.setIfInBounds_toArray, List.set_cons_zero, List.set_cons_succ])
  refine wTk (i := 59) (v := (.pointer (some ⟨B, 7, none⟩))) rfl ?_ ?_
  · intro w' hSw
    (try dsimp only at hSw)
    go_simp
  (try simp only [Act.put, List.getElem_toArray, List.getElem_cons_zero, List.getElem_cons_succ, List.setIfInBounds_toArray, List.set_cons_zero, List.set_cons_succ])
  refine wTk (i := 60) (v := (.int .i64 m.prev)) rfl ?_ ?_
  · intro w' hSw
    (try dsimp only at hSw)
    (have z := hSw.1.cells.2.2.2.2.2.2.2.1; go_simp)
  (try simp only [Act.put, List.getElem_toArray, List.getElem_cons_zero, List.getElem_cons_succ, List.setIfInBounds_toArray, List.set_cons_zero, List.set_cons_succ])
  refine wTk (i := 61) (v := (.pointer (some ⟨Y, 0, none⟩))) rfl ?_ ?_
  · intro w' hSw
    (try dsimp only at hSw)
    go_simp
  (try simp only [Act.put, List.getElem_toArray, List.getElem_cons_zero, List.getElem_cons_succ, List.setIfInBounds_toArray, List.set_cons_zero, List.set_cons_succ])
  refine wpAnyH_ready (rs := [62]) (by kernel_rfl) (by simp) ?_
  refine AllReadyH.cons rfl (fun K hK => ?_) AllReadyH.nil
  go_simp
  refine Calls.mono CT.out ?_
  rintro e W2 ⟨rfl, k2⟩
  have K2 : Hid (Kp W0 W2 non) := ((Kp.refl W0 non).drew).trans k2 (fun _ f => f.elim)
  clear k2 CT
  refine hK.out _ _ ((SK.out W2 K2.out)) (fun hHeld => ?_)
  clear hK
  (try simp only [Act.put, List.setIfInBounds_toArray, List.set_cons_zero, List.set_cons_succ])
  refine wTk (i := 63) (v := (.bool false)) rfl ?_ ?_
  · intro w' hSw
    (try dsimp only at hSw)
    go_simp
  (try simp only [Act.put, List.getElem_toArray, List.getElem_cons_zero, List.getElem_cons_succ, List.setIfInBounds_toArray, List.set_cons_zero, List.set_cons_succ])
  refine wpAnyH_ready (rs := [64]) (by kernel_rfl) (by simp) ?_
  refine AllReadyH.cons rfl (fun K hK => ?_) AllReadyH.nil
  go_simp
  refine hK.out _ _ ((SK.out W2 K2.out)) (fun hHeld => ?_)
  clear hK
  (try simp only [Act.put, List.setIfInBounds_toArray, List.set_cons_zero, List.set_cons_succ])
  refine wpAnyH_done (by kernel_rfl) ?_ _
  clear hHeld
  clear n1 n2 n3 n4 n5 n6 RC
  have x2 := X2.out W2 K2.out
  have c8 : W2.cell? ⟨B, 8, none⟩ = some (.int .i64 m.code) := x2.2.cells.2.2.2.2.2.2.2.2.1
  rw [hc] at c8
  have LW : Hid (Lr w W2 Y Z r Z) := Lr.same h0.out (K0.out.trans K2.out (fun _ f => f.elim))
  have CALL := hide (goOn_r x2.1 OK.out JB.out.pt HON.out)
  clear x2
  go_wp2_with fail
  refine Calls.mono CALL.out ?_
  rintro e W9 ⟨u, Z9, rfl, o9, l9⟩
  have O9 := hide o9
  have L9 := hide (LW.out.trans l9)
  clear o9 l9 CALL
  go_wp2_with fail
  go_ret2
  first | refine ⟨_, Z9, rfl, ?_, ?_⟩ | refine ⟨_, rfl, ?_, Z9, ?_⟩
  · rw [TK.out.2, HR.out.2]
    exact own_base O9.out LW.out.kp.size
  · rw [TK.out.1, HR.out.1]
    exact L9.out
set_option maxHeartbeats 16000000 in
set_option maxRecDepth 100000 in
set_option linter.unusedSimpArgs false in
set_option linter.unusedVariables false in
theorem take_lv {w : World} {Y : Nat} {r : Rx} {Z : Zr} (h : RxAt w Y r Z) (ok : Rok r) (hj : r.on = true → Rjb r) (m : Mg) (hi : isR r m = true) (hc : m.code ≠ 16) (hc0 : m.code ≠ 0) :
    Calls Tryd.prog 31 #[.pointer (some ⟨Y, 0, none⟩), .agg (mgV m)] w fun e w' => ∃ u Z', e = .returned (.tuple #[u, .int .i64 0]) ∧ Out w w' u (takeRL r m) ∧ Lr w w' Y Z (takeR r m) Z' := by
  obtain ⟨B, hB⟩ : ∃ B, B = w.heap.size := ⟨_, rfl⟩
  obtain ⟨W0, hW0⟩ : ∃ W0, W0 = w.alloc (.cells (mgV m) 36) := ⟨_, rfl⟩
  have k0 : Kp w W0 non := by rw [hW0]; exact (Kp.refl w non).alloc _
  have mg : MgAt W0 B m := by rw [hW0, hB]; exact MgAt.new w m
  have x0 := h.kp0 k0
  have K0 := hide k0
  have HB := hide hB
  have HW0 := hide hW0
  have TK : Hid (takeR r m = hearR r m ∧ takeRL r m = hearRL r m) := ⟨by unfold takeR; rw [if_pos hi], by unfold takeRL; rw [if_pos hi]⟩
  unfold isR at hi
  simp only [Bool.and_eq_true, beq_iff_eq] at hi
  obtain ⟨hon, i1, ⟨⟨⟨⟨i2, i3⟩, i4⟩, i5⟩, i6⟩⟩ := hi
  have jb9 := hj hon
  have hp := jb9.pt
  have hrw := ok.row hp
  obtain ⟨u0, hu0, ho00⟩ := x0.ow.row r.part hp
  have hrow : rowR r = r.rows[r.part] := by unfold rowR; rw [List.getElem?_eq_getElem hp]; rfl
  have o1 := x0.ow.rows
  obtain ⟨pl, hpl⟩ : ∃ pl, pl = r.rows.length := ⟨_, rfl⟩
  obtain ⟨rb, rc, hrv0⟩ := own_g o1 (by show 0 < r.rows.length; omega)
  have hrv : Z.rv = .slice (some ⟨rb, 0, none⟩) pl rc := by rw [hpl]; exact hrv0
  obtain ⟨row, hrww⟩ : ∃ row, row = rowR r := ⟨_, rfl⟩
  obtain ⟨rn, hrn⟩ : ∃ rn, rn = row.length := ⟨_, rfl⟩
  have ho0 : W0.ownsRow 0 3 1 u0 row.length (ints row) := by rw [hrww, hrow]; exact ho00
  rw [← hrn] at ho0
  have hl : r.left < rn := by rw [hrn, hrww]; exact jb9.lf
  obtain ⟨g, gc, hug⟩ := own_g ho0 (by omega)
  subst hug
  obtain ⟨p, hpp⟩ : ∃ p, p = r.part := ⟨_, rfl⟩
  obtain ⟨lf, hlf⟩ : ∃ lf, lf = r.left := ⟨_, rfl⟩
  rw [← hpp] at hu0
  rw [← hlf] at hl
  have a1 : W0.cell? ⟨rb, p, none⟩ = some (.slice (some ⟨g, 0, none⟩) rn gc) := by
    obtain ⟨g', c', e1, hc, _⟩ := own_at o1 hu0
    rw [hrv] at e1
    injection e1 with e1
    injection e1 with e1
    injection e1 with e1
    rw [e1]
    exact hc
  obtain ⟨ow, how⟩ : ∃ ow, ow = ownR r := ⟨_, rfl⟩
  have a2 : W0.cell? ⟨g, lf, none⟩ = some (.int .i64 ow) := by
    have hlr : lf < row.length := by rw [← hrn]; exact hl
    have z := ho0.cellAt lf (by omega)
    rw [ints_at2 row lf hlr] at z
    rw [z, how]
    unfold ownR
    rw [← hrww, ← hlf, List.getElem?_eq_getElem hlr]
    rfl
  obtain ⟨jb, hjb⟩ : ∃ jb, jb = r.job := ⟨_, rfl⟩
  obtain ⟨vr, hvr⟩ : ∃ vr, vr = r.ver := ⟨_, rfl⟩
  obtain ⟨ct, hct⟩ : ∃ ct, ct = cntR r := ⟨_, rfl⟩
  have RC : Hid (∀ X : World, X.heap[Y]? = some (.cells (rxA r Z) 76) → X.cell? ⟨Y, 5, none⟩ = some (.bool true) ∧ X.cell? ⟨Y, 0, none⟩ = some (.slice (some ⟨rb, 0, none⟩) pl rc) ∧ X.cell? ⟨Y, 7, none⟩ = some (.int .i64 (p : Int)) ∧ X.cell? ⟨Y, 8, none⟩ = some (.int .i64 (lf : Int)) ∧ X.cell? ⟨Y, 3, none⟩ = some (.int .i64 jb) ∧ X.cell? ⟨Y, 4, none⟩ = some (.int .i64 vr)) := fun X hX => by
    obtain ⟨d0, _, _, d3, d4, d5, _, d7, d8, _⟩ := rx_cells hX
    rw [hrv] at d0
    rw [hon] at d5
    rw [hpp, hlf, hjb, hvr]
    exact ⟨d5, d0, d7, d8, d3, d4⟩
  have SK : Hid (∀ X, Kp W0 X non → (fun X : World => MgAt X B m ∧ X.heap[Y]? = some (.cells (rxA r Z) 76) ∧ X.cell? ⟨rb, p, none⟩ = some (.slice (some ⟨g, 0, none⟩) rn gc) ∧ X.cell? ⟨g, lf, none⟩ = some (.int .i64 ow)) X) := fun X hk => ⟨mg.keep hk (fun f => f), hk.blk0 x0.blk, hk.cell0 a1, hk.cell0 a2⟩
  have CT := hide (count_r (x0.kp0 ((Kp.refl W0 non).drew)) (by have := ok.ob; omega))
  rw [← hct] at CT
  have plb : pl ≤ 64 := by rw [hpl]; exact ok.rl.2
  have rnb : rn ≤ 16 := by rw [hrn, hrww]; exact hrw.2
  have ppl : p < pl := by rw [hpp, hpl]; exact hp
  have n1 : (m.kind != 16) = false := by rw [i1]; rfl
  have n2 : (m.fr != ow) = false := by rw [i2, how]; simp
  have n3 : (m.id != jb) = false := by rw [i3, hjb]; simp
  have n4 : (m.sq != (p : Int)) = false := by rw [i4, hpp]; simp
  have n5 : (m.ver != vr) = false := by rw [i5, hvr]; simp
  have n6 : (m.prev != (ct : Int)) = false := by rw [i6, hct]; simp
  have X2 : Hid (∀ W2, Kp W0 W2 non → RxAt W2 Y r Z ∧ MgAt W2 B m) := fun W2 hk => ⟨x0.kp0 hk, mg.keep hk (fun f => f)⟩
  have OK := hide ok
  have JB := hide jb9
  have HON := hide hon
  have HCT := hide hct
  have HR : Hid (hearR r m = leaveR r ∧ hearRL r m = leaveRL r) := ⟨by unfold hearR; rw [if_neg hc, if_neg (fun z => hc0 z.1)], by unfold hearRL; rw [if_neg hc, if_neg (fun z => hc0 z.1)]⟩
  have h0 := hide h
  have q16 : (m.code == 16) = false := by simp [hc]
  have q0 : (m.code == 0) = false := by simp [hc0]
  clear i1 i2 i3 i4 i5 i6
  clear h ok hj hon k0 mg x0 hB hW0 jb9 hp hrw hu0 ho00 hrow o1 hpl hrv0 hrv hrww hrn ho0 hpp hlf a1 a2 how hjb hvr hct
  go_enter Tryd.func31, Tryd.ntmps31
  go_upto_region 3 with fail
  rw [← HW0.out, ← HB.out]
  refine wp_region_held_drew (S := fun X : World => MgAt X B m ∧ X.heap[Y]? = some (.cells (rxA r Z) 76) ∧ X.cell? ⟨rb, p, none⟩ = some (.slice (some ⟨g, 0, none⟩) rn gc) ∧ X.cell? ⟨g, lf, none⟩ = some (.int .i64 ow)) (by kernel_rfl) (SK.out _ ((Kp.refl W0 non).drew)) (fun hHeld => ?_)
  refine wTk (i := 0) (v := (.pointer (some ⟨Y, 0, none⟩))) rfl ?_ ?_
  · intro w' hSw
    (try dsimp only at hSw)
    go_simp
  (try simp only [Act.put, List.getElem_toArray, List.getElem_cons_zero, List.getElem_cons_succ, List.setIfInBounds_toArray, List.set_cons_zero, List.set_cons_succ])
  refine wTk (i := 1) (v := (.pointer (some ⟨Y, 0, none⟩))) rfl ?_ ?_
  · intro w' hSw
    (try dsimp only at hSw)
    go_simp
  (try simp only [Act.put, List.getElem_toArray, List.getElem_cons_zero, List.getElem_cons_succ, List.setIfInBounds_toArray, List.set_cons_zero, List.set_cons_succ])
  refine wTk (i := 2) (v := (.pointer (some ⟨Y, 5, none⟩))) rfl ?_ ?_
  · intro w' hSw
    (try dsimp only at hSw)
    go_simp
  (try simp only [Act.put, List.getElem_toArray, List.getElem_cons_zero, List.getElem_cons_succ, List.setIfInBounds_toArray, List.set_cons_zero, List.set_cons_succ])
  refine wTk (i := 3) (v := (.bool true)) rfl ?_ ?_
  · intro w' hSw
    (try dsimp only at hSw)
    (have z := (RC.out _ hSw.2.1).1; go_simp)
  (try simp only [Act.put, List.getElem_toArray, List.getElem_cons_zero, List.getElem_cons_succ, List.setIfInBounds_toArray, List.set_cons_zero, List.set_cons_succ])
  refine wTk (i := 4) (v := (.bool false)) rfl ?_ ?_
  · intro w' hSw
    (try dsimp only at hSw)
    go_simp
  (try simp only [Act.put, List.getElem_toArray, List.getElem_cons_zero, List.getElem_cons_succ, List.setIfInBounds_toArray, List.set_cons_zero, List.set_cons_succ])
  refine wTk (i := 5) (v := (.bool false)) rfl ?_ ?_
  · intro w' hSw
    (try dsimp only at hSw)
    go_simp
  (try simp only [Act.put, List.getElem_toArray, List.getElem_cons_zero, List.getElem_cons_succ, List.setIfInBounds_toArray, List.set_cons_zero, List.set_cons_succ])
  refine wTk (i := 6) (v := (.pointer (some ⟨B, 0, none⟩))) rfl ?_ ?_
  · intro w' hSw
    (try dsimp only at hSw)
    go_simp
  (try simp only [Act.put, List.getElem_toArray, List.getElem_cons_zero, List.getElem_cons_succ, List.setIfInBounds_toArray, List.set_cons_zero, List.set_cons_succ])
  refine wTk (i := 7) (v := (.int .i64 m.kind)) rfl ?_ ?_
  · intro w' hSw
    (try dsimp only at hSw)
    (have z := hSw.1.cells.1; go_simp)
  (try simp only [Act.put, List.getElem_toArray, List.getElem_cons_zero, List.getElem_cons_succ, List.setIfInBounds_toArray, List.set_cons_zero, List.set_cons_succ])
  refine wTk (i := 8) (v := (.bool false)) rfl ?_ ?_
  · intro w' hSw
    (try dsimp only at hSw)
    go_simp
  (try simp only [Act.put, List.getElem_toArray, List.getElem_cons_zero, List.getElem_cons_succ, List.setIfInBounds_toArray, List.set_cons_zero, List.set_cons_succ])
  refine wTk (i := 9) (v := (.bool false)) rfl ?_ ?_
  · intro w' hSw
    (try dsimp only at hSw)
    go_simp
  (try simp only [Act.put, List.getElem_toArray, List.getElem_cons_zero, List.getElem_cons_succ, List.setIfInBounds_toArray, List.set_cons_zero, List.set_cons_succ])
  refine wTk (i := 10) (v := (.bool false)) rfl ?_ ?_
  · intro w' hSw
    (try dsimp only at hSw)
    go_simp
  (try simp only [Act.put, List.getElem_toArray, List.getElem_cons_zero, List.getElem_cons_succ, List.setIfInBounds_toArray, List.set_cons_zero, List.set_cons_succ])
  refine wTk (i := 11) (v := (.pointer (some ⟨B, 1, none⟩))) rfl ?_ ?_
  · intro w' hSw
    (try dsimp only at hSw)
    go_simp
  (try simp only [Act.put, List.getElem_toArray, List.getElem_cons_zero, List.getElem_cons_succ, List.setIfInBounds_toArray, List.set_cons_zero, List.set_cons_succ])
  refine wTk (i := 12) (v := (.int .i64 m.fr)) rfl ?_ ?_
  · intro w' hSw
    (try dsimp only at hSw)
    (have z := hSw.1.cells.2.1; go_simp)
  (try simp only [Act.put, List.getElem_toArray, List.getElem_cons_zero, List.getElem_cons_succ, List.setIfInBounds_toArray, List.set_cons_zero, List.set_cons_succ])
  refine wTk (i := 13) (v := (.pointer (some ⟨Y, 0, none⟩))) rfl ?_ ?_
  · intro w' hSw
    (try dsimp only at hSw)
    go_simp
  (try simp only [Act.put, List.getElem_toArray, List.getElem_cons_zero, List.getElem_cons_succ, List.setIfInBounds_toArray, List.set_cons_zero, List.set_cons_succ])
  refine wTk (i := 14) (v := (.pointer (some ⟨Y, 0, none⟩))) rfl ?_ ?_
  · intro w' hSw
    (try dsimp only at hSw)
    go_simp
  (try simp only [Act.put, List.getElem_toArray, List.getElem_cons_zero, List.getElem_cons_succ, List.setIfInBounds_toArray, List.set_cons_zero, List.set_cons_succ])
  refine wTk (i := 15) (v := (.pointer (some ⟨Y, 0, none⟩))) rfl ?_ ?_
  · intro w' hSw
    (try dsimp only at hSw)
    go_simp
  (try simp only [Act.put, List.getElem_toArray, List.getElem_cons_zero, List.getElem_cons_succ, List.setIfInBounds_toArray, List.set_cons_zero, List.set_cons_succ])
  refine wTk (i := 16) (v := (.slice (some ⟨rb, 0, none⟩) pl rc)) rfl ?_ ?_
  · intro w' hSw
    (try dsimp only at hSw)
    (have z := (RC.out _ hSw.2.1).2.1; go_simp)
  (try simp only [Act.put, List.getElem_toArray, List.getElem_cons_zero, List.getElem_cons_succ, List.setIfInBounds_toArray, List.set_cons_zero, List.set_cons_succ])
  refine wTk (i := 17) (v := (.pointer (some ⟨Y, 0, none⟩))) rfl ?_ ?_
  · intro w' hSw
    (try dsimp only at hSw)
    go_simp
  (try simp only [Act.put, List.getElem_toArray, List.getElem_cons_zero, List.getElem_cons_succ, List.setIfInBounds_toArray, List.set_cons_zero, List.set_cons_succ])
  refine wTk (i := 18) (v := (.pointer (some ⟨Y, 0, none⟩))) rfl ?_ ?_
  · intro w' hSw
    (try dsimp only at hSw)
    go_simp
  (try simp only [Act.put, List.getElem_toArray, List.getElem_cons_zero, List.getElem_cons_succ, List.setIfInBounds_toArray, List.set_cons_zero, List.set_cons_succ])
  refine wTk (i := 19) (v := (.pointer (some ⟨Y, 7, none⟩))) rfl ?_ ?_
  · intro w' hSw
    (try dsimp only at hSw)
    go_simp
  (try simp only [Act.put, List.getElem_toArray, List.getElem_cons_zero, List.getElem_cons_succ, List.setIfInBounds_toArray, List.set_cons_zero, List.set_cons_succ])
  refine wTk (i := 20) (v := (.int .i64 (p : Int))) rfl ?_ ?_
  · intro w' hSw
    (try dsimp only at hSw)
    (have z := (RC.out _ hSw.2.1).2.2.1; go_simp)
  (try simp only [Act.put, List.getElem_toArray, List.getElem_cons_zero, List.getElem_cons_succ, List.setIfInBounds_toArray, List.set_cons_zero, List.set_cons_succ])
  refine wTk (i := 21) (v := (.pointer (some ⟨rb, p, none⟩))) rfl ?_ ?_
  · intro w' hSw
    (try dsimp only at hSw)
    go_simp
  (try simp only [Act.put, List.getElem_toArray, List.getElem_cons_zero, List.getElem_cons_succ, List.setIfInBounds_toArray, List.set_cons_zero, List.set_cons_succ])
  refine wTk (i := 22) (v := (.slice (some ⟨g, 0, none⟩) rn gc)) rfl ?_ ?_
  · intro w' hSw
    (try dsimp only at hSw)
    (have z := hSw.2.2.1; go_simp)
  (try simp only [Act.put, List.getElem_toArray, List.getElem_cons_zero, List.getElem_cons_succ, List.setIfInBounds_toArray, List.set_cons_zero, List.set_cons_succ])
  refine wTk (i := 23) (v := (.pointer (some ⟨Y, 0, none⟩))) rfl ?_ ?_
  · intro w' hSw
    (try dsimp only at hSw)
    go_simp
  (try simp only [Act.put, List.getElem_toArray, List.getElem_cons_zero, List.getElem_cons_succ, List.setIfInBounds_toArray, List.set_cons_zero, List.set_cons_succ])
  refine wTk (i := 24) (v := (.pointer (some ⟨Y, 0, none⟩))) rfl ?_ ?_
  · intro w' hSw
    (try dsimp only at hSw)
    go_simp
  (try simp only [Act.put, List.getElem_toArray, List.getElem_cons_zero, List.getElem_cons_succ, List.setIfInBounds_toArray, List.set_cons_zero, List.set_cons_succ])
  refine wTk (i := 25) (v := (.pointer (some ⟨Y, 8, none⟩))) rfl ?_ ?_
  · intro w' hSw
    (try dsimp only at hSw)
    go_simp
  (try simp only [Act.put, List.getElem_toArray, List.getElem_cons_zero, List.getElem_cons_succ, List.setIfInBounds_toArray, List.set_cons_zero, List.set_cons_succ])
  refine wTk (i := 26) (v := (.int .i64 (lf : Int))) rfl ?_ ?_
  · intro w' hSw
    (try dsimp only at hSw)
    (have z := (RC.out _ hSw.2.1).2.2.2.1; go_simp)
  (try simp only [Act.put, List.getElem_toArray, List.getElem_cons_zero, List.getElem_cons_succ, List.setIfInBounds_toArray, List.set_cons_zero, List.set_cons_succ])
  refine wTk (i := 27) (v := (.pointer (some ⟨g, lf, none⟩))) rfl ?_ ?_
  · intro w' hSw
    (try dsimp only at hSw)
    go_simp
  (try simp only [Act.put, List.getElem_toArray, List.getElem_cons_zero, List.getElem_cons_succ, List.setIfInBounds_toArray, List.set_cons_zero, List.set_cons_succ])
  refine wTk (i := 28) (v := (.int .i64 ow)) rfl ?_ ?_
  · intro w' hSw
    (try dsimp only at hSw)
    (have z := hSw.2.2.2; go_simp)
  (try simp only [Act.put, List.getElem_toArray, List.getElem_cons_zero, List.getElem_cons_succ, List.setIfInBounds_toArray, List.set_cons_zero, List.set_cons_succ])
  refine wTk (i := 29) (v := (.bool false)) rfl ?_ ?_
  · intro w' hSw
    (try dsimp only at hSw)
    go_simp
  (try simp only [Act.put, List.getElem_toArray, List.getElem_cons_zero, List.getElem_cons_succ, List.setIfInBounds_toArray, List.set_cons_zero, List.set_cons_succ])
  refine wTk (i := 30) (v := (.bool false)) rfl ?_ ?_
  · intro w' hSw
    (try dsimp only at hSw)
    go_simp
  (try simp only [Act.put, List.getElem_toArray, List.getElem_cons_zero, List.getElem_cons_succ, List.setIfInBounds_toArray, List.set_cons_zero, List.set_cons_succ])
  refine wTk (i := 31) (v := (.bool false)) rfl ?_ ?_
  · intro w' hSw
    (try dsimp only at hSw)
    go_simp
  (try simp only [Act.put, List.getElem_toArray, List.getElem_cons_zero, List.getElem_cons_succ, List.setIfInBounds_toArray, List.set_cons_zero, List.set_cons_succ])
  refine wTk (i := 32) (v := (.pointer (some ⟨B, 3, none⟩))) rfl ?_ ?_
  · intro w' hSw
    (try dsimp only at hSw)
    go_simp
  (try simp only [Act.put, List.getElem_toArray, List.getElem_cons_zero, List.getElem_cons_succ, List.setIfInBounds_toArray, List.set_cons_zero, List.set_cons_succ])
  refine wTk (i := 33) (v := (.int .i64 m.id)) rfl ?_ ?_
  · intro w' hSw
    (try dsimp only at hSw)
    (have z := hSw.1.cells.2.2.2.1; go_simp)
  (try simp only [Act.put, List.getElem_toArray, List.getElem_cons_zero, List.getElem_cons_succ, List.setIfInBounds_toArray, List.set_cons_zero, List.set_cons_succ])
  refine wTk (i := 34) (v := (.pointer (some ⟨Y, 0, none⟩))) rfl ?_ ?_
  · intro w' hSw
    (try dsimp only at hSw)
    go_simp
  (try simp only [Act.put, List.getElem_toArray, List.getElem_cons_zero, List.getElem_cons_succ, List.setIfInBounds_toArray, List.set_cons_zero, List.set_cons_succ])
  refine wTk (i := 35) (v := (.pointer (some ⟨Y, 0, none⟩))) rfl ?_ ?_
  · intro w' hSw
    (try dsimp only at hSw)
    go_simp
  (try simp only [Act.put, List.getElem_toArray, List.getElem_cons_zero, List.getElem_cons_succ, List.setIfInBounds_toArray, List.set_cons_zero, List.set_cons_succ])
  refine wTk (i := 36) (v := (.pointer (some ⟨Y, 3, none⟩))) rfl ?_ ?_
  · intro w' hSw
    (try dsimp only at hSw)
    go_simp
  (try simp only [Act.put, List.getElem_toArray, List.getElem_cons_zero, List.getElem_cons_succ, List.setIfInBounds_toArray, List.set_cons_zero, List.set_cons_succ])
  refine wTk (i := 37) (v := (.int .i64 jb)) rfl ?_ ?_
  · intro w' hSw
    (try dsimp only at hSw)
    (have z := (RC.out _ hSw.2.1).2.2.2.2.1; go_simp)
  (try simp only [Act.put, List.getElem_toArray, List.getElem_cons_zero, List.getElem_cons_succ, List.setIfInBounds_toArray, List.set_cons_zero, List.set_cons_succ])
  refine wTk (i := 38) (v := (.bool false)) rfl ?_ ?_
  · intro w' hSw
    (try dsimp only at hSw)
    go_simp
  (try simp only [Act.put, List.getElem_toArray, List.getElem_cons_zero, List.getElem_cons_succ, List.setIfInBounds_toArray, List.set_cons_zero, List.set_cons_succ])
  refine wTk (i := 39) (v := (.bool false)) rfl ?_ ?_
  · intro w' hSw
    (try dsimp only at hSw)
    go_simp
  (try simp only [Act.put, List.getElem_toArray, List.getElem_cons_zero, List.getElem_cons_succ, List.setIfInBounds_toArray, List.set_cons_zero, List.set_cons_succ])
  refine wTk (i := 40) (v := (.bool false)) rfl ?_ ?_
  · intro w' hSw
    (try dsimp only at hSw)
    go_simp
  (try simp only [Act.put, List.getElem_toArray, List.getElem_cons_zero, List.getElem_cons_succ, List.setIfInBounds_toArray, List.set_cons_zero, List.set_cons_succ])
  refine wTk (i := 41) (v := (.pointer (some ⟨B, 5, none⟩))) rfl ?_ ?_
  · intro w' hSw
    (try dsimp only at hSw)
    go_simp
  (try simp only [Act.put, List.getElem_toArray, List.getElem_cons_zero, List.getElem_cons_succ, List.setIfInBounds_toArray, List.set_cons_zero, List.set_cons_succ])
  refine wTk (i := 42) (v := (.int .i64 m.sq)) rfl ?_ ?_
  · intro w' hSw
    (try dsimp only at hSw)
    (have z := hSw.1.cells.2.2.2.2.2.1; go_simp)
  (try simp only [Act.put, List.getElem_toArray, List.getElem_cons_zero, List.getElem_cons_succ, List.setIfInBounds_toArray, List.set_cons_zero, List.set_cons_succ])
  refine wTk (i := 43) (v := (.pointer (some ⟨Y, 0, none⟩))) rfl ?_ ?_
  · intro w' hSw
    (try dsimp only at hSw)
    go_simp
  (try simp only [Act.put, List.getElem_toArray, List.getElem_cons_zero, List.getElem_cons_succ, List.setIfInBounds_toArray, List.set_cons_zero, List.set_cons_succ])
  refine wTk (i := 44) (v := (.pointer (some ⟨Y, 0, none⟩))) rfl ?_ ?_
  · intro w' hSw
    (try dsimp only at hSw)
    go_simp
  (try simp only [Act.put, List.getElem_toArray, List.getElem_cons_zero, List.getElem_cons_succ, List.setIfInBounds_toArray, List.set_cons_zero, List.set_cons_succ])
  refine wTk (i := 45) (v := (.pointer (some ⟨Y, 7, none⟩))) rfl ?_ ?_
  · intro w' hSw
    (try dsimp only at hSw)
    go_simp
  (try simp only [Act.put, List.getElem_toArray, List.getElem_cons_zero, List.getElem_cons_succ, List.setIfInBounds_toArray, List.set_cons_zero, List.set_cons_succ])
  refine wTk (i := 46) (v := (.int .i64 (p : Int))) rfl ?_ ?_
  · intro w' hSw
    (try dsimp only at hSw)
    (have z := (RC.out _ hSw.2.1).2.2.1; go_simp)
  (try simp only [Act.put, List.getElem_toArray, List.getElem_cons_zero, List.getElem_cons_succ, List.setIfInBounds_toArray, List.set_cons_zero, List.set_cons_succ])
  refine wTk (i := 47) (v := (.bool false)) rfl ?_ ?_
  · intro w' hSw
    (try dsimp only at hSw)
    go_simp
  (try simp only [Act.put, List.getElem_toArray, List.getElem_cons_zero, List.getElem_cons_succ, List.setIfInBounds_toArray, List.set_cons_zero, List.set_cons_succ])
  refine wTk (i := 48) (v := (.bool false)) rfl ?_ ?_
  · intro w' hSw
    (try dsimp only at hSw)
    go_simp
  (try simp only [Act.put, List.getElem_toArray, List.getElem_cons_zero, List.getElem_cons_succ, List.setIfInBounds_toArray, List.set_cons_zero, List.set_cons_succ])
  refine wTk (i := 49) (v := (.bool false)) rfl ?_ ?_
  · intro w' hSw
    (try dsimp only at hSw)
    go_simp
  (try simp only [Act.put, List.getElem_toArray, List.getElem_cons_zero, List.getElem_cons_succ, List.setIfInBounds_toArray, List.set_cons_zero, List.set_cons_succ])
  refine wTk (i := 50) (v := (.pointer (some ⟨B, 6, none⟩))) rfl ?_ ?_
  · intro w' hSw
    (try dsimp only at hSw)
    go_simp
  (try simp only [Act.put, List.getElem_toArray, List.getElem_cons_zero, List.getElem_cons_succ, List.setIfInBounds_toArray, List.set_cons_zero, List.set_cons_succ])
  refine wTk (i := 51) (v := (.int .i64 m.ver)) rfl ?_ ?_
  · intro w' hSw
    (try dsimp only at hSw)
    (have z := hSw.1.cells.2.2.2.2.2.2.1; go_simp)
  (try simp only [Act.put, List.getElem_toArray, List.getElem_cons_zero, List.getElem_cons_succ, List.setIfInBounds_toArray, List.set_cons_zero, List.set_cons_succ])
  refine wTk (i := 52) (v := (.pointer (some ⟨Y, 0, none⟩))) rfl ?_ ?_
  · intro w' hSw
    (try dsimp only at hSw)
    go_simp
  (try simp only [Act.put, List.getElem_toArray, List.getElem_cons_zero, List.getElem_cons_succ, List.setIfInBounds_toArray, List.set_cons_zero, List.set_cons_succ])
  refine wTk (i := 53) (v := (.pointer (some ⟨Y, 0, none⟩))) rfl ?_ ?_
  · intro w' hSw
    (try dsimp only at hSw)
    go_simp
  (try simp only [Act.put, List.getElem_toArray, List.getElem_cons_zero, List.getElem_cons_succ, List.setIfInBounds_toArray, List.set_cons_zero, List.set_cons_succ])
  refine wTk (i := 54) (v := (.pointer (some ⟨Y, 4, none⟩))) rfl ?_ ?_
  · intro w' hSw
    (try dsimp only at hSw)
    go_simp
  (try simp only [Act.put, List.getElem_toArray, List.getElem_cons_zero, List.getElem_cons_succ, List.setIfInBounds_toArray, List.set_cons_zero, List.set_cons_succ])
  refine wTk (i := 55) (v := (.int .i64 vr)) rfl ?_ ?_
  · intro w' hSw
    (try dsimp only at hSw)
    (have z := (RC.out _ hSw.2.1).2.2.2.2.2; go_simp)
  (try simp only [Act.put, List.getElem_toArray, List.getElem_cons_zero, List.getElem_cons_succ, List.setIfInBounds_toArray, List.set_cons_zero, List.set_cons_succ])
  refine wTk (i := 56) (v := (.bool false)) rfl ?_ ?_
  · intro w' hSw
    (try dsimp only at hSw)
    go_simp
  (try simp only [Act.put, List.getElem_toArray, List.getElem_cons_zero, List.getElem_cons_succ, List.setIfInBounds_toArray, List.set_cons_zero, List.set_cons_succ])
  refine wTk (i := 57) (v := (.bool false)) rfl ?_ ?_
  · intro w' hSw
    (try dsimp only at hSw)
    go_simp
  (try simp only [Act.put, List.getElem_toArray, List.getElem_cons_zero, List.getElem_cons_succ, List.setIfInBounds_toArray, List.set_cons_zero, List.set_cons_succ])
  refine wTk (i := 58) (v := (.bool false)) rfl ?_ ?_
  · intro w' hSw
    (try dsimp only at hSw)
    go_simp
  (try simp only [Act.put, List.getElem_toArray, List.getElem_cons_zero, List.getElem_cons_succ, List.setIfInBounds_toArray, List.set_cons_zero, List.set_cons_succ])
  refine wTk (i := 59) (v := (.pointer (some ⟨B, 7, none⟩))) rfl ?_ ?_
  · intro w' hSw
    (try dsimp only at hSw)
    go_simp
  (try simp only [Act.put, List.getElem_toArray, List.getElem_cons_zero, List.getElem_cons_succ, List.setIfInBounds_toArray, List.set_cons_zero, List.set_cons_succ])
  refine wTk (i := 60) (v := (.int .i64 m.prev)) rfl ?_ ?_
  · intro w' hSw
    (try dsimp only at hSw)
    (have z := hSw.1.cells.2.2.2.2.2.2.2.1; go_simp)
  (try simp only [Act.put, List.getElem_toArray, List.getElem_cons_zero, List.getElem_cons_succ, List.setIfInBounds_toArray, List.set_cons_zero, List.set_cons_succ])
  refine wTk (i := 61) (v := (.pointer (some ⟨Y, 0, none⟩))) rfl ?_ ?_
  · intro w' hSw
    (try dsimp only at hSw)
    go_simp
  (try simp only [Act.put, List.getElem_toArray, List.getElem_cons_zero, List.getElem_cons_succ, List.setIfInBounds_toArray, List.set_cons_zero, List.set_cons_succ])
  refine wpAnyH_ready (rs := [62]) (by kernel_rfl) (by simp) ?_
  refine AllReadyH.cons rfl (fun K hK => ?_) AllReadyH.nil
  go_simp
  refine Calls.mono CT.out ?_
  rintro e W2 ⟨rfl, k2⟩
  have K2 : Hid (Kp W0 W2 non) := ((Kp.refl W0 non).drew).trans k2 (fun _ f => f.elim)
  clear k2 CT
  refine hK.out _ _ ((SK.out W2 K2.out)) (fun hHeld => ?_)
  clear hK
  (try simp only [Act.put, List.setIfInBounds_toArray, List.set_cons_zero, List.set_cons_succ])
  refine wTk (i := 63) (v := (.bool false)) rfl ?_ ?_
  · intro w' hSw
    (try dsimp only at hSw)
    go_simp
  (try simp only [Act.put, List.getElem_toArray, List.getElem_cons_zero, List.getElem_cons_succ, List.setIfInBounds_toArray, List.set_cons_zero, List.set_cons_succ])
  refine wpAnyH_ready (rs := [64]) (by kernel_rfl) (by simp) ?_
  refine AllReadyH.cons rfl (fun K hK => ?_) AllReadyH.nil
  go_simp
  refine hK.out _ _ ((SK.out W2 K2.out)) (fun hHeld => ?_)
  clear hK
  (try simp only [Act.put, List.setIfInBounds_toArray, List.set_cons_zero, List.set_cons_succ])
  refine wpAnyH_done (by kernel_rfl) ?_ _
  clear hHeld
  clear n1 n2 n3 n4 n5 n6 RC
  have x2 := X2.out W2 K2.out
  have c8 : W2.cell? ⟨B, 8, none⟩ = some (.int .i64 m.code) := x2.2.cells.2.2.2.2.2.2.2.2.1
  have LW : Hid (Lr w W2 Y Z r Z) := Lr.same h0.out (K0.out.trans K2.out (fun _ f => f.elim))
  have CALL := hide (leave_r x2.1 OK.out JB.out.pt HON.out JB.out.lf JB.out.le JB.out.ll)
  clear x2
  go_wp2_with fail
  refine Calls.mono CALL.out ?_
  rintro e W9 ⟨u, Z9, rfl, o9, l9⟩
  have O9 := hide o9
  have L9 := hide (LW.out.trans l9)
  clear o9 l9 CALL
  go_wp2_with fail
  go_ret2
  first | refine ⟨_, Z9, rfl, ?_, ?_⟩ | refine ⟨_, rfl, ?_, Z9, ?_⟩
  · rw [TK.out.2, HR.out.2]
    exact own_base O9.out LW.out.kp.size
  · rw [TK.out.1, HR.out.1]
    exact L9.out
set_option maxHeartbeats 16000000 in
set_option maxRecDepth 100000 in
set_option linter.unusedSimpArgs false in
set_option linter.unusedVariables false in
theorem take_full {w : World} {Y : Nat} {r : Rx} {Z : Zr} (h : RxAt w Y r Z) (ok : Rok r) (hj : r.on = true → Rjb r) (m : Mg) (hi : isR r m = true) (hc : m.code = 0) (hct9 : ¬ cntR r < 512) :
    Calls Tryd.prog 31 #[.pointer (some ⟨Y, 0, none⟩), .agg (mgV m)] w fun e w' => ∃ u Z', e = .returned (.tuple #[u, .int .i64 0]) ∧ Out w w' u (takeRL r m) ∧ Lr w w' Y Z (takeR r m) Z' := by
  obtain ⟨B, hB⟩ : ∃ B, B = w.heap.size := ⟨_, rfl⟩
  obtain ⟨W0, hW0⟩ : ∃ W0, W0 = w.alloc (.cells (mgV m) 36) := ⟨_, rfl⟩
  have k0 : Kp w W0 non := by rw [hW0]; exact (Kp.refl w non).alloc _
  have mg : MgAt W0 B m := by rw [hW0, hB]; exact MgAt.new w m
  have x0 := h.kp0 k0
  have K0 := hide k0
  have HB := hide hB
  have HW0 := hide hW0
  have TK : Hid (takeR r m = hearR r m ∧ takeRL r m = hearRL r m) := ⟨by unfold takeR; rw [if_pos hi], by unfold takeRL; rw [if_pos hi]⟩
  unfold isR at hi
  simp only [Bool.and_eq_true, beq_iff_eq] at hi
  obtain ⟨hon, i1, ⟨⟨⟨⟨i2, i3⟩, i4⟩, i5⟩, i6⟩⟩ := hi
  have jb9 := hj hon
  have hp := jb9.pt
  have hrw := ok.row hp
  obtain ⟨u0, hu0, ho00⟩ := x0.ow.row r.part hp
  have hrow : rowR r = r.rows[r.part] := by unfold rowR; rw [List.getElem?_eq_getElem hp]; rfl
  have o1 := x0.ow.rows
  obtain ⟨pl, hpl⟩ : ∃ pl, pl = r.rows.length := ⟨_, rfl⟩
  obtain ⟨rb, rc, hrv0⟩ := own_g o1 (by show 0 < r.rows.length; omega)
  have hrv : Z.rv = .slice (some ⟨rb, 0, none⟩) pl rc := by rw [hpl]; exact hrv0
  obtain ⟨row, hrww⟩ : ∃ row, row = rowR r := ⟨_, rfl⟩
  obtain ⟨rn, hrn⟩ : ∃ rn, rn = row.length := ⟨_, rfl⟩
  have ho0 : W0.ownsRow 0 3 1 u0 row.length (ints row) := by rw [hrww, hrow]; exact ho00
  rw [← hrn] at ho0
  have hl : r.left < rn := by rw [hrn, hrww]; exact jb9.lf
  obtain ⟨g, gc, hug⟩ := own_g ho0 (by omega)
  subst hug
  obtain ⟨p, hpp⟩ : ∃ p, p = r.part := ⟨_, rfl⟩
  obtain ⟨lf, hlf⟩ : ∃ lf, lf = r.left := ⟨_, rfl⟩
  rw [← hpp] at hu0
  rw [← hlf] at hl
  have a1 : W0.cell? ⟨rb, p, none⟩ = some (.slice (some ⟨g, 0, none⟩) rn gc) := by
    obtain ⟨g', c', e1, hc, _⟩ := own_at o1 hu0
    rw [hrv] at e1
    injection e1 with e1
    injection e1 with e1
    injection e1 with e1
    rw [e1]
    exact hc
  obtain ⟨ow, how⟩ : ∃ ow, ow = ownR r := ⟨_, rfl⟩
  have a2 : W0.cell? ⟨g, lf, none⟩ = some (.int .i64 ow) := by
    have hlr : lf < row.length := by rw [← hrn]; exact hl
    have z := ho0.cellAt lf (by omega)
    rw [ints_at2 row lf hlr] at z
    rw [z, how]
    unfold ownR
    rw [← hrww, ← hlf, List.getElem?_eq_getElem hlr]
    rfl
  obtain ⟨jb, hjb⟩ : ∃ jb, jb = r.job := ⟨_, rfl⟩
  obtain ⟨vr, hvr⟩ : ∃ vr, vr = r.ver := ⟨_, rfl⟩
  obtain ⟨ct, hct⟩ : ∃ ct, ct = cntR r := ⟨_, rfl⟩
  have RC : Hid (∀ X : World, X.heap[Y]? = some (.cells (rxA r Z) 76) → X.cell? ⟨Y, 5, none⟩ = some (.bool true) ∧ X.cell? ⟨Y, 0, none⟩ = some (.slice (some ⟨rb, 0, none⟩) pl rc) ∧ X.cell? ⟨Y, 7, none⟩ = some (.int .i64 (p : Int)) ∧ X.cell? ⟨Y, 8, none⟩ = some (.int .i64 (lf : Int)) ∧ X.cell? ⟨Y, 3, none⟩ = some (.int .i64 jb) ∧ X.cell? ⟨Y, 4, none⟩ = some (.int .i64 vr)) := fun X hX => by
    obtain ⟨d0, _, _, d3, d4, d5, _, d7, d8, _⟩ := rx_cells hX
    rw [hrv] at d0
    rw [hon] at d5
    rw [hpp, hlf, hjb, hvr]
    exact ⟨d5, d0, d7, d8, d3, d4⟩
  have SK : Hid (∀ X, Kp W0 X non → (fun X : World => MgAt X B m ∧ X.heap[Y]? = some (.cells (rxA r Z) 76) ∧ X.cell? ⟨rb, p, none⟩ = some (.slice (some ⟨g, 0, none⟩) rn gc) ∧ X.cell? ⟨g, lf, none⟩ = some (.int .i64 ow)) X) := fun X hk => ⟨mg.keep hk (fun f => f), hk.blk0 x0.blk, hk.cell0 a1, hk.cell0 a2⟩
  have CT := hide (count_r (x0.kp0 ((Kp.refl W0 non).drew)) (by have := ok.ob; omega))
  rw [← hct] at CT
  have plb : pl ≤ 64 := by rw [hpl]; exact ok.rl.2
  have rnb : rn ≤ 16 := by rw [hrn, hrww]; exact hrw.2
  have ppl : p < pl := by rw [hpp, hpl]; exact hp
  have n1 : (m.kind != 16) = false := by rw [i1]; rfl
  have n2 : (m.fr != ow) = false := by rw [i2, how]; simp
  have n3 : (m.id != jb) = false := by rw [i3, hjb]; simp
  have n4 : (m.sq != (p : Int)) = false := by rw [i4, hpp]; simp
  have n5 : (m.ver != vr) = false := by rw [i5, hvr]; simp
  have n6 : (m.prev != (ct : Int)) = false := by rw [i6, hct]; simp
  have X2 : Hid (∀ W2, Kp W0 W2 non → RxAt W2 Y r Z ∧ MgAt W2 B m) := fun W2 hk => ⟨x0.kp0 hk, mg.keep hk (fun f => f)⟩
  have OK := hide ok
  have JB := hide jb9
  have HON := hide hon
  have HCT := hide hct
  have HR : Hid (hearR r m = leaveR r ∧ hearRL r m = leaveRL r) := ⟨by unfold hearR; rw [if_neg (by rw [hc]; decide), if_neg (fun z => hct9 z.2)], by unfold hearRL; rw [if_neg (by rw [hc]; decide), if_neg (fun z => hct9 z.2)]⟩
  have h0 := hide h
  have hlt : ¬ (ct : Int) < 512 := by rw [hct]; omega
  clear i1 i2 i3 i4 i5 i6
  clear h ok hj hon k0 mg x0 hB hW0 jb9 hp hrw hu0 ho00 hrow o1 hpl hrv0 hrv hrww hrn ho0 hpp hlf a1 a2 how hjb hvr hct
  go_enter Tryd.func31, Tryd.ntmps31
  go_upto_region 3 with fail
  rw [← HW0.out, ← HB.out]
  refine wp_region_held_drew (S := fun X : World => MgAt X B m ∧ X.heap[Y]? = some (.cells (rxA r Z) 76) ∧ X.cell? ⟨rb, p, none⟩ = some (.slice (some ⟨g, 0, none⟩) rn gc) ∧ X.cell? ⟨g, lf, none⟩ = some (.int .i64 ow)) (by kernel_rfl) (SK.out _ ((Kp.refl W0 non).drew)) (fun hHeld => ?_)
  refine wTk (i := 0) (v := (.pointer (some ⟨Y, 0, none⟩))) rfl ?_ ?_
  · intro w' hSw
    (try dsimp only at hSw)
    go_simp
  (try simp only [Act.put, List.getElem_toArray, List.getElem_cons_zero, List.getElem_cons_succ, List.setIfInBounds_toArray, List.set_cons_zero, List.set_cons_succ])
  refine wTk (i := 1) (v := (.pointer (some ⟨Y, 0, none⟩))) rfl ?_ ?_
  · intro w' hSw
    (try dsimp only at hSw)
    go_simp
  (try simp only [Act.put, List.getElem_toArray, List.getElem_cons_zero, List.getElem_cons_succ, List.setIfInBounds_toArray, List.set_cons_zero, List.set_cons_succ])
  refine wTk (i := 2) (v := (.pointer (some ⟨Y, 5, none⟩))) rfl ?_ ?_
  · intro w' hSw
    (try dsimp only at hSw)
    go_simp
  (try simp only [Act.put, List.getElem_toArray, List.getElem_cons_zero, List.getElem_cons_succ, List.setIfInBounds_toArray, List.set_cons_zero, List.set_cons_succ])
  refine wTk (i := 3) (v := (.bool true)) rfl ?_ ?_
  · intro w' hSw
    (try dsimp only at hSw)
    (have z := (RC.out _ hSw.2.1).1; go_simp)
  (try simp only [Act.put, List.getElem_toArray, List.getElem_cons_zero, List.getElem_cons_succ, List.setIfInBounds_toArray, List.set_cons_zero, List.set_cons_succ])
  refine wTk (i := 4) (v := (.bool false)) rfl ?_ ?_
  · intro w' hSw
    (try dsimp only at hSw)
    go_simp
  (try simp only [Act.put, List.getElem_toArray, List.getElem_cons_zero, List.getElem_cons_succ, List.setIfInBounds_toArray, List.set_cons_zero, List.set_cons_succ])
  refine wTk (i := 5) (v := (.bool false)) rfl ?_ ?_
  · intro w' hSw
    (try dsimp only at hSw)
    go_simp
  (try simp only [Act.put, List.getElem_toArray, List.getElem_cons_zero, List.getElem_cons_succ, List.setIfInBounds_toArray, List.set_cons_zero, List.set_cons_succ])
  refine wTk (i := 6) (v := (.pointer (some ⟨B, 0, none⟩))) rfl ?_ ?_
  · intro w' hSw
    (try dsimp only at hSw)
    go_simp
  (try simp only [Act.put, List.getElem_toArray, List.getElem_cons_zero, List.getElem_cons_succ, List.setIfInBounds_toArray, List.set_cons_zero, List.set_cons_succ])
  refine wTk (i := 7) (v := (.int .i64 m.kind)) rfl ?_ ?_
  · intro w' hSw
    (try dsimp only at hSw)
    (have z := hSw.1.cells.1; go_simp)
  (try simp only [Act.put, List.getElem_toArray, List.getElem_cons_zero, List.getElem_cons_succ, List.setIfInBounds_toArray, List.set_cons_zero, List.set_cons_succ])
  refine wTk (i := 8) (v := (.bool false)) rfl ?_ ?_
  · intro w' hSw
    (try dsimp only at hSw)
    go_simp
  (try simp only [Act.put, List.getElem_toArray, List.getElem_cons_zero, List.getElem_cons_succ, List.setIfInBounds_toArray, List.set_cons_zero, List.set_cons_succ])
  refine wTk (i := 9) (v := (.bool false)) rfl ?_ ?_
  · intro w' hSw
    (try dsimp only at hSw)
    go_simp
  (try simp only [Act.put, List.getElem_toArray, List.getElem_cons_zero, List.getElem_cons_succ, List.setIfInBounds_toArray, List.set_cons_zero, List.set_cons_succ])
  refine wTk (i := 10) (v := (.bool false)) rfl ?_ ?_
  · intro w' hSw
    (try dsimp only at hSw)
    go_simp
  (try simp only [Act.put, List.getElem_toArray, List.getElem_cons_zero, List.getElem_cons_succ, List.setIfInBounds_toArray, List.set_cons_zero, List.set_cons_succ])
  refine wTk (i := 11) (v := (.pointer (some ⟨B, 1, none⟩))) rfl ?_ ?_
  · intro w' hSw
    (try dsimp only at hSw)
    go_simp
  (try simp only [Act.put, List.getElem_toArray, List.getElem_cons_zero, List.getElem_cons_succ, List.setIfInBounds_toArray, List.set_cons_zero, List.set_cons_succ])
  refine wTk (i := 12) (v := (.int .i64 m.fr)) rfl ?_ ?_
  · intro w' hSw
    (try dsimp only at hSw)
    (have z := hSw.1.cells.2.1; go_simp)
  (try simp only [Act.put, List.getElem_toArray, List.getElem_cons_zero, List.getElem_cons_succ, List.setIfInBounds_toArray, List.set_cons_zero, List.set_cons_succ])
  refine wTk (i := 13) (v := (.pointer (some ⟨Y, 0, none⟩))) rfl ?_ ?_
  · intro w' hSw
    (try dsimp only at hSw)
    go_simp
  (try simp only [Act.put, List.getElem_toArray, List.getElem_cons_zero, List.getElem_cons_succ, List.setIfInBounds_toArray, List.set_cons_zero, List.set_cons_succ])
  refine wTk (i := 14) (v := (.pointer (some ⟨Y, 0, none⟩))) rfl ?_ ?_
  · intro w' hSw
    (try dsimp only at hSw)
    go_simp
  (try simp only [Act.put, List.getElem_toArray, List.getElem_cons_zero, List.getElem_cons_succ, List.setIfInBounds_toArray, List.set_cons_zero, List.set_cons_succ])
  refine wTk (i := 15) (v := (.pointer (some ⟨Y, 0, none⟩))) rfl ?_ ?_
  · intro w' hSw
    (try dsimp only at hSw)
    go_simp
  (try simp only [Act.put, List.getElem_toArray, List.getElem_cons_zero, List.getElem_cons_succ, List.setIfInBounds_toArray, List.set_cons_zero, List.set_cons_succ])
  refine wTk (i := 16) (v := (.slice (some ⟨rb, 0, none⟩) pl rc)) rfl ?_ ?_
  · intro w' hSw
    (try dsimp only at hSw)
    (have z := (RC.out _ hSw.2.1).2.1; go_simp)
  (try simp only [Act.put, List.getElem_toArray, List.getElem_cons_zero, List.getElem_cons_succ, List.setIfInBounds_toArray, List.set_cons_zero, List.set_cons_succ])
  refine wTk (i := 17) (v := (.pointer (some ⟨Y, 0, none⟩))) rfl ?_ ?_
  · intro w' hSw
    (try dsimp only at hSw)
    go_simp
  (try simp only [Act.put, List.getElem_toArray, List.getElem_cons_zero, List.getElem_cons_succ, List.setIfInBounds_toArray, List.set_cons_zero, List.set_cons_succ])
  refine wTk (i := 18) (v := (.pointer (some ⟨Y, 0, none⟩))) rfl ?_ ?_
  · intro w' hSw
    (try dsimp only at hSw)
    go_simp
  (try simp only [Act.put, List.getElem_toArray, List.getElem_cons_zero, List.getElem_cons_succ, List.setIfInBounds_toArray, List.set_cons_zero, List.set_cons_succ])
  refine wTk (i := 19) (v := (.pointer (some ⟨Y, 7, none⟩))) rfl ?_ ?_
  · intro w' hSw
    (try dsimp only at hSw)
    go_simp
  (try simp only [Act.put, List.getElem_toArray, List.getElem_cons_zero, List.getElem_cons_succ, List.setIfInBounds_toArray, List.set_cons_zero, List.set_cons_succ])
  refine wTk (i := 20) (v := (.int .i64 (p : Int))) rfl ?_ ?_
  · intro w' hSw
    (try dsimp only at hSw)
    (have z := (RC.out _ hSw.2.1).2.2.1; go_simp)
  (try simp only [Act.put, List.getElem_toArray, List.getElem_cons_zero, List.getElem_cons_succ, List.setIfInBounds_toArray, List.set_cons_zero, List.set_cons_succ])
  refine wTk (i := 21) (v := (.pointer (some ⟨rb, p, none⟩))) rfl ?_ ?_
  · intro w' hSw
    (try dsimp only at hSw)
    go_simp
  (try simp only [Act.put, List.getElem_toArray, List.getElem_cons_zero, List.getElem_cons_succ, List.setIfInBounds_toArray, List.set_cons_zero, List.set_cons_succ])
  refine wTk (i := 22) (v := (.slice (some ⟨g, 0, none⟩) rn gc)) rfl ?_ ?_
  · intro w' hSw
    (try dsimp only at hSw)
    (have z := hSw.2.2.1; go_simp)
  (try simp only [Act.put, List.getElem_toArray, List.getElem_cons_zero, List.getElem_cons_succ, List.setIfInBounds_toArray, List.set_cons_zero, List.set_cons_succ])
  refine wTk (i := 23) (v := (.pointer (some ⟨Y, 0, none⟩))) rfl ?_ ?_
  · intro w' hSw
    (try dsimp only at hSw)
    go_simp
  (try simp only [Act.put, List.getElem_toArray, List.getElem_cons_zero, List.getElem_cons_succ, List.setIfInBounds_toArray, List.set_cons_zero, List.set_cons_succ])
  refine wTk (i := 24) (v := (.pointer (some ⟨Y, 0, none⟩))) rfl ?_ ?_
  · intro w' hSw
    (try dsimp only at hSw)
    go_simp
  (try simp only [Act.put, List.getElem_toArray, List.getElem_cons_zero, List.getElem_cons_succ, List.setIfInBounds_toArray, List.set_cons_zero, List.set_cons_succ])
  refine wTk (i := 25) (v := (.pointer (some ⟨Y, 8, none⟩))) rfl ?_ ?_
  · intro w' hSw
    (try dsimp only at hSw)
    go_simp
  (try simp only [Act.put, List.getElem_toArray, List.getElem_cons_zero, List.getElem_cons_succ, List.setIfInBounds_toArray, List.set_cons_zero, List.set_cons_succ])
  refine wTk (i := 26) (v := (.int .i64 (lf : Int))) rfl ?_ ?_
  · intro w' hSw
    (try dsimp only at hSw)
    (have z := (RC.out _ hSw.2.1).2.2.2.1; go_simp)
  (try simp only [Act.put, List.getElem_toArray, List.getElem_cons_zero, List.getElem_cons_succ, List.setIfInBounds_toArray, List.set_cons_zero, List.set_cons_succ])
  refine wTk (i := 27) (v := (.pointer (some ⟨g, lf, none⟩))) rfl ?_ ?_
  · intro w' hSw
    (try dsimp only at hSw)
    go_simp
  (try simp only [Act.put, List.getElem_toArray, List.getElem_cons_zero, List.getElem_cons_succ, List.setIfInBounds_toArray, List.set_cons_zero, List.set_cons_succ])
  refine wTk (i := 28) (v := (.int .i64 ow)) rfl ?_ ?_
  · intro w' hSw
    (try dsimp only at hSw)
    (have z := hSw.2.2.2; go_simp)
  (try simp only [Act.put, List.getElem_toArray, List.getElem_cons_zero, List.getElem_cons_succ, List.setIfInBounds_toArray, List.set_cons_zero, List.set_cons_succ])
  refine wTk (i := 29) (v := (.bool false)) rfl ?_ ?_
  · intro w' hSw
    (try dsimp only at hSw)
    go_simp
  (try simp only [Act.put, List.getElem_toArray, List.getElem_cons_zero, List.getElem_cons_succ, List.setIfInBounds_toArray, List.set_cons_zero, List.set_cons_succ])
  refine wTk (i := 30) (v := (.bool false)) rfl ?_ ?_
  · intro w' hSw
    (try dsimp only at hSw)
    go_simp
  (try simp only [Act.put, List.getElem_toArray, List.getElem_cons_zero, List.getElem_cons_succ, List.setIfInBounds_toArray, List.set_cons_zero, List.set_cons_succ])
  refine wTk (i := 31) (v := (.bool false)) rfl ?_ ?_
  · intro w' hSw
    (try dsimp only at hSw)
    go_simp
  (try simp only [Act.put, List.getElem_toArray, List.getElem_cons_zero, List.getElem_cons_succ, List.setIfInBounds_toArray, List.set_cons_zero, List.set_cons_succ])
  refine wTk (i := 32) (v := (.pointer (some ⟨B, 3, none⟩))) rfl ?_ ?_
  · intro w' hSw
    (try dsimp only at hSw)
    go_simp
  (try simp only [Act.put, List.getElem_toArray, List.getElem_cons_zero, List.getElem_cons_succ, List.setIfInBounds_toArray, List.set_cons_zero, List.set_cons_succ])
  refine wTk (i := 33) (v := (.int .i64 m.id)) rfl ?_ ?_
  · intro w' hSw
    (try dsimp only at hSw)
    (have z := hSw.1.cells.2.2.2.1; go_simp)
  (try simp only [Act.put, List.getElem_toArray, List.getElem_cons_zero, List.getElem_cons_succ, List.setIfInBounds_toArray, List.set_cons_zero, List.set_cons_succ])
  refine wTk (i := 34) (v := (.pointer (some ⟨Y, 0, none⟩))) rfl ?_ ?_
  · intro w' hSw
    (try dsimp only at hSw)
    go_simp
  (try simp only [Act.put, List.getElem_toArray, List.getElem_cons_zero, List.getElem_cons_succ, List.setIfInBounds_toArray, List.set_cons_zero, List.set_cons_succ])
  refine wTk (i := 35) (v := (.pointer (some ⟨Y, 0, none⟩))) rfl ?_ ?_
  · intro w' hSw
    (try dsimp only at hSw)
    go_simp
  (try simp only [Act.put, List.getElem_toArray, List.getElem_cons_zero, List.getElem_cons_succ, List.setIfInBounds_toArray, List.set_cons_zero, List.set_cons_succ])
  refine wTk (i := 36) (v := (.pointer (some ⟨Y, 3, none⟩))) rfl ?_ ?_
  · intro w' hSw
    (try dsimp only at hSw)
    go_simp
  (try simp only [Act.put, List.getElem_toArray, List.getElem_cons_zero, List.getElem_cons_succ, List.setIfInBounds_toArray, List.set_cons_zero, List.set_cons_succ])
  refine wTk (i := 37) (v := (.int .i64 jb)) rfl ?_ ?_
  · intro w' hSw
    (try dsimp only at hSw)
    (have z := (RC.out _ hSw.2.1).2.2.2.2.1; go_simp)
  (try simp only [Act.put, List.getElem_toArray, List.getElem_cons_zero, List.getElem_cons_succ, List.setIfInBounds_toArray, List.set_cons_zero, List.set_cons_succ])
  refine wTk (i := 38) (v := (.bool false)) rfl ?_ ?_
  · intro w' hSw
    (try dsimp only at hSw)
    go_simp
  (try simp only [Act.put, List.getElem_toArray, List.getElem_cons_zero, List.getElem_cons_succ, List.setIfInBounds_toArray, List.set_cons_zero, List.set_cons_succ])
  refine wTk (i := 39) (v := (.bool false)) rfl ?_ ?_
  · intro w' hSw
    (try dsimp only at hSw)
    go_simp
  (try simp only [Act.put, List.getElem_toArray, List.getElem_cons_zero, List.getElem_cons_succ, List.setIfInBounds_toArray, List.set_cons_zero, List.set_cons_succ])
  refine wTk (i := 40) (v := (.bool false)) rfl ?_ ?_
  · intro w' hSw
    (try dsimp only at hSw)
    go_simp
  (try simp only [Act.put, List.getElem_toArray, List.getElem_cons_zero, List.getElem_cons_succ, List.setIfInBounds_toArray, List.set_cons_zero, List.set_cons_succ])
  refine wTk (i := 41) (v := (.pointer (some ⟨B, 5, none⟩))) rfl ?_ ?_
  · intro w' hSw
    (try dsimp only at hSw)
    go_simp
  (try simp only [Act.put, List.getElem_toArray, List.getElem_cons_zero, List.getElem_cons_succ, List.setIfInBounds_toArray, List.set_cons_zero, List.set_cons_succ])
  refine wTk (i := 42) (v := (.int .i64 m.sq)) rfl ?_ ?_
  · intro w' hSw
    (try dsimp only at hSw)
    (have z := hSw.1.cells.2.2.2.2.2.1; go_simp)
  (try simp only [Act.put, List.getElem_toArray, List.getElem_cons_zero, List.getElem_cons_succ, List.setIfInBounds_toArray, List.set_cons_zero, List.set_cons_succ])
  refine wTk (i := 43) (v := (.pointer (some ⟨Y, 0, none⟩))) rfl ?_ ?_
  · intro w' hSw
    (try dsimp only at hSw)
    go_simp
  (try simp only [Act.put, List.getElem_toArray, List.getElem_cons_zero, List.getElem_cons_succ, List.setIfInBounds_toArray, List.set_cons_zero, List.set_cons_succ])
  refine wTk (i := 44) (v := (.pointer (some ⟨Y, 0, none⟩))) rfl ?_ ?_
  · intro w' hSw
    (try dsimp only at hSw)
    go_simp
  (try simp only [Act.put, List.getElem_toArray, List.getElem_cons_zero, List.getElem_cons_succ, List.setIfInBounds_toArray, List.set_cons_zero, List.set_cons_succ])
  refine wTk (i := 45) (v := (.pointer (some ⟨Y, 7, none⟩))) rfl ?_ ?_
  · intro w' hSw
    (try dsimp only at hSw)
    go_simp
  (try simp only [Act.put, List.getElem_toArray, List.getElem_cons_zero, List.getElem_cons_succ, List.setIfInBounds_toArray, List.set_cons_zero, List.set_cons_succ])
  refine wTk (i := 46) (v := (.int .i64 (p : Int))) rfl ?_ ?_
  · intro w' hSw
    (try dsimp only at hSw)
    (have z := (RC.out _ hSw.2.1).2.2.1; go_simp)
  (try simp only [Act.put, List.getElem_toArray, List.getElem_cons_zero, List.getElem_cons_succ, List.setIfInBounds_toArray, List.set_cons_zero, List.set_cons_succ])
  refine wTk (i := 47) (v := (.bool false)) rfl ?_ ?_
  · intro w' hSw
    (try dsimp only at hSw)
    go_simp
  (try simp only [Act.put, List.getElem_toArray, List.getElem_cons_zero, List.getElem_cons_succ, List.setIfInBounds_toArray, List.set_cons_zero, List.set_cons_succ])
  refine wTk (i := 48) (v := (.bool false)) rfl ?_ ?_
  · intro w' hSw
    (try dsimp only at hSw)
    go_simp
  (try simp only [Act.put, List.getElem_toArray, List.getElem_cons_zero, List.getElem_cons_succ, List.setIfInBounds_toArray, List.set_cons_zero, List.set_cons_succ])
  refine wTk (i := 49) (v := (.bool false)) rfl ?_ ?_
  · intro w' hSw
    (try dsimp only at hSw)
    go_simp
  (try simp only [Act.put, List.getElem_toArray, List.getElem_cons_zero, List.getElem_cons_succ, List.setIfInBounds_toArray, List.set_cons_zero, List.set_cons_succ])
  refine wTk (i := 50) (v := (.pointer (some ⟨B, 6, none⟩))) rfl ?_ ?_
  · intro w' hSw
    (try dsimp only at hSw)
    go_simp
  (try simp only [Act.put, List.getElem_toArray, List.getElem_cons_zero, List.getElem_cons_succ, List.setIfInBounds_toArray, List.set_cons_zero, List.set_cons_succ])
  refine wTk (i := 51) (v := (.int .i64 m.ver)) rfl ?_ ?_
  · intro w' hSw
    (try dsimp only at hSw)
    (have z := hSw.1.cells.2.2.2.2.2.2.1; go_simp)
  (try simp only [Act.put, List.getElem_toArray, List.getElem_cons_zero, List.getElem_cons_succ, List.setIfInBounds_toArray, List.set_cons_zero, List.set_cons_succ])
  refine wTk (i := 52) (v := (.pointer (some ⟨Y, 0, none⟩))) rfl ?_ ?_
  · intro w' hSw
    (try dsimp only at hSw)
    go_simp
  (try simp only [Act.put, List.getElem_toArray, List.getElem_cons_zero, List.getElem_cons_succ, List.setIfInBounds_toArray, List.set_cons_zero, List.set_cons_succ])
  refine wTk (i := 53) (v := (.pointer (some ⟨Y, 0, none⟩))) rfl ?_ ?_
  · intro w' hSw
    (try dsimp only at hSw)
    go_simp
  (try simp only [Act.put, List.getElem_toArray, List.getElem_cons_zero, List.getElem_cons_succ, List.setIfInBounds_toArray, List.set_cons_zero, List.set_cons_succ])
  refine wTk (i := 54) (v := (.pointer (some ⟨Y, 4, none⟩))) rfl ?_ ?_
  · intro w' hSw
    (try dsimp only at hSw)
    go_simp
  (try simp only [Act.put, List.getElem_toArray, List.getElem_cons_zero, List.getElem_cons_succ, List.setIfInBounds_toArray, List.set_cons_zero, List.set_cons_succ])
  refine wTk (i := 55) (v := (.int .i64 vr)) rfl ?_ ?_
  · intro w' hSw
    (try dsimp only at hSw)
    (have z := (RC.out _ hSw.2.1).2.2.2.2.2; go_simp)
  (try simp only [Act.put, List.getElem_toArray, List.getElem_cons_zero, List.getElem_cons_succ, List.setIfInBounds_toArray, List.set_cons_zero, List.set_cons_succ])
  refine wTk (i := 56) (v := (.bool false)) rfl ?_ ?_
  · intro w' hSw
    (try dsimp only at hSw)
    go_simp
  (try simp only [Act.put, List.getElem_toArray, List.getElem_cons_zero, List.getElem_cons_succ, List.setIfInBounds_toArray, List.set_cons_zero, List.set_cons_succ])
  refine wTk (i := 57) (v := (.bool false)) rfl ?_ ?_
  · intro w' hSw
    (try dsimp only at hSw)
    go_simp
  (try simp only [Act.put, List.getElem_toArray, List.getElem_cons_zero, List.getElem_cons_succ, List.setIfInBounds_toArray, List.set_cons_zero, List.set_cons_succ])
  refine wTk (i := 58) (v := (.bool false)) rfl ?_ ?_
  · intro w' hSw
    (try dsimp only at hSw)
    go_simp
  (try simp only [Act.put, List.getElem_toArray, List.getElem_cons_zero, List.getElem_cons_succ, List.setIfInBounds_toArray, List.set_cons_zero, List.set_cons_succ])
  refine wTk (i := 59) (v := (.pointer (some ⟨B, 7, none⟩))) rfl ?_ ?_
  · intro w' hSw
    (try dsimp only at hSw)
    go_simp
  (try simp only [Act.put, List.getElem_toArray, List.getElem_cons_zero, List.getElem_cons_succ, List.setIfInBounds_toArray, List.set_cons_zero, List.set_cons_succ])
  refine wTk (i := 60) (v := (.int .i64 m.prev)) rfl ?_ ?_
  · intro w' hSw
    (try dsimp only at hSw)
    (have z := hSw.1.cells.2.2.2.2.2.2.2.1; go_simp)
  (try simp only [Act.put, List.getElem_toArray, List.getElem_cons_zero, List.getElem_cons_succ, List.setIfInBounds_toArray, List.set_cons_zero, List.set_cons_succ])
  refine wTk (i := 61) (v := (.pointer (some ⟨Y, 0, none⟩))) rfl ?_ ?_
  · intro w' hSw
    (try dsimp only at hSw)
    go_simp
  (try simp only [Act.put, List.getElem_toArray, List.getElem_cons_zero, List.getElem_cons_succ, List.setIfInBounds_toArray, List.set_cons_zero, List.set_cons_succ])
  refine wpAnyH_ready (rs := [62]) (by kernel_rfl) (by simp) ?_
  refine AllReadyH.cons rfl (fun K hK => ?_) AllReadyH.nil
  go_simp
  refine Calls.mono CT.out ?_
  rintro e W2 ⟨rfl, k2⟩
  have K2 : Hid (Kp W0 W2 non) := ((Kp.refl W0 non).drew).trans k2 (fun _ f => f.elim)
  clear k2 CT
  refine hK.out _ _ ((SK.out W2 K2.out)) (fun hHeld => ?_)
  clear hK
  (try simp only [Act.put, List.setIfInBounds_toArray, List.set_cons_zero, List.set_cons_succ])
  refine wTk (i := 63) (v := (.bool false)) rfl ?_ ?_
  · intro w' hSw
    (try dsimp only at hSw)
    go_simp
  (try simp only [Act.put, List.getElem_toArray, List.getElem_cons_zero, List.getElem_cons_succ, List.setIfInBounds_toArray, List.set_cons_zero, List.set_cons_succ])
  refine wpAnyH_ready (rs := [64]) (by kernel_rfl) (by simp) ?_
  refine AllReadyH.cons rfl (fun K hK => ?_) AllReadyH.nil
  go_simp
  refine hK.out _ _ ((SK.out W2 K2.out)) (fun hHeld => ?_)
  clear hK
  (try simp only [Act.put, List.setIfInBounds_toArray, List.set_cons_zero, List.set_cons_succ])
  refine wpAnyH_done (by kernel_rfl) ?_ _
  clear hHeld
  clear n1 n2 n3 n4 n5 n6 RC
  have x2 := X2.out W2 K2.out
  have c8 : W2.cell? ⟨B, 8, none⟩ = some (.int .i64 m.code) := x2.2.cells.2.2.2.2.2.2.2.2.1
  rw [hc] at c8
  have CT2 := hide (count_r x2.1 (by have := OK.out.ob; omega))
  rw [← HCT.out] at CT2
  clear x2
  go_wp2_with fail
  refine Calls.mono CT2.out ?_
  rintro e W3 ⟨rfl, k3⟩
  have K3 : Hid (Kp W0 W3 non) := K2.out.trans k3 (fun _ f => f.elim)
  have x2 := X2.out W3 K3.out
  clear k3 CT2 c8
  have LW : Hid (Lr w W3 Y Z r Z) := Lr.same h0.out (K0.out.trans K3.out (fun _ f => f.elim))
  have CALL := hide (leave_r x2.1 OK.out JB.out.pt HON.out JB.out.lf JB.out.le JB.out.ll)
  clear x2
  go_wp2_with fail
  refine Calls.mono CALL.out ?_
  rintro e W9 ⟨u, Z9, rfl, o9, l9⟩
  have O9 := hide o9
  have L9 := hide (LW.out.trans l9)
  clear o9 l9 CALL
  go_wp2_with fail
  go_ret2
  first | refine ⟨_, Z9, rfl, ?_, ?_⟩ | refine ⟨_, rfl, ?_, Z9, ?_⟩
  · rw [TK.out.2, HR.out.2]
    exact own_base O9.out LW.out.kp.size
  · rw [TK.out.1, HR.out.1]
    exact L9.out
end Go.Proofs.YtpoegknmkbnjlaaDoor.Cn
