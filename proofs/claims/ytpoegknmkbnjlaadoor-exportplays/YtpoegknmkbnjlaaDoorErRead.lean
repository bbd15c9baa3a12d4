import Derived.Test.YtpoegknmkbnjlaaDoorErYes
import Derived.Test.YtpoegknmkbnjlaaDoorErGrow
namespace Go.Proofs.YtpoegknmkbnjlaaDoor.Cn
open Go.RowKit
set_option maxHeartbeats 16000000 in
set_option maxRecDepth 100000 in
set_option linter.unusedSimpArgs false in
set_option linter.unusedVariables false in
theorem take_read {w : World} {Y : Nat} {r : Rx} {Z : Zr} (h : RxAt w Y r Z) (ok : Rok r) (hj : r.on = true → Rjb r) (m : Mg) (hi : isR r m = true) (hc : m.code = 0) (hct9 : cntR r < 512) (hob : r.of_.length ≤ 99999) :
    Calls Tryd.prog 31 #[.pointer (some ⟨Y, 0, none⟩), .agg (mgV m)] w fun e w' => ∃ u Z', e = .returned (.tuple #[u, .int .i64 0]) ∧ Out w w' u (takeRL r m) ∧ Lr w w' Y Z (takeR r m) Z' := by
  obtain ⟨B, hB⟩ : ∃ B, B = w.heap.size := ⟨_, rfl⟩
  obtain ⟨W0, hW0⟩ : ∃ W0, W0 = w.alloc (.cells (mgV m) 36) := ⟨_, rfl⟩
  have k0 : Kp w W0 non := by rw [hW0]; exact (Kp.refl w non).alloc _
  have mg : MgAt W0 B m := by rw [hW0, hB]; exact MgAt.new w m
  have x0 := h.kp0 k0
  have K0 := hide k0
  have HB := hide hB
  have HW0 := hide hW0
  have TK : Hid (takeR r m = hearR r m ∧ takeRL r m = hearRL r m) := ⟨by unfold takeR; rw [if_pos hi], by unfold takeRL; rw [if_pos hi]⟩
  unfold isR at hi
  simp only [Bool.and_eq_true, beq_iff_eq] at hi
  obtain ⟨hon, i1, ⟨⟨⟨⟨i2, i3⟩, i4⟩, i5⟩, i6⟩⟩ := hi
  have jb9 := hj hon
  have hp := jb9.pt
  have hrw := ok.row hp
  obtain ⟨u0, hu0, ho00⟩ := x0.ow.row r.part hp
  have hrow : rowR r = r.rows[r.part] := by unfold rowR; rw [List.getElem?_eq_getElem hp]; rfl
  have o1 := x0.ow.rows
  obtain ⟨pl, hpl⟩ : ∃ pl, pl = r.rows.length := ⟨_, rfl⟩
  obtain ⟨rb, rc, hrv0⟩ := own_g o1 (by show 0 < r.rows.length; omega)
  have hrv : Z.rv = .slice (some ⟨rb, 0, none⟩) pl rc := by rw [hpl]; exact hrv0
  obtain ⟨row, hrww⟩ : ∃ row, row = rowR r := ⟨_, rfl⟩
  obtain ⟨rn, hrn⟩ : ∃ rn, rn = row.length := ⟨_, rfl⟩
  have ho0 : W0.ownsRow 0 3 1 u0 row.length (ints row) := by rw [hrww, hrow]; exact ho00
  rw [← hrn] at ho0
  have hl : r.left < rn := by rw [hrn, hrww]; exact jb9.lf
  obtain ⟨g, gc, hug⟩ := own_g ho0 (by omega)
  subst hug
  obtain ⟨p, hpp⟩ : ∃ p, p = r.part := ⟨_, rfl⟩
  obtain ⟨lf, hlf⟩ : ∃ lf, lf = r.left := ⟨_, rfl⟩
  rw [← hpp] at hu0
  rw [← hlf] at hl
  have a1 : W0.cell? ⟨rb, p, none⟩ = some (.slice (some ⟨g, 0, none⟩) rn gc) := by
    obtain ⟨g', c', e1, hc, _⟩ := own_at o1 hu0
    rw [hrv] at e1
    injection e1 with e1
    injection e1 with e1
    injection e1 with e1
    rw [e1]
    exact hc
  obtain ⟨ow, how⟩ : ∃ ow, ow = ownR r := ⟨_, rfl⟩
  have a2 : W0.cell? ⟨g, lf, none⟩ = some (.int .i64 ow) := by
    have hlr : lf < row.length := by rw [← hrn]; exact hl
    have z := ho0.cellAt lf (by omega)
    rw [ints_at2 row lf hlr] at z
    rw [z, how]
    unfold ownR
    rw [← hrww, ← hlf, List.getElem?_eq_getElem hlr]
    rfl
  obtain ⟨jb, hjb⟩ : ∃ jb, jb = r.job := ⟨_, rfl⟩
  obtain ⟨vr, hvr⟩ : ∃ vr, vr = r.ver := ⟨_, rfl⟩
  obtain ⟨ct, hct⟩ : ∃ ct, ct = cntR r := ⟨_, rfl⟩
  have RC : Hid (∀ X : World, X.heap[Y]? = some (.cells (rxA r Z) 76) → X.cell? ⟨Y, 5, none⟩ = some (.bool true) ∧ X.cell? ⟨Y, 0, none⟩ = some (.slice (some ⟨rb, 0, none⟩) pl rc) ∧ X.cell? ⟨Y, 7, none⟩ = some (.int .i64 (p : Int)) ∧ X.cell? ⟨Y, 8, none⟩ = some (.int .i64 (lf : Int)) ∧ X.cell? ⟨Y, 3, none⟩ = some (.int .i64 jb) ∧ X.cell? ⟨Y, 4, none⟩ = some (.int .i64 vr)) := fun X hX => by
    obtain ⟨d0, _, _, d3, d4, d5, _, d7, d8, _⟩ := rx_cells hX
    rw [hrv] at d0
    rw [hon] at d5
    rw [hpp, hlf, hjb, hvr]
    exact ⟨d5, d0, d7, d8, d3, d4⟩
  have SK : Hid (∀ X, Kp W0 X non → (fun X : World => MgAt X B m ∧ X.heap[Y]? = some (.cells (rxA r Z) 76) ∧ X.cell? ⟨rb, p, none⟩ = some (.slice (some ⟨g, 0, none⟩) rn gc) ∧ X.cell? ⟨g, lf, none⟩ = some (.int .i64 ow)) X) := fun X hk => ⟨mg.keep hk (fun f => f), hk.blk0 x0.blk, hk.cell0 a1, hk.cell0 a2⟩
  have CT := hide (count_r (x0.kp0 ((Kp.refl W0 non).drew)) (by have := ok.ob; omega))
  rw [← hct] at CT
  have plb : pl ≤ 64 := by rw [hpl]; exact ok.rl.2
  have rnb : rn ≤ 16 := by rw [hrn, hrww]; exact hrw.2
  have ppl : p < pl := by rw [hpp, hpl]; exact hp
  have n1 : (m.kind != 16) = false := by rw [i1]; rfl
  have n2 : (m.fr != ow) = false := by rw [i2, how]; simp
  have n3 : (m.id != jb) = false := by rw [i3, hjb]; simp
  have n4 : (m.sq != (p : Int)) = false := by rw [i4, hpp]; simp
  have n5 : (m.ver != vr) = false := by rw [i5, hvr]; simp
  have n6 : (m.prev != (ct : Int)) = false := by rw [i6, hct]; simp
  have X2 : Hid (∀ W2, Kp W0 W2 non → RxAt W2 Y r Z ∧ MgAt W2 B m) := fun W2 hk => ⟨x0.kp0 hk, mg.keep hk (fun f => f)⟩
  have OK := hide ok
  have JB := hide jb9
  have HON := hide hon
  have HCT := hide hct
  have HR : Hid (hearR r m = sentR (readR r m) ∧ hearRL r m = [qR (readR r m)]) := ⟨by unfold hearR; rw [if_neg (by rw [hc]; decide), if_pos ⟨hc, hct9⟩], by unfold hearRL; rw [if_neg (by rw [hc]; decide), if_pos ⟨hc, hct9⟩]⟩
  have h0 := hide h
  have hlt : (ct : Int) < 512 := by rw [hct]; omega
  have HPP := hide hpp
  clear i1 i2 i3 i4 i5 i6
  clear h ok hj hon k0 mg x0 hB hW0 jb9 hp hrw hu0 ho00 hrow o1 hpl hrv0 hrv hrww hrn ho0 hpp hlf a1 a2 how hjb hvr hct
  go_enter Tryd.func31, Tryd.ntmps31
  go_upto_region 3 with fail
  rw [← HW0.out, ← HB.out]
  refine wp_region_held_drew (S := fun X : World => MgAt X B m ∧ X.heap[Y]? = some (.cells (rxA r Z) 76) ∧ X.cell? ⟨rb, p, none⟩ = some (.slice (some ⟨g, 0, none⟩) rn gc) ∧ X.cell? ⟨g, lf, none⟩ = some (.int .i64 ow)) (by kernel_rfl) (SK.out _ ((Kp.refl W0 non).drew)) (fun hHeld => ?_)
  refine wTk (i := 0) (v := (.pointer (some ⟨Y, 0, none⟩))) rfl ?_ ?_
  · intro w' hSw
    (try dsimp only at hSw)
    go_simp
  (try simp only [Act.put, List.getElem_toArray, List.getElem_cons_zero, List.getElem_cons_succ, List.setIfInBounds_toArray, List.set_cons_zero, List.set_cons_succ])
  refine wTk (i := 1) (v := (.pointer (some ⟨Y, 0, none⟩))) rfl ?_ ?_
  · intro w' hSw
    (try dsimp only at hSw)
    go_simp
  (try simp only [Act.put, List.getElem_toArray, List.getElem_cons_zero, List.getElem_cons_succ, List.setIfInBounds_toArray, List.set_cons_zero, List.set_cons_succ])
  refine wTk (i := 2) (v := (.pointer (some ⟨Y, 5, none⟩))) rfl ?_ ?_
  · intro w' hSw
    (try dsimp only at hSw)
    go_simp
  (try simp only [Act.put, List.getElem_toArray, List.getElem_cons_zero, List.getElem_cons_succ, List.setIfInBounds_toArray, List.set_cons_zero, List.set_cons_succ])
  refine wTk (i := 3) (v := (.bool true)) rfl ?_ ?_
  · intro w' hSw
    (try dsimp only at hSw)
    (have z := (RC.out _ hSw.2.1).1; go_simp)
  (try simp only [Act.put, List.getElem_toArray, List.getElem_cons_zero, List.getElem_cons_succ, List.setIfInBounds_toArray, List.set_cons_zero, List.set_cons_succ])
  refine wTk (i := 4) (v := (.bool false)) rfl ?_ ?_
  · intro w' hSw
    (try dsimp only at hSw)
    go_simp
  (try simp only [Act.put, List.getElem_toArray, List.getElem_cons_zero, List.getElem_cons_succ, List.setIfInBounds_toArray, List.set_cons_zero, List.set_cons_succ])
  refine wTk (i := 5) (v := (.bool false)) rfl ?_ ?_
  · intro w' hSw
    (try dsimp only at hSw)
    go_simp
  (try simp only [Act.put, List.getElem_toArray, List.getElem_cons_zero, List.getElem_cons_succ, List.setIfInBounds_toArray, List.set_cons_zero, List.set_cons_succ])
  refine wTk (i := 6) (v := (.pointer (some ⟨B, 0, none⟩))) rfl ?_ ?_
  · intro w' hSw
    (try dsimp only at hSw)
    go_simp
  (try simp only [Act.put, List.getElem_toArray, List.getElem_cons_zero, List.getElem_cons_succ, List.setIfInBounds_toArray, List.set_cons_zero, List.set_cons_succ])
  refine wTk (i := 7) (v := (.int .i64 m.kind)) rfl ?_ ?_
  · intro w' hSw
    (try dsimp only at hSw)
    (have z := hSw.1.cells.1; go_simp)
  (try simp only [Act.put, List.getElem_toArray, List.getElem_cons_zero, List.getElem_cons_succ, List.setIfInBounds_toArray, List.set_cons_zero, List.set_cons_succ])
  refine wTk (i := 8) (v := (.bool false)) rfl ?_ ?_
  · intro w' hSw
    (try dsimp only at hSw)
    go_simp
  (try simp only [Act.put, List.getElem_toArray, List.getElem_cons_zero, List.getElem_cons_succ, List.setIfInBounds_toArray, List.set_cons_zero, List.set_cons_succ])
  refine wTk (i := 9) (v := (.bool false)) rfl ?_ ?_
  · intro w' hSw
    (try dsimp only at hSw)
    go_simp
  (try simp only [Act.put, List.getElem_toArray, List.getElem_cons_zero, List.getElem_cons_succ, List.setIfInBounds_toArray, List.set_cons_zero, List.set_cons_succ])
  refine wTk (i := 10) (v := (.bool false)) rfl ?_ ?_
  · intro w' hSw
    (try dsimp only at hSw)
    go_simp
  (try simp only [Act.put, List.getElem_toArray, List.getElem_cons_zero, List.getElem_cons_succ, List.setIfInBounds_toArray, List.set_cons_zero, List.set_cons_succ])
  refine wTk (i := 11) (v := (.pointer (some ⟨B, 1, none⟩))) rfl ?_ ?_
  · intro w' hSw
    (try dsimp only at hSw)
    go_simp
  (try simp only [Act.put, List.getElem_toArray, List.getElem_cons_zero, List.getElem_cons_succ, List.setIfInBounds_toArray, List.set_cons_zero, List.set_cons_succ])
  refine wTk (i := 12) (v := (.int .i64 m.fr)) rfl ?_ ?_
  · intro w' hSw
    (try dsimp only at hSw)
    (have z := hSw.1.cells.2.1; go_simp)
  (try simp only [Act.put, List.getElem_toArray, List.getElem_cons_zero, List.getElem_cons_succ, List.setIfInBounds_toArray, List.set_cons_zero, List.set_cons_succ])
  refine wTk (i := 13) (v := (.pointer (some ⟨Y, 0, none⟩))) rfl ?_ ?_
  · intro w' hSw
    (try dsimp only at hSw)
    go_simp
  (try simp only [Act.put, List.getElem_toArray, List.getElem_cons_zero, List.getElem_cons_succ, List.setIfInBounds_toArray, List.set_cons_zero, List.set_cons_succ])
  refine wTk (i := 14) (v := (.pointer (some ⟨Y, 0, none⟩))) rfl ?_ ?_
  · intro w' hSw
    (try dsimp only at hSw)
    go_simp
  (try simp only [Act.put, List.getElem_toArray, List.getElem_cons_zero, List.getElem_cons_succ, List.setIfInBounds_toArray, List.set_cons_zero, List.set_cons_succ])
  refine wTk (i := 15) (v := (.pointer (some ⟨Y, 0, none⟩))) rfl ?_ ?_
  · intro w' hSw
    (try dsimp only at hSw)
    go_simp
  (try simp only [Act.put, List.getElem_toArray, List.getElem_cons_zero, List.getElem_cons_succ, List.setIfInBounds_toArray, List.set_cons_zero, List.set_cons_succ])
  refine wTk (i := 16) (v := (.slice (some ⟨rb, 0, none⟩) pl rc)) rfl ?_ ?_
  · intro w' hSw
    (try dsimp only at hSw)
    (have z := (RC.out _ hSw.2.1).2.1; go_simp)
  (try simp only [Act.put, List.getElem_toArray, List.getElem_cons_zero, List.getElem_cons_succ, List.setIfInBounds_toArray, List.set_cons_zero, List.set_cons_succ])
  refine wTk (i := 17) (v := (.pointer (some ⟨Y, 0, none⟩))) rfl ?_ ?_
  · intro w' hSw
    (try dsimp only at hSw)
    go_simp
  (try simp only [Act.put, List.getElem_toArray, List.getElem_cons_zero, List.getElem_cons_succ, List.setIfInBounds_toArray, List.set_cons_zero, List.set_cons_succ])
  refine wTk (i := 18) (v := (.pointer (some ⟨Y, 0, none⟩))) rfl ?_ ?_
  · intro w' hSw
    (try dsimp only at hSw)
    go_simp
  (try simp only [Act.put, List.getElem_toArray, List.getElem_cons_zero, List.getElem_cons_succ, List.setIfInBounds_toArray, List.set_cons_zero, List.set_cons_succ])
  refine wTk (i := 19) (v := (.pointer (some ⟨Y, 7, none⟩))) rfl ?_ ?_
  · intro w' hSw
    (try dsimp only at hSw)
    go_simp
  (try simp only [Act.put, List.getElem_toArray, List.getElem_cons_zero, List.getElem_cons_succ, List.setIfInBounds_toArray, List.set_cons_zero, List.set_cons_succ])
  refine wTk (i := 20) (v := (.int .i64 (p : Int))) rfl ?_ ?_
  · intro w' hSw
    (try dsimp only at hSw)
    (have z := (RC.out _ hSw.2.1).2.2.1; go_simp)
  (try simp only [Act.put, List.getElem_toArray, List.getElem_cons_zero, List.getElem_cons_succ, List.setIfInBounds_toArray, List.set_cons_zero, List.set_cons_succ])
  refine wTk (i := 21) (v := (.pointer (some ⟨rb, p, none⟩))) rfl ?_ ?_
  · intro w' hSw
    (try dsimp only at hSw)
    go_simp
  (try simp only [Act.put, List.getElem_toArray, List.getElem_cons_zero, List.getElem_cons_succ, List.setIfInBounds_toArray, List.set_cons_zero, List.set_cons_succ])
  refine wTk (i := 22) (v := (.slice (some ⟨g, 0, none⟩) rn gc)) rfl ?_ ?_
  · intro w' hSw
    (try dsimp only at hSw)
    (have z := hSw.2.2.1; go_simp)
  (try simp only [Act.put, List.getElem_toArray, List.getElem_cons_zero, List.getElem_cons_succ, List.setIfInBounds_toArray, List.set_cons_zero, List.set_cons_succ])
  refine wTk (i := 23) (v := (.pointer (some ⟨Y, 0, none⟩))) rfl ?_ ?_
  · intro w' hSw
    (try dsimp only at hSw)
    go_simp
  (try simp only [Act.put, List.getElem_toArray, List.getElem_cons_zero, List.getElem_cons_succ, List.setIfInBounds_toArray, List.set_cons_zero, List.set_cons_succ])
  refine wTk (i := 24) (v := (.pointer (some ⟨Y, 0, none⟩))) rfl ?_ ?_
  · intro w' hSw
    (try dsimp only at hSw)
    go_simp
  (try simp only [Act.put, List.getElem_toArray, List.getElem_cons_zero, List.getElem_cons_succ, List.setIfInBounds_toArray, List.set_cons_zero, List.set_cons_succ])
  refine wTk (i := 25) (v := (.pointer (some ⟨Y, 8, none⟩))) rfl ?_ ?_
  · intro w' hSw
    (try dsimp only at hSw)
    go_simp
  (try simp only [Act.put, List.getElem_toArray, List.getElem_cons_zero, List.getElem_cons_succ, List.setIfInBounds_toArray, List.set_cons_zero, List.set_cons_succ])
  refine wTk (i := 26) (v := (.int .i64 (lf : Int))) rfl ?_ ?_
  · intro w' hSw
    (try dsimp only at hSw)
    (have z := (RC.out _ hSw.2.1).2.2.2.1; go_simp)
  (try simp only [Act.put, List.getElem_toArray, List.getElem_cons_zero, List.getElem_cons_succ, List.setIfInBounds_toArray, List.set_cons_zero, List.set_cons_succ])
  refine wTk (i := 27) (v := (.pointer (some ⟨g, lf, none⟩))) rfl ?_ ?_
  · intro w' hSw
    (try dsimp only at hSw)
    go_simp
  (try simp only [Act.put, List.getElem_toArray, List.getElem_cons_zero, List.getElem_cons_succ, List.setIfInBounds_toArray, List.set_cons_zero, List.set_cons_succ])
  refine wTk (i := 28) (v := (.int .i64 ow)) rfl ?_ ?_
  · intro w' hSw
    (try dsimp only at hSw)
    (have z := hSw.2.2.2; go_simp)
  (try simp only [Act.put, List.getElem_toArray, List.getElem_cons_zero, List.getElem_cons_succ, List.setIfInBounds_toArray, List.set_cons_zero, List.set_cons_succ])
  refine wTk (i := 29) (v := (.bool false)) rfl ?_ ?_
  · intro w' hSw
    (try dsimp only at hSw)
    go_simp
  (try simp only [Act.put, List.getElem_toArray, List.getElem_cons_zero, List.getElem_cons_succ, List.setIfInBounds_toArray, List.set_cons_zero, List.set_cons_succ])
  refine wTk (i := 30) (v := (.bool false)) rfl ?_ ?_
  · intro w' hSw
    (try dsimp only at hSw)
    go_simp
  (try simp only [Act.put, List.getElem_toArray, List.getElem_cons_zero, List.getElem_cons_succ, List.setIfInBounds_toArray, List.set_cons_zero, List.set_cons_succ])
  refine wTk (i := 31) (v := (.bool false)) rfl ?_ ?_
  · intro w' hSw
    (try dsimp only at hSw)
    go_simp
  (try simp only [Act.put, List.getElem_toArray, List.getElem_cons_zero, List.getElem_cons_succ, List.setIfInBounds_toArray, List.set_cons_zero, List.set_cons_succ])
  refine wTk (i := 32) (v := (.pointer (some ⟨B, 3, none⟩))) rfl ?_ ?_
  · intro w' hSw
    (try dsimp only at hSw)
    go_simp
  (try simp only [Act.put, List.getElem_toArray, List.getElem_cons_zero, List.getElem_cons_succ, List.setIfInBounds_toArray, List.set_cons_zero, List.set_cons_succ])
  refine wTk (i := 33) (v := (.int .i64 m.id)) rfl ?_ ?_
  · intro w' hSw
    (try dsimp only at hSw)
    (have z := hSw.1.cells.2.2.2.1; go_simp)
  (try simp only [Act.put, List.getElem_toArray, List.getElem_cons_zero, List.getElem_cons_succ, List.setIfInBounds_toArray, List.set_cons_zero, List.set_cons_succ])
  refine wTk (i := 34) (v := (.pointer (some ⟨Y, 0, none⟩))) rfl ?_ ?_
  · intro w' hSw
    (try dsimp only at hSw)
    go_simp
  (try simp only [Act.put, List.getElem_toArray, List.getElem_cons_zero, List.getElem_cons_succ, List.setIfInBounds_toArray, List.set_cons_zero, List.set_cons_succ])
  refine wTk (i := 35) (v := (.pointer (some ⟨Y, 0, none⟩))) rfl ?_ ?_
  · intro w' hSw
    (try dsimp only at hSw)
    go_simp
  (try simp only [Act.put, List.getElem_toArray, List.getElem_cons_zero, List.getElem_cons_succ, List.setIfInBounds_toArray, List.set_cons_zero, List.set_cons_succ])
  refine wTk (i := 36) (v := (.pointer (some ⟨Y, 3, none⟩))) rfl ?_ ?_
  · intro w' hSw
    (try dsimp only at hSw)
    go_simp
  (try simp only [Act.put, List.getElem_toArray, List.getElem_cons_zero, List.getElem_cons_succ, List.setIfInBounds_toArray, List.set_cons_zero, List.set_cons_succ])
  refine wTk (i := 37) (v := (.int .i64 jb)) rfl ?_ ?_
  · intro w' hSw
    (try dsimp only at hSw)
    (have z := (RC.out _ hSw.2.1).2.2.2.2.1; go_simp)
  (try simp only [Act.put, List.getElem_toArray, List.getElem_cons_zero, List.getElem_cons_succ, List.setIfInBounds_toArray, List.set_cons_zero, List.set_cons_succ])
  refine wTk (i := 38) (v := (.bool false)) rfl ?_ ?_
  · intro w' hSw
    (try dsimp only at hSw)
    go_simp
  (try simp only [Act.put, List.getElem_toArray, List.getElem_cons_zero, List.getElem_cons_succ, List.setIfInBounds_toArray, List.set_cons_zero, List.set_cons_succ])
  refine wTk (i := 39) (v := (.bool false)) rfl ?_ ?_
  · intro w' hSw
    (try dsimp only at hSw)
    go_simp
  (try simp only [Act.put, List.getElem_toArray, List.getElem_cons_zero, List.getElem_cons_succ, List.setIfInBounds_toArray, List.set_cons_zero, List.set_cons_succ])
  refine wTk (i := 40) (v := (.bool false)) rfl ?_ ?_
  · intro w' hSw
    (try dsimp only at hSw)
    go_simp
  (try simp only [Act.put, List.getElem_toArray, List.getElem_cons_zero, List.getElem_cons_succ, List.setIfInBounds_toArray, List.set_cons_zero, List.set_cons_succ])
  refine wTk (i := 41) (v := (.pointer (some ⟨B, 5, none⟩))) rfl ?_ ?_
  · intro w' hSw
    (try dsimp only at hSw)
    go_simp
  (try simp only [Act.put, List.getElem_toArray, List.getElem_cons_zero, List.getElem_cons_succ, List.setIfInBounds_toArray, List.set_cons_zero, List.set_cons_succ])
  refine wTk (i := 42) (v := (.int .i64 m.sq)) rfl ?_ ?_
  · intro w' hSw
    (try dsimp only at hSw)
    (have z := hSw.1.cells.2.2.2.2.2.1; go_simp)
  (try simp only [Act.put, List.getElem_toArray, List.getElem_cons_zero, List.getElem_cons_succ, List.setIfInBounds_toArray, List.set_cons_zero, List.set_cons_succ])
  refine wTk (i := 43) (v := (.pointer (some ⟨Y, 0, none⟩))) rfl ?_ ?_
  · intro w' hSw
    (try dsimp only at hSw)
    go_simp
  (try simp only [Act.put, List.getElem_toArray, List.getElem_cons_zero, List.getElem_cons_succ, List.setIfInBounds_toArray, List.set_cons_zero, List.set_cons_succ])
  refine wTk (i := 44) (v := (.pointer (some ⟨Y, 0, none⟩))) rfl ?_ ?_
  · intro w' hSw
    (try dsimp only at hSw)
    go_simp
  (try simp only [Act.put, List.getElem_toArray, List.getElem_cons_zero, List.getElem_cons_succ, List.setIfInBounds_toArray, List.set_cons_zero, List.set_cons_succ])
  refine wTk (i := 45) (v := (.pointer (some ⟨Y, 7, none⟩))) rfl ?_ ?_
  · intro w' hSw
    (try dsimp only at hSw)
    go_simp
  (try simp only [Act.put, List.getElem_toArray, List.getElem_cons_zero, List.getElem_cons_succ, List.setIfInBounds_toArray, List.set_cons_zero, List.set_cons_succ])
  refine wTk (i := 46) (v := (.int .i64 (p : Int))) rfl ?_ ?_
  · intro w' hSw
    (try dsimp only at hSw)
    (have z := (RC.out _ hSw.2.1).2.2.1; go_simp)
  (try simp only [Act.put, List.getElem_toArray, List.getElem_cons_zero, List.getElem_cons_succ, List.setIfInBounds_toArray, List.set_cons_zero, List.set_cons_succ])
  refine wTk (i := 47) (v := (.bool false)) rfl ?_ ?_
  · intro w' hSw
    (try dsimp only at hSw)
    go_simp
  (try simp only [Act.put, List.getElem_toArray, List.getElem_cons_zero, List.getElem_cons_succ, List.setIfInBounds_toArray, List.set_cons_zero, List.set_cons_succ])
  refine wTk (i := 48) (v := (.bool false)) rfl ?_ ?_
  · intro w' hSw
    (try dsimp only at hSw)
    go_simp
  (try simp only [Act.put, List.getElem_toArray, List.getElem_cons_zero, List.getElem_cons_succ, List.setIfInBounds_toArray, List.set_cons_zero, List.set_cons_succ])
  refine wTk (i := 49) (v := (.bool false)) rfl ?_ ?_
  · intro w' hSw
    (try dsimp only at hSw)
    go_simp
  (try simp only [Act.put, List.getElem_toArray, List.getElem_cons_zero, List.getElem_cons_succ, List.setIfInBounds_toArray, List.set_cons_zero, List.set_cons_succ])
  refine wTk (i := 50) (v := (.pointer (some ⟨B, 6, none⟩))) rfl ?_ ?_
  · intro w' hSw
    (try dsimp only at hSw)
    go_simp
  (try simp only [Act.put, List.getElem_toArray, List.getElem_cons_zero, List.getElem_cons_succ, List.setIfInBounds_toArray, List.set_cons_zero, List.set_cons_succ])
  refine wTk (i := 51) (v := (.int .i64 m.ver)) rfl ?_ ?_
  · intro w' hSw
    (try dsimp only at hSw)
    (have z := hSw.1.cells.2.2.2.2.2.2.1; go_simp)
  (try simp only [Act.put, List.getElem_toArray, List.getElem_cons_zero, List.getElem_cons_succ, List.setIfInBounds_toArray, List.set_cons_zero, List.set_cons_succ])
  refine wTk (i := 52) (v := (.pointer (some ⟨Y, 0, none⟩))) rfl ?_ ?_
  · intro w' hSw
    (try dsimp only at hSw)
    go_simp
  (try simp only [Act.put, List.getElem_toArray, List.getElem_cons_zero, List.getElem_cons_succ, List.setIfInBounds_toArray, List.set_cons_zero, List.set_cons_succ])
  refine wTk (i := 53) (v := (.pointer (some ⟨Y, 0, none⟩))) rfl ?_ ?_
  · intro w' hSw
    (try dsimp only at hSw)
    go_simp
  (try simp only [Act.put, List.getElem_toArray, List.getElem_cons_zero, List.getElem_cons_succ, List.setIfInBounds_toArray, List.set_cons_zero, List.set_cons_succ])
  refine wTk (i := 54) (v := (.pointer (some ⟨Y, 4, none⟩))) rfl ?_ ?_
  · intro w' hSw
    (try dsimp only at hSw)
    go_simp
  (try simp only [Act.put, List.getElem_toArray, List.getElem_cons_zero, List.getElem_cons_succ, List.setIfInBounds_toArray, List.set_cons_zero, List.set_cons_succ])
  refine wTk (i := 55) (v := (.int .i64 vr)) rfl ?_ ?_
  · intro w' hSw
    (try dsimp only at hSw)
    (have z := (RC.out _ hSw.2.1).2.2.2.2.2; go_simp)
  (try simp only [Act.put, List.getElem_toArray, List.getElem_cons_zero, List.getElem_cons_succ, List.setIfInBounds_toArray, List.set_cons_zero, List.set_cons_succ])
  refine wTk (i := 56) (v := (.bool false)) rfl ?_ ?_
  · intro w' hSw
    (try dsimp only at hSw)
    go_simp
  (try simp only [Act.put, List.getElem_toArray, List.getElem_cons_zero, List.getElem_cons_succ, List.setIfInBounds_toArray, List.set_cons_zero, List.set_cons_succ])
  refine wTk (i := 57) (v := (.bool false)) rfl ?_ ?_
  · intro w' hSw
    (try dsimp only at hSw)
    go_simp
  (try simp only [Act.put, List.getElem_toArray, List.getElem_cons_zero, List.getElem_cons_succ, List.setIfInBounds_toArray, List.set_cons_zero, List.set_cons_succ])
  refine wTk (i := 58) (v := (.bool false)) rfl ?_ ?_
  · intro w' hSw
    (try dsimp only at hSw)
    go_simp
  (try simp only [Act.put, List.getElem_toArray, List.getElem_cons_zero, List.getElem_cons_succ, List.setIfInBounds_toArray, List.set_cons_zero, List.set_cons_succ])
  refine wTk (i := 59) (v := (.pointer (some ⟨B, 7, none⟩))) rfl ?_ ?_
  · intro w' hSw
    (try dsimp only at hSw)
    go_simp
  (try simp only [Act.put, List.getElem_toArray, List.getElem_cons_zero, List.getElem_cons_succ, List.setIfInBounds_toArray, List.set_cons_zero, List.set_cons_succ])
  refine wTk (i := 60) (v := (.int .i64 m.prev)) rfl ?_ ?_
  · intro w' hSw
    (try dsimp only at hSw)
    (have z := hSw.1.cells.2.2.2.2.2.2.2.1; go_simp)
  (try simp only [Act.put, List.getElem_toArray, List.getElem_cons_zero, List.getElem_cons_succ, List.setIfInBounds_toArray, List.set_cons_zero, List.set_cons_succ])
  refine wTk (i := 61) (v := (.pointer (some ⟨Y, 0, none⟩))) rfl ?_ ?_
  · intro w' hSw
    (try dsimp only at hSw)
    go_simp
  (try simp only [Act.put, List.getElem_toArray, List.getElem_cons_zero, List.getElem_cons_succ, List.setIfInBounds_toArray, List.set_cons_zero, List.set_cons_succ])
  refine wpAnyH_ready (rs := [62]) (by kernel_rfl) (by simp) ?_
  refine AllReadyH.cons rfl (fun K hK => ?_) AllReadyH.nil
  go_simp
  refine Calls.mono CT.out ?_
  rintro e W2 ⟨rfl, k2⟩
  have K2 : Hid (Kp W0 W2 non) := ((Kp.refl W0 non).drew).trans k2 (fun _ f => f.elim)
  clear k2 CT
  refine hK.out _ _ ((SK.out W2 K2.out)) (fun hHeld => ?_)
  clear hK
  (try simp only [Act.put, List.setIfInBounds_toArray, List.set_cons_zero, List.set_cons_succ])
  refine wTk (i := 63) (v := (.bool false)) rfl ?_ ?_
  · intro w' hSw
    (try dsimp only at hSw)
    go_simp
  (try simp only [Act.put, List.getElem_toArray, List.getElem_cons_zero, List.getElem_cons_succ, List.setIfInBounds_toArray, List.set_cons_zero, List.set_cons_succ])
  refine wpAnyH_ready (rs := [64]) (by kernel_rfl) (by simp) ?_
  refine AllReadyH.cons rfl (fun K hK => ?_) AllReadyH.nil
  go_simp
  refine hK.out _ _ ((SK.out W2 K2.out)) (fun hHeld => ?_)
  clear hK
  (try simp only [Act.put, List.setIfInBounds_toArray, List.set_cons_zero, List.set_cons_succ])
  refine wpAnyH_done (by kernel_rfl) ?_ _
  clear hHeld
  clear n1 n2 n3 n4 n5 n6 RC
  have x2 := X2.out W2 K2.out
  have c8 : W2.cell? ⟨B, 8, none⟩ = some (.int .i64 m.code) := x2.2.cells.2.2.2.2.2.2.2.2.1
  rw [hc] at c8
  have CT2 := hide (count_r x2.1 (by have := OK.out.ob; omega))
  rw [← HCT.out] at CT2
  clear x2
  go_wp2_with fail
  refine Calls.mono CT2.out ?_
  rintro e W3 ⟨rfl, k3⟩
  have K3 : Hid (Kp W0 W3 non) := K2.out.trans k3 (fun _ f => f.elim)
  have x2 := X2.out W3 K3.out
  have x3 := hide x2.1
  have M3 := hide x2.2
  clear k3 CT2 c8 x2
  go_upto_region 8 with fail
  clear hlt
  obtain ⟨rda, rdc, hrd0⟩ := own_sl h0.out.ow.rd
  obtain ⟨n, hn⟩ : ∃ n, n = r.rd.length := ⟨_, rfl⟩
  have hrd : Z.rd = .slice rda n rdc := by rw [hn]; exact hrd0
  clear hrd0
  have HRD := hide hrd
  have NB : Hid (n ≤ 100000) := by rw [hn, JB.out.le]; exact OK.out.ob
  obtain ⟨GB, hGB⟩ : ∃ GB, GB = W3.drew.heap.size := ⟨_, rfl⟩
  obtain ⟨W4, hW4⟩ : ∃ W4, W4 = W3.drew.alloc (.cells (prV ⟨m.key, m.val⟩) 89) := ⟨_, rfl⟩
  have k4 : Kp W3 W4 non := by rw [hW4]; exact ((Kp.refl W3 non).drew).alloc _
  have N4 : Hid (W4.ownsRow GB 89 2 (.slice (some ⟨GB, 0, none⟩) 1 1) 1 (prV ⟨m.key, m.val⟩).toList) := by rw [hW4, hGB]; exact own_one _ _ _ _ rfl
  have LW : Hid (Lr w W3 Y Z r Z) := Lr.same h0.out (K0.out.trans K3.out (fun _ f => f.elim))
  have L4 := hide (LW.out.trans (Lr.same LW.out.at_ k4))
  have T4 : Hid (W4.ownsRow 0 89 2 (.slice rda n rdc) n (prs r.rd)) := by
    have z := L4.out.at_.ow.rd
    rw [hrd] at z
    rw [hn]
    exact hn ▸ z
  have M4 : Hid (MgAt W4 B m) := M3.out.keep k4 (fun f => f)
  have CR : Hid (W3.cell? ⟨Y, 10, none⟩ = some (.slice rda n rdc) ∧ W4.cell? ⟨Y, 10, none⟩ = some (.slice rda n rdc)) := by
    rw [← hrd]
    exact ⟨(rx_cells LW.out.at_.blk).2.2.2.2.2.2.2.2.2.2.1, (rx_cells L4.out.at_.blk).2.2.2.2.2.2.2.2.2.2.1⟩
  have FIN : Hid (∀ (v' : Value) (w' : World), w'.ownsRow 0 89 2 v' (n + 1) (prs r.rd ++ (prV ⟨m.key, m.val⟩).toList) → W4.grownBy w' (Value.slice rda n rdc).ownBlock → (v'.ownBlock = (Value.slice rda n rdc).ownBlock ∨ v'.ownBlock = some W4.heap.size) → w'.heap[Y]? = some (.cells (rxA r Z) 76) ∧ Lr w (w'.setCell ⟨Y, 10, none⟩ v') Y Z (rdgR r ⟨m.key, m.val⟩) { Z with rd := v' }) := fun v' w' o3 g3 n3 => by
    rw [← hrd] at g3 n3
    rw [← prs_one, ← prs_append, hn] at o3
    obtain ⟨b, l⟩ := rdg_lr L4.out.at_ HON.out ⟨m.key, m.val⟩ v' o3 g3 n3
    exact ⟨b, L4.out.trans l⟩
  have HW4 := hide hW4
  have HGB := hide hGB
  clear hrd hn hGB hW4 k4 L4 LW x3
  refine wp_region_held_drew (S := fun X : World => MgAt X B m) (by kernel_rfl) M3.out (fun hHeld => ?_)
  refine wTk (i := 0) (v := (.pointer (some ⟨Y, 0, none⟩))) rfl ?_ ?_
  · intro w' hSw
    (try dsimp only at hSw)
    go_simp
  (try simp only [Act.put, List.getElem_toArray, List.getElem_cons_zero, List.getElem_cons_succ, List.setIfInBounds_toArray, List.set_cons_zero, List.set_cons_succ])
  refine wTk (i := 1) (v := (.pointer (some ⟨Y, 0, none⟩))) rfl ?_ ?_
  · intro w' hSw
    (try dsimp only at hSw)
    go_simp
  (try simp only [Act.put, List.getElem_toArray, List.getElem_cons_zero, List.getElem_cons_succ, List.setIfInBounds_toArray, List.set_cons_zero, List.set_cons_succ])
  refine wTk (i := 2) (v := (.pointer (some ⟨Y, 0, none⟩))) rfl ?_ ?_
  · intro w' hSw
    (try dsimp only at hSw)
    go_simp
  (try simp only [Act.put, List.getElem_toArray, List.getElem_cons_zero, List.getElem_cons_succ, List.setIfInBounds_toArray, List.set_cons_zero, List.set_cons_succ])
  refine wTk (i := 3) (v := (.pointer (some ⟨Y, 10, none⟩))) rfl ?_ ?_
  · intro w' hSw
    (try dsimp only at hSw)
    go_simp
  (try simp only [Act.put, List.getElem_toArray, List.getElem_cons_zero, List.getElem_cons_succ, List.setIfInBounds_toArray, List.set_cons_zero, List.set_cons_succ])
  refine wTk (i := 5) (v := (.pointer (some ⟨B, 9, none⟩))) rfl ?_ ?_
  · intro w' hSw
    (try dsimp only at hSw)
    go_simp
  (try simp only [Act.put, List.getElem_toArray, List.getElem_cons_zero, List.getElem_cons_succ, List.setIfInBounds_toArray, List.set_cons_zero, List.set_cons_succ])
  refine wTk (i := 6) (v := (.string m.key)) rfl ?_ ?_
  · intro w' hSw
    (try dsimp only at hSw)
    (have z := hSw.cells.2.2.2.2.2.2.2.2.2.1; go_simp)
  (try simp only [Act.put, List.getElem_toArray, List.getElem_cons_zero, List.getElem_cons_succ, List.setIfInBounds_toArray, List.set_cons_zero, List.set_cons_succ])
  refine wTk (i := 7) (v := (.pointer (some ⟨B, 10, none⟩))) rfl ?_ ?_
  · intro w' hSw
    (try dsimp only at hSw)
    go_simp
  (try simp only [Act.put, List.getElem_toArray, List.getElem_cons_zero, List.getElem_cons_succ, List.setIfInBounds_toArray, List.set_cons_zero, List.set_cons_succ])
  refine wTk (i := 8) (v := (.string m.val)) rfl ?_ ?_
  · intro w' hSw
    (try dsimp only at hSw)
    (have z := hSw.cells.2.2.2.2.2.2.2.2.2.2; go_simp)
  (try simp only [Act.put, List.getElem_toArray, List.getElem_cons_zero, List.getElem_cons_succ, List.setIfInBounds_toArray, List.set_cons_zero, List.set_cons_succ])
  refine wTk (i := 9) (v := (.agg (prV ⟨m.key, m.val⟩))) rfl ?_ ?_
  · intro w' hSw
    (try dsimp only at hSw)
    (unfold prV; go_simp)
  (try simp only [Act.put, List.getElem_toArray, List.getElem_cons_zero, List.getElem_cons_succ, List.setIfInBounds_toArray, List.set_cons_zero, List.set_cons_succ])
  refine wpAnyH_ready (rs := [4, 10]) (by kernel_rfl) (by simp) ?_
  refine AllReadyH.cons rfl (fun K hK => ?_) (AllReadyH.cons rfl (fun K hK => ?_) AllReadyH.nil)
  · skip
    have cA : W3.drew.cell? ⟨Y, 10, none⟩ = some (.slice rda n rdc) := CR.out.1
    have cA2 : W3.cell? ⟨Y, 10, none⟩ = some (.slice rda n rdc) := CR.out.1
    go_simp
    clear cA cA2
    refine hK.out _ _ (M3.out) (fun hHeld => ?_)
    clear hK
    (try simp only [Act.put, List.setIfInBounds_toArray, List.set_cons_zero, List.set_cons_succ])
    refine wpAnyH_ready (rs := [10]) (by kernel_rfl) (by simp) ?_
    refine AllReadyH.cons rfl (fun K hK => ?_) AllReadyH.nil
    refine wp_bsP (.tmp 97) rfl ⟨m.key, m.val⟩ rfl ?_
    rw [← HW4.out, ← HGB.out]
    refine hK.out _ _ (M4.out) (fun hHeld => ?_)
    clear hK
    (try simp only [Act.put, List.setIfInBounds_toArray, List.set_cons_zero, List.set_cons_succ])
    clear HW4
    refine wpAnyH_ready (rs := [11]) (by kernel_rfl) (by simp) ?_
    refine AllReadyH.cons rfl (fun K hK => ?_) AllReadyH.nil
    refine wp_apRow (.tmp 92) (.tmp 98) 55 rfl 0 89 Tryd.underlying55 pr_infos rfl (by decide) (.slice rda n rdc) n (prs r.rd) rfl T4.out GB (.slice (some ⟨GB, 0, none⟩) 1 1) 1 (prV ⟨m.key, m.val⟩).toList (by first | rfl | (rw [HGB.out]; rfl)) N4.out (by simp [prV, Value.oneCell']) (by unfold maxLen; have := NB.out; omega) (by have := NB.out; omega) (Nat.zero_le _) ?_
    intro v' w5 o3 g3 n3
    obtain ⟨na, nc, rfl⟩ := own_sl o3
    obtain ⟨b5, L5⟩ := FIN.out _ w5 o3 g3 n3
    have f10 := fz_row b5 10
    have c10 : w5.cell? ⟨Y, 10, none⟩ = some (.slice rda n rdc) := by rw [← HRD.out]; exact (rx_cells b5).2.2.2.2.2.2.2.2.2.2.1
    have M5 : Hid (MgAt w5 B m) := M4.out.keep (Kp.of_grown g3) (fun e => by
      obtain ⟨q1, h1⟩ := own_typ T4.out (by rw [← e])
      have h2 := M4.out
      unfold MgAt at h2
      rw [h1] at h2
      simp at h2)
    have L5 := hide L5
    obtain ⟨W5, hW5⟩ : ∃ W5, W5 = w5.setCell ⟨Y, 10, none⟩ (.slice na (n + 1) nc) := ⟨_, rfl⟩
    rw [← hW5] at L5
    have M6 : Hid (MgAt W5 B m) := by
      rw [hW5]
      exact M5.out.keep ((Kp.refl w5 (fun k => k = Y)).set (Or.inl rfl) _ _) (fun e => by
        have h2 := M5.out
        unfold MgAt at h2
        rw [e, b5] at h2
        simp at h2)
    clear o3 g3 n3 b5 T4 N4 FIN CR M4
    refine hK.out _ _ (M5.out) (fun hHeld => ?_)
    clear hK
    (try simp only [Act.put, List.setIfInBounds_toArray, List.set_cons_zero, List.set_cons_succ])
    refine wTk (i := 12) (v := (.pointer (some ⟨Y, 0, none⟩))) rfl ?_ ?_
    · intro w' hSw
      (try dsimp only at hSw)
      go_simp
    (try simp only [Act.put, List.getElem_toArray, List.getElem_cons_zero, List.getElem_cons_succ, List.setIfInBounds_toArray, List.set_cons_zero, List.set_cons_succ])
    refine wTk (i := 13) (v := (.pointer (some ⟨Y, 10, none⟩))) rfl ?_ ?_
    · intro w' hSw
      (try dsimp only at hSw)
      go_simp
    (try simp only [Act.put, List.getElem_toArray, List.getElem_cons_zero, List.getElem_cons_succ, List.setIfInBounds_toArray, List.set_cons_zero, List.set_cons_succ])
    refine wpAnyH_ready (rs := [14]) (by kernel_rfl) (by simp) ?_
    refine AllReadyH.cons rfl (fun K hK => ?_) AllReadyH.nil
    go_simp
    rw [← hW5]
    clear hW5 c10 f10 M5
    refine hK.out _ _ (M6.out) (fun hHeld => ?_)
    clear hK
    (try simp only [Act.put, List.setIfInBounds_toArray, List.set_cons_zero, List.set_cons_succ])
    refine wpAnyH_done (by kernel_rfl) ?_ _
    clear hHeld
    go_upto_region 9 with fail
    obtain ⟨ofa, ofc, hof0⟩ := own_sl h0.out.ow.ofv
    obtain ⟨fn, hfn⟩ : ∃ fn, fn = r.of_.length := ⟨_, rfl⟩
    have hof : Z.ofv = .slice ofa fn ofc := by rw [hfn]; exact hof0
    clear hof0
    have HOF := hide hof
    have FB : Hid (fn ≤ 100000) := by rw [hfn]; exact OK.out.ob
    obtain ⟨GC, hGC⟩ : ∃ GC, GC = W5.heap.size := ⟨_, rfl⟩
    obtain ⟨W6, hW6⟩ : ∃ W6, W6 = (W5.alloc (.cells #[.int .i64 (p : Int)] 3)).drew := ⟨_, rfl⟩
    have k6 : Kp W5 W6 non := by rw [hW6]; exact ((Kp.refl W5 non).alloc _).drew
    have N6 : Hid (W6.ownsRow GC 3 1 (.slice (some ⟨GC, 0, none⟩) 1 1) 1 [.int .i64 (p : Int)]) := by rw [hW6, hGC]; exact own_one W5 3 1 #[.int .i64 (p : Int)] rfl
    have L6 := hide (L5.out.trans (Lr.same L5.out.at_ k6))
    have T6 : Hid (W6.ownsRow 0 3 1 (.slice ofa fn ofc) fn (ints r.of_)) := by
      have z := L6.out.at_.ow.ofv
      rw [show ({ Z with rd := Value.slice na (n + 1) nc } : Zr).ofv = Z.ofv from rfl, hof] at z
      rw [hfn]
      exact hfn ▸ z
    have CO : Hid (W5.cell? ⟨Y, 11, none⟩ = some (.slice ofa fn ofc) ∧ W6.cell? ⟨Y, 11, none⟩ = some (.slice ofa fn ofc)) := by
      rw [← hof]
      exact ⟨(rx_cells L5.out.at_.blk).2.2.2.2.2.2.2.2.2.2.2.1, (rx_cells L6.out.at_.blk).2.2.2.2.2.2.2.2.2.2.2.1⟩
    have C7 : Hid (W5.cell? ⟨Y, 7, none⟩ = some (.int .i64 (p : Int))) := by rw [HPP.out]; exact (rx_cells L5.out.at_.blk).2.2.2.2.2.2.2.1
    have C76 : Hid (W6.cell? ⟨Y, 7, none⟩ = some (.int .i64 (p : Int))) := k6.cell0 C7.out
    have FIN2 : Hid (∀ (v' : Value) (w' : World), w'.ownsRow 0 3 1 v' (fn + 1) (ints r.of_ ++ [.int .i64 (p : Int)]) → W6.grownBy w' (Value.slice ofa fn ofc).ownBlock → (v'.ownBlock = (Value.slice ofa fn ofc).ownBlock ∨ v'.ownBlock = some W6.heap.size) → w'.heap[Y]? = some (.cells (rxA (rdgR r ⟨m.key, m.val⟩) { Z with rd := .slice na (n + 1) nc }) 76) ∧ Lr w (w'.setCell ⟨Y, 11, none⟩ v') Y Z (readR r m) { Z with rd := .slice na (n + 1) nc, ofv := v' }) := fun v' w' o3 g3 n3 => by
      rw [← hof] at g3 n3
      have e : ints r.of_ ++ [.int .i64 (p : Int)] = ints (r.of_ ++ [(r.part : Int)]) := by rw [ints_append, HPP.out]; rfl
      rw [e, hfn] at o3
      obtain ⟨b, l⟩ := ofg_lr L6.out.at_ HON.out (r.part : Int) v' o3 g3 n3
      exact ⟨b, L6.out.trans l⟩
    have OB9 : Hid ((r.of_ ++ [(r.part : Int)]).length ≤ 100000) := by rw [List.length_append]; show r.of_.length + 1 ≤ _; have := hob; omega
    have HW6 := hide hW6
    have HGC := hide hGC
    clear hof hfn hGC hW6 k6 L6 L5 M6
    refine wp_region_held_drew (S := fun X : World => X.cell? ⟨Y, 7, none⟩ = some (.int .i64 (p : Int))) (by kernel_rfl) C7.out (fun hHeld => ?_)
    refine wTk (i := 0) (v := (.pointer (some ⟨Y, 0, none⟩))) rfl ?_ ?_
    · intro w' hSw
      (try dsimp only at hSw)
      go_simp
    (try simp only [Act.put, List.getElem_toArray, List.getElem_cons_zero, List.getElem_cons_succ, List.setIfInBounds_toArray, List.set_cons_zero, List.set_cons_succ])
    refine wTk (i := 1) (v := (.pointer (some ⟨Y, 0, none⟩))) rfl ?_ ?_
    · intro w' hSw
      (try dsimp only at hSw)
      go_simp
    (try simp only [Act.put, List.getElem_toArray, List.getElem_cons_zero, List.getElem_cons_succ, List.setIfInBounds_toArray, List.set_cons_zero, List.set_cons_succ])
    refine wTk (i := 2) (v := (.pointer (some ⟨Y, 0, none⟩))) rfl ?_ ?_
    · intro w' hSw
      (try dsimp only at hSw)
      go_simp
    (try simp only [Act.put, List.getElem_toArray, List.getElem_cons_zero, List.getElem_cons_succ, List.setIfInBounds_toArray, List.set_cons_zero, List.set_cons_succ])
    refine wTk (i := 3) (v := (.pointer (some ⟨Y, 11, none⟩))) rfl ?_ ?_
    · intro w' hSw
      (try dsimp only at hSw)
      go_simp
    (try simp only [Act.put, List.getElem_toArray, List.getElem_cons_zero, List.getElem_cons_succ, List.setIfInBounds_toArray, List.set_cons_zero, List.set_cons_succ])
    refine wTk (i := 5) (v := (.pointer (some ⟨Y, 0, none⟩))) rfl ?_ ?_
    · intro w' hSw
      (try dsimp only at hSw)
      go_simp
    (try simp only [Act.put, List.getElem_toArray, List.getElem_cons_zero, List.getElem_cons_succ, List.setIfInBounds_toArray, List.set_cons_zero, List.set_cons_succ])
    refine wTk (i := 6) (v := (.pointer (some ⟨Y, 0, none⟩))) rfl ?_ ?_
    · intro w' hSw
      (try dsimp only at hSw)
      go_simp
    (try simp only [Act.put, List.getElem_toArray, List.getElem_cons_zero, List.getElem_cons_succ, List.setIfInBounds_toArray, List.set_cons_zero, List.set_cons_succ])
    refine wTk (i := 7) (v := (.pointer (some ⟨Y, 7, none⟩))) rfl ?_ ?_
    · intro w' hSw
      (try dsimp only at hSw)
      go_simp
    (try simp only [Act.put, List.getElem_toArray, List.getElem_cons_zero, List.getElem_cons_succ, List.setIfInBounds_toArray, List.set_cons_zero, List.set_cons_succ])
    refine wTk (i := 8) (v := (.int .i64 (p : Int))) rfl ?_ ?_
    · intro w' hSw
      (try dsimp only at hSw)
      (have z := hSw; go_simp)
    (try simp only [Act.put, List.getElem_toArray, List.getElem_cons_zero, List.getElem_cons_succ, List.setIfInBounds_toArray, List.set_cons_zero, List.set_cons_succ])
    refine wpAnyH_ready (rs := [4, 9]) (by kernel_rfl) (by simp) ?_
    refine AllReadyH.cons rfl (fun K hK => ?_) (AllReadyH.cons rfl (fun K hK => ?_) AllReadyH.nil)
    · skip
      have cA : W5.drew.cell? ⟨Y, 11, none⟩ = some (.slice ofa fn ofc) := CO.out.1
      have cA2 : W5.cell? ⟨Y, 11, none⟩ = some (.slice ofa fn ofc) := CO.out.1
      go_simp
      clear cA cA2
      refine hK.out _ _ (C7.out) (fun hHeld => ?_)
      clear hK
      (try simp only [Act.put, List.setIfInBounds_toArray, List.set_cons_zero, List.set_cons_succ])
      refine wpAnyH_ready (rs := [9]) (by kernel_rfl) (by simp) ?_
      refine AllReadyH.cons rfl (fun K hK => ?_) AllReadyH.nil
      go_simp
      rw [← HW6.out, ← HGC.out]
      refine hK.out _ _ (C76.out) (fun hHeld => ?_)
      clear hK
      (try simp only [Act.put, List.setIfInBounds_toArray, List.set_cons_zero, List.set_cons_succ])
      clear HW6
      refine wpAnyH_ready (rs := [10]) (by kernel_rfl) (by simp) ?_
      refine AllReadyH.cons rfl (fun K hK => ?_) AllReadyH.nil
      refine wp_apRow (.tmp 106) (.tmp 111) 48 rfl 0 3 Tryd.underlying48 int_infos rfl (by decide) (.slice ofa fn ofc) fn (ints r.of_) rfl T6.out GC (.slice (some ⟨GC, 0, none⟩) 1 1) 1 [.int .i64 (p : Int)] (by first | rfl | (rw [HGC.out]; rfl)) N6.out (by simp [Value.oneCell']) (by unfold maxLen; have := FB.out; omega) (by have := FB.out; omega) (Nat.zero_le _) ?_
      intro v' w' o3 g3 n3
      obtain ⟨na, nc, rfl⟩ := own_sl o3
      obtain ⟨b7, L7⟩ := FIN2.out _ w' o3 g3 n3
      have f11 := fz_row b7 11
      have c11 : w'.cell? ⟨Y, 11, none⟩ = some (.slice ofa fn ofc) := by rw [← HOF.out]; exact (rx_cells b7).2.2.2.2.2.2.2.2.2.2.2.1
      have D7 : Hid (w'.cell? ⟨Y, 7, none⟩ = some (.int .i64 (p : Int))) := by rw [HPP.out]; exact (rx_cells b7).2.2.2.2.2.2.2.1
      have L7 := hide L7
      obtain ⟨W8, hW8⟩ : ∃ W8, W8 = w'.setCell ⟨Y, 11, none⟩ (.slice na (fn + 1) nc) := ⟨_, rfl⟩
      rw [← hW8] at L7
      have D8 : Hid (W8.cell? ⟨Y, 7, none⟩ = some (.int .i64 (p : Int))) := by rw [HPP.out]; exact (rx_cells L7.out.at_.blk).2.2.2.2.2.2.2.1
      clear o3 g3 n3 b7 T6 N6 FIN2 CO C76
      refine hK.out _ _ (D7.out) (fun hHeld => ?_)
      clear hK
      (try simp only [Act.put, List.setIfInBounds_toArray, List.set_cons_zero, List.set_cons_succ])
      refine wTk (i := 11) (v := (.pointer (some ⟨Y, 0, none⟩))) rfl ?_ ?_
      · intro w' hSw
        (try dsimp only at hSw)
        go_simp
      (try simp only [Act.put, List.getElem_toArray, List.getElem_cons_zero, List.getElem_cons_succ, List.setIfInBounds_toArray, List.set_cons_zero, List.set_cons_succ])
      refine wTk (i := 12) (v := (.pointer (some ⟨Y, 11, none⟩))) rfl ?_ ?_
      · intro w' hSw
        (try dsimp only at hSw)
        go_simp
      (try simp only [Act.put, List.getElem_toArray, List.getElem_cons_zero, List.getElem_cons_succ, List.setIfInBounds_toArray, List.set_cons_zero, List.set_cons_succ])
      refine wpAnyH_ready (rs := [13]) (by kernel_rfl) (by simp) ?_
      refine AllReadyH.cons rfl (fun K hK => ?_) AllReadyH.nil
      go_simp
      rw [← hW8]
      clear hW8 c11 f11 D7
      refine hK.out _ _ (D8.out) (fun hHeld => ?_)
      clear hK
      (try simp only [Act.put, List.setIfInBounds_toArray, List.set_cons_zero, List.set_cons_succ])
      refine wpAnyH_done (by kernel_rfl) ?_ _
      clear hHeld D8
      have okn : Rok (readR r m) := ⟨OK.out.rl, OK.out.rw_, OB9.out⟩
      have CALL := hide (question_r L7.out.at_ JB.out.pt JB.out.lf (by have := OB9.out; show (r.of_ ++ [(r.part : Int)]).length ≤ _; omega) OK.out.rl.2 (okn.row JB.out.pt).2)
      clear okn
      go_wp2_with fail
      refine Calls.mono CALL.out ?_
      rintro e W9 ⟨u, rfl, o9, l9⟩
      have O9 := hide o9
      have L9 := hide (L7.out.trans l9)
      clear o9 l9 CALL
      go_wp2_with fail
      go_ret2
      first | refine ⟨_, _, rfl, ?_, L10.out⟩ | (refine ⟨_, rfl, ?_, _, (by rw [TK.out.1, HR.out.1]; exact L9.out)⟩; rw [TK.out.2, HR.out.2]; exact own_base O9.out L7.out.kp.size) | (refine ⟨_, _, rfl, ?_, (by rw [TK.out.1, HR.out.1]; exact L9.out)⟩; rw [TK.out.2, HR.out.2]; exact own_base O9.out L7.out.kp.size)
    · skip
      go_simp
      rw [← HW6.out, ← HGC.out]
      refine hK.out _ _ (C76.out) (fun hHeld => ?_)
      clear hK
      (try simp only [Act.put, List.setIfInBounds_toArray, List.set_cons_zero, List.set_cons_succ])
      have cA : W6.cell? ⟨Y, 11, none⟩ = some (.slice ofa fn ofc) := CO.out.2
      refine wpAnyH_ready (rs := [4]) (by kernel_rfl) (by simp) ?_
      refine AllReadyH.cons rfl (fun K hK => ?_) AllReadyH.nil
      go_simp
      clear cA
      refine hK.out _ _ (C76.out) (fun hHeld => ?_)
      clear hK
      (try simp only [Act.put, List.setIfInBounds_toArray, List.set_cons_zero, List.set_cons_succ])
      clear HW6
      refine wpAnyH_ready (rs := [10]) (by kernel_rfl) (by simp) ?_
      refine AllReadyH.cons rfl (fun K hK => ?_) AllReadyH.nil
      refine wp_apRow (.tmp 106) (.tmp 111) 48 rfl 0 3 Tryd.underlying48 int_infos rfl (by decide) (.slice ofa fn ofc) fn (ints r.of_) rfl T6.out GC (.slice (some ⟨GC, 0, none⟩) 1 1) 1 [.int .i64 (p : Int)] (by first | rfl | (rw [HGC.out]; rfl)) N6.out (by simp [Value.oneCell']) (by unfold maxLen; have := FB.out; omega) (by have := FB.out; omega) (Nat.zero_le _) ?_
      intro v' w' o3 g3 n3
      obtain ⟨na, nc, rfl⟩ := own_sl o3
      obtain ⟨b7, L7⟩ := FIN2.out _ w' o3 g3 n3
      have f11 := fz_row b7 11
      have c11 : w'.cell? ⟨Y, 11, none⟩ = some (.slice ofa fn ofc) := by rw [← HOF.out]; exact (rx_cells b7).2.2.2.2.2.2.2.2.2.2.2.1
      have D7 : Hid (w'.cell? ⟨Y, 7, none⟩ = some (.int .i64 (p : Int))) := by rw [HPP.out]; exact (rx_cells b7).2.2.2.2.2.2.2.1
      have L7 := hide L7
      obtain ⟨W8, hW8⟩ : ∃ W8, W8 = w'.setCell ⟨Y, 11, none⟩ (.slice na (fn + 1) nc) := ⟨_, rfl⟩
      rw [← hW8] at L7
      have D8 : Hid (W8.cell? ⟨Y, 7, none⟩ = some (.int .i64 (p : Int))) := by rw [HPP.out]; exact (rx_cells L7.out.at_.blk).2.2.2.2.2.2.2.1
      clear o3 g3 n3 b7 T6 N6 FIN2 CO C76
      refine hK.out _ _ (D7.out) (fun hHeld => ?_)
      clear hK
      (try simp only [Act.put, List.setIfInBounds_toArray, List.set_cons_zero, List.set_cons_succ])
      refine wTk (i := 11) (v := (.pointer (some ⟨Y, 0, none⟩))) rfl ?_ ?_
      · intro w' hSw
        (try dsimp only at hSw)
        go_simp
      (try simp only [Act.put, List.getElem_toArray, List.getElem_cons_zero, List.getElem_cons_succ, List.setIfInBounds_toArray, List.set_cons_zero, List.set_cons_succ])
      refine wTk (i := 12) (v := (.pointer (some ⟨Y, 11, none⟩))) rfl ?_ ?_
      · intro w' hSw
        (try dsimp only at hSw)
        go_simp
      (try simp only [Act.put, List.getElem_toArray, List.getElem_cons_zero, List.getElem_cons_succ, List.setIfInBounds_toArray, List.set_cons_zero, List.set_cons_succ])
      refine wpAnyH_ready (rs := [13]) (by kernel_rfl) (by simp) ?_
      refine AllReadyH.cons rfl (fun K hK => ?_) AllReadyH.nil
      go_simp
      rw [← hW8]
      clear hW8 c11 f11 D7
      refine hK.out _ _ (D8.out) (fun hHeld => ?_)
      clear hK
      (try simp only [Act.put, List.setIfInBounds_toArray, List.set_cons_zero, List.set_cons_succ])
      refine wpAnyH_done (by kernel_rfl) ?_ _
      clear hHeld D8
      have okn : Rok (readR r m) := ⟨OK.out.rl, OK.out.rw_, OB9.out⟩
      have CALL := hide (question_r L7.out.at_ JB.out.pt JB.out.lf (by have := OB9.out; show (r.of_ ++ [(r.part : Int)]).length ≤ _; omega) OK.out.rl.2 (okn.row JB.out.pt).2)
      clear okn
      go_wp2_with fail
      refine Calls.mono CALL.out ?_
      rintro e W9 ⟨u, rfl, o9, l9⟩
      have O9 := hide o9
      have L9 := hide (L7.out.trans l9)
      clear o9 l9 CALL
      go_wp2_with fail
      go_ret2
      first | refine ⟨_, _, rfl, ?_, L10.out⟩ | (refine ⟨_, rfl, ?_, _, (by rw [TK.out.1, HR.out.1]; exact L9.out)⟩; rw [TK.out.2, HR.out.2]; exact own_base O9.out L7.out.kp.size) | (refine ⟨_, _, rfl, ?_, (by rw [TK.out.1, HR.out.1]; exact L9.out)⟩; rw [TK.out.2, HR.out.2]; exact own_base O9.out L7.out.kp.size)
  · skip
    refine wp_bsP (.tmp 97) rfl ⟨m.key, m.val⟩ rfl ?_
    rw [← HW4.out, ← HGB.out]
    refine hK.out _ _ (M4.out) (fun hHeld => ?_)
    clear hK
    (try simp only [Act.put, List.setIfInBounds_toArray, List.set_cons_zero, List.set_cons_succ])
    have cA : W4.cell? ⟨Y, 10, none⟩ = some (.slice rda n rdc) := CR.out.2
    refine wpAnyH_ready (rs := [4]) (by kernel_rfl) (by simp) ?_
    refine AllReadyH.cons rfl (fun K hK => ?_) AllReadyH.nil
    go_simp
    clear cA
    refine hK.out _ _ (M4.out) (fun hHeld => ?_)
    clear hK
    (try simp only [Act.put, List.setIfInBounds_toArray, List.set_cons_zero, List.set_cons_succ])
    clear HW4
    refine wpAnyH_ready (rs := [11]) (by kernel_rfl) (by simp) ?_
    refine AllReadyH.cons rfl (fun K hK => ?_) AllReadyH.nil
    refine wp_apRow (.tmp 92) (.tmp 98) 55 rfl 0 89 Tryd.underlying55 pr_infos rfl (by decide) (.slice rda n rdc) n (prs r.rd) rfl T4.out GB (.slice (some ⟨GB, 0, none⟩) 1 1) 1 (prV ⟨m.key, m.val⟩).toList (by first | rfl | (rw [HGB.out]; rfl)) N4.out (by simp [prV, Value.oneCell']) (by unfold maxLen; have := NB.out; omega) (by have := NB.out; omega) (Nat.zero_le _) ?_
    intro v' w5 o3 g3 n3
    obtain ⟨na, nc, rfl⟩ := own_sl o3
    obtain ⟨b5, L5⟩ := FIN.out _ w5 o3 g3 n3
    have f10 := fz_row b5 10
    have c10 : w5.cell? ⟨Y, 10, none⟩ = some (.slice rda n rdc) := by rw [← HRD.out]; exact (rx_cells b5).2.2.2.2.2.2.2.2.2.2.1
    have M5 : Hid (MgAt w5 B m) := M4.out.keep (Kp.of_grown g3) (fun e => by
      obtain ⟨q1, h1⟩ := own_typ T4.out (by rw [← e])
      have h2 := M4.out
      unfold MgAt at h2
      rw [h1] at h2
      simp at h2)
    have L5 := hide L5
    obtain ⟨W5, hW5⟩ : ∃ W5, W5 = w5.setCell ⟨Y, 10, none⟩ (.slice na (n + 1) nc) := ⟨_, rfl⟩
    rw [← hW5] at L5
    have M6 : Hid (MgAt W5 B m) := by
      rw [hW5]
      exact M5.out.keep ((Kp.refl w5 (fun k => k = Y)).set (Or.inl rfl) _ _) (fun e => by
        have h2 := M5.out
        unfold MgAt at h2
        rw [e, b5] at h2
        simp at h2)
    clear o3 g3 n3 b5 T4 N4 FIN CR M4
    refine hK.out _ _ (M5.out) (fun hHeld => ?_)
    clear hK
    (try simp only [Act.put, List.setIfInBounds_toArray, List.set_cons_zero, List.set_cons_succ])
    refine wTk (i := 12) (v := (.pointer (some ⟨Y, 0, none⟩))) rfl ?_ ?_
    · intro w' hSw
      (try dsimp only at hSw)
      go_simp
    (try simp only [Act.put, List.getElem_toArray, List.getElem_cons_zero, List.getElem_cons_succ, List.setIfInBounds_toArray, List.set_cons_zero, List.set_cons_succ])
    refine wTk (i := 13) (v := (.pointer (some ⟨Y, 10, none⟩))) rfl ?_ ?_
    · intro w' hSw
      (try dsimp only at hSw)
      go_simp
    (try simp only [Act.put, List.getElem_toArray, List.getElem_cons_zero, List.getElem_cons_succ, List.setIfInBounds_toArray, List.set_cons_zero, List.set_cons_succ])
    refine wpAnyH_ready (rs := [14]) (by kernel_rfl) (by simp) ?_
    refine AllReadyH.cons rfl (fun K hK => ?_) AllReadyH.nil
    go_simp
    rw [← hW5]
    clear hW5 c10 f10 M5
    refine hK.out _ _ (M6.out) (fun hHeld => ?_)
    clear hK
    (try simp only [Act.put, List.setIfInBounds_toArray, List.set_cons_zero, List.set_cons_succ])
    refine wpAnyH_done (by kernel_rfl) ?_ _
    clear hHeld
    go_upto_region 9 with fail
    obtain ⟨ofa, ofc, hof0⟩ := own_sl h0.out.ow.ofv
    obtain ⟨fn, hfn⟩ : ∃ fn, fn = r.of_.length := ⟨_, rfl⟩
    have hof : Z.ofv = .slice ofa fn ofc := by rw [hfn]; exact hof0
    clear hof0
    have HOF := hide hof
    have FB : Hid (fn ≤ 100000) := by rw [hfn]; exact OK.out.ob
    obtain ⟨GC, hGC⟩ : ∃ GC, GC = W5.heap.size := ⟨_, rfl⟩
    obtain ⟨W6, hW6⟩ : ∃ W6, W6 = (W5.alloc (.cells #[.int .i64 (p : Int)] 3)).drew := ⟨_, rfl⟩
    have k6 : Kp W5 W6 non := by rw [hW6]; exact ((Kp.refl W5 non).alloc _).drew
    have N6 : Hid (W6.ownsRow GC 3 1 (.slice (some ⟨GC, 0, none⟩) 1 1) 1 [.int .i64 (p : Int)]) := by rw [hW6, hGC]; exact own_one W5 3 1 #[.int .i64 (p : Int)] rfl
    have L6 := hide (L5.out.trans (Lr.same L5.out.at_ k6))
    have T6 : Hid (W6.ownsRow 0 3 1 (.slice ofa fn ofc) fn (ints r.of_)) := by
      have z := L6.out.at_.ow.ofv
      rw [show ({ Z with rd := Value.slice na (n + 1) nc } : Zr).ofv = Z.ofv from rfl, hof] at z
      rw [hfn]
      exact hfn ▸ z
    have CO : Hid (W5.cell? ⟨Y, 11, none⟩ = some (.slice ofa fn ofc) ∧ W6.cell? ⟨Y, 11, none⟩ = some (.slice ofa fn ofc)) := by
      rw [← hof]
      exact ⟨(rx_cells L5.out.at_.blk).2.2.2.2.2.2.2.2.2.2.2.1, (rx_cells L6.out.at_.blk).2.2.2.2.2.2.2.2.2.2.2.1⟩
    have C7 : Hid (W5.cell? ⟨Y, 7, none⟩ = some (.int .i64 (p : Int))) := by rw [HPP.out]; exact (rx_cells L5.out.at_.blk).2.2.2.2.2.2.2.1
    have C76 : Hid (W6.cell? ⟨Y, 7, none⟩ = some (.int .i64 (p : Int))) := k6.cell0 C7.out
    have FIN2 : Hid (∀ (v' : Value) (w' : World), w'.ownsRow 0 3 1 v' (fn + 1) (ints r.of_ ++ [.int .i64 (p : Int)]) → W6.grownBy w' (Value.slice ofa fn ofc).ownBlock → (v'.ownBlock = (Value.slice ofa fn ofc).ownBlock ∨ v'.ownBlock = some W6.heap.size) → w'.heap[Y]? = some (.cells (rxA (rdgR r ⟨m.key, m.val⟩) { Z with rd := .slice na (n + 1) nc }) 76) ∧ Lr w (w'.setCell ⟨Y, 11, none⟩ v') Y Z (readR r m) { Z with rd := .slice na (n + 1) nc, ofv := v' }) := fun v' w' o3 g3 n3 => by
      rw [← hof] at g3 n3
      have e : ints r.of_ ++ [.int .i64 (p : Int)] = ints (r.of_ ++ [(r.part : Int)]) := by rw [ints_append, HPP.out]; rfl
      rw [e, hfn] at o3
      obtain ⟨b, l⟩ := ofg_lr L6.out.at_ HON.out (r.part : Int) v' o3 g3 n3
      exact ⟨b, L6.out.trans l⟩
    have OB9 : Hid ((r.of_ ++ [(r.part : Int)]).length ≤ 100000) := by rw [List.length_append]; show r.of_.length + 1 ≤ _; have := hob; omega
    have HW6 := hide hW6
    have HGC := hide hGC
    clear hof hfn hGC hW6 k6 L6 L5 M6
    refine wp_region_held_drew (S := fun X : World => X.cell? ⟨Y, 7, none⟩ = some (.int .i64 (p : Int))) (by kernel_rfl) C7.out (fun hHeld => ?_)
    refine wTk (i := 0) (v := (.pointer (some ⟨Y, 0, none⟩))) rfl ?_ ?_
    · intro w' hSw
      (try dsimp only at hSw)
      go_simp
    (try simp only [Act.put, List.getElem_toArray, List.getElem_cons_zero, List.getElem_cons_succ, List.setIfInBounds_toArray, List.set_cons_zero, List.set_cons_succ])
    refine wTk (i := 1) (v := (.pointer (some ⟨Y, 0, none⟩))) rfl ?_ ?_
    · intro w' hSw
      (try dsimp only at hSw)
      go_simp
    (try simp only [Act.put, List.getElem_toArray, List.getElem_cons_zero, List.getElem_cons_succ, List.setIfInBounds_toArray, List.set_cons_zero, List.set_cons_succ])
    refine wTk (i := 2) (v := (.pointer (some ⟨Y, 0, none⟩))) rfl ?_ ?_
    · intro w' hSw
      (try dsimp only at hSw)
      go_simp
    (try simp only [Act.put, List.getElem_toArray, List.getElem_cons_zero, List.getElem_cons_succ, List.setIfInBounds_toArray, List.set_cons_zero, List.set_cons_succ])
    refine wTk (i := 3) (v := (.pointer (some ⟨Y, 11, none⟩))) rfl ?_ ?_
    · intro w' hSw
      (try dsimp only at hSw)
      go_simp
    (try simp only [Act.put, List.getElem_toArray, List.getElem_cons_zero, List.getElem_cons_succ, List.setIfInBounds_toArray, List.set_cons_zero, List.set_cons_succ])
    refine wTk (i := 5) (v := (.pointer (some ⟨Y, 0, none⟩))) rfl ?_ ?_
    · intro w' hSw
      (try dsimp only at hSw)
      go_simp
    (try simp only [Act.put, List.getElem_toArray, List.getElem_cons_zero, List.getElem_cons_succ, List.setIfInBounds_toArray, List.set_cons_zero, List.set_cons_succ])
    refine wTk (i := 6) (v := (.pointer (some ⟨Y, 0, none⟩))) rfl ?_ ?_
    · intro w' hSw
      (try dsimp only at hSw)
      go_simp
    (try simp only [Act.put, List.getElem_toArray, List.getElem_cons_zero, List.getElem_cons_succ, List.setIfInBounds_toArray, List.set_cons_zero, List.set_cons_succ])
    refine wTk (i := 7) (v := (.pointer (some ⟨Y, 7, none⟩))) rfl ?_ ?_
    · intro w' hSw
      (try dsimp only at hSw)
      go_simp
    (try simp only [Act.put, List.getElem_toArray, List.getElem_cons_zero, List.getElem_cons_succ, List.setIfInBounds_toArray, List.set_cons_zero, List.set_cons_succ])
    refine wTk (i := 8) (v := (.int .i64 (p : Int))) rfl ?_ ?_
    · intro w' hSw
      (try dsimp only at hSw)
      (have z := hSw; go_simp)
    (try simp only [Act.put, List.getElem_toArray, List.getElem_cons_zero, List.getElem_cons_succ, List.setIfInBounds_toArray, List.set_cons_zero, List.set_cons_succ])
    refine wpAnyH_ready (rs := [4, 9]) (by kernel_rfl) (by simp) ?_
    refine AllReadyH.cons rfl (fun K hK => ?_) (AllReadyH.cons rfl (fun K hK => ?_) AllReadyH.nil)
    · skip
      have cA : W5.drew.cell? ⟨Y, 11, none⟩ = some (.slice ofa fn ofc) := CO.out.1
      have cA2 : W5.cell? ⟨Y, 11, none⟩ = some (.slice ofa fn ofc) := CO.out.1
      go_simp
      clear cA cA2
      refine hK.out _ _ (C7.out) (fun hHeld => ?_)
      clear hK
      (try simp only [Act.put, List.setIfInBounds_toArray, List.set_cons_zero, List.set_cons_succ])
      refine wpAnyH_ready (rs := [9]) (by kernel_rfl) (by simp) ?_
      refine AllReadyH.cons rfl (fun K hK => ?_) AllReadyH.nil
      go_simp
      rw [← HW6.out, ← HGC.out]
      refine hK.out _ _ (C76.out) (fun hHeld => ?_)
      clear hK
      (try simp only [Act.put, List.setIfInBounds_toArray, List.set_cons_zero, List.set_cons_succ])
      clear HW6
      refine wpAnyH_ready (rs := [10]) (by kernel_rfl) (by simp) ?_
      refine AllReadyH.cons rfl (fun K hK => ?_) AllReadyH.nil
      refine wp_apRow (.tmp 106) (.tmp 111) 48 rfl 0 3 Tryd.underlying48 int_infos rfl (by decide) (.slice ofa fn ofc) fn (ints r.of_) rfl T6.out GC (.slice (some ⟨GC, 0, none⟩) 1 1) 1 [.int .i64 (p : Int)] (by first | rfl | (rw [HGC.out]; rfl)) N6.out (by simp [Value.oneCell']) (by unfold maxLen; have := FB.out; omega) (by have := FB.out; omega) (Nat.zero_le _) ?_
      intro v' w' o3 g3 n3
      obtain ⟨na, nc, rfl⟩ := own_sl o3
      obtain ⟨b7, L7⟩ := FIN2.out _ w' o3 g3 n3
      have f11 := fz_row b7 11
      have c11 : w'.cell? ⟨Y, 11, none⟩ = some (.slice ofa fn ofc) := by rw [← HOF.out]; exact (rx_cells b7).2.2.2.2.2.2.2.2.2.2.2.1
      have D7 : Hid (w'.cell? ⟨Y, 7, none⟩ = some (.int .i64 (p : Int))) := by rw [HPP.out]; exact (rx_cells b7).2.2.2.2.2.2.2.1
      have L7 := hide L7
      obtain ⟨W8, hW8⟩ : ∃ W8, W8 = w'.setCell ⟨Y, 11, none⟩ (.slice na (fn + 1) nc) := ⟨_, rfl⟩
      rw [← hW8] at L7
      have D8 : Hid (W8.cell? ⟨Y, 7, none⟩ = some (.int .i64 (p : Int))) := by rw [HPP.out]; exact (rx_cells L7.out.at_.blk).2.2.2.2.2.2.2.1
      clear o3 g3 n3 b7 T6 N6 FIN2 CO C76
      refine hK.out _ _ (D7.out) (fun hHeld => ?_)
      clear hK
      (try simp only [Act.put, List.setIfInBounds_toArray, List.set_cons_zero, List.set_cons_succ])
      refine wTk (i := 11) (v := (.pointer (some ⟨Y, 0, none⟩))) rfl ?_ ?_
      · intro w' hSw
        (try dsimp only at hSw)
        go_simp
      (try simp only [Act.put, List.getElem_toArray, List.getElem_cons_zero, List.getElem_cons_succ, List.setIfInBounds_toArray, List.set_cons_zero, List.set_cons_succ])
      refine wTk (i := 12) (v := (.pointer (some ⟨Y, 11, none⟩))) rfl ?_ ?_
      · intro w' hSw
        (try dsimp only at hSw)
        go_simp
      (try simp only [Act.put, List.getElem_toArray, List.getElem_cons_zero, List.getElem_cons_succ, List.setIfInBounds_toArray, List.set_cons_zero, List.set_cons_succ])
      refine wpAnyH_ready (rs := [13]) (by kernel_rfl) (by simp) ?_
      refine AllReadyH.cons rfl (fun K hK => ?_) AllReadyH.nil
      go_simp
      rw [← hW8]
      clear hW8 c11 f11 D7
      refine hK.out _ _ (D8.out) (fun hHeld => ?_)
      clear hK
      (try simp only [Act.put, List.setIfInBounds_toArray, List.set_cons_zero, List.set_cons_succ])
      refine wpAnyH_done (by kernel_rfl) ?_ _
      clear hHeld D8
      have okn : Rok (readR r m) := ⟨OK.out.rl, OK.out.rw_, OB9.out⟩
      have CALL := hide (question_r L7.out.at_ JB.out.pt JB.out.lf (by have := OB9.out; show (r.of_ ++ [(r.part : Int)]).length ≤ _; omega) OK.out.rl.2 (okn.row JB.out.pt).2)
      clear okn
      go_wp2_with fail
      refine Calls.mono CALL.out ?_
      rintro e W9 ⟨u, rfl, o9, l9⟩
      have O9 := hide o9
      have L9 := hide (L7.out.trans l9)
      clear o9 l9 CALL
      go_wp2_with fail
      go_ret2
      first | refine ⟨_, _, rfl, ?_, L10.out⟩ | (refine ⟨_, rfl, ?_, _, (by rw [TK.out.1, HR.out.1]; exact L9.out)⟩; rw [TK.out.2, HR.out.2]; exact own_base O9.out L7.out.kp.size) | (refine ⟨_, _, rfl, ?_, (by rw [TK.out.1, HR.out.1]; exact L9.out)⟩; rw [TK.out.2, HR.out.2]; exact own_base O9.out L7.out.kp.size)
    · skip
      go_simp
      rw [← HW6.out, ← HGC.out]
      refine hK.out _ _ (C76.out) (fun hHeld => ?_)
      clear hK
      (try simp only [Act.put, List.setIfInBounds_toArray, List.set_cons_zero, List.set_cons_succ])
      have cA : W6.cell? ⟨Y, 11, none⟩ = some (.slice ofa fn ofc) := CO.out.2
      refine wpAnyH_ready (rs := [4]) (by kernel_rfl) (by simp) ?_
      refine AllReadyH.cons rfl (fun K hK => ?_) AllReadyH.nil
      go_simp
      clear cA
      refine hK.out _ _ (C76.out) (fun hHeld => ?_)
      clear hK
      (try simp only [Act.put, List.setIfInBounds_toArray, List.set_cons_zero, List.set_cons_succ])
      clear HW6
      refine wpAnyH_ready (rs := [10]) (by kernel_rfl) (by simp) ?_
      refine AllReadyH.cons rfl (fun K hK => ?_) AllReadyH.nil
      refine wp_apRow (.tmp 106) (.tmp 111) 48 rfl 0 3 Tryd.underlying48 int_infos rfl (by decide) (.slice ofa fn ofc) fn (ints r.of_) rfl T6.out GC (.slice (some ⟨GC, 0, none⟩) 1 1) 1 [.int .i64 (p : Int)] (by first | rfl | (rw [HGC.out]; rfl)) N6.out (by simp [Value.oneCell']) (by unfold maxLen; have := FB.out; omega) (by have := FB.out; omega) (Nat.zero_le _) ?_
      intro v' w' o3 g3 n3
      obtain ⟨na, nc, rfl⟩ := own_sl o3
      obtain ⟨b7, L7⟩ := FIN2.out _ w' o3 g3 n3
      have f11 := fz_row b7 11
      have c11 : w'.cell? ⟨Y, 11, none⟩ = some (.slice ofa fn ofc) := by rw [← HOF.out]; exact (rx_cells b7).2.2.2.2.2.2.2.2.2.2.2.1
      have D7 : Hid (w'.cell? ⟨Y, 7, none⟩ = some (.int .i64 (p : Int))) := by rw [HPP.out]; exact (rx_cells b7).2.2.2.2.2.2.2.1
      have L7 := hide L7
      obtain ⟨W8, hW8⟩ : ∃ W8, W8 = w'.setCell ⟨Y, 11, none⟩ (.slice na (fn + 1) nc) := ⟨_, rfl⟩
      rw [← hW8] at L7
      have D8 : Hid (W8.cell? ⟨Y, 7, none⟩ = some (.int .i64 (p : Int))) := by rw [HPP.out]; exact (rx_cells L7.out.at_.blk).2.2.2.2.2.2.2.1
      clear o3 g3 n3 b7 T6 N6 FIN2 CO C76
      refine hK.out _ _ (D7.out) (fun hHeld => ?_)
      clear hK
      (try simp only [Act.put, List.setIfInBounds_toArray, List.set_cons_zero, List.set_cons_succ])
      refine wTk (i := 11) (v := (.pointer (some ⟨Y, 0, none⟩))) rfl ?_ ?_
      · intro w' hSw
        (try dsimp only at hSw)
        go_simp
      (try simp only [Act.put, List.getElem_toArray, List.getElem_cons_zero, List.getElem_cons_succ, List.setIfInBounds_toArray, List.set_cons_zero, List.set_cons_succ])
      refine wTk (i := 12) (v := (.pointer (some ⟨Y, 11, none⟩))) rfl ?_ ?_
      · intro w' hSw
        (try dsimp only at hSw)
        go_simp
      (try simp only [Act.put, List.getElem_toArray, List.getElem_cons_zero, List.getElem_cons_succ, List.setIfInBounds_toArray, List.set_cons_zero, List.set_cons_succ])
      refine wpAnyH_ready (rs := [13]) (by kernel_rfl) (by simp) ?_
      refine AllReadyH.cons rfl (fun K hK => ?_) AllReadyH.nil
      go_simp
      rw [← hW8]
      clear hW8 c11 f11 D7
      refine hK.out _ _ (D8.out) (fun hHeld => ?_)
      clear hK
      (try simp only [Act.put, List.setIfInBounds_toArray, List.set_cons_zero, List.set_cons_succ])
      refine wpAnyH_done (by kernel_rfl) ?_ _
      clear hHeld D8
      have okn : Rok (readR r m) := ⟨OK.out.rl, OK.out.rw_, OB9.out⟩
      have CALL := hide (question_r L7.out.at_ JB.out.pt JB.out.lf (by have := OB9.out; show (r.of_ ++ [(r.part : Int)]).length ≤ _; omega) OK.out.rl.2 (okn.row JB.out.pt).2)
      clear okn
      go_wp2_with fail
      refine Calls.mono CALL.out ?_
      rintro e W9 ⟨u, rfl, o9, l9⟩
      have O9 := hide o9
      have L9 := hide (L7.out.trans l9)
      clear o9 l9 CALL
      go_wp2_with fail
      go_ret2
      first | refine ⟨_, _, rfl, ?_, L10.out⟩ | (refine ⟨_, rfl, ?_, _, (by rw [TK.out.1, HR.out.1]; exact L9.out)⟩; rw [TK.out.2, HR.out.2]; exact own_base O9.out L7.out.kp.size) | (refine ⟨_, _, rfl, ?_, (by rw [TK.out.1, HR.out.1]; exact L9.out)⟩; rw [TK.out.2, HR.out.2]; exact own_base O9.out L7.out.kp.size)
end Go.Proofs.YtpoegknmkbnjlaaDoor.Cn
