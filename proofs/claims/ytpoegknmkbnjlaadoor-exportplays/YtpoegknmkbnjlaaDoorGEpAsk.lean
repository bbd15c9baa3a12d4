import Derived.Test.YtpoegknmkbnjlaaDoorGEpBusy
namespace Go.Proofs.YtpoegknmkbnjlaaDoor.Cn
open Go.RowKit
theorem Kp.cell0 {w w' : World} (hk : Kp w w' non) {b o : Nat} {u : Value} (h : w.cell? ⟨b, o, none⟩ = some u) : w'.cell? ⟨b, o, none⟩ = some u := (hk.cell (World.block_lt_of_cell? w _ h) (fun f => f)).trans h
theorem Kp.blk0 {w w' : World} (hk : Kp w w' non) {b : Nat} {o : Obj} (h : w.heap[b]? = some o) : w'.heap[b]? = some o := (hk.block _ (blk_lt h) (fun f => f)).trans h
theorem there_x {w : World} {X : Nat} {v : Ex} {Z : Zz} (h : w.heap[X]? = some (.cells (exA v Z) 70)) (o n : Nat) (hn : o + n ≤ 20) : w.there X o n := fun j hj => ⟨by
  rw [cell_row h]
  have hs : (exA v Z).size = 20 := rfl
  rw [Array.getElem?_eq_getElem (by omega)]
  rfl, fz_row h _⟩
theorem kp_setCells (b : Nat) : ∀ (vs : List Value) (o : Nat) (w : World), Kp w (w.setCells b o vs) (fun k => k = b)
  | [], _, w => Kp.refl w _
  | v :: r, o, w => ((Kp.refl w (fun k => k = b)).set (Or.inl rfl) o v).trans (kp_setCells b r (o + 1) _) (fun _ e => Or.inl e)
theorem Ow.ask {w : World} {v : Ex} {Z : Zz} (h : Ow w v Z) : Ow w (askX v) Z := ⟨h.rows, h.row, h.tp, h.tm, h.rd, h.lp, h.lm, h.d1, h.d2, h.d3⟩
set_option maxHeartbeats 16000000 in
set_option maxRecDepth 100000 in
set_option linter.unusedSimpArgs false in
set_option linter.unusedVariables false in
theorem ask_x {w : World} {X : Nat} {v : Ex} {Z : Zz} (h : ExAt w X v Z) {R : Nat} (hrw : ∀ r ∈ v.rows, r.length = R) (hp : v.part < v.rows.length) (hl : v.left < R) (hrd : v.rd.length ≤ 512) :
    Calls Tryd.prog 66 #[.pointer (some ⟨X, 0, none⟩)] w fun e w' => ∃ u, e = .returned u ∧ Out w w' u [askM v] ∧ Lv w w' X Z (askX v) Z := by
  obtain ⟨rb, rc, hrv⟩ := own_g h.ow.rows (by omega)
  obtain ⟨u0, hu0, hro⟩ := h.ow.row v.part hp
  have hrl : v.rows[v.part].length = R := hrw _ (List.getElem_mem hp)
  rw [hrl] at hro
  obtain ⟨g, gc, hg⟩ := own_g hro (by omega)
  subst hg
  obtain ⟨da, dc, hda⟩ := own_sl h.ow.rd
  obtain ⟨ow, how⟩ : ∃ ow, ow = ownr v := ⟨_, rfl⟩
  have hat : (ints v.rows[v.part])[v.left]? = some (.int .i64 ow) := by
    rw [ints_at, how]
    unfold ownr rowAt
    rw [List.getElem?_eq_getElem hp]
    have hl' : v.left < v.rows[v.part].length := by omega
    simp [hl']
  have cu : w.cell? ⟨rb, v.part, none⟩ = some (.slice (some ⟨g, 0, none⟩) R gc) := by
    obtain ⟨g', c', e, hc, _⟩ := own_at h.ow.rows hu0
    rw [hrv] at e
    injection e with e
    injection e with e
    injection e with e
    subst e
    exact hc
  have co : w.cell? ⟨g, v.left, none⟩ = some (.int .i64 ow) := by
    obtain ⟨g', c', e, hc, _⟩ := own_at hro hat
    injection e with e
    injection e with e
    injection e with e
    subst e
    exact hc
  have RV : Hid (∀ Y : World, Y.heap[X]? = some (.cells (exA v Z) 70) → Y.cell? ⟨X, 1, none⟩ = some (.slice (some ⟨rb, 0, none⟩) v.rows.length rc)) := fun Y hY => by rw [← hrv]; exact (ex_cells hY).2.1
  have RD : Hid (∀ Y : World, Y.heap[X]? = some (.cells (exA v Z) 70) → Y.cell? ⟨X, 9, none⟩ = some (.slice da v.rd.length dc)) := fun Y hY => by rw [← hda]; exact (ex_cells hY).2.2.2.2.2.2.2.2.2.1
  have PT : Hid (∀ Y : World, Y.heap[X]? = some (.cells (exA v Z) 70) → Y.cell? ⟨X, 7, none⟩ = some (.int .i64 (v.part : Int))) := fun Y hY => (ex_cells hY).2.2.2.2.2.2.2.1
  have LF : Hid (∀ Y : World, Y.heap[X]? = some (.cells (exA v Z) 70) → Y.cell? ⟨X, 8, none⟩ = some (.int .i64 (v.left : Int))) := fun Y hY => (ex_cells hY).2.2.2.2.2.2.2.2.1
  have JB : Hid (∀ Y : World, Y.heap[X]? = some (.cells (exA v Z) 70) → Y.cell? ⟨X, 3, none⟩ = some (.int .i64 v.told.jb)) := fun Y hY => (ex_cells hY).2.2.2.1
  have VR : Hid (∀ Y : World, Y.heap[X]? = some (.cells (exA v Z) 70) → Y.cell? ⟨X, 4, none⟩ = some (.int .i64 v.told.vr)) := fun Y hY => (ex_cells hY).2.2.2.2.1
  have NW : Hid (∀ Y : World, Y.heap[X]? = some (.cells (exA v Z) 70) → Y.cell? ⟨X, 2, none⟩ = some (.int .i64 v.now)) := fun Y hY => (ex_cells hY).2.2.1
  have AT : Hid (∀ Y : World, Y.heap[X]? = some (.cells (exA v Z) 70) → Y.cell? ⟨X, 15, none⟩ = some (.int .i64 v.at_)) := fun Y hY => (ex_cells hY).2.2.2.2.2.2.2.2.2.2.1
  have C0 : Hid ((fun Y => Y.heap[X]? = some (.cells (exA v Z) 70) ∧ Y.cell? ⟨rb, v.part, none⟩ = some (.slice (some ⟨g, 0, none⟩) R gc) ∧ Y.cell? ⟨g, v.left, none⟩ = some (.int .i64 ow)) w) := ⟨h.blk, cu, co⟩
  have HA := hide h
  have AX : Hid (askX v = { v with wf := ow, wj := v.told.jb, wp := (v.part : Int), wv := v.told.vr, wl := (v.rd.length : Int), at_ := v.now }) := by unfold Hid askX; rw [how]
  have AM : Hid (askM v = ⟨15, 67, ow, v.told.jb, 0, (v.part : Int), v.told.vr, (v.rd.length : Int), 0, ⟨#[]⟩, ⟨#[]⟩⟩) := by unfold Hid askM; rw [how]
  obtain ⟨P, hP⟩ : ∃ P, P = v.rows.length := ⟨_, rfl⟩
  obtain ⟨p, hpp⟩ : ∃ p, p = v.part := ⟨_, rfl⟩
  obtain ⟨l, hll⟩ : ∃ l, l = v.left := ⟨_, rfl⟩
  obtain ⟨dn, hdn⟩ : ∃ dn, dn = v.rd.length := ⟨_, rfl⟩
  obtain ⟨jb, hjb⟩ : ∃ jb, jb = v.told.jb := ⟨_, rfl⟩
  obtain ⟨vr, hvr⟩ : ∃ vr, vr = v.told.vr := ⟨_, rfl⟩
  obtain ⟨nw, hnw⟩ : ∃ nw, nw = v.now := ⟨_, rfl⟩
  rw [← hP] at RV hp
  rw [← hpp] at PT C0 AM hp
  rw [← hll] at LF C0 hl
  rw [← hdn] at RD AM hrd
  rw [← hjb] at JB AM
  rw [← hvr] at VR AM
  rw [← hnw] at NW
  have HPP := hide hpp
  have HDN := hide hdn
  have HJB := hide hjb
  have HVR := hide hvr
  have HNW := hide hnw
  have hpi : (p : Int) < (P : Int) := by omega
  have hli : (l : Int) < (R : Int) := by omega
  clear h hrw hrv hu0 hro hrl hda how hat cu co hP hpp hll hdn hjb hvr hnw
  go_enter Tryd.func66, Tryd.ntmps66
  go_upto_region 2 with fail
  refine wp_region_held_drew (S := fun Y => Y.heap[X]? = some (.cells (exA v Z) 70) ∧ Y.cell? ⟨rb, p, none⟩ = some (.slice (some ⟨g, 0, none⟩) R gc) ∧ Y.cell? ⟨g, l, none⟩ = some (.int .i64 ow)) (by kernel_rfl) C0.out (fun hHeld => ?_)
  refine wTk (i := 0) (v := (.pointer (some ⟨X, 0, none⟩))) rfl ?_ ?_
  · intro w' hSw
    (try dsimp only at hSw)
    go_simp
  (try simp only [Act.put, List.getElem_toArray, List.getElem_cons_zero, List.getElem_cons_succ, List.setIfInBounds_toArray, List.set_cons_zero, List.set_cons_succ])
  refine wTk (i := 1) (v := (.pointer (some ⟨X, 0, none⟩))) rfl ?_ ?_
  · intro w' hSw
    (try dsimp only at hSw)
    go_simp
  (try simp only [Act.put, List.getElem_toArray, List.getElem_cons_zero, List.getElem_cons_succ, List.setIfInBounds_toArray, List.set_cons_zero, List.set_cons_succ])
  refine wTk (i := 2) (v := (.pointer (some ⟨X, 1, none⟩))) rfl ?_ ?_
  · intro w' hSw
    (try dsimp only at hSw)
    go_simp
  (try simp only [Act.put, List.getElem_toArray, List.getElem_cons_zero, List.getElem_cons_succ, List.setIfInBounds_toArray, List.set_cons_zero, List.set_cons_succ])
  refine wTk (i := 3) (v := (.slice (some ⟨rb, 0, none⟩) P rc)) rfl ?_ ?_
  · intro w' hSw
    (try dsimp only at hSw)
    (have z := (RV.out _ hSw.1); go_simp)
  (try simp only [Act.put, List.getElem_toArray, List.getElem_cons_zero, List.getElem_cons_succ, List.setIfInBounds_toArray, List.set_cons_zero, List.set_cons_succ])
  refine wTk (i := 4) (v := (.pointer (some ⟨X, 3, none⟩))) rfl ?_ ?_
  · intro w' hSw
    (try dsimp only at hSw)
    go_simp
  (try simp only [Act.put, List.getElem_toArray, List.getElem_cons_zero, List.getElem_cons_succ, List.setIfInBounds_toArray, List.set_cons_zero, List.set_cons_succ])
  refine wTk (i := 5) (v := (.pointer (some ⟨X, 3, none⟩))) rfl ?_ ?_
  · intro w' hSw
    (try dsimp only at hSw)
    go_simp
  (try simp only [Act.put, List.getElem_toArray, List.getElem_cons_zero, List.getElem_cons_succ, List.setIfInBounds_toArray, List.set_cons_zero, List.set_cons_succ])
  refine wTk (i := 6) (v := (.pointer (some ⟨X, 7, none⟩))) rfl ?_ ?_
  · intro w' hSw
    (try dsimp only at hSw)
    go_simp
  (try simp only [Act.put, List.getElem_toArray, List.getElem_cons_zero, List.getElem_cons_succ, List.setIfInBounds_toArray, List.set_cons_zero, List.set_cons_succ])
  refine wTk (i := 7) (v := (.int .i64 (p : Int))) rfl ?_ ?_
  · intro w' hSw
    (try dsimp only at hSw)
    (have z := (PT.out _ hSw.1); go_simp)
  (try simp only [Act.put, List.getElem_toArray, List.getElem_cons_zero, List.getElem_cons_succ, List.setIfInBounds_toArray, List.set_cons_zero, List.set_cons_succ])
  refine wTk (i := 8) (v := (.pointer (some ⟨rb, p, none⟩))) rfl ?_ ?_
  · intro w' hSw
    (try dsimp only at hSw)
    go_simp
  (try simp only [Act.put, List.getElem_toArray, List.getElem_cons_zero, List.getElem_cons_succ, List.setIfInBounds_toArray, List.set_cons_zero, List.set_cons_succ])
  refine wTk (i := 9) (v := (.slice (some ⟨g, 0, none⟩) R gc)) rfl ?_ ?_
  · intro w' hSw
    (try dsimp only at hSw)
    (have z := hSw.2.1; go_simp)
  (try simp only [Act.put, List.getElem_toArray, List.getElem_cons_zero, List.getElem_cons_succ, List.setIfInBounds_toArray, List.set_cons_zero, List.set_cons_succ])
  refine wTk (i := 10) (v := (.pointer (some ⟨X, 3, none⟩))) rfl ?_ ?_
  · intro w' hSw
    (try dsimp only at hSw)
    go_simp
  (try simp only [Act.put, List.getElem_toArray, List.getElem_cons_zero, List.getElem_cons_succ, List.setIfInBounds_toArray, List.set_cons_zero, List.set_cons_succ])
  refine wTk (i := 11) (v := (.pointer (some ⟨X, 3, none⟩))) rfl ?_ ?_
  · intro w' hSw
    (try dsimp only at hSw)
    go_simp
  (try simp only [Act.put, List.getElem_toArray, List.getElem_cons_zero, List.getElem_cons_succ, List.setIfInBounds_toArray, List.set_cons_zero, List.set_cons_succ])
  refine wTk (i := 12) (v := (.pointer (some ⟨X, 8, none⟩))) rfl ?_ ?_
  · intro w' hSw
    (try dsimp only at hSw)
    go_simp
  (try simp only [Act.put, List.getElem_toArray, List.getElem_cons_zero, List.getElem_cons_succ, List.setIfInBounds_toArray, List.set_cons_zero, List.set_cons_succ])
  refine wTk (i := 13) (v := (.int .i64 (l : Int))) rfl ?_ ?_
  · intro w' hSw
    (try dsimp only at hSw)
    (have z := (LF.out _ hSw.1); go_simp)
  (try simp only [Act.put, List.getElem_toArray, List.getElem_cons_zero, List.getElem_cons_succ, List.setIfInBounds_toArray, List.set_cons_zero, List.set_cons_succ])
  refine wTk (i := 14) (v := (.pointer (some ⟨g, l, none⟩))) rfl ?_ ?_
  · intro w' hSw
    (try dsimp only at hSw)
    go_simp
  (try simp only [Act.put, List.getElem_toArray, List.getElem_cons_zero, List.getElem_cons_succ, List.setIfInBounds_toArray, List.set_cons_zero, List.set_cons_succ])
  refine wTk (i := 15) (v := (.int .i64 ow)) rfl ?_ ?_
  · intro w' hSw
    (try dsimp only at hSw)
    (have z := hSw.2.2; go_simp)
  (try simp only [Act.put, List.getElem_toArray, List.getElem_cons_zero, List.getElem_cons_succ, List.setIfInBounds_toArray, List.set_cons_zero, List.set_cons_succ])
  refine wTk (i := 16) (v := (.pointer (some ⟨X, 3, none⟩))) rfl ?_ ?_
  · intro w' hSw
    (try dsimp only at hSw)
    go_simp
  (try simp only [Act.put, List.getElem_toArray, List.getElem_cons_zero, List.getElem_cons_succ, List.setIfInBounds_toArray, List.set_cons_zero, List.set_cons_succ])
  refine wTk (i := 17) (v := (.pointer (some ⟨X, 3, none⟩))) rfl ?_ ?_
  · intro w' hSw
    (try dsimp only at hSw)
    go_simp
  (try simp only [Act.put, List.getElem_toArray, List.getElem_cons_zero, List.getElem_cons_succ, List.setIfInBounds_toArray, List.set_cons_zero, List.set_cons_succ])
  refine wTk (i := 18) (v := (.pointer (some ⟨X, 3, none⟩))) rfl ?_ ?_
  · intro w' hSw
    (try dsimp only at hSw)
    go_simp
  (try simp only [Act.put, List.getElem_toArray, List.getElem_cons_zero, List.getElem_cons_succ, List.setIfInBounds_toArray, List.set_cons_zero, List.set_cons_succ])
  refine wTk (i := 19) (v := (.pointer (some ⟨X, 3, none⟩))) rfl ?_ ?_
  · intro w' hSw
    (try dsimp only at hSw)
    go_simp
  (try simp only [Act.put, List.getElem_toArray, List.getElem_cons_zero, List.getElem_cons_succ, List.setIfInBounds_toArray, List.set_cons_zero, List.set_cons_succ])
  refine wTk (i := 20) (v := (.int .i64 jb)) rfl ?_ ?_
  · intro w' hSw
    (try dsimp only at hSw)
    (have z := (JB.out _ hSw.1); go_simp)
  (try simp only [Act.put, List.getElem_toArray, List.getElem_cons_zero, List.getElem_cons_succ, List.setIfInBounds_toArray, List.set_cons_zero, List.set_cons_succ])
  refine wTk (i := 21) (v := (.pointer (some ⟨X, 3, none⟩))) rfl ?_ ?_
  · intro w' hSw
    (try dsimp only at hSw)
    go_simp
  (try simp only [Act.put, List.getElem_toArray, List.getElem_cons_zero, List.getElem_cons_succ, List.setIfInBounds_toArray, List.set_cons_zero, List.set_cons_succ])
  refine wTk (i := 22) (v := (.pointer (some ⟨X, 3, none⟩))) rfl ?_ ?_
  · intro w' hSw
    (try dsimp only at hSw)
    go_simp
  (try simp only [Act.put, List.getElem_toArray, List.getElem_cons_zero, List.getElem_cons_succ, List.setIfInBounds_toArray, List.set_cons_zero, List.set_cons_succ])
  refine wTk (i := 23) (v := (.pointer (some ⟨X, 7, none⟩))) rfl ?_ ?_
  · intro w' hSw
    (try dsimp only at hSw)
    go_simp
  (try simp only [Act.put, List.getElem_toArray, List.getElem_cons_zero, List.getElem_cons_succ, List.setIfInBounds_toArray, List.set_cons_zero, List.set_cons_succ])
  refine wTk (i := 24) (v := (.int .i64 (p : Int))) rfl ?_ ?_
  · intro w' hSw
    (try dsimp only at hSw)
    (have z := (PT.out _ hSw.1); go_simp)
  (try simp only [Act.put, List.getElem_toArray, List.getElem_cons_zero, List.getElem_cons_succ, List.setIfInBounds_toArray, List.set_cons_zero, List.set_cons_succ])
  refine wTk (i := 25) (v := (.pointer (some ⟨X, 3, none⟩))) rfl ?_ ?_
  · intro w' hSw
    (try dsimp only at hSw)
    go_simp
  (try simp only [Act.put, List.getElem_toArray, List.getElem_cons_zero, List.getElem_cons_succ, List.setIfInBounds_toArray, List.set_cons_zero, List.set_cons_succ])
  refine wTk (i := 26) (v := (.pointer (some ⟨X, 3, none⟩))) rfl ?_ ?_
  · intro w' hSw
    (try dsimp only at hSw)
    go_simp
  (try simp only [Act.put, List.getElem_toArray, List.getElem_cons_zero, List.getElem_cons_succ, List.setIfInBounds_toArray, List.set_cons_zero, List.set_cons_succ])
  refine wTk (i := 27) (v := (.pointer (some ⟨X, 3, none⟩))) rfl ?_ ?_
  · intro w' hSw
    (try dsimp only at hSw)
    go_simp
  (try simp only [Act.put, List.getElem_toArray, List.getElem_cons_zero, List.getElem_cons_succ, List.setIfInBounds_toArray, List.set_cons_zero, List.set_cons_succ])
  refine wTk (i := 28) (v := (.pointer (some ⟨X, 4, none⟩))) rfl ?_ ?_
  · intro w' hSw
    (try dsimp only at hSw)
    go_simp
  (try simp only [Act.put, List.getElem_toArray, List.getElem_cons_zero, List.getElem_cons_succ, List.setIfInBounds_toArray, List.set_cons_zero, List.set_cons_succ])
  refine wTk (i := 29) (v := (.int .i64 vr)) rfl ?_ ?_
  · intro w' hSw
    (try dsimp only at hSw)
    (have z := (VR.out _ hSw.1); go_simp)
  (try simp only [Act.put, List.getElem_toArray, List.getElem_cons_zero, List.getElem_cons_succ, List.setIfInBounds_toArray, List.set_cons_zero, List.set_cons_succ])
  refine wTk (i := 30) (v := (.pointer (some ⟨X, 3, none⟩))) rfl ?_ ?_
  · intro w' hSw
    (try dsimp only at hSw)
    go_simp
  (try simp only [Act.put, List.getElem_toArray, List.getElem_cons_zero, List.getElem_cons_succ, List.setIfInBounds_toArray, List.set_cons_zero, List.set_cons_succ])
  refine wTk (i := 31) (v := (.pointer (some ⟨X, 3, none⟩))) rfl ?_ ?_
  · intro w' hSw
    (try dsimp only at hSw)
    go_simp
  (try simp only [Act.put, List.getElem_toArray, List.getElem_cons_zero, List.getElem_cons_succ, List.setIfInBounds_toArray, List.set_cons_zero, List.set_cons_succ])
  refine wTk (i := 32) (v := (.pointer (some ⟨X, 9, none⟩))) rfl ?_ ?_
  · intro w' hSw
    (try dsimp only at hSw)
    go_simp
  (try simp only [Act.put, List.getElem_toArray, List.getElem_cons_zero, List.getElem_cons_succ, List.setIfInBounds_toArray, List.set_cons_zero, List.set_cons_succ])
  refine wTk (i := 33) (v := (.slice da dn dc)) rfl ?_ ?_
  · intro w' hSw
    (try dsimp only at hSw)
    (have z := (RD.out _ hSw.1); go_simp)
  (try simp only [Act.put, List.getElem_toArray, List.getElem_cons_zero, List.getElem_cons_succ, List.setIfInBounds_toArray, List.set_cons_zero, List.set_cons_succ])
  refine wTk (i := 34) (v := (.int .i64 (dn : Int))) rfl ?_ ?_
  · intro w' hSw
    (try dsimp only at hSw)
    go_simp
  (try simp only [Act.put, List.getElem_toArray, List.getElem_cons_zero, List.getElem_cons_succ, List.setIfInBounds_toArray, List.set_cons_zero, List.set_cons_succ])
  refine wTk (i := 35) (v := (.agg (syV ow jb (p : Int) vr (dn : Int)))) rfl ?_ ?_
  · intro w' hSw
    (try dsimp only at hSw)
    (unfold syV; go_simp)
  (try simp only [Act.put, List.getElem_toArray, List.getElem_cons_zero, List.getElem_cons_succ, List.setIfInBounds_toArray, List.set_cons_zero, List.set_cons_succ])
  refine wpAnyH_ready (rs := [36]) (by kernel_rfl) (by simp) ?_
  refine AllReadyH.cons rfl (fun K hK => ?_) AllReadyH.nil
  go_simp
  obtain ⟨B, hB⟩ : ∃ B, B = w.heap.size := ⟨_, rfl⟩
  obtain ⟨W1, hW1⟩ : ∃ W1, W1 = w.alloc (.cells (syV 0 0 0 0 0) 66) := ⟨_, rfl⟩
  have e1 : (w.alloc (.cells #[.int .i64 0, .int .i64 0, .int .i64 0, .int .i64 0, .int .i64 0] 66)) = W1 := hW1.symm
  have b1 : W1.heap[B]? = some (.cells (syV 0 0 0 0 0) 66) := by rw [hW1, hB]; exact heap_last _ _
  have k1 : Kp w W1 non := by rw [hW1]; exact (Kp.refl w non).alloc _
  obtain ⟨W2, hW2⟩ : ∃ W2, W2 = W1.drew.setRow B (syV ow jb (p : Int) vr (dn : Int)) := ⟨_, rfl⟩
  have k2 : Kp w W2 non := by rw [hW2]; exact (k1.drew).row (Or.inr (by rw [hB]; exact Nat.le_refl _)) _
  have b2 : W2.heap[B]? = some (.cells (syV ow jb (p : Int) vr (dn : Int)) 66) := by rw [hW2]; exact setRow_heap _ _ _ _ _ _ b1
  have C1 : Hid ((fun Y => Y.heap[X]? = some (.cells (exA v Z) 70) ∧ Y.cell? ⟨rb, p, none⟩ = some (.slice (some ⟨g, 0, none⟩) R gc) ∧ Y.cell? ⟨g, l, none⟩ = some (.int .i64 ow)) W1.drew) := ⟨k1.blk0 C0.out.1, k1.cell0 C0.out.2.1, k1.cell0 C0.out.2.2⟩
  have C2 : Hid ((fun Y => Y.heap[X]? = some (.cells (exA v Z) 70) ∧ Y.cell? ⟨rb, p, none⟩ = some (.slice (some ⟨g, 0, none⟩) R gc) ∧ Y.cell? ⟨g, l, none⟩ = some (.int .i64 ow)) W2) := ⟨k2.blk0 C0.out.1, k2.cell0 C0.out.2.1, k2.cell0 C0.out.2.2⟩
  have A2 := hide (HA.out.kp0 k2)
  have B1 : Hid (W1.drew.heap[B]? = some (.cells (syV 0 0 0 0 0) 66)) := b1
  have B2 := hide b2
  have K2 := hide k2
  rw [e1, ← hB]
  clear hB hW1 e1 b1 k1 b2 k2 C0 HA
  refine hK.out _ _ (C1.out) (fun hHeld => ?_)
  clear hK
  (try simp only [Act.put, List.setIfInBounds_toArray, List.set_cons_zero, List.set_cons_succ])
  refine wpAnyH_ready (rs := [37]) (by kernel_rfl) (by simp) ?_
  refine AllReadyH.cons rfl (fun K hK => ?_) AllReadyH.nil
  refine wp_store_row 66 (.tmp 4) (.tmp 43) rfl B (syV ow jb (p : Int) vr (dn : Int)) rfl rfl 66 (syV 0 0 0 0 0) B1.out sy_info rfl (sy_one _ _ _ _ _) ?_
  rw [← hW2]
  clear hW2 B1 C1
  refine hK.out _ _ (C2.out) (fun hHeld => ?_)
  clear hK
  (try simp only [Act.put, List.setIfInBounds_toArray, List.set_cons_zero, List.set_cons_succ])
  refine wpAnyH_done (by kernel_rfl) ?_ _
  clear hHeld RV RD PT LF JB VR hpi hli
  have X2 := A2.out.blk
  have D3 : Hid ((fun Y : World => Y.heap[B]? = some (.cells (syV ow jb (p : Int) vr (dn : Int)) 66) ∧ Y.cell? ⟨X, 2, none⟩ = some (.int .i64 nw)) W2) := ⟨B2.out, NW.out _ X2⟩
  have hXB : X ≠ B := fun e => by
    have := B2.out
    rw [← e, X2] at this
    simp at this
  obtain ⟨W3, hW3⟩ : ∃ W3, W3 = W2.drew.setCells X 10 (syV ow jb (p : Int) vr (dn : Int)).toList := ⟨_, rfl⟩
  have k3 : Kp W2 W3 (fun k => k = X) := by rw [hW3]; exact ((Kp.refl W2 (fun k => k = X)).drew).trans (kp_setCells _ _ _ _) (fun _ e => Or.inl e)
  have x3 : W3.heap[X]? = some (.cells (exA { v with wf := ow, wj := v.told.jb, wp := (v.part : Int), wv := v.told.vr, wl := (v.rd.length : Int) } Z) 70) := by
    rw [hW3, HPP.out, HDN.out, HJB.out, HVR.out]
    simp only [syV, World.setCells]
    exact set_row (set_row (set_row (set_row (set_row (w := W2.drew) X2 10 _) 11 _) 12 _) 13 _) 14 _
  obtain ⟨W4, hW4⟩ : ∃ W4, W4 = W3.setCell ⟨X, 15, none⟩ (.int .i64 nw) := ⟨_, rfl⟩
  have k4 : Kp W2 W4 (fun k => k = X) := by rw [hW4]; exact k3.set (Or.inl rfl) _ _
  have x4 : W4.heap[X]? = some (.cells (exA (askX v) Z) 70) := by
    rw [hW4, AX.out, HNW.out]
    exact set_row x3 15 _
  have D4 : Hid ((fun Y : World => Y.heap[B]? = some (.cells (syV ow jb (p : Int) vr (dn : Int)) 66) ∧ Y.cell? ⟨X, 2, none⟩ = some (.int .i64 nw)) W3) := ⟨(k3.block _ (blk_lt B2.out) (fun e => hXB e.symm)).trans B2.out, by rw [cell_row x3]; exact (cell_row X2 2).symm.trans (NW.out _ X2)⟩
  have D5 : Hid ((fun Y : World => Y.heap[B]? = some (.cells (syV ow jb (p : Int) vr (dn : Int)) 66) ∧ Y.cell? ⟨X, 2, none⟩ = some (.int .i64 nw)) W4) := ⟨(k4.block _ (blk_lt B2.out) (fun e => hXB e.symm)).trans B2.out, by rw [cell_row x4]; exact (cell_row X2 2).symm.trans (NW.out _ X2)⟩
  have L4 : Hid (Lv w W4 X Z (askX v) Z) := (Lv.same A2.out (Kp.refl _ _)).trans (w := W2) ⟨⟨x4, (A2.out.ow.setX X2 k4).ask⟩, k4.mono (fun _ e => Or.inl e), fun _ e => Or.inl e, fun _ e => Or.inl e⟩ |> fun q => ⟨q.at_, K2.out.mono (T := Fp X Z) (fun _ f => f.elim) |>.trans q.kp (fun _ e => Or.inl e), fun _ e => Or.inl e, fun _ e => Or.inl e⟩
  have th := hide (there_x X2 10 5 (by omega))
  have c15 : W3.cell? ⟨X, 15, none⟩ = some (.int .i64 v.at_) := by rw [cell_row x3]; rfl
  have f15 := fz_row x3 15
  obtain ⟨cb0, cb1, cb2, cb3, cb4⟩ : W4.cell? ⟨B, 0, none⟩ = some (.int .i64 ow) ∧ W4.cell? ⟨B, 1, none⟩ = some (.int .i64 jb) ∧ W4.cell? ⟨B, 2, none⟩ = some (.int .i64 (p : Int)) ∧ W4.cell? ⟨B, 3, none⟩ = some (.int .i64 vr) ∧ W4.cell? ⟨B, 4, none⟩ = some (.int .i64 (dn : Int)) := by
    simp only [cell_row D5.out.1]
    exact ⟨rfl, rfl, rfl, rfl, rfl⟩
  have CB := hide (And.intro cb0 (And.intro cb1 (And.intro cb2 (And.intro cb3 cb4))))
  clear cb0 cb1 cb2 cb3 cb4 X2 k3 x3 k4 x4 NW AT AX A2 K2 hXB
  go_upto_region 3 with fail
  refine wp_region_held_drew (S := fun Y : World => Y.heap[B]? = some (.cells (syV ow jb (p : Int) vr (dn : Int)) 66) ∧ Y.cell? ⟨X, 2, none⟩ = some (.int .i64 nw)) (by kernel_rfl) D3.out (fun hHeld => ?_)
  refine wTk (i := 0) (v := (.pointer (some ⟨X, 3, none⟩))) rfl ?_ ?_
  · intro w' hSw
    (try dsimp only at hSw)
    go_simp
  (try simp only [Act.put, List.getElem_toArray, List.getElem_cons_zero, List.getElem_cons_succ, List.setIfInBounds_toArray, List.set_cons_zero, List.set_cons_succ])
  refine wTk (i := 1) (v := (.pointer (some ⟨X, 3, none⟩))) rfl ?_ ?_
  · intro w' hSw
    (try dsimp only at hSw)
    go_simp
  (try simp only [Act.put, List.getElem_toArray, List.getElem_cons_zero, List.getElem_cons_succ, List.setIfInBounds_toArray, List.set_cons_zero, List.set_cons_succ])
  refine wTk (i := 2) (v := (.agg (syV ow jb (p : Int) vr (dn : Int)))) rfl ?_ ?_
  · intro w' hSw
    (try dsimp only at hSw)
    (exact exec_ldR 66 (.tmp 4) rfl rfl 66 hSw.1 Tryd.underlying66 sy_info)
  (try simp only [Act.put, List.getElem_toArray, List.getElem_cons_zero, List.getElem_cons_succ, List.setIfInBounds_toArray, List.set_cons_zero, List.set_cons_succ])
  refine wTk (i := 3) (v := (.pointer (some ⟨X, 0, none⟩))) rfl ?_ ?_
  · intro w' hSw
    (try dsimp only at hSw)
    go_simp
  (try simp only [Act.put, List.getElem_toArray, List.getElem_cons_zero, List.getElem_cons_succ, List.setIfInBounds_toArray, List.set_cons_zero, List.set_cons_succ])
  refine wTk (i := 4) (v := (.pointer (some ⟨X, 0, none⟩))) rfl ?_ ?_
  · intro w' hSw
    (try dsimp only at hSw)
    go_simp
  (try simp only [Act.put, List.getElem_toArray, List.getElem_cons_zero, List.getElem_cons_succ, List.setIfInBounds_toArray, List.set_cons_zero, List.set_cons_succ])
  refine wTk (i := 5) (v := (.pointer (some ⟨X, 2, none⟩))) rfl ?_ ?_
  · intro w' hSw
    (try dsimp only at hSw)
    go_simp
  (try simp only [Act.put, List.getElem_toArray, List.getElem_cons_zero, List.getElem_cons_succ, List.setIfInBounds_toArray, List.set_cons_zero, List.set_cons_succ])
  refine wTk (i := 6) (v := (.int .i64 nw)) rfl ?_ ?_
  · intro w' hSw
    (try dsimp only at hSw)
    (have z := hSw.2; go_simp)
  (try simp only [Act.put, List.getElem_toArray, List.getElem_cons_zero, List.getElem_cons_succ, List.setIfInBounds_toArray, List.set_cons_zero, List.set_cons_succ])
  refine wTk (i := 7) (v := (.pointer (some ⟨X, 3, none⟩))) rfl ?_ ?_
  · intro w' hSw
    (try dsimp only at hSw)
    go_simp
  (try simp only [Act.put, List.getElem_toArray, List.getElem_cons_zero, List.getElem_cons_succ, List.setIfInBounds_toArray, List.set_cons_zero, List.set_cons_succ])
  refine wTk (i := 8) (v := (.pointer (some ⟨X, 10, none⟩))) rfl ?_ ?_
  · intro w' hSw
    (try dsimp only at hSw)
    go_simp
  (try simp only [Act.put, List.getElem_toArray, List.getElem_cons_zero, List.getElem_cons_succ, List.setIfInBounds_toArray, List.set_cons_zero, List.set_cons_succ])
  refine wpAnyH_ready (rs := [9]) (by kernel_rfl) (by simp) ?_
  refine AllReadyH.cons rfl (fun K hK => ?_) AllReadyH.nil
  refine wp_store_mid 66 (.tmp 52) (.tmp 46) rfl X 10 (syV ow jb (p : Int) vr (dn : Int)) rfl rfl th.out sy_info (sy_one _ _ _ _ _) ?_
  rw [← hW3]
  clear hW3 th D3
  refine hK.out _ _ (D4.out) (fun hHeld => ?_)
  clear hK
  (try simp only [Act.put, List.setIfInBounds_toArray, List.set_cons_zero, List.set_cons_succ])
  refine wTk (i := 10) (v := (.pointer (some ⟨X, 3, none⟩))) rfl ?_ ?_
  · intro w' hSw
    (try dsimp only at hSw)
    go_simp
  (try simp only [Act.put, List.getElem_toArray, List.getElem_cons_zero, List.getElem_cons_succ, List.setIfInBounds_toArray, List.set_cons_zero, List.set_cons_succ])
  refine wTk (i := 11) (v := (.pointer (some ⟨X, 15, none⟩))) rfl ?_ ?_
  · intro w' hSw
    (try dsimp only at hSw)
    go_simp
  (try simp only [Act.put, List.getElem_toArray, List.getElem_cons_zero, List.getElem_cons_succ, List.setIfInBounds_toArray, List.set_cons_zero, List.set_cons_succ])
  refine wpAnyH_ready (rs := [12]) (by kernel_rfl) (by simp) ?_
  refine AllReadyH.cons rfl (fun K hK => ?_) AllReadyH.nil
  go_simp
  rw [← hW4]
  clear hW4 c15 f15 D4
  refine hK.out _ _ (D5.out) (fun hHeld => ?_)
  clear hK
  (try simp only [Act.put, List.setIfInBounds_toArray, List.set_cons_zero, List.set_cons_succ])
  refine wpAnyH_done (by kernel_rfl) ?_ _
  clear hHeld D5
  obtain ⟨cb0, cb1, cb2, cb3, cb4⟩ := CB.out
  go_wp2_with (first | refine wpList_blR rfl 36 _ rfl (mgV ⟨15, 67, ow, jb, 0, (p : Int), vr, (dn : Int), 0, ⟨#[]⟩, ⟨#[]⟩⟩) (by kernel_rfl) ?_ | refine wpList_bsM rfl (.tmp 65) rfl ⟨15, 67, ow, jb, 0, (p : Int), vr, (dn : Int), 0, ⟨#[]⟩, ⟨#[]⟩⟩ rfl ?_)
  go_ret
  have k5 : Kp W4 (W4.alloc (.cells (mgV ⟨15, 67, ow, jb, 0, (p : Int), vr, (dn : Int), 0, ⟨#[]⟩, ⟨#[]⟩⟩) 36)) non := (Kp.refl W4 non).alloc _
  refine ⟨_, rfl, ?_, L4.out.trans (Lv.same L4.out.at_ k5)⟩
  rw [AM.out]
  refine ⟨by rw [mgs_one]; rfl, .inr ⟨W4.heap.size, 1, mgV ⟨15, 67, ow, jb, 0, (p : Int), vr, (dn : Int), 0, ⟨#[]⟩, ⟨#[]⟩⟩, rfl, L4.out.kp.size, heap_last _ _, Nat.le_refl _, by unfold maxLen; omega, rfl, by rw [mgs_one]; rfl⟩⟩
end Go.Proofs.YtpoegknmkbnjlaaDoor.Cn
namespace Go.Proofs.YtpoegknmkbnjlaaDoor.Cn
open Go.RowKit
/-- a report, a job, as cells -/
def toA (r : Rp) (a b : Value) : Array Value := #[.int .i64 r.jb, .int .i64 r.vr, a, b]
def job0 : Array Value := #[.int .i64 0, .int .i64 0, .slice none 0 0, .slice none 0 0, .int .i64 0, .int .i64 0, .slice none 0 0, .int .i64 0, .int .i64 0, .int .i64 0, .int .i64 0, .int .i64 0, .int .i64 0]
theorem to_info : (Tryd.prog.info? 57).map (·.size) = some 4 := by kernel_rfl
theorem job_info : (Tryd.prog.info? 68).map (·.size) = some 13 := by kernel_rfl
theorem to_one (r : Rp) {a b : Value} (ha : ∃ x n c, a = .slice x n c) (hb : ∃ x n c, b = .slice x n c) : (toA r a b).all (·.oneCell') = true := by
  obtain ⟨_, _, _, rfl⟩ := ha
  obtain ⟨_, _, _, rfl⟩ := hb
  simp [toA, Value.oneCell']
theorem job0_one : job0.all (·.oneCell') = true := by simp [job0, Value.oneCell']
theorem told_range {w : World} {X : Nat} {v : Ex} {Z : Zz} (h : w.heap[X]? = some (.cells (exA v Z) 70)) : w.rangeAt X 3 (toA v.told Z.tp Z.tm).toList := fun j u hj => by
  have hl : j < 4 := by
    have := (List.getElem?_eq_some_iff.1 hj).1
    simpa [toA] using this
  rw [cell_row h]
  match j, hl with
  | 0, _ | 1, _ | 2, _ | 3, _ => exact hj
theorem last_range {w : World} {X : Nat} {v : Ex} {Z : Zz} (h : w.heap[X]? = some (.cells (exA v Z) 70)) : w.rangeAt X 16 (toA v.last Z.lp Z.lm).toList := fun j u hj => by
  have hl : j < 4 := by
    have := (List.getElem?_eq_some_iff.1 hj).1
    simpa [toA] using this
  rw [cell_row h]
  match j, hl with
  | 0, _ | 1, _ | 2, _ | 3, _ => exact hj
def updA (A : Array Value) : Nat → List Value → Array Value
  | _, [] => A
  | o, v :: r => updA (A.setIfInBounds o v) (o + 1) r
theorem heap_setCells (b : Nat) (t : TypeId) : ∀ (vs : List Value) (o : Nat) (A : Array Value) (w : World), w.heap[b]? = some (.cells A t) → (w.setCells b o vs).heap[b]? = some (.cells (updA A o vs) t)
  | [], _, _, _, h => h
  | v :: r, o, _, _, h => heap_setCells b t r (o + 1) _ _ (set_row h o v)
def nilV : Value := .slice none 0 0
def Zz.end_ (Z : Zz) : Zz := { Z with tp := nilV, tm := nilV, rd := nilV, lp := Z.tp, lm := Z.tm }
def Zz.mid (Z : Zz) : Zz := { Z with lp := Z.tp, lm := Z.tm }
theorem upd_last (v : Ex) (Z : Zz) : updA (exA v Z) 16 (toA v.told Z.tp Z.tm).toList = exA { v with last := v.told } Z.mid := by kernel_rfl
theorem upd_job (v : Ex) (Z : Zz) : updA (exA { v with last := v.told } Z.mid) 3 job0.toList = exA (endX v) Z.end_ := by kernel_rfl
def Zz.nord (Z : Zz) : Zz := { Z with rd := nilV }
theorem nil_own {k : Nat} (h : nilV.ownBlock = some k) : False := by simp [nilV, Value.ownBlock] at h
theorem own_nil (w : World) (e sz : Nat) : w.ownsRow 0 e sz nilV 0 [] := World.ownsRow_nil _ _ _ _
theorem Ow.end_ {w : World} {v : Ex} {Z : Zz} (h : Ow w v Z) : Ow w (endX v) Z.end_ := ⟨h.rows, h.row, own_nil _ _ _, own_nil _ _ _, own_nil _ _ _, h.tp, h.tm, fun _ e => (nil_own e).elim, fun _ e => (nil_own e).elim, fun _ e => (nil_own e).elim⟩
theorem Ow.setP {w : World} {v : Ex} {Z : Zz} (h : Ow w v Z) (p : Nat) : Ow w (setP v p) Z.nord := ⟨h.rows, h.row, h.tp, h.tm, own_nil _ _ _, h.lp, h.lm, fun k e => ⟨fun q => (nil_own q).elim, (h.d1 k e).2⟩, fun _ e => (nil_own e).elim, h.d3⟩
theorem gr_end {X : Nat} {Z : Zz} : (∀ k, Fp X Z.end_ k → Fp X Z k) ∧ ∀ k, Ap X Z.end_ k → Ap X Z k := by
  have h1 : ∀ k, Fp X Z.end_ k → Fp X Z k := fun k e => by
    rcases e with e | e | e | e
    · exact Or.inl e
    · exact (nil_own e).elim
    · exact (nil_own e).elim
    · exact (nil_own e).elim
  refine ⟨h1, fun k e => ?_⟩
  rcases e with e | e | e | e | e
  · exact Or.inl (h1 k e)
  · exact Or.inr (Or.inl e)
  · exact Or.inl (Or.inr (Or.inl e))
  · exact Or.inl (Or.inr (Or.inr (Or.inl e)))
  · exact Or.inr (Or.inr (Or.inr (Or.inr e)))
theorem gr_nord {X : Nat} {Z : Zz} : (∀ k, Fp X Z.nord k → Fp X Z k) ∧ ∀ k, Ap X Z.nord k → Ap X Z k := by
  have h1 : ∀ k, Fp X Z.nord k → Fp X Z k := fun k e => by
    rcases e with e | e | e | e
    · exact Or.inl e
    · exact Or.inr (Or.inl e)
    · exact Or.inr (Or.inr (Or.inl e))
    · exact (nil_own e).elim
  refine ⟨h1, fun k e => ?_⟩
  rcases e with e | e | e | e | e
  · exact Or.inl (h1 k e)
  · exact Or.inr (Or.inl e)
  · exact Or.inr (Or.inr (Or.inl e))
  · exact Or.inr (Or.inr (Or.inr (Or.inl e)))
  · exact Or.inr (Or.inr (Or.inr (Or.inr e)))
theorem sls {w : World} {b e sz n : Nat} {u : Value} {xs : List Value} (h : w.ownsRow b e sz u n xs) : ∃ x n c, u = .slice x n c := by
  obtain ⟨a, c, e⟩ := own_sl h
  exact ⟨a, n, c, e⟩
set_option maxHeartbeats 16000000 in
set_option maxRecDepth 100000 in
set_option linter.unusedSimpArgs false in
set_option linter.unusedVariables false in
theorem takeUp_x {w : World} {X : Nat} {v : Ex} {Z : Zz} (h : ExAt w X v Z) {R : Nat} (hrw : ∀ r ∈ v.rows, r.length = R) (hR : 1 ≤ R) (p : Nat) (hp : p ≤ v.rows.length) :
    Calls Tryd.prog 48 #[.pointer (some ⟨X, 0, none⟩), .int .i64 (p : Int)] w fun e w' => ∃ u Z', e = .returned u ∧ Out w w' u (upL v p) ∧ Lv w w' X Z (upX v p) Z' := by
  obtain ⟨ra, rc, hrv⟩ := h.ow.rsl
  have c1 := (ex_cells h.blk).2.1
  rw [hrv] at c1
  by_cases q : p = v.rows.length
  · have UX : Hid (upX v p = endX v) := if_pos q
    have UL : Hid (upL v p = []) := if_pos q
    have th1 := hide (there_x h.blk 16 4 (by omega))
    obtain ⟨W1, hW1⟩ : ∃ W1, W1 = w.setCells X 16 (toA v.told Z.tp Z.tm).toList := ⟨_, rfl⟩
    have k1 : Kp w W1 (fun k => k = X) := by rw [hW1]; exact kp_setCells _ _ _ _
    have x1 : W1.heap[X]? = some (.cells (exA { v with last := v.told } Z.mid) 70) := by
      rw [hW1, ← upd_last]
      exact heap_setCells _ _ _ _ _ _ h.blk
    have th2 := hide (there_x x1 3 13 (by omega))
    obtain ⟨W2, hW2⟩ : ∃ W2, W2 = W1.setCells X 3 job0.toList := ⟨_, rfl⟩
    have k2 : Kp w W2 (fun k => k = X) := by rw [hW2]; exact k1.trans (kp_setCells _ _ _ _) (fun _ e => Or.inl e)
    have x2 : W2.heap[X]? = some (.cells (exA (endX v) Z.end_) 70) := by
      rw [hW2, ← upd_job]
      exact heap_setCells _ _ _ _ _ _ x1
    have LV : Hid (Lv w W2 X Z (endX v) Z.end_) := ⟨⟨x2, (h.ow.setX h.blk k2).end_⟩, k2.mono (fun _ e => Or.inl e), fun k e => Or.inl (gr_end.1 k e), fun k e => Or.inl (gr_end.2 k e)⟩
    have RG := hide (told_range h.blk)
    have ON := hide (to_one v.told (sls h.ow.tp) (sls h.ow.tm))
    obtain ⟨P, hP⟩ : ∃ P, P = v.rows.length := ⟨_, rfl⟩
    rw [← hP] at q c1
    subst q
    rw [UX.out, UL.out]
    have HW1 := hide hW1
    have HW2 := hide hW2
    clear h hrw hR hp hrv k1 x1 k2 x2 UX UL hP hW1 hW2
    go_enter Tryd.func48, Tryd.ntmps48
    go_upto_region 2 with fail
    clear c1
    go_wp2_with (first | refine wpList_load_mid rfl 57 (.tmp 17) rfl X 3 rfl (toA v.told Z.tp Z.tm).toList _ RG.out Tryd.underlying57 rfl to_info ?_ | refine wpList_blR rfl 68 #[] rfl job0 (by kernel_rfl) ?_ | (refine wpList_store_mid rfl 57 (.tmp 21) (.tmp 18) rfl X 16 (toA v.told Z.tp Z.tm) rfl rfl th1.out to_info ON.out ?_; rw [← HW1.out]) | (refine wpList_store_mid rfl 68 (.tmp 23) (.tmp 19) rfl X 3 job0 rfl rfl th2.out job_info job0_one ?_; rw [← HW2.out]))
    go_ret
    exact ⟨_, _, rfl, World.ownsRow_nil _ _ _ _, LV.out⟩
  · have UX : Hid (upX v p = askX (setP v p)) := if_neg q
    have UL : Hid (upL v p = [askM (setP v p)]) := if_neg q
    obtain ⟨W1, hW1⟩ : ∃ W1, W1 = w.setCell ⟨X, 7, none⟩ (.int .i64 (p : Int)) := ⟨_, rfl⟩
    obtain ⟨W2, hW2⟩ : ∃ W2, W2 = W1.setCell ⟨X, 8, none⟩ (.int .i64 0) := ⟨_, rfl⟩
    obtain ⟨W3, hW3⟩ : ∃ W3, W3 = W2.setCell ⟨X, 9, none⟩ nilV := ⟨_, rfl⟩
    have x1 : W1.heap[X]? = some (.cells (exA { v with part := p } Z) 70) := by rw [hW1]; exact set_row h.blk 7 _
    have x2 : W2.heap[X]? = some (.cells (exA { v with part := p, left := 0 } Z) 70) := by rw [hW2]; exact set_row x1 8 _
    have x3 : W3.heap[X]? = some (.cells (exA (setP v p) Z.nord) 70) := by rw [hW3]; exact set_row x2 9 _
    have k3 : Kp w W3 (fun k => k = X) := by rw [hW3, hW2, hW1]; exact (((Kp.refl w (fun k => k = X)).set (Or.inl rfl) _ _).set (Or.inl rfl) _ _).set (Or.inl rfl) _ _
    have L3 : Hid (Lv w W3 X Z (setP v p) Z.nord) := ⟨⟨x3, (h.ow.setX h.blk k3).setP p⟩, k3.mono (fun _ e => Or.inl e), fun k e => Or.inl (gr_nord.1 k e), fun k e => Or.inl (gr_nord.2 k e)⟩
    have AK := hide (ask_x L3.out.at_ (R := R) hrw (by show p < v.rows.length; omega) (by show 0 < R; omega) (by show 0 ≤ 512; omega))
    have c7 : w.cell? ⟨X, 7, none⟩ = some (.int .i64 (v.part : Int)) := by rw [cell_row h.blk]; rfl
    have c8 : w.cell? ⟨X, 8, none⟩ = some (.int .i64 (v.left : Int)) := by rw [cell_row h.blk]; rfl
    have c9 : w.cell? ⟨X, 9, none⟩ = some Z.rd := by rw [cell_row h.blk]; rfl
    have f7 := fz_row h.blk 7
    have f8 := fz_row h.blk 8
    have f9 := fz_row h.blk 9
    obtain ⟨P, hP⟩ : ∃ P, P = v.rows.length := ⟨_, rfl⟩
    rw [← hP] at q c1
    have q1 : ((p : Int) == (P : Int)) = false := by rw [beq_eq_false_iff_ne]; omega
    have q2 : (p == P) = false := by rw [beq_eq_false_iff_ne]; omega
    rw [UX.out, UL.out]
    clear h hrw hR hp hrv x1 x2 x3 k3 UX UL hP
    go_enter Tryd.func48, Tryd.ntmps48
    go_upto_region 4 with fail
    clear c1
    go_upto_region 5 with fail
    rw [← hW1, ← hW2, show (Value.slice none 0 0) = nilV from rfl, ← hW3]
    clear hW1 hW2 hW3 c7 c8 c9 f7 f8 f9
    go_wp2_with fail
    refine Calls.mono AK.out ?_
    rintro e W4 ⟨u, rfl, o4, l4⟩
    have O4 := hide o4
    have L4 := hide l4
    clear o4 l4 AK
    go_wp2_with fail
    go_ret
    exact ⟨_, _, rfl, own_base O4.out (L3.out.kp.size), L3.out.trans L4.out⟩
end Go.Proofs.YtpoegknmkbnjlaaDoor.Cn
namespace Go.Proofs.YtpoegknmkbnjlaaDoor.Cn
open Go.RowKit
set_option maxRecDepth 100000 in
set_option maxHeartbeats 4000000 in
theorem wp_apRow {w : World} {o : Oper} {a : Act} {K : Act → World → Prop} {Q : Exit → Act → World → Prop} (s x : Operand) (t : TypeId) (ho : o.op = .call { callee := .builtin .append, args := #[s, x], argTypes := #[t, t] })
    (base : Nat) (e : TypeId) {z : Value} {size bytes : Nat} (ht : Tryd.prog.underlying t = some (.slice e)) (hinf : (Tryd.prog.info? e).map (fun i => (i.zero, i.size, i.bytes)) = some (some z, size, bytes)) (hzs : z.cells.size = size) (hsz : 0 < size)
    (va : Value) (na : Nat) (xa : List Value) (hx : a.eval s = va) (hva : w.ownsRow base e size va na xa) (base2 : Nat) (vb : Value) (nb : Nat) (xb : List Value) (hy : a.eval x = vb) (hvb : w.ownsRow base2 e size vb nb xb) (h1 : ∀ u ∈ xb, u.oneCell' = true)
    (h63 : na + nb ≤ maxLen) (hbytes : (na + nb) * bytes ≤ 140737488355328) (hb : base ≤ w.heap.size)
    (h : ∀ v' w', w'.ownsRow base e size v' (na + nb) (xa ++ xb) → w.grownBy w' va.ownBlock → (v'.ownBlock = va.ownBlock ∨ v'.ownBlock = some w.heap.size) → K (a.put o.dst v') w') : o.wp Tryd.prog a w K Q := by
  obtain ⟨i0, hi, hz0, hz1, hz2⟩ := info_parts hinf
  rcases hvb.2 with ⟨hv, hz⟩ | ⟨g, cap, cur, hv, _⟩
  · have hrun := run_append_owned_none (P := Tryd.prog) (w := w) base t o.type e i0 size ht hi va na xa hva
    have hLb : xb = [] := by
      have := hvb.1
      rw [hz, Nat.zero_mul] at this
      exact List.length_eq_zero_iff.1 this
    unfold Oper.wp execOp
    simp only [ho, resolve, invoke, builtin, Sem.run_bind, Sem.run_pure, Result.andThen_ok, List.map_toArray, List.map_cons, List.map_nil, hx, hy, hv, hrun]
    refine h va w ?_ (World.grownBy.refl w _) (Or.inl rfl)
    rw [hLb, hz, List.append_nil, Nat.add_zero]
    exact hva
  · obtain ⟨v', w', hr, h2', h3', _, h5⟩ := run_append_own_at (P := Tryd.prog) w base t o.type e i0 z size bytes ht hi hz0 hz1 hz2 hzs hsz va na xa hva ⟨g, 0, none⟩ nb cap xb hvb.1 (by
      intro j u hj
      rw [Addr.add_mid, Nat.zero_add]
      obtain ⟨g', c', e1, hc, _⟩ := own_at hvb hj
      rw [hv] at e1
      injection e1 with e1
      injection e1 with e1
      injection e1 with e1
      rw [e1]
      exact hc) h1 h63 hbytes hb
    unfold Oper.wp execOp
    simp only [ho, resolve, invoke, builtin, Sem.run_bind, Sem.run_pure, Result.andThen_ok, List.map_toArray, List.map_cons, List.map_nil, hx, hy, hv, hr]
    exact h v' w' h2' h3' h5
theorem pr_infos : (Tryd.prog.info? 89).map (fun i => (i.zero, i.size, i.bytes)) = some (some (.agg (prV ⟨⟨#[]⟩, ⟨#[]⟩⟩)), 2, 32) := by kernel_rfl
/-- a new row of one element -/
theorem own_one (w : World) (e sz : Nat) (A : Array Value) (hs : A.size = sz) : (w.alloc (.cells A e)).ownsRow w.heap.size e sz (.slice (some ⟨w.heap.size, 0, none⟩) 1 1) 1 A.toList :=
  ⟨by rw [Nat.one_mul, ← hs, Array.length_toList], .inr ⟨w.heap.size, 1, A, rfl, Nat.le_refl _, heap_last _ _, Nat.le_refl _, by unfold maxLen; omega, by omega, by
    rw [Nat.one_mul, ← hs, ← Array.length_toList]
    exact List.take_length⟩⟩
end Go.Proofs.YtpoegknmkbnjlaaDoor.Cn
