import Derived.Test.YtpoegknmkbnjlaaDoorGGkRound
import Derived.Shelf.Strconv.Clone
import Derived.Test.YtpoegknmkbnjlaaDoorGGcPure
import Derived.Test.YtpoegknmkbnjlaaDoorProg
namespace Go.Proofs.YtpoegknmkbnjlaaDoor.Cn
open Go.RowKit
set_option maxHeartbeats 16000000 in
set_option maxRecDepth 100000 in
set_option linter.unusedSimpArgs false in
set_option linter.unusedVariables false in
theorem leave_x {w : World} {X : Nat} {v : Ex} {Z : Zz} (h : ExAt w X v Z) {R : Nat} (hrw : ∀ r ∈ v.rows, r.length = R) (hp : v.part < v.rows.length) (hl : v.left < R) (hR : R ≤ 16) (hPm : v.rows.length ≤ 64) (hrd : v.rd.length ≤ 512) (hms : v.told.ms.length ≤ 1000) :
    Calls Tryd.prog 55 #[.pointer (some ⟨X, 0, none⟩)] w fun e w' => ∃ u Z', e = .returned u ∧ Out w w' u (lvL v) ∧ Lv w w' X Z (lvX v) Z' := by
  obtain ⟨rb, rc, hrv⟩ := own_g h.ow.rows (by omega)
  obtain ⟨u0, hu0, hro⟩ := h.ow.row v.part hp
  have hrl : v.rows[v.part].length = R := hrw _ (List.getElem_mem hp)
  have hrA : (rowAt v v.part).length = R := by unfold rowAt; rw [List.getElem?_eq_getElem hp]; exact hrl
  rw [hrl] at hro
  obtain ⟨g, gc, hg⟩ := own_g hro (by omega)
  subst hg
  have cu : w.cell? ⟨rb, v.part, none⟩ = some (.slice (some ⟨g, 0, none⟩) R gc) := by
    obtain ⟨g', c', e, hc, _⟩ := own_at h.ow.rows hu0
    rw [hrv] at e
    injection e with e
    injection e with e
    injection e with e
    subst e
    exact hc
  obtain ⟨W1, hW1⟩ : ∃ W1, W1 = w.setCell ⟨X, 8, none⟩ (.int .i64 ((v.left : Int) + 1)) := ⟨_, rfl⟩
  have x1 : W1.heap[X]? = some (.cells (exA (nxtX v) Z) 70) := by rw [hW1]; exact set_row h.blk 8 _
  have k1 : Kp w W1 (fun k => k = X) := by rw [hW1]; exact (Kp.refl w (fun k => k = X)).set (Or.inl rfl) _ _
  have L1 : Hid (Lv w W1 X Z (nxtX v) Z) := ⟨⟨x1, (h.ow.setX h.blk k1).nxt⟩, k1.mono (fun _ e => Or.inl e), fun _ e => Or.inl e, fun _ e => Or.inl e⟩
  have nrb : rb ≠ X := h.ow.notX h.blk (by rw [hrv]; simp [Value.ownBlock])
  have C1 : Hid ((fun Y => Y.heap[X]? = some (.cells (exA (nxtX v) Z) 70) ∧ Y.cell? ⟨rb, v.part, none⟩ = some (.slice (some ⟨g, 0, none⟩) R gc)) W1) := ⟨x1, (k1.cell (World.block_lt_of_cell? w _ cu) nrb).trans cu⟩
  have RV : Hid (∀ Y : World, Y.heap[X]? = some (.cells (exA (nxtX v) Z) 70) → Y.cell? ⟨X, 1, none⟩ = some (.slice (some ⟨rb, 0, none⟩) v.rows.length rc)) := fun Y hY => by rw [← hrv]; exact (ex_cells hY).2.1
  have PT : Hid (∀ Y : World, Y.heap[X]? = some (.cells (exA (nxtX v) Z) 70) → Y.cell? ⟨X, 7, none⟩ = some (.int .i64 (v.part : Int))) := fun Y hY => (ex_cells hY).2.2.2.2.2.2.2.1
  have LF : Hid (∀ Y : World, Y.heap[X]? = some (.cells (exA (nxtX v) Z) 70) → Y.cell? ⟨X, 8, none⟩ = some (.int .i64 ((v.left : Int) + 1))) := fun Y hY => (ex_cells hY).2.2.2.2.2.2.2.2.1
  have c8 : w.cell? ⟨X, 8, none⟩ = some (.int .i64 (v.left : Int)) := (ex_cells h.blk).2.2.2.2.2.2.2.2.1
  have f8 := fz_row h.blk 8
  have HRW : Hid (∀ r ∈ (missX v).rows, r.length = R) := hrw
  have HRW1 : Hid (∀ r ∈ (nxtX v).rows, r.length = R) := hrw
  have HPL : Hid (v.part < v.rows.length) := hp
  have HLR : Hid (v.left < R) := hl
  have hR' : Hid (1 ≤ R ∧ R ≤ 16) := ⟨by omega, hR⟩
  have HRD : Hid (v.rd.length ≤ 512) := hrd
  have HMS : Hid (v.told.ms.length ≤ 1000) := hms
  have HRA : Hid ((rowAt v v.part).length = R) := hrA
  obtain ⟨ta, tc, hta⟩ := own_sl L1.out.at_.ow.tm
  have HTA := hide hta
  obtain ⟨P, hP⟩ : ∃ P, P = v.rows.length := ⟨_, rfl⟩
  obtain ⟨p, hpp⟩ : ∃ p, p = v.part := ⟨_, rfl⟩
  obtain ⟨l, hll⟩ : ∃ l, l = v.left := ⟨_, rfl⟩
  have HLL := hide hll
  have HPM : Hid ((missX v).part = p) := by rw [hpp]; rfl
  have HPM2 : Hid (p = v.part) := hpp
  rw [← hP] at RV hp hPm
  rw [← hpp] at PT C1 hp
  rw [← hll] at LF hl c8 hW1
  have hpi : (p : Int) < (P : Int) := by omega
  have ew : IntKind.i64.wrap ((l : Int) + 1) = (l : Int) + 1 := i64_in (by omega) (by omega)
  clear h hrw hrv hu0 hro hrl hrA cu x1 k1 nrb hrd hms hta hP hpp hll
  go_enter Tryd.func55, Tryd.ntmps55
  go_upto_region 3 with fail
  (try rw [← hW1])
  clear hW1 c8 f8 ew
  by_cases q : l + 1 < R
  case pos =>
    have qi : (l : Int) + 1 < (R : Int) := by omega
    have qd : decide ((l : Int) + 1 < (R : Int)) = true := decide_eq_true qi
    refine wp_region_held_drew (S := fun Y => Y.heap[X]? = some (.cells (exA (nxtX v) Z) 70) ∧ Y.cell? ⟨rb, p, none⟩ = some (.slice (some ⟨g, 0, none⟩) R gc)) (by kernel_rfl) C1.out (fun hHeld => ?_)
    refine wTk (i := 0) (v := (.pointer (some ⟨X, 3, none⟩))) rfl ?_ ?_
    · intro w' hSw
      (try dsimp only at hSw)
      go_simp
    (try simp only [Act.put, List.getElem_toArray, List.getElem_cons_zero, List.getElem_cons_succ, List.setIfInBounds_toArray, List.set_cons_zero, List.set_cons_succ])
    refine wTk (i := 1) (v := (.pointer (some ⟨X, 3, none⟩))) rfl ?_ ?_
    · intro w' hSw
      (try dsimp only at hSw)
      go_simp
    (try simp only [Act.put, List.getElem_toArray, List.getElem_cons_zero, List.getElem_cons_succ, List.setIfInBounds_toArray, List.set_cons_zero, List.set_cons_succ])
    refine wTk (i := 2) (v := (.pointer (some ⟨X, 8, none⟩))) rfl ?_ ?_
    · intro w' hSw
      (try dsimp only at hSw)
      go_simp
    (try simp only [Act.put, List.getElem_toArray, List.getElem_cons_zero, List.getElem_cons_succ, List.setIfInBounds_toArray, List.set_cons_zero, List.set_cons_succ])
    refine wTk (i := 3) (v := (.int .i64 ((l : Int) + 1))) rfl ?_ ?_
    · intro w' hSw
      (try dsimp only at hSw)
      (have z := (LF.out _ hSw.1); go_simp)
    (try simp only [Act.put, List.getElem_toArray, List.getElem_cons_zero, List.getElem_cons_succ, List.setIfInBounds_toArray, List.set_cons_zero, List.set_cons_succ])
    refine wTk (i := 4) (v := (.pointer (some ⟨X, 0, none⟩))) rfl ?_ ?_
    · intro w' hSw
      (try dsimp only at hSw)
      go_simp
    (try simp only [Act.put, List.getElem_toArray, List.getElem_cons_zero, List.getElem_cons_succ, List.setIfInBounds_toArray, List.set_cons_zero, List.set_cons_succ])
    refine wTk (i := 5) (v := (.pointer (some ⟨X, 0, none⟩))) rfl ?_ ?_
    · intro w' hSw
      (try dsimp only at hSw)
      go_simp
    (try simp only [Act.put, List.getElem_toArray, List.getElem_cons_zero, List.getElem_cons_succ, List.setIfInBounds_toArray, List.set_cons_zero, List.set_cons_succ])
    refine wTk (i := 6) (v := (.pointer (some ⟨X, 1, none⟩))) rfl ?_ ?_
    · intro w' hSw
      (try dsimp only at hSw)
      go_simp
    (try simp only [Act.put, List.getElem_toArray, List.getElem_cons_zero, List.getElem_cons_succ, List.setIfInBounds_toArray, List.set_cons_zero, List.set_cons_succ])
    refine wTk (i := 7) (v := (.slice (some ⟨rb, 0, none⟩) P rc)) rfl ?_ ?_
    · intro w' hSw
      (try dsimp only at hSw)
      (have z := (RV.out _ hSw.1); go_simp)
    (try simp only [Act.put, List.getElem_toArray, List.getElem_cons_zero, List.getElem_cons_succ, List.setIfInBounds_toArray, List.set_cons_zero, List.set_cons_succ])
    refine wTk (i := 8) (v := (.pointer (some ⟨X, 3, none⟩))) rfl ?_ ?_
    · intro w' hSw
      (try dsimp only at hSw)
      go_simp
    (try simp only [Act.put, List.getElem_toArray, List.getElem_cons_zero, List.getElem_cons_succ, List.setIfInBounds_toArray, List.set_cons_zero, List.set_cons_succ])
    refine wTk (i := 9) (v := (.pointer (some ⟨X, 3, none⟩))) rfl ?_ ?_
    · intro w' hSw
      (try dsimp only at hSw)
      go_simp
    (try simp only [Act.put, List.getElem_toArray, List.getElem_cons_zero, List.getElem_cons_succ, List.setIfInBounds_toArray, List.set_cons_zero, List.set_cons_succ])
    refine wTk (i := 10) (v := (.pointer (some ⟨X, 7, none⟩))) rfl ?_ ?_
    · intro w' hSw
      (try dsimp only at hSw)
      go_simp
    (try simp only [Act.put, List.getElem_toArray, List.getElem_cons_zero, List.getElem_cons_succ, List.setIfInBounds_toArray, List.set_cons_zero, List.set_cons_succ])
    refine wTk (i := 11) (v := (.int .i64 (p : Int))) rfl ?_ ?_
    · intro w' hSw
      (try dsimp only at hSw)
      (have z := (PT.out _ hSw.1); go_simp)
    (try simp only [Act.put, List.getElem_toArray, List.getElem_cons_zero, List.getElem_cons_succ, List.setIfInBounds_toArray, List.set_cons_zero, List.set_cons_succ])
    refine wTk (i := 12) (v := (.pointer (some ⟨rb, p, none⟩))) rfl ?_ ?_
    · intro w' hSw
      (try dsimp only at hSw)
      go_simp
    (try simp only [Act.put, List.getElem_toArray, List.getElem_cons_zero, List.getElem_cons_succ, List.setIfInBounds_toArray, List.set_cons_zero, List.set_cons_succ])
    refine wTk (i := 13) (v := (.slice (some ⟨g, 0, none⟩) R gc)) rfl ?_ ?_
    · intro w' hSw
      (try dsimp only at hSw)
      (have z := hSw.2; go_simp)
    (try simp only [Act.put, List.getElem_toArray, List.getElem_cons_zero, List.getElem_cons_succ, List.setIfInBounds_toArray, List.set_cons_zero, List.set_cons_succ])
    refine wTk (i := 14) (v := (.int .i64 (R : Int))) rfl ?_ ?_
    · intro w' hSw
      (try dsimp only at hSw)
      go_simp
    (try simp only [Act.put, List.getElem_toArray, List.getElem_cons_zero, List.getElem_cons_succ, List.setIfInBounds_toArray, List.set_cons_zero, List.set_cons_succ])
    refine wpAnyH_ready (rs := [15]) (by kernel_rfl) (by simp) ?_
    refine AllReadyH.cons rfl (fun K hK => ?_) AllReadyH.nil
    go_simp
    refine hK.out _ _ (C1.out) (fun hHeld => ?_)
    clear hK
    (try simp only [Act.put, List.setIfInBounds_toArray, List.set_cons_zero, List.set_cons_succ])
    refine wpAnyH_done (by kernel_rfl) ?_ _
    clear hHeld RV PT LF C1
    have AK := hide (ask_x (w := W1.drew) (L1.out.at_.kp0 ((Kp.refl W1 non).drew)) HRW1.out HPL.out (by show v.left + 1 < R; rw [← HLL.out]; exact q) HRD.out)
    go_wp2_with fail
    refine Calls.mono AK.out ?_
    rintro e W4 ⟨u, rfl, o4, l4⟩
    have O4 := hide o4
    have L4 : Hid (Lv w W4 X Z (askX (nxtX v)) Z) := (L1.out.trans (Lv.same L1.out.at_ ((Kp.refl W1 non).drew))).trans l4
    clear o4 l4 AK
    go_wp2_with fail
    go_ret
    refine ⟨_, Z, rfl, ?_, ?_⟩
    · unfold lvL
      rw [HRA.out, if_pos (by rw [← HLL.out]; exact q)]
      exact own_base O4.out L1.out.kp.size
    · unfold lvX
      rw [HRA.out, if_pos (by rw [← HLL.out]; exact q)]
      exact L4.out
  case neg =>
    have qi : ¬ (l : Int) + 1 < (R : Int) := by omega
    have qd : decide ((l : Int) + 1 < (R : Int)) = false := decide_eq_false qi
    have LX : Hid (lvX v = upX (missX v) (v.part + 1) ∧ lvL v = upL (missX v) (v.part + 1)) := by
      unfold Hid lvX lvL
      rw [HRA.out, if_neg (by rw [← HLL.out]; exact q), if_neg (by rw [← HLL.out]; exact q)]
      exact ⟨rfl, rfl⟩
    refine wp_region_held_drew (S := fun Y => Y.heap[X]? = some (.cells (exA (nxtX v) Z) 70) ∧ Y.cell? ⟨rb, p, none⟩ = some (.slice (some ⟨g, 0, none⟩) R gc)) (by kernel_rfl) C1.out (fun hHeld => ?_)
    refine wTk (i := 0) (v := (.pointer (some ⟨X, 3, none⟩))) rfl ?_ ?_
    · intro w' hSw
      (try dsimp only at hSw)
      go_simp
    (try simp only [Act.put, List.getElem_toArray, List.getElem_cons_zero, List.getElem_cons_succ, List.setIfInBounds_toArray, List.set_cons_zero, List.set_cons_succ])
    refine wTk (i := 1) (v := (.pointer (some ⟨X, 3, none⟩))) rfl ?_ ?_
    · intro w' hSw
      (try dsimp only at hSw)
      go_simp
    (try simp only [Act.put, List.getElem_toArray, List.getElem_cons_zero, List.getElem_cons_succ, List.setIfInBounds_toArray, List.set_cons_zero, List.set_cons_succ])
    refine wTk (i := 2) (v := (.pointer (some ⟨X, 8, none⟩))) rfl ?_ ?_
    · intro w' hSw
      (try dsimp only at hSw)
      go_simp
    (try simp only [Act.put, List.getElem_toArray, List.getElem_cons_zero, List.getElem_cons_succ, List.setIfInBounds_toArray, List.set_cons_zero, List.set_cons_succ])
    refine wTk (i := 3) (v := (.int .i64 ((l : Int) + 1))) rfl ?_ ?_
    · intro w' hSw
      (try dsimp only at hSw)
      (have z := (LF.out _ hSw.1); go_simp)
    (try simp only [Act.put, List.getElem_toArray, List.getElem_cons_zero, List.getElem_cons_succ, List.setIfInBounds_toArray, List.set_cons_zero, List.set_cons_succ])
    refine wTk (i := 4) (v := (.pointer (some ⟨X, 0, none⟩))) rfl ?_ ?_
    · intro w' hSw
      (try dsimp only at hSw)
      go_simp
    (try simp only [Act.put, List.getElem_toArray, List.getElem_cons_zero, List.getElem_cons_succ, List.setIfInBounds_toArray, List.set_cons_zero, List.set_cons_succ])
    refine wTk (i := 5) (v := (.pointer (some ⟨X, 0, none⟩))) rfl ?_ ?_
    · intro w' hSw
      (try dsimp only at hSw)
      go_simp
    (try simp only [Act.put, List.getElem_toArray, List.getElem_cons_zero, List.getElem_cons_succ, List.setIfInBounds_toArray, List.set_cons_zero, List.set_cons_succ])
    refine wTk (i := 6) (v := (.pointer (some ⟨X, 1, none⟩))) rfl ?_ ?_
    · intro w' hSw
      (try dsimp only at hSw)
      go_simp
    (try simp only [Act.put, List.getElem_toArray, List.getElem_cons_zero, List.getElem_cons_succ, List.setIfInBounds_toArray, List.set_cons_zero, List.set_cons_succ])
    refine wTk (i := 7) (v := (.slice (some ⟨rb, 0, none⟩) P rc)) rfl ?_ ?_
    · intro w' hSw
      (try dsimp only at hSw)
      (have z := (RV.out _ hSw.1); go_simp)
    (try simp only [Act.put, List.getElem_toArray, List.getElem_cons_zero, List.getElem_cons_succ, List.setIfInBounds_toArray, List.set_cons_zero, List.set_cons_succ])
    refine wTk (i := 8) (v := (.pointer (some ⟨X, 3, none⟩))) rfl ?_ ?_
    · intro w' hSw
      (try dsimp only at hSw)
      go_simp
    (try simp only [Act.put, List.getElem_toArray, List.getElem_cons_zero, List.getElem_cons_succ, List.setIfInBounds_toArray, List.set_cons_zero, List.set_cons_succ])
    refine wTk (i := 9) (v := (.pointer (some ⟨X, 3, none⟩))) rfl ?_ ?_
    · intro w' hSw
      (try dsimp only at hSw)
      go_simp
    (try simp only [Act.put, List.getElem_toArray, List.getElem_cons_zero, List.getElem_cons_succ, List.setIfInBounds_toArray, List.set_cons_zero, List.set_cons_succ])
    refine wTk (i := 10) (v := (.pointer (some ⟨X, 7, none⟩))) rfl ?_ ?_
    · intro w' hSw
      (try dsimp only at hSw)
      go_simp
    (try simp only [Act.put, List.getElem_toArray, List.getElem_cons_zero, List.getElem_cons_succ, List.setIfInBounds_toArray, List.set_cons_zero, List.set_cons_succ])
    refine wTk (i := 11) (v := (.int .i64 (p : Int))) rfl ?_ ?_
    · intro w' hSw
      (try dsimp only at hSw)
      (have z := (PT.out _ hSw.1); go_simp)
    (try simp only [Act.put, List.getElem_toArray, List.getElem_cons_zero, List.getElem_cons_succ, List.setIfInBounds_toArray, List.set_cons_zero, List.set_cons_succ])
    refine wTk (i := 12) (v := (.pointer (some ⟨rb, p, none⟩))) rfl ?_ ?_
    · intro w' hSw
      (try dsimp only at hSw)
      go_simp
    (try simp only [Act.put, List.getElem_toArray, List.getElem_cons_zero, List.getElem_cons_succ, List.setIfInBounds_toArray, List.set_cons_zero, List.set_cons_succ])
    refine wTk (i := 13) (v := (.slice (some ⟨g, 0, none⟩) R gc)) rfl ?_ ?_
    · intro w' hSw
      (try dsimp only at hSw)
      (have z := hSw.2; go_simp)
    (try simp only [Act.put, List.getElem_toArray, List.getElem_cons_zero, List.getElem_cons_succ, List.setIfInBounds_toArray, List.set_cons_zero, List.set_cons_succ])
    refine wTk (i := 14) (v := (.int .i64 (R : Int))) rfl ?_ ?_
    · intro w' hSw
      (try dsimp only at hSw)
      go_simp
    (try simp only [Act.put, List.getElem_toArray, List.getElem_cons_zero, List.getElem_cons_succ, List.setIfInBounds_toArray, List.set_cons_zero, List.set_cons_succ])
    refine wpAnyH_ready (rs := [15]) (by kernel_rfl) (by simp) ?_
    refine AllReadyH.cons rfl (fun K hK => ?_) AllReadyH.nil
    go_simp
    refine hK.out _ _ (C1.out) (fun hHeld => ?_)
    clear hK
    (try simp only [Act.put, List.setIfInBounds_toArray, List.set_cons_zero, List.set_cons_succ])
    refine wpAnyH_done (by kernel_rfl) ?_ _
    clear hHeld RV LF
    have C5 : Hid (W1.drew.cell? ⟨X, 7, none⟩ = some (.int .i64 (p : Int))) := PT.out _ C1.out.1
    have A1 : Hid (ExAt W1.drew X (nxtX v) Z) := L1.out.at_.kp0 ((Kp.refl W1 non).drew)
    have c6 : W1.drew.cell? ⟨X, 6, none⟩ = some (.slice ta v.told.ms.length tc) := by
      have := (ex_cells A1.out.blk).2.2.2.2.2.2.1
      rw [this, HTA.out]
      rfl
    have T1 : Hid (W1.drew.ownsRow 0 3 1 (.slice ta v.told.ms.length tc) v.told.ms.length (ints v.told.ms)) := by
      have := A1.out.ow.tm
      rw [HTA.out] at this
      exact this
    obtain ⟨mn, hmn'⟩ : ∃ mn, mn = v.told.ms.length := ⟨_, rfl⟩
    obtain ⟨MS, hMS⟩ : ∃ MS, MS = ints v.told.ms := ⟨_, rfl⟩
    have hmn : Hid (mn ≤ 1000) := by rw [hmn']; exact HMS.out
    obtain ⟨W2, hW2⟩ : ∃ W2, W2 = (W1.alloc (.cells #[.int .i64 (p : Int)] 3)).drew.drew := ⟨_, rfl⟩
    have k2 : Kp W1.drew W2 non := by rw [hW2]; exact ((Kp.refl W1.drew non).alloc (.cells #[.int .i64 (p : Int)] 3)).drew
    have A2 := A1.out.kp0 k2
    have FIN : Hid (∀ na nc (w' : World), w'.ownsRow 0 3 1 (.slice na (mn + 1) nc) (mn + 1) (MS ++ [.int .i64 (p : Int)]) → W2.grownBy w' (Value.slice ta mn tc).ownBlock → ((Value.slice na (mn + 1) nc).ownBlock = (Value.slice ta mn tc).ownBlock ∨ (Value.slice na (mn + 1) nc).ownBlock = some W2.heap.size) → w'.cell? ⟨X, 7, none⟩ = some (.int .i64 (p : Int)) ∧ w'.frozen? ⟨X, 6, none⟩ = false ∧ w'.cell? ⟨X, 6, none⟩ = some (.slice ta mn tc) ∧ Lv w (w'.setCell ⟨X, 6, none⟩ (.slice na (mn + 1) nc)) X Z (missX v) (Z.miss (.slice na (mn + 1) nc))) := fun na nc w' o3 g3 n3 => by
      have eT : Z.tm = .slice ta mn tc := by rw [HTA.out, hmn']; rfl
      rw [← eT] at g3 n3 ⊢
      rw [hMS, HPM2.out, ← show ints [(v.part : Int)] = [.int .i64 (v.part : Int)] from rfl, ← ints_append] at o3
      rw [hmn'] at o3 n3 ⊢
      obtain ⟨b, l⟩ := Ow.miss A2 _ o3 g3 n3
      refine ⟨?_, fz_row b 6, (ex_cells b).2.2.2.2.2.2.1, (L1.out.trans (Lv.same L1.out.at_ (((Kp.refl W1 non).drew).trans k2 (fun _ f => f.elim)))).trans l⟩
      have := (ex_cells b).2.2.2.2.2.2.2.1
      rw [this, HPM2.out]
      rfl
    have T2 : Hid (W2.ownsRow 0 3 1 (.slice ta mn tc) mn MS) := by
      rw [hmn', hMS]
      exact own_kp T1.out k2 (fun _ _ f => f)
    have N2 : Hid (W2.ownsRow W1.heap.size 3 1 (.slice (some ⟨W1.heap.size, 0, none⟩) 1 1) 1 [.int .i64 (p : Int)]) := by
      rw [hW2]
      exact own_one W1 3 1 #[.int .i64 (p : Int)] rfl
    have C6 : Hid (W2.cell? ⟨X, 7, none⟩ = some (.int .i64 (p : Int))) := k2.cell0 C5.out
    have c62 : W2.cell? ⟨X, 6, none⟩ = some (.slice ta mn tc) := by rw [hmn']; exact k2.cell0 c6
    rw [← hmn'] at c6
    have hR := hR'
    clear PT C1 T1 A1 A2 k2 hmn' hMS HMS HRD
    go_upto_region 5 with fail
    refine wp_region_held_drew (S := fun Y => Y.cell? ⟨X, 7, none⟩ = some (.int .i64 (p : Int))) (by kernel_rfl) C5.out (fun hHeld => ?_)
    refine wTk (i := 0) (v := (.pointer (some ⟨X, 3, none⟩))) rfl ?_ ?_
    · intro w' hSw
      (try dsimp only at hSw)
      go_simp
    (try simp only [Act.put, List.getElem_toArray, List.getElem_cons_zero, List.getElem_cons_succ, List.setIfInBounds_toArray, List.set_cons_zero, List.set_cons_succ])
    refine wTk (i := 1) (v := (.pointer (some ⟨X, 3, none⟩))) rfl ?_ ?_
    · intro w' hSw
      (try dsimp only at hSw)
      go_simp
    (try simp only [Act.put, List.getElem_toArray, List.getElem_cons_zero, List.getElem_cons_succ, List.setIfInBounds_toArray, List.set_cons_zero, List.set_cons_succ])
    refine wTk (i := 2) (v := (.pointer (some ⟨X, 3, none⟩))) rfl ?_ ?_
    · intro w' hSw
      (try dsimp only at hSw)
      go_simp
    (try simp only [Act.put, List.getElem_toArray, List.getElem_cons_zero, List.getElem_cons_succ, List.setIfInBounds_toArray, List.set_cons_zero, List.set_cons_succ])
    refine wTk (i := 3) (v := (.pointer (some ⟨X, 3, none⟩))) rfl ?_ ?_
    · intro w' hSw
      (try dsimp only at hSw)
      go_simp
    (try simp only [Act.put, List.getElem_toArray, List.getElem_cons_zero, List.getElem_cons_succ, List.setIfInBounds_toArray, List.set_cons_zero, List.set_cons_succ])
    refine wTk (i := 4) (v := (.pointer (some ⟨X, 6, none⟩))) rfl ?_ ?_
    · intro w' hSw
      (try dsimp only at hSw)
      go_simp
    (try simp only [Act.put, List.getElem_toArray, List.getElem_cons_zero, List.getElem_cons_succ, List.setIfInBounds_toArray, List.set_cons_zero, List.set_cons_succ])
    refine wTk (i := 6) (v := (.pointer (some ⟨X, 3, none⟩))) rfl ?_ ?_
    · intro w' hSw
      (try dsimp only at hSw)
      go_simp
    (try simp only [Act.put, List.getElem_toArray, List.getElem_cons_zero, List.getElem_cons_succ, List.setIfInBounds_toArray, List.set_cons_zero, List.set_cons_succ])
    refine wTk (i := 7) (v := (.pointer (some ⟨X, 3, none⟩))) rfl ?_ ?_
    · intro w' hSw
      (try dsimp only at hSw)
      go_simp
    (try simp only [Act.put, List.getElem_toArray, List.getElem_cons_zero, List.getElem_cons_succ, List.setIfInBounds_toArray, List.set_cons_zero, List.set_cons_succ])
    refine wTk (i := 8) (v := (.pointer (some ⟨X, 7, none⟩))) rfl ?_ ?_
    · intro w' hSw
      (try dsimp only at hSw)
      go_simp
    (try simp only [Act.put, List.getElem_toArray, List.getElem_cons_zero, List.getElem_cons_succ, List.setIfInBounds_toArray, List.set_cons_zero, List.set_cons_succ])
    refine wTk (i := 9) (v := (.int .i64 (p : Int))) rfl ?_ ?_
    · intro w' hSw
      (try dsimp only at hSw)
      (have z := hSw; go_simp)
    (try simp only [Act.put, List.getElem_toArray, List.getElem_cons_zero, List.getElem_cons_succ, List.setIfInBounds_toArray, List.set_cons_zero, List.set_cons_succ])
    refine wpAnyH_ready (rs := [5, 10]) (by kernel_rfl) (by simp) ?_
    refine AllReadyH.cons rfl (fun K hK => ?_) (AllReadyH.cons rfl (fun K hK => ?_) AllReadyH.nil)
    · go_simp
      refine hK.out _ _ (C5.out) (fun hHeld => ?_)
      clear hK
      (try simp only [Act.put, List.setIfInBounds_toArray, List.set_cons_zero, List.set_cons_succ])
      refine wpAnyH_ready (rs := [10]) (by kernel_rfl) (by simp) ?_
      refine AllReadyH.cons rfl (fun K hK => ?_) AllReadyH.nil
      go_simp
      rw [← hW2]
      refine hK.out _ _ (C6.out) (fun hHeld => ?_)
      clear hK
      (try simp only [Act.put, List.setIfInBounds_toArray, List.set_cons_zero, List.set_cons_succ])
      refine wpAnyH_ready (rs := [11]) (by kernel_rfl) (by simp) ?_
      refine AllReadyH.cons rfl (fun K hK => ?_) AllReadyH.nil
      refine wp_apRow (.tmp 37) (.tmp 42) 48 rfl 0 3 Tryd.underlying48 int_infos rfl (by decide) (.slice ta mn tc) mn MS rfl T2.out W1.heap.size (.slice (some ⟨W1.heap.size, 0, none⟩) 1 1) 1 [.int .i64 (p : Int)] rfl N2.out (by simp [Value.oneCell']) (by unfold maxLen; have := hmn.out; omega) (by have := hmn.out; omega) (Nat.zero_le _) ?_
      intro v' w' o3 g3 n3
      obtain ⟨na, nc, rfl⟩ := own_sl o3
      obtain ⟨c7, f6, c6, L4⟩ := FIN.out _ _ w' o3 g3 n3
      have D3 : Hid (w'.cell? ⟨X, 7, none⟩ = some (.int .i64 (p : Int))) := c7
      have L4 := hide L4
      obtain ⟨W4, hW4⟩ : ∃ W4, W4 = w'.setCell ⟨X, 6, none⟩ (.slice na (mn + 1) nc) := ⟨_, rfl⟩
      rw [← hW4] at L4
      have D4 : Hid (W4.cell? ⟨X, 7, none⟩ = some (.int .i64 (p : Int))) := by
        have := (ex_cells L4.out.at_.blk).2.2.2.2.2.2.2.1
        rw [this, HPM.out]
        rfl
      clear o3 g3 n3 c7 T2 N2 FIN
      refine hK.out _ _ (D3.out) (fun hHeld => ?_)
      clear hK
      (try simp only [Act.put, List.setIfInBounds_toArray, List.set_cons_zero, List.set_cons_succ])
      refine wTk (i := 12) (v := (.pointer (some ⟨X, 3, none⟩))) rfl ?_ ?_
      · intro w' hSw
        (try dsimp only at hSw)
        go_simp
      (try simp only [Act.put, List.getElem_toArray, List.getElem_cons_zero, List.getElem_cons_succ, List.setIfInBounds_toArray, List.set_cons_zero, List.set_cons_succ])
      refine wTk (i := 13) (v := (.pointer (some ⟨X, 3, none⟩))) rfl ?_ ?_
      · intro w' hSw
        (try dsimp only at hSw)
        go_simp
      (try simp only [Act.put, List.getElem_toArray, List.getElem_cons_zero, List.getElem_cons_succ, List.setIfInBounds_toArray, List.set_cons_zero, List.set_cons_succ])
      refine wTk (i := 14) (v := (.pointer (some ⟨X, 6, none⟩))) rfl ?_ ?_
      · intro w' hSw
        (try dsimp only at hSw)
        go_simp
      (try simp only [Act.put, List.getElem_toArray, List.getElem_cons_zero, List.getElem_cons_succ, List.setIfInBounds_toArray, List.set_cons_zero, List.set_cons_succ])
      refine wpAnyH_ready (rs := [15]) (by kernel_rfl) (by simp) ?_
      refine AllReadyH.cons rfl (fun K hK => ?_) AllReadyH.nil
      go_simp
      rw [← hW4]
      clear hW4 c6 f6 D3
      refine hK.out _ _ (D4.out) (fun hHeld => ?_)
      clear hK
      (try simp only [Act.put, List.setIfInBounds_toArray, List.set_cons_zero, List.set_cons_succ])
      refine wpAnyH_done (by kernel_rfl) ?_ _
      clear hHeld
      have c7 := D4.out
      have TU := hide (takeUp_x L4.out.at_ (R := R) HRW.out (by have := hR.out; omega) (p + 1) (by rw [HPM2.out]; show v.part + 1 ≤ v.rows.length; have := HPL.out; omega))
      go_wp2_with fail
      refine Calls.mono TU.out ?_
      rintro e W5 ⟨u, Z5, rfl, o5, l5⟩
      have O5 := hide o5
      have L5 := hide l5
      clear o5 l5 TU c7
      go_wp2_with fail
      go_ret
      refine ⟨_, Z5, rfl, ?_, ?_⟩
      · rw [LX.out.2, ← HPM2.out]
        exact own_base O5.out L4.out.kp.size
      · rw [LX.out.1, ← HPM2.out]
        exact L4.out.trans L5.out
    · go_simp
      rw [← hW2]
      refine hK.out _ _ (C6.out) (fun hHeld => ?_)
      clear hK
      (try simp only [Act.put, List.setIfInBounds_toArray, List.set_cons_zero, List.set_cons_succ])
      refine wpAnyH_ready (rs := [5]) (by kernel_rfl) (by simp) ?_
      refine AllReadyH.cons rfl (fun K hK => ?_) AllReadyH.nil
      have c63 : (W1.alloc (.cells #[.int .i64 (p : Int)] 3)).cell? ⟨X, 6, none⟩ = some (.slice ta mn tc) := by rw [hW2] at c62; exact c62
      go_simp
      rw [← hW2]
      clear c63
      refine hK.out _ _ (C6.out) (fun hHeld => ?_)
      clear hK
      (try simp only [Act.put, List.setIfInBounds_toArray, List.set_cons_zero, List.set_cons_succ])
      refine wpAnyH_ready (rs := [11]) (by kernel_rfl) (by simp) ?_
      refine AllReadyH.cons rfl (fun K hK => ?_) AllReadyH.nil
      refine wp_apRow (.tmp 37) (.tmp 42) 48 rfl 0 3 Tryd.underlying48 int_infos rfl (by decide) (.slice ta mn tc) mn MS rfl T2.out W1.heap.size (.slice (some ⟨W1.heap.size, 0, none⟩) 1 1) 1 [.int .i64 (p : Int)] rfl N2.out (by simp [Value.oneCell']) (by unfold maxLen; have := hmn.out; omega) (by have := hmn.out; omega) (Nat.zero_le _) ?_
      intro v' w' o3 g3 n3
      obtain ⟨na, nc, rfl⟩ := own_sl o3
      obtain ⟨c7, f6, c6, L4⟩ := FIN.out _ _ w' o3 g3 n3
      have D3 : Hid (w'.cell? ⟨X, 7, none⟩ = some (.int .i64 (p : Int))) := c7
      have L4 := hide L4
      obtain ⟨W4, hW4⟩ : ∃ W4, W4 = w'.setCell ⟨X, 6, none⟩ (.slice na (mn + 1) nc) := ⟨_, rfl⟩
      rw [← hW4] at L4
      have D4 : Hid (W4.cell? ⟨X, 7, none⟩ = some (.int .i64 (p : Int))) := by
        have := (ex_cells L4.out.at_.blk).2.2.2.2.2.2.2.1
        rw [this, HPM.out]
        rfl
      clear o3 g3 n3 c7 T2 N2 FIN
      refine hK.out _ _ (D3.out) (fun hHeld => ?_)
      clear hK
      (try simp only [Act.put, List.setIfInBounds_toArray, List.set_cons_zero, List.set_cons_succ])
      refine wTk (i := 12) (v := (.pointer (some ⟨X, 3, none⟩))) rfl ?_ ?_
      · intro w' hSw
        (try dsimp only at hSw)
        go_simp
      (try simp only [Act.put, List.getElem_toArray, List.getElem_cons_zero, List.getElem_cons_succ, List.setIfInBounds_toArray, List.set_cons_zero, List.set_cons_succ])
      refine wTk (i := 13) (v := (.pointer (some ⟨X, 3, none⟩))) rfl ?_ ?_
      · intro w' hSw
        (try dsimp only at hSw)
        go_simp
      (try simp only [Act.put, List.getElem_toArray, List.getElem_cons_zero, List.getElem_cons_succ, List.setIfInBounds_toArray, List.set_cons_zero, List.set_cons_succ])
      refine wTk (i := 14) (v := (.pointer (some ⟨X, 6, none⟩))) rfl ?_ ?_
      · intro w' hSw
        (try dsimp only at hSw)
        go_simp
      (try simp only [Act.put, List.getElem_toArray, List.getElem_cons_zero, List.getElem_cons_succ, List.setIfInBounds_toArray, List.set_cons_zero, List.set_cons_succ])
      refine wpAnyH_ready (rs := [15]) (by kernel_rfl) (by simp) ?_
      refine AllReadyH.cons rfl (fun K hK => ?_) AllReadyH.nil
      go_simp
      rw [← hW4]
      clear hW4 c6 f6 D3
      refine hK.out _ _ (D4.out) (fun hHeld => ?_)
      clear hK
      (try simp only [Act.put, List.setIfInBounds_toArray, List.set_cons_zero, List.set_cons_succ])
      refine wpAnyH_done (by kernel_rfl) ?_ _
      clear hHeld
      have c7 := D4.out
      have TU := hide (takeUp_x L4.out.at_ (R := R) HRW.out (by have := hR.out; omega) (p + 1) (by rw [HPM2.out]; show v.part + 1 ≤ v.rows.length; have := HPL.out; omega))
      go_wp2_with fail
      refine Calls.mono TU.out ?_
      rintro e W5 ⟨u, Z5, rfl, o5, l5⟩
      have O5 := hide o5
      have L5 := hide l5
      clear o5 l5 TU c7
      go_wp2_with fail
      go_ret
      refine ⟨_, Z5, rfl, ?_, ?_⟩
      · rw [LX.out.2, ← HPM2.out]
        exact own_base O5.out L4.out.kp.size
      · rw [LX.out.1, ← HPM2.out]
        exact L4.out.trans L5.out
end Go.Proofs.YtpoegknmkbnjlaaDoor.Cn
namespace Go.Proofs.YtpoegknmkbnjlaaDoor.Cn
open Go.RowKit
section
variable {w w' : World} {X : Nat} {v : Ex} {Z : Zz}
theorem grow_off {q : Value} (hg : w.grownBy w' q.ownBlock) (j : Nat) (y : Value) {e sz n : Nat} {u : Value} {xs : List Value} (ho : w.ownsRow 0 e sz u n xs) (h1 : ∀ k, u.ownBlock = some k → k ≠ X) (h2 : ∀ k, u.ownBlock = some k → q.ownBlock ≠ some k) : (w'.setCell ⟨X, j, none⟩ y).ownsRow 0 e sz u n xs :=
  own_kp (own_kp ho (Kp.of_grown hg) (fun k e s => h2 k e s.symm)) ((Kp.refl w' (fun k => k = X)).set (Or.inl rfl) j y) (fun k e s => h1 k e s)
theorem kinds_off {e1 e2 s1 s2 n1 n2 : Nat} {u q : Value} {xs ys : List Value} (h1 : w.ownsRow 0 e1 s1 u n1 xs) (h2 : w.ownsRow 0 e2 s2 q n2 ys) (he : e1 ≠ e2) : ∀ k, u.ownBlock = some k → q.ownBlock ≠ some k := fun k a b => by
  obtain ⟨c1, g1⟩ := own_typ h1 a
  obtain ⟨c2, g2⟩ := own_typ h2 b
  rw [g1] at g2
  injection g2 with g2
  injection g2 with _ g2
  exact he g2
theorem new_not {u q : Value} (hn : u.ownBlock = q.ownBlock ∨ u.ownBlock = some w.heap.size) {k : Nat} (e : u.ownBlock = some k) : q.ownBlock = some k ∨ k = w.heap.size := by
  rcases hn with s | s
  · exact Or.inl (s.symm.trans e)
  · rw [e] at s
    injection s with s
    exact Or.inr s
/-- what was read of a partition is told -/
theorem Ow.done (h : ExAt w X v Z) (u : Value) (ho : w'.ownsRow 0 89 2 u (v.told.ps.length + v.rd.length) (prs (v.told.ps ++ v.rd))) (hg : w.grownBy w' Z.tp.ownBlock) (hn : u.ownBlock = Z.tp.ownBlock ∨ u.ownBlock = some w.heap.size) :
    w'.heap[X]? = some (.cells (exA v Z) 70) ∧ Lv w (w'.setCell ⟨X, 5, none⟩ u) X Z (doneX v) { Z with tp := u } := by
  have hx := h.ow
  have nX : ∀ k, Z.tp.ownBlock = some k → k ≠ X := fun k e => hx.notX h.blk (Or.inl e)
  have b1 : w'.heap[X]? = some (.cells (exA v Z) 70) := ((Kp.of_grown hg).block _ (blk_lt h.blk) (fun e => nX X e.symm rfl)).trans h.blk
  have kk : Kp w (w'.setCell ⟨X, 5, none⟩ u) (Fp X Z) := ((Kp.of_grown hg).mono (T := Fp X Z) (fun k e => Or.inr (Or.inl e.symm))).set (Or.inl (Or.inl rfl)) _ _
  have ks : Kp w' (w'.setCell ⟨X, 5, none⟩ u) (fun k => k = X) := (Kp.refl w' (fun k => k = X)).set (Or.inl rfl) _ _
  have uX : ∀ k, u.ownBlock = some k → k ≠ X := fun k e => by
    rcases new_not hn e with q | q
    · exact nX k q
    · have := blk_lt h.blk
      omega
  refine ⟨b1, ⟨⟨set_row b1 5 _, ?_⟩, kk, ?_, ?_⟩⟩
  · refine ⟨grow_off hg 5 u hx.rows (fun k e => hx.notX h.blk (Or.inr (Or.inr (Or.inr (Or.inl e))))) (kinds_off hx.rows hx.tp (by decide)), fun p hp => ?_, ?_, grow_off hg 5 u hx.tm (fun k e => hx.notX h.blk (Or.inr (Or.inl e))) (kinds_off hx.tm hx.tp (by decide)), grow_off hg 5 u hx.rd (fun k e => hx.notX h.blk (Or.inr (Or.inr (Or.inl e)))) (fun k e q => (hx.d1 k q).1 e), grow_off hg 5 u hx.lp (fun k e => hx.notX h.blk (Or.inr (Or.inr (Or.inr (Or.inr (Or.inl e)))))) (fun k e q => (hx.d1 k q).2 e), grow_off hg 5 u hx.lm (fun k e => hx.notX h.blk (Or.inr (Or.inr (Or.inr (Or.inr (Or.inr (Or.inl e))))))) (kinds_off hx.lm hx.tp (by decide)), fun k e => ?_, hx.d2, hx.d3⟩
    · obtain ⟨z, hz, ho'⟩ := hx.row p hp
      exact ⟨z, hz, grow_off hg 5 u ho' (fun k e => hx.notX h.blk (Or.inr (Or.inr (Or.inr (Or.inr (Or.inr (Or.inr ⟨z, List.mem_of_getElem? hz, e⟩))))))) (kinds_off ho' hx.tp (by decide))⟩
    · show (w'.setCell ⟨X, 5, none⟩ u).ownsRow 0 89 2 u (v.told.ps ++ v.rd).length (prs (v.told.ps ++ v.rd))
      rw [List.length_append]
      exact own_kp ho ks (fun k e q => uX k e q)
    · rcases new_not hn e with q | q
      · exact hx.d1 k q
      · refine ⟨fun z => ?_, fun z => ?_⟩
        · have := own_lt hx.rd z
          omega
        · have := own_lt hx.lp z
          omega
  · intro k e
    rcases e with e | e | e | e
    · exact Or.inl (Or.inl e)
    · rcases new_not hn e with q | q
      · exact Or.inl (Or.inr (Or.inl q))
      · exact Or.inr (by omega)
    · exact Or.inl (Or.inr (Or.inr (Or.inl e)))
    · exact Or.inl (Or.inr (Or.inr (Or.inr e)))
  · intro k e
    rcases e with (e | e | e | e) | e
    · exact Or.inl (Or.inl (Or.inl e))
    · rcases new_not hn e with q | q
      · exact Or.inl (Or.inl (Or.inr (Or.inl q)))
      · exact Or.inr (by omega)
    · exact Or.inl (Or.inl (Or.inr (Or.inr (Or.inl e))))
    · exact Or.inl (Or.inl (Or.inr (Or.inr (Or.inr e))))
    · exact Or.inl (Or.inr e)
/-- a pair is read -/
theorem Ow.read (h : ExAt w X v Z) (m : Mg) (u : Value) (ho : w'.ownsRow 0 89 2 u (v.rd.length + 1) (prs (v.rd ++ [(⟨m.key, m.val⟩ : Pr)]))) (hg : w.grownBy w' Z.rd.ownBlock) (hn : u.ownBlock = Z.rd.ownBlock ∨ u.ownBlock = some w.heap.size) :
    w'.heap[X]? = some (.cells (exA v Z) 70) ∧ Lv w (w'.setCell ⟨X, 9, none⟩ u) X Z (readX v m) { Z with rd := u } := by
  have hx := h.ow
  have nX : ∀ k, Z.rd.ownBlock = some k → k ≠ X := fun k e => hx.notX h.blk (Or.inr (Or.inr (Or.inl e)))
  have b1 : w'.heap[X]? = some (.cells (exA v Z) 70) := ((Kp.of_grown hg).block _ (blk_lt h.blk) (fun e => nX X e.symm rfl)).trans h.blk
  have kk : Kp w (w'.setCell ⟨X, 9, none⟩ u) (Fp X Z) := ((Kp.of_grown hg).mono (T := Fp X Z) (fun k e => Or.inr (Or.inr (Or.inr e.symm)))).set (Or.inl (Or.inl rfl)) _ _
  have ks : Kp w' (w'.setCell ⟨X, 9, none⟩ u) (fun k => k = X) := (Kp.refl w' (fun k => k = X)).set (Or.inl rfl) _ _
  have uX : ∀ k, u.ownBlock = some k → k ≠ X := fun k e => by
    rcases new_not hn e with q | q
    · exact nX k q
    · have := blk_lt h.blk
      omega
  refine ⟨b1, ⟨⟨set_row b1 9 _, ?_⟩, kk, ?_, ?_⟩⟩
  · refine ⟨grow_off hg 9 u hx.rows (fun k e => hx.notX h.blk (Or.inr (Or.inr (Or.inr (Or.inl e))))) (kinds_off hx.rows hx.rd (by decide)), fun p hp => ?_, grow_off hg 9 u hx.tp (fun k e => hx.notX h.blk (Or.inl e)) (fun k e q => (hx.d1 k e).1 q), grow_off hg 9 u hx.tm (fun k e => hx.notX h.blk (Or.inr (Or.inl e))) (kinds_off hx.tm hx.rd (by decide)), ?_, grow_off hg 9 u hx.lp (fun k e => hx.notX h.blk (Or.inr (Or.inr (Or.inr (Or.inr (Or.inl e)))))) (fun k e q => hx.d2 k q e), grow_off hg 9 u hx.lm (fun k e => hx.notX h.blk (Or.inr (Or.inr (Or.inr (Or.inr (Or.inr (Or.inl e))))))) (kinds_off hx.lm hx.rd (by decide)), fun k e => ⟨fun z => ?_, (hx.d1 k e).2⟩, fun k e => ?_, hx.d3⟩
    · obtain ⟨z, hz, ho'⟩ := hx.row p hp
      exact ⟨z, hz, grow_off hg 9 u ho' (fun k e => hx.notX h.blk (Or.inr (Or.inr (Or.inr (Or.inr (Or.inr (Or.inr ⟨z, List.mem_of_getElem? hz, e⟩))))))) (kinds_off ho' hx.rd (by decide))⟩
    · show (w'.setCell ⟨X, 9, none⟩ u).ownsRow 0 89 2 u (v.rd ++ [(⟨m.key, m.val⟩ : Pr)]).length (prs (v.rd ++ [(⟨m.key, m.val⟩ : Pr)]))
      rw [List.length_append]
      exact own_kp ho ks (fun k e q => uX k e q)
    · rcases new_not hn z with q | q
      · exact (hx.d1 k e).1 q
      · have := own_lt hx.tp e
        omega
    · intro z
      rcases new_not hn e with q | q
      · exact hx.d2 k q z
      · have := own_lt hx.lp z
        omega
  · intro k e
    rcases e with e | e | e | e
    · exact Or.inl (Or.inl e)
    · exact Or.inl (Or.inr (Or.inl e))
    · exact Or.inl (Or.inr (Or.inr (Or.inl e)))
    · rcases new_not hn e with q | q
      · exact Or.inl (Or.inr (Or.inr (Or.inr q)))
      · exact Or.inr (by omega)
  · intro k e
    rcases e with (e | e | e | e) | e
    · exact Or.inl (Or.inl (Or.inl e))
    · exact Or.inl (Or.inl (Or.inr (Or.inl e)))
    · exact Or.inl (Or.inl (Or.inr (Or.inr (Or.inl e))))
    · rcases new_not hn e with q | q
      · exact Or.inl (Or.inl (Or.inr (Or.inr (Or.inr q))))
      · exact Or.inr (by omega)
    · exact Or.inl (Or.inr e)
end
end Go.Proofs.YtpoegknmkbnjlaaDoor.Cn
namespace Go.Proofs
open Go.Shelf Go.RowKit
def Tryd.laysM316_ren : Go.Shelf.Ren := ⟨fun | 316 => 73 | n => n, fun | 9 => 9 | 3 => 3 | 4 => 4 | 37 => 128 | 0 => 0 | 127 => 129 | 5 => 5 | n => n, fun | n => n⟩
theorem Tryd.laysM316 : Go.Proofs.LaysM.n316 Tryd.prog Tryd.laysM316_ren := {
  mixed := by kernel_rfl
  f316 := Tryd.func73.trans (congrArg some (by kernel_rfl))
  t0 := Tryd.underlying0
  a0 := Tryd.isAgg0
  z0 := Tryd.sizeOf0
  v0 := Tryd.zeroValue0
  t3 := Tryd.underlying3
  a3 := Tryd.isAgg3
  z3 := Tryd.sizeOf3
  v3 := Tryd.zeroValue3
  t4 := Tryd.underlying4
  a4 := Tryd.isAgg4
  z4 := Tryd.sizeOf4
  v4 := Tryd.zeroValue4
  t9 := Tryd.underlying9
  a9 := Tryd.isAgg9
  z9 := Tryd.sizeOf9
  v9 := Tryd.zeroValue9
  t37 := Tryd.underlying128
  a37 := Tryd.isAgg128
  z37 := Tryd.sizeOf128
  v37 := Tryd.zeroValue128
  t127 := Tryd.underlying129
  a127 := Tryd.isAgg129
  z127 := Tryd.sizeOf129
  v127 := Tryd.zeroValue129
  t5 := Tryd.underlying5
  a5 := Tryd.isAgg5
  z5 := Tryd.sizeOf5
  v5 := Tryd.zeroValue5
  i0 := by kernel_rfl
  i3 := by kernel_rfl
  i4 := by kernel_rfl
  i5 := by kernel_rfl
  i9 := by kernel_rfl
  i37 := by kernel_rfl
  i127 := by kernel_rfl }
open Go.RowKit in
theorem Tryd.stringslite_Clone (s : ByteArray) (w : World) (hlim : s.size ≤ 281474976710656) :
    Calls Tryd.prog 73 #[.string s] w fun e w' => e = .returned (.string s) ∧ Below w.heap.size w w' := Any.stringslite_Clone Tryd.laysM316 s w hlim
end Go.Proofs
