import Derived.Test.YtgdopepghmjopaaGreatDoorGPwNamed
import Derived.Test.YtgdopepghmjopaaGreatDoorGDnTwice
import Derived.Test.YtgdopepghmjopaaGreatDoorGPxCheck
import Derived.Test.YtgdopepghmjopaaGreatDoorGDaAlg
import Derived.Deep.DeepCutAuto
import Derived.Test.YtgdopepghmjopaaGreatDoorGPjSpoil
namespace Go.Proofs.YtgdopepghmjopaaGreatDoor
open Go.RowKit Go.Shelf
set_option maxHeartbeats 8000000 in
set_option maxRecDepth 100000 in
set_option linter.unusedSimpArgs false in
/-- the document's manifestFields -/
theorem rmanFields_any (st : ByteArray) (v1 v2 t4 t5 : Int) (ao : Option Addr) (b o cap : Nat) (rs : List RV) (w : World) (hao : 0 < rs.length → ao = some ⟨b, o, none⟩) (hl : LiesR b o w rs) (hlen : rs.length ≤ 1000000000000) (hT : TabP w) :
    Calls Tryz.prog 18 #[.agg #[.string st, .int .i64 v1, .int .i64 v2, .slice ao rs.length cap, .int .i64 t4, .int .i64 t5]] w fun e w' => e = .returned (.int .i64 (mfE ⟨st, v1, v2, rs, t4, t5⟩)) ∧ Below w.heap.size w w' := by
  obtain ⟨W0, hW0⟩ : ∃ W0, W0 = w.alloc (.cells #[.string st, .int .i64 v1, .int .i64 v2, .slice ao rs.length cap, .int .i64 t4, .int .i64 t5] 24) := ⟨_, rfl⟩
  have bb0 : Below w.heap.size w W0 := by rw [hW0]; exact (Below.refl _ w).alloc (Nat.le_refl _) _
  have s0 : W0.heap.size = w.heap.size + 1 := by rw [hW0]; simp
  have g0 : W0.cell? ⟨w.heap.size, 0, none⟩ = some (.string st) := by rw [hW0]; simp
  have g1 : W0.cell? ⟨w.heap.size, 1, none⟩ = some (.int .i64 v1) := by rw [hW0]; simp
  have g2 : W0.cell? ⟨w.heap.size, 2, none⟩ = some (.int .i64 v2) := by rw [hW0]; simp
  have g3 : W0.cell? ⟨w.heap.size, 3, none⟩ = some (.slice ao rs.length cap) := by rw [hW0]; simp
  have g4 : W0.cell? ⟨w.heap.size, 4, none⟩ = some (.int .i64 t4) := by rw [hW0]; simp
  have g5 : W0.cell? ⟨w.heap.size, 5, none⟩ = some (.int .i64 t5) := by rw [hW0]; simp
  have GA : Hid (∀ w', Below W0.heap.size W0 w' → w'.cell? ⟨w.heap.size, 3, none⟩ = some (.slice ao rs.length cap) ∧ w'.cell? ⟨w.heap.size, 4, none⟩ = some (.int .i64 t4) ∧ w'.cell? ⟨w.heap.size, 5, none⟩ = some (.int .i64 t5) ∧ w.heap.size < w'.heap.size) := fun w' h => by
    refine ⟨?_, ?_, ?_, by have := h.size; omega⟩
    · rw [h.cell (by show w.heap.size < _; omega)]; exact g3
    · rw [h.cell (by show w.heap.size < _; omega)]; exact g4
    · rw [h.cell (by show w.heap.size < _; omega)]; exact g5
  have FIN : Hid (∀ w', Below W0.heap.size W0 w' → Below w.heap.size w w') := fun w' h => bb0.trans (h.mono bb0.size)
  have HL := hide (fun w' (h : Below W0.heap.size W0 w') => hl.below (FIN.out _ h))
  have TP := hide (fun w' (h : Below W0.heap.size W0 w') => hT.below (FIN.out _ h) (World.block_lt_of_cell? w _ (hT 0 (by omega))))
  have ST := hide (fun w' => rstore_any st w')
  have HAO := hide hao
  obtain ⟨E, hE⟩ : ∃ E, E = mfE ⟨st, v1, v2, rs, t4, t5⟩ := ⟨_, rfl⟩
  rw [← hE]
  have HE : Hid (E = if (((stOk st 1 40 && inR v1 1 999999 && inR v2 0 15 && inR (rs.length : Int) 0 1025) && (inR t4 0 9007199254740992 && inR t5 0 4294967295)) && rowsOk rs) = true then (if (decide ((totS rs : Int) = t4) && decide ((whlS rs : Int) = t5)) = true then 0 else 43) else 42) := by show _ = _; rw [hE]; rfl
  clear hE hl hao hT bb0
  have BE0 := hide (Below.refl W0.heap.size W0)
  by_cases h0 : stOk st 1 40 = false
  · go_enter Tryz.func18, Tryz.ntmps18
    go_wp2_with (first | (go_at_call 55; refine Calls.mono (ST.out _) ?_; rintro e w' ⟨rfl, rfl⟩) | (go_at_call 56; refine Calls.mono (rin_any _ _ _ _) ?_; rintro e w' ⟨rfl, rfl⟩))
    rw [← hW0]
    go_ret
    exact ⟨ret_i (by rw [HE.out, h0]; simp), FIN.out _ BE0.out⟩
  rw [Bool.not_eq_false] at h0
  by_cases h1 : inR v1 1 999999 = false
  · go_enter Tryz.func18, Tryz.ntmps18
    go_wp2_with (first | (go_at_call 55; refine Calls.mono (ST.out _) ?_; rintro e w' ⟨rfl, rfl⟩) | (go_at_call 56; refine Calls.mono (rin_any _ _ _ _) ?_; rintro e w' ⟨rfl, rfl⟩))
    rw [← hW0]
    go_ret
    exact ⟨ret_i (by rw [HE.out, h0, h1]; simp), FIN.out _ BE0.out⟩
  rw [Bool.not_eq_false] at h1
  by_cases h2 : inR v2 0 15 = false
  · go_enter Tryz.func18, Tryz.ntmps18
    go_wp2_with (first | (go_at_call 55; refine Calls.mono (ST.out _) ?_; rintro e w' ⟨rfl, rfl⟩) | (go_at_call 56; refine Calls.mono (rin_any _ _ _ _) ?_; rintro e w' ⟨rfl, rfl⟩))
    rw [← hW0]
    go_ret
    exact ⟨ret_i (by rw [HE.out, h0, h1, h2]; simp), FIN.out _ BE0.out⟩
  rw [Bool.not_eq_false] at h2
  by_cases h3 : 1025 < rs.length
  · have h3' : (1025 : Int) < (rs.length : Int) := by omega
    have hv3 : inR (rs.length : Int) 0 1025 = false := by unfold inR; rw [decide_eq_false (show ¬ (rs.length : Int) ≤ 1025 by omega), Bool.and_false]
    go_enter Tryz.func18, Tryz.ntmps18
    go_wp2_with (first | (go_at_call 55; refine Calls.mono (ST.out _) ?_; rintro e w' ⟨rfl, rfl⟩) | (go_at_call 56; refine Calls.mono (rin_any _ _ _ _) ?_; rintro e w' ⟨rfl, rfl⟩))
    rw [← hW0]
    go_ret
    exact ⟨ret_i (by rw [HE.out, h0, h1, h2, hv3]; rfl), FIN.out _ BE0.out⟩
  have h3' : ¬ (1025 : Int) < (rs.length : Int) := by omega
  have HV3 : Hid (inR (rs.length : Int) 0 1025 = true) := by show _ = _; unfold inR; rw [decide_eq_true (by omega), decide_eq_true (by omega)]; rfl
  by_cases h4 : inR t4 0 9007199254740992 = false
  · go_enter Tryz.func18, Tryz.ntmps18
    go_wp2_with (first | (go_at_call 55; refine Calls.mono (ST.out _) ?_; rintro e w' ⟨rfl, rfl⟩) | (go_at_call 56; refine Calls.mono (rin_any _ _ _ _) ?_; rintro e w' ⟨rfl, rfl⟩))
    rw [← hW0]
    go_ret
    exact ⟨ret_i (by rw [HE.out, h0, h1, h2, HV3.out, h4]; simp), FIN.out _ BE0.out⟩
  rw [Bool.not_eq_false] at h4
  by_cases h5 : inR t5 0 4294967295 = false
  · go_enter Tryz.func18, Tryz.ntmps18
    go_wp2_with (first | (go_at_call 55; refine Calls.mono (ST.out _) ?_; rintro e w' ⟨rfl, rfl⟩) | (go_at_call 56; refine Calls.mono (rin_any _ _ _ _) ?_; rintro e w' ⟨rfl, rfl⟩))
    rw [← hW0]
    go_ret
    exact ⟨ret_i (by rw [HE.out, h0, h1, h2, h4, HV3.out, h5]; simp), FIN.out _ BE0.out⟩
  rw [Bool.not_eq_false] at h5
  have HE2 : Hid (E = if rowsOk rs = true then (if (decide ((totS rs : Int) = t4) && decide ((whlS rs : Int) = t5)) = true then 0 else 43) else 42) := by show _ = _; rw [HE.out, h0, h1, h2, HV3.out, h4, h5]; rfl
  go_enter Tryz.func18, Tryz.ntmps18
  go_wp2_with (first | (go_at_call 55; refine Calls.mono (ST.out _) ?_; rintro e w' ⟨rfl, rfl⟩) | (go_at_call 56; refine Calls.mono (rin_any _ _ _ _) ?_; rintro e w' ⟨rfl, rfl⟩))
  rw [← hW0]
  clear hW0 h0 h1 h2 h4 h5 HV3 HE g0 g1 g2 g3 g4 g5 ST
  go_loopw [3, 4, 5] (fun tt ww i wr => ∃ k : Nat, k ≤ rs.length ∧ i = .int .i64 k ∧ tt = .int .i64 (totS (rs.take k) : Int) ∧ ww = .int .i64 (whlS (rs.take k) : Int) ∧ Hid (∀ i, i < k → (rowOk (rs.getD i rz) && risesB rs i) = true) ∧ Below W0.heap.size W0 wr) (fun _ _ i _ => rs.length - (intOf i).toNat)
  case atStart => exact ⟨0, Nat.zero_le _, rfl, rfl, rfl, (fun i hi => (by omega)), Below.refl _ _⟩
  case round =>
    obtain ⟨k, hk, rfl, rfl, rfl, HALL, hnx⟩ := hrel
    obtain ⟨q3, q4, q5, ql⟩ := GA.out wr hnx
    by_cases hlt : k < rs.length
    · have hlt' : (k : Int) < (rs.length : Int) := by omega
      obtain rfl := HAO.out (by omega)
      obtain ⟨d0, d1, d2, d3⟩ := HL.out wr hnx k hlt
      obtain ⟨r, hr⟩ : ∃ r, r = rs[k] := ⟨_, rfl⟩
      rw [← hr] at d0 d1 d2 d3
      have hgk : rs.getD k rz = r := by rw [List.getD_eq_getElem?_getD, List.getElem?_eq_getElem hlt, hr]; rfl
      obtain ⟨pn, hpn⟩ : ∃ pn, pn = (rs.getD (k - 1) rz).1 := ⟨_, rfl⟩
      have hp1 : wr.cell? ⟨b, o + (k - 1) * 4, none⟩ = some (.string pn) := by
        have := (HL.out wr hnx (k - 1) (by omega)).1
        rw [this, hpn, List.getD_eq_getElem?_getD, List.getElem?_eq_getElem (by omega)]; rfl
      have hbl : b < wr.heap.size := lt_of_cell? d0
      have hwk : whlS (rs.take k) < 4294967296 ∧ totS (rs.take k) ≤ k * 1073741824 := by
        have := whlS_lt (rs.take k) (fun q hq => by
          obtain ⟨i, hi, rfl⟩ := List.getElem_of_mem hq
          have h := HALL.out i (by rw [List.length_take] at hi; omega)
          rw [Bool.and_eq_true, List.getD_eq_getElem?_getD, List.getElem?_eq_getElem (by rw [List.length_take] at hi; omega)] at h
          rw [List.getElem_take]
          exact h.1) k (by rw [List.length_take]; omega)
        rw [List.take_take, Nat.min_self] at this
        exact this
      have TS : Hid (rs.take (k + 1) = rs.take k ++ [r]) := by show _ = _; rw [hr]; exact List.take_succ_eq_append_getElem hlt
      obtain ⟨nm, sz, cr, md⟩ := r
      dsimp only at d0 d1 d2 d3
      have NO : Hid ((rowOk (nm, sz, cr, md) && risesB rs k) = false → E = 42) := fun h => by
        have : rowsOk rs = false := by
          unfold rowsOk
          rw [List.all_eq_false]
          exact ⟨k, by simpa using hlt, by rw [hgk, h]; simp⟩
        rw [HE2.out, this]; rfl
      have YES : Hid ((rowOk (nm, sz, cr, md) && risesB rs k) = true → ∀ i, i < k + 1 → (rowOk (rs.getD i rz) && risesB rs i) = true) := fun h i hi => by
        by_cases hik : i < k
        · exact HALL.out i hik
        · obtain rfl : i = k := by omega
          rw [hgk]; exact h
      have hri : risesB rs k = (decide (k = 0) || !(Op.bytesLess nm.toList pn.toList || nm.toList == pn.toList)) := by unfold risesB; rw [hgk, ← hpn]
      have HRI := hide hri
      have RO : Hid (rowOk (nm, sz, cr, md) = (nmOk nm 1 40 && inR sz 0 1073741824 && inR cr 0 4294967295 && inR (md.size : Int) 16 16)) := rfl
      generalize risesB rs k = RB at *
      generalize rowOk (nm, sz, cr, md) = RK at *
      have NM := hide (fun w' => rnamed_any nm w')
      have BR := hide hnx
      have B1 : Hid (Below W0.heap.size W0 (wr.alloc (.cells #[.string nm, .int .i64 sz, .int .i64 cr, .string md] 36))) := hnx.alloc hnx.size _
      clear hnx hri hgk hr hpn HALL
      generalize nmOk nm 1 40 = A0 at *
      cases A0 with
      | false =>
        have EE := hide (NO.out (by rw [RO.out]; rfl))
        go_wp2_with (first | (go_at_call 55; refine Calls.mono (ST.out _) ?_; rintro e w' ⟨rfl, rfl⟩) | (go_at_call 56; refine Calls.mono (rin_any _ _ _ _) ?_; rintro e w' ⟨rfl, rfl⟩) | (go_at_call 57; refine Calls.mono (NM.out _) ?_; rintro e w' ⟨rfl, rfl⟩))
        go_ret
        exact ⟨ret_i (by rw [EE.out]), FIN.out _ B1.out⟩
      | true =>
      by_cases k1 : inR sz 0 1073741824 = false
      · have EE := hide (NO.out (by rw [RO.out, k1]; rfl))
        go_wp2_with (first | (go_at_call 55; refine Calls.mono (ST.out _) ?_; rintro e w' ⟨rfl, rfl⟩) | (go_at_call 56; refine Calls.mono (rin_any _ _ _ _) ?_; rintro e w' ⟨rfl, rfl⟩) | (go_at_call 57; refine Calls.mono (NM.out _) ?_; rintro e w' ⟨rfl, rfl⟩))
        go_ret
        exact ⟨ret_i (by rw [EE.out]), FIN.out _ B1.out⟩
      rw [Bool.not_eq_false] at k1
      by_cases k2 : inR cr 0 4294967295 = false
      · have EE := hide (NO.out (by rw [RO.out, k1, k2]; rfl))
        go_wp2_with (first | (go_at_call 55; refine Calls.mono (ST.out _) ?_; rintro e w' ⟨rfl, rfl⟩) | (go_at_call 56; refine Calls.mono (rin_any _ _ _ _) ?_; rintro e w' ⟨rfl, rfl⟩) | (go_at_call 57; refine Calls.mono (NM.out _) ?_; rintro e w' ⟨rfl, rfl⟩))
        go_ret
        exact ⟨ret_i (by rw [EE.out]), FIN.out _ B1.out⟩
      rw [Bool.not_eq_false] at k2
      by_cases k3 : md.size = 16
      case neg =>
        have EE := hide (NO.out (by rw [RO.out, k1, k2]; unfold inR; simp; omega))
        have k3' : ((md.size : Int) != 16) = true := bne_iff_ne.2 (by omega)
        go_wp2_with (first | (go_at_call 55; refine Calls.mono (ST.out _) ?_; rintro e w' ⟨rfl, rfl⟩) | (go_at_call 56; refine Calls.mono (rin_any _ _ _ _) ?_; rintro e w' ⟨rfl, rfl⟩) | (go_at_call 57; refine Calls.mono (NM.out _) ?_; rintro e w' ⟨rfl, rfl⟩))
        go_ret
        exact ⟨ret_i (by rw [EE.out]), FIN.out _ B1.out⟩
      have k3' : ((md.size : Int) != 16) = false := by rw [k3]; rfl
      have RT : Hid (RK = true) := by show _ = _; rw [RO.out, k1, k2, k3]; rfl
      have hk1 : 0 ≤ sz ∧ sz ≤ 1073741824 := by unfold inR at k1; simpa using k1
      have hk2 : 0 ≤ cr ∧ cr ≤ 4294967295 := by unfold inR at k2; simpa using k2
      go_upto_region 13 with (first | (go_at_call 55; refine Calls.mono (ST.out _) ?_; rintro e w' ⟨rfl, rfl⟩) | (go_at_call 56; refine Calls.mono (rin_any _ _ _ _) ?_; rintro e w' ⟨rfl, rfl⟩) | (go_at_call 57; refine Calls.mono (NM.out _) ?_; rintro e w' ⟨rfl, rfl⟩))
      obtain ⟨W1, hW1⟩ : ∃ W1, W1 = wr.alloc (.cells #[.string nm, .int .i64 sz, .int .i64 cr, .string md] 36) := ⟨_, rfl⟩
      have bw1 : Below wr.heap.size wr W1 := by rw [hW1]; exact (Below.refl _ _).alloc (Nat.le_refl _) _
      have s1 : W1.heap.size = wr.heap.size + 1 := by rw [hW1]; simp
      have e0 : W1.cell? ⟨wr.heap.size, 0, none⟩ = some (.string nm) := by rw [hW1]; simp
      have e1 : W1.cell? ⟨wr.heap.size, 1, none⟩ = some (.int .i64 sz) := by rw [hW1]; simp
      have e2 : W1.cell? ⟨wr.heap.size, 2, none⟩ = some (.int .i64 cr) := by rw [hW1]; simp
      rw [← hW1] at B1 ⊢
      clear hW1
      have SC : Hid (∀ x, Below W1.heap.size W1 x → x.cell? ⟨wr.heap.size, 0, none⟩ = some (.string nm) ∧ x.cell? ⟨w.heap.size, 3, none⟩ = some (.slice (some ⟨b, o, none⟩) rs.length cap) ∧ x.cell? ⟨b, o + (k - 1) * 4, none⟩ = some (.string pn)) := fun x hx => ⟨by rw [hx.cell (by show wr.heap.size < _; omega)]; exact e0, by rw [hx.cell (by show w.heap.size < _; omega), bw1.cell (by exact ql)]; exact q3, by rw [hx.cell (by show b < _; omega), bw1.cell (by exact hbl)]; exact hp1⟩
      go_cut [86] (fun c wx => c = .bool (!RB) ∧ W1.drew = wx)
      case first =>
        by_cases hk0 : k = 0
        · have EV : Hid ((!RB) = false) := by show _ = _; rw [HRI.out, decide_eq_true hk0]; rfl
          have HK0 := hide hk0
          clear hk0
          refine wp_region_held_drew (S := fun x => x.cell? ⟨wr.heap.size, 0, none⟩ = some (.string nm) ∧ x.cell? ⟨w.heap.size, 3, none⟩ = some (.slice (some ⟨b, o, none⟩) rs.length cap) ∧ x.cell? ⟨b, o + (k - 1) * 4, none⟩ = some (.string pn)) (by kernel_rfl) (SC.out _ (Below.refl _ W1).drew) (fun hHeld => ?_)
          refine wpAnyH_take (i := 0) (v := (.int .i64 (k : Int))) rfl (by kernel_rfl) (by kernel_rfl) (by kernel_rfl) (fun _ _ _ h => h) (Or.inl ⟨by rfl, ?_⟩) (by assumption) ?_
          · intro w' hSw
            (try dsimp only at hSw)
            go_simp <;> first | exact i64_in (by omega) (by omega) | exact u32_in (by omega) (by omega) | exact u32_add _ _ | (rw [Int.tmod_eq_emod_of_nonneg (by omega)]; omega) | (rw [Int.tdiv_eq_ediv_of_nonneg (by omega)]; omega) | omega
          (try simp only [Act.put, List.setIfInBounds_toArray, List.set_cons_zero, List.set_cons_succ])
          refine wpAnyH_take (i := 1) (v := (.bool false)) rfl (by kernel_rfl) (by kernel_rfl) (by kernel_rfl) (fun _ _ _ h => h) (Or.inl ⟨by rfl, ?_⟩) (by assumption) ?_
          · intro w' hSw
            (try dsimp only at hSw)
            (have hk0 := HK0.out; go_simp <;> first | omega | exact hk0)
          (try simp only [Act.put, List.setIfInBounds_toArray, List.set_cons_zero, List.set_cons_succ])
          refine wpAnyH_take (i := 2) (v := (.bool false)) rfl (by kernel_rfl) (by kernel_rfl) (by kernel_rfl) (fun _ _ _ h => h) (Or.inl ⟨by rfl, ?_⟩) (by assumption) ?_
          · intro w' hSw
            (try dsimp only at hSw)
            go_simp <;> first | exact i64_in (by omega) (by omega) | exact u32_in (by omega) (by omega) | exact u32_add _ _ | (rw [Int.tmod_eq_emod_of_nonneg (by omega)]; omega) | (rw [Int.tdiv_eq_ediv_of_nonneg (by omega)]; omega) | omega
          (try simp only [Act.put, List.setIfInBounds_toArray, List.set_cons_zero, List.set_cons_succ])
          refine wpAnyH_take (i := 3) (v := undef) rfl (by kernel_rfl) (by kernel_rfl) (by kernel_rfl) (fun _ _ _ h => h) (Or.inr ⟨by kernel_rfl, rfl⟩) (by assumption) ?_
          (try simp only [Act.put, List.setIfInBounds_toArray, List.set_cons_zero, List.set_cons_succ])
          refine wpAnyH_take (i := 4) (v := undef) rfl (by kernel_rfl) (by kernel_rfl) (by kernel_rfl) (fun _ _ _ h => h) (Or.inr ⟨by kernel_rfl, rfl⟩) (by assumption) ?_
          (try simp only [Act.put, List.setIfInBounds_toArray, List.set_cons_zero, List.set_cons_succ])
          refine wpAnyH_take (i := 5) (v := undef) rfl (by kernel_rfl) (by kernel_rfl) (by kernel_rfl) (fun _ _ _ h => h) (Or.inr ⟨by kernel_rfl, rfl⟩) (by assumption) ?_
          (try simp only [Act.put, List.setIfInBounds_toArray, List.set_cons_zero, List.set_cons_succ])
          refine wpAnyH_take (i := 6) (v := undef) rfl (by kernel_rfl) (by kernel_rfl) (by kernel_rfl) (fun _ _ _ h => h) (Or.inr ⟨by kernel_rfl, rfl⟩) (by assumption) ?_
          (try simp only [Act.put, List.setIfInBounds_toArray, List.set_cons_zero, List.set_cons_succ])
          refine wpAnyH_take (i := 7) (v := undef) rfl (by kernel_rfl) (by kernel_rfl) (by kernel_rfl) (fun _ _ _ h => h) (Or.inr ⟨by kernel_rfl, rfl⟩) (by assumption) ?_
          (try simp only [Act.put, List.setIfInBounds_toArray, List.set_cons_zero, List.set_cons_succ])
          refine wpAnyH_take (i := 8) (v := undef) rfl (by kernel_rfl) (by kernel_rfl) (by kernel_rfl) (fun _ _ _ h => h) (Or.inr ⟨by kernel_rfl, rfl⟩) (by assumption) ?_
          (try simp only [Act.put, List.setIfInBounds_toArray, List.set_cons_zero, List.set_cons_succ])
          refine wpAnyH_take (i := 9) (v := undef) rfl (by kernel_rfl) (by kernel_rfl) (by kernel_rfl) (fun _ _ _ h => h) (Or.inr ⟨by kernel_rfl, rfl⟩) (by assumption) ?_
          (try simp only [Act.put, List.setIfInBounds_toArray, List.set_cons_zero, List.set_cons_succ])
          refine wpAnyH_take (i := 10) (v := undef) rfl (by kernel_rfl) (by kernel_rfl) (by kernel_rfl) (fun _ _ _ h => h) (Or.inr ⟨by kernel_rfl, rfl⟩) (by assumption) ?_
          (try simp only [Act.put, List.setIfInBounds_toArray, List.set_cons_zero, List.set_cons_succ])
          refine wpAnyH_take (i := 11) (v := undef) rfl (by kernel_rfl) (by kernel_rfl) (by kernel_rfl) (fun _ _ _ h => h) (Or.inr ⟨by kernel_rfl, rfl⟩) (by assumption) ?_
          (try simp only [Act.put, List.setIfInBounds_toArray, List.set_cons_zero, List.set_cons_succ])
          refine wpAnyH_take (i := 12) (v := undef) rfl (by kernel_rfl) (by kernel_rfl) (by kernel_rfl) (fun _ _ _ h => h) (Or.inr ⟨by kernel_rfl, rfl⟩) (by assumption) ?_
          (try simp only [Act.put, List.setIfInBounds_toArray, List.set_cons_zero, List.set_cons_succ])
          refine wpAnyH_take (i := 13) (v := (.bool false)) rfl (by kernel_rfl) (by kernel_rfl) (by kernel_rfl) (fun _ _ _ h => h) (Or.inl ⟨by rfl, ?_⟩) (by assumption) ?_
          · intro w' hSw
            (try dsimp only at hSw)
            go_simp <;> first | exact i64_in (by omega) (by omega) | exact u32_in (by omega) (by omega) | exact u32_add _ _ | (rw [Int.tmod_eq_emod_of_nonneg (by omega)]; omega) | (rw [Int.tdiv_eq_ediv_of_nonneg (by omega)]; omega) | omega
          (try simp only [Act.put, List.setIfInBounds_toArray, List.set_cons_zero, List.set_cons_succ])
          refine wpAnyH_done (by kernel_rfl) ?_ _
          clear hHeld
          go_simp
          go_wp2_with fail
          go_meet
          case rel => exact ⟨by rw [EV.out], rfl⟩
        · have EV : Hid ((!RB) = (Op.bytesLess nm.toList pn.toList || nm.toList == pn.toList)) := by show _ = _; rw [HRI.out, decide_eq_false hk0]; simp
          have hsub : IntKind.i64.wrap ((k : Int) - 1) = ((k - 1 : Nat) : Int) := by rw [IntKind.wrap_i64]; omega
          refine wp_region_held_drew (S := fun x => x.cell? ⟨wr.heap.size, 0, none⟩ = some (.string nm) ∧ x.cell? ⟨w.heap.size, 3, none⟩ = some (.slice (some ⟨b, o, none⟩) rs.length cap) ∧ x.cell? ⟨b, o + (k - 1) * 4, none⟩ = some (.string pn)) (by kernel_rfl) (SC.out _ (Below.refl _ W1).drew) (fun hHeld => ?_)
          refine wpAnyH_take (i := 0) (v := (.int .i64 (k : Int))) rfl (by kernel_rfl) (by kernel_rfl) (by kernel_rfl) (fun _ _ _ h => h) (Or.inl ⟨by rfl, ?_⟩) (by assumption) ?_
          · intro w' hSw
            (try dsimp only at hSw)
            go_simp <;> first | exact i64_in (by omega) (by omega) | exact u32_in (by omega) (by omega) | exact u32_add _ _ | (rw [Int.tmod_eq_emod_of_nonneg (by omega)]; omega) | (rw [Int.tdiv_eq_ediv_of_nonneg (by omega)]; omega) | omega
          (try simp only [Act.put, List.setIfInBounds_toArray, List.set_cons_zero, List.set_cons_succ])
          refine wpAnyH_take (i := 1) (v := (.bool true)) rfl (by kernel_rfl) (by kernel_rfl) (by kernel_rfl) (fun _ _ _ h => h) (Or.inl ⟨by rfl, ?_⟩) (by assumption) ?_
          · intro w' hSw
            (try dsimp only at hSw)
            (go_simp <;> omega)
          (try simp only [Act.put, List.setIfInBounds_toArray, List.set_cons_zero, List.set_cons_succ])
          refine wpAnyH_take (i := 2) (v := (.bool true)) rfl (by kernel_rfl) (by kernel_rfl) (by kernel_rfl) (fun _ _ _ h => h) (Or.inl ⟨by rfl, ?_⟩) (by assumption) ?_
          · intro w' hSw
            (try dsimp only at hSw)
            go_simp <;> first | exact i64_in (by omega) (by omega) | exact u32_in (by omega) (by omega) | exact u32_add _ _ | (rw [Int.tmod_eq_emod_of_nonneg (by omega)]; omega) | (rw [Int.tdiv_eq_ediv_of_nonneg (by omega)]; omega) | omega
          (try simp only [Act.put, List.setIfInBounds_toArray, List.set_cons_zero, List.set_cons_succ])
          refine wpAnyH_take (i := 3) (v := (.pointer (some ⟨wr.heap.size, 0, none⟩))) rfl (by kernel_rfl) (by kernel_rfl) (by kernel_rfl) (fun _ _ _ h => h) (Or.inl ⟨by kernel_rfl, ?_⟩) (by assumption) ?_
          · intro w' hSw
            (try dsimp only at hSw)
            go_simp
          (try simp only [Act.put, List.setIfInBounds_toArray, List.set_cons_zero, List.set_cons_succ])
          refine wpAnyH_take (i := 4) (v := (.string nm)) rfl (by kernel_rfl) (by kernel_rfl) (by kernel_rfl) (fun _ _ _ h => h) (Or.inl ⟨by kernel_rfl, ?_⟩) (by assumption) ?_
          · intro w' hSw
            (try dsimp only at hSw)
            (obtain ⟨u0, u1, u2⟩ := hSw; go_simp)
          (try simp only [Act.put, List.setIfInBounds_toArray, List.set_cons_zero, List.set_cons_succ])
          refine wpAnyH_take (i := 5) (v := (.pointer (some ⟨w.heap.size, 3, none⟩))) rfl (by kernel_rfl) (by kernel_rfl) (by kernel_rfl) (fun _ _ _ h => h) (Or.inl ⟨by kernel_rfl, ?_⟩) (by assumption) ?_
          · intro w' hSw
            (try dsimp only at hSw)
            go_simp
          (try simp only [Act.put, List.setIfInBounds_toArray, List.set_cons_zero, List.set_cons_succ])
          refine wpAnyH_take (i := 6) (v := (.slice (some ⟨b, o, none⟩) rs.length cap)) rfl (by kernel_rfl) (by kernel_rfl) (by kernel_rfl) (fun _ _ _ h => h) (Or.inl ⟨by kernel_rfl, ?_⟩) (by assumption) ?_
          · intro w' hSw
            (try dsimp only at hSw)
            (obtain ⟨u0, u1, u2⟩ := hSw; go_simp)
          (try simp only [Act.put, List.setIfInBounds_toArray, List.set_cons_zero, List.set_cons_succ])
          refine wpAnyH_take (i := 7) (v := (.int .i64 (k : Int))) rfl (by kernel_rfl) (by kernel_rfl) (by kernel_rfl) (fun _ _ _ h => h) (Or.inl ⟨by kernel_rfl, ?_⟩) (by assumption) ?_
          · intro w' hSw
            (try dsimp only at hSw)
            go_simp
          (try simp only [Act.put, List.setIfInBounds_toArray, List.set_cons_zero, List.set_cons_succ])
          refine wpAnyH_take (i := 8) (v := (.int .i64 (((k - 1 : Nat) : Int)))) rfl (by kernel_rfl) (by kernel_rfl) (by kernel_rfl) (fun _ _ _ h => h) (Or.inl ⟨by kernel_rfl, ?_⟩) (by assumption) ?_
          · intro w' hSw
            (try dsimp only at hSw)
            (go_simp <;> first | exact hsub | omega)
          (try simp only [Act.put, List.setIfInBounds_toArray, List.set_cons_zero, List.set_cons_succ])
          refine wpAnyH_take (i := 9) (v := (.pointer (some ⟨b, o + (k - 1) * 4, none⟩))) rfl (by kernel_rfl) (by kernel_rfl) (by kernel_rfl) (fun _ _ _ h => h) (Or.inl ⟨by kernel_rfl, ?_⟩) (by assumption) ?_
          · intro w' hSw
            (try dsimp only at hSw)
            (go_simp <;> omega)
          (try simp only [Act.put, List.setIfInBounds_toArray, List.set_cons_zero, List.set_cons_succ])
          refine wpAnyH_take (i := 10) (v := (.pointer (some ⟨b, o + (k - 1) * 4, none⟩))) rfl (by kernel_rfl) (by kernel_rfl) (by kernel_rfl) (fun _ _ _ h => h) (Or.inl ⟨by kernel_rfl, ?_⟩) (by assumption) ?_
          · intro w' hSw
            (try dsimp only at hSw)
            (go_simp <;> omega)
          (try simp only [Act.put, List.setIfInBounds_toArray, List.set_cons_zero, List.set_cons_succ])
          refine wpAnyH_take (i := 11) (v := (.string pn)) rfl (by kernel_rfl) (by kernel_rfl) (by kernel_rfl) (fun _ _ _ h => h) (Or.inl ⟨by kernel_rfl, ?_⟩) (by assumption) ?_
          · intro w' hSw
            (try dsimp only at hSw)
            (obtain ⟨u0, u1, u2⟩ := hSw; go_simp)
          (try simp only [Act.put, List.setIfInBounds_toArray, List.set_cons_zero, List.set_cons_succ])
          refine wpAnyH_take (i := 12) (v := (.bool (Op.bytesLess nm.toList pn.toList || nm.toList == pn.toList))) rfl (by kernel_rfl) (by kernel_rfl) (by kernel_rfl) (fun _ _ _ h => h) (Or.inl ⟨by kernel_rfl, ?_⟩) (by assumption) ?_
          · intro w' hSw
            (try dsimp only at hSw)
            go_simp
          (try simp only [Act.put, List.setIfInBounds_toArray, List.set_cons_zero, List.set_cons_succ])
          refine wpAnyH_take (i := 13) (v := (.bool (Op.bytesLess nm.toList pn.toList || nm.toList == pn.toList))) rfl (by kernel_rfl) (by kernel_rfl) (by kernel_rfl) (fun _ _ _ h => h) (Or.inl ⟨by rfl, ?_⟩) (by assumption) ?_
          · intro w' hSw
            (try dsimp only at hSw)
            go_simp <;> first | exact i64_in (by omega) (by omega) | exact u32_in (by omega) (by omega) | exact u32_add _ _ | (rw [Int.tmod_eq_emod_of_nonneg (by omega)]; omega) | (rw [Int.tdiv_eq_ediv_of_nonneg (by omega)]; omega) | omega
          (try simp only [Act.put, List.setIfInBounds_toArray, List.set_cons_zero, List.set_cons_succ])
          refine wpAnyH_done (by kernel_rfl) ?_ _
          clear hHeld
          go_simp
          go_wp2_with fail
          go_meet
          case rel => exact ⟨by rw [EV.out], rfl⟩
      case rest =>
        obtain ⟨rfl, rfl⟩ := hcut
        have f1 : W1.drew.cell? ⟨wr.heap.size, 1, none⟩ = some (.int .i64 sz) := e1
        have f2 : W1.drew.cell? ⟨wr.heap.size, 2, none⟩ = some (.int .i64 cr) := e2
        have B2 : Hid (Below W0.heap.size W0 W1.drew) := B1.out.drew
        clear e0 e1 e2 SC bw1 s1 B1 BR hp1 HRI d0 d1 d2 d3
        generalize W1.drew = Wd at *
        have hfl : wr.heap.size < Wd.heap.size := lt_of_cell? f1
        cases RB with
        | false =>
          have EE := hide (NO.out (by rw [Bool.and_false]))
          go_wp2_with fail
          go_ret
          exact ⟨ret_i (by rw [EE.out]), FIN.out _ B2.out⟩
        | true =>
          have YY := hide (YES.out (by rw [RT.out]; rfl))
          obtain ⟨SZ, rfl⟩ := Int.eq_ofNat_of_zero_le hk1.1
          obtain ⟨CR, rfl⟩ := Int.eq_ofNat_of_zero_le hk2.1
          have JN := hide (rjoin_ok (whlS (rs.take k)) CR SZ hwk.1 (by omega) (by omega) Wd (TP.out _ B2.out))
          have T1 : Hid ((totS (rs.take (k + 1)) : Int) = (totS (rs.take k) : Int) + (SZ : Int)) := by
            show _ = _
            rw [TS.out, totS_snoc]
            show ((totS (rs.take k) + ((SZ : Int)).toNat : Nat) : Int) = _
            rw [Int.toNat_natCast]; omega
          have T2 : Hid (whlS (rs.take (k + 1)) = stps (8 * SZ) (whlS (rs.take k)) ^^^ CR) := by
            show _ = _
            rw [TS.out, whlS_snoc]
            show stps (8 * ((SZ : Int)).toNat) _ ^^^ ((CR : Int)).toNat = _
            rw [Int.toNat_natCast, Int.toNat_natCast]
          have hkt : totS (rs.take k) ≤ 1100585369600 := by have : k * 1073741824 ≤ 1025 * 1073741824 := Nat.mul_le_mul_right _ (by omega); omega
          clear TS NO YES RT k1 k2 k3 k3' HE2
          generalize totS (rs.take k) = TT at *
          generalize whlS (rs.take k) = WW at *
          go_wp2_with fail
          refine Calls.mono JN.out ?_
          rintro x w5 ⟨rfl, b5⟩
          have B5 := hide (B2.out.trans (b5.mono B2.out.size))
          clear b5 f1 f2 JN
          go_wp2_with fail
          go_roundw
          case rel => exact ⟨k + 1, by omega, by go_num, by rw [T1.out], by rw [T2.out], YY.out, B5.out⟩
          case measure => simp [intOf]; omega
    · obtain rfl : k = rs.length := by omega
      have eT : rs.take rs.length = rs := List.take_length
      rw [eT]
      have BR := hide hnx
      have HA : Hid (rowsOk rs = true) := by
        show _ = _
        unfold rowsOk
        rw [List.all_eq_true]
        exact fun i hi => HALL.out i (List.mem_range.1 hi)
      have HE3 : Hid (E = if (decide ((totS rs : Int) = t4) && decide ((whlS rs : Int) = t5)) = true then 0 else 43) := by show _ = _; rw [HE2.out, HA.out]; rfl
      clear eT hnx HALL HE2 HA hlt hk
      generalize totS rs = TT at *
      generalize whlS rs = WW at *
      by_cases c1 : (TT : Int) = t4
      · by_cases c2 : (WW : Int) = t5
        · have EE : Hid (E = 0) := by show _ = _; rw [HE3.out, decide_eq_true c1, decide_eq_true c2]; rfl
          have x1 : ((TT : Int) != t4) = false := by rw [c1]; simp
          have x2 : ((WW : Int) != t5) = false := by rw [c2]; simp
          clear c1 c2 HE3
          go_wp2_with fail
          go_ret
          exact ⟨ret_i (by rw [EE.out]), FIN.out _ BR.out⟩
        · have EE : Hid (E = 43) := by show _ = _; rw [HE3.out, decide_eq_true c1, decide_eq_false c2]; rfl
          have x1 : ((TT : Int) != t4) = false := by rw [c1]; simp
          have x2 : ((WW : Int) != t5) = true := bne_iff_ne.2 c2
          clear c1 c2 HE3
          go_wp2_with fail
          go_ret
          exact ⟨ret_i (by rw [EE.out]), FIN.out _ BR.out⟩
      · have EE : Hid (E = 43) := by show _ = _; rw [HE3.out, decide_eq_false c1]; rfl
        have x1 : ((TT : Int) != t4) = true := bne_iff_ne.2 c1
        clear c1 HE3
        go_wp2_with fail
        go_ret
        exact ⟨ret_i (by rw [EE.out]), FIN.out _ BR.out⟩
end Go.Proofs.YtgdopepghmjopaaGreatDoor
namespace Go.Proofs.YtgdopepghmjopaaGreatDoor
open Go.RowKit Go.Shelf
set_option maxHeartbeats 1000000 in
set_option maxRecDepth 100000 in
/-- the document's hex -/
theorem rhex4_any (s : ByteArray) (w : World) (hs : s.size ≤ 1099511627776) :
    Calls Tryz.prog 21 #[.string s] w fun e w' => e = .returned (.string (strOf (hexL s.data.toList))) ∧ Below w.heap.size w w' := by
  obtain ⟨i0, hi, hz0, hz1, hz2⟩ := info_parts info5
  go_enter Tryz.func21, Tryz.ntmps21
  go_wp2
  go_loopw [3, 4] (fun v i wr => ∃ k : Nat, k ≤ s.size ∧ i = .int .i64 k ∧
      wr.ownsRow w.heap.size 5 1 v (2 * k) ((hexL (s.data.toList.take k)).map ub) ∧ Below w.heap.size w wr)
    (fun _ i _ => s.size - (intOf i).toNat)
  case atStart => exact ⟨0, Nat.zero_le _, rfl, World.ownsRow_nil _ _ _ _, Below.refl _ _⟩
  case round =>
    obtain ⟨k, hk, rfl, hown, hnx⟩ := hrel
    have hsize := hnx.size
    by_cases hlt : k < s.size
    · have hb : (s[k].toNat : Int) < 256 := by have := s[k].toNat_lt; omega
      have hb0 : (0 : Int) ≤ s[k].toNat := by omega
      have hxs : ∀ w', (Instr.index 9 (.string s) (.int .i64 (k : Int))).run Tryz.prog w' = .ok (.int .u8 (s[k].toNat : Int)) w' := fun w' => ix_str w' s k hlt
      have hX0 : s[k].toNat < 256 := s[k].toNat_lt
      generalize hX : s[k].toNat = X at *
      have HX := hide hX
      clear hX
      have hd1 : ∀ w', (Instr.index 9 (.string ⟨#[48, 49, 50, 51, 52, 53, 54, 55, 56, 57, 97, 98, 99, 100, 101, 102]⟩) (.int .i64 ((X : Int) / 16))).run Tryz.prog w' = .ok (.int .u8 ((hd (X / 16)).toNat : Int)) w' := fun w' => by
        have := ix_digs w' (X / 16) (by omega) .i64
        rwa [show ((X / 16 : Nat) : Int) = (X : Int) / 16 by omega] at this
      have hd2 : ∀ w', (Instr.index 9 (.string ⟨#[48, 49, 50, 51, 52, 53, 54, 55, 56, 57, 97, 98, 99, 100, 101, 102]⟩) (.int .i64 ((X : Int) % 16))).run Tryz.prog w' = .ok (.int .u8 ((hd (X % 16)).toNat : Int)) w' := fun w' => by
        have := ix_digs w' (X % 16) (by omega) .i64
        rwa [show ((X % 16 : Nat) : Int) = (X : Int) % 16 by omega] at this
      go_wp2_with (first
        | (at_builtin; refine wpList_append_own _ rfl (.tmp 11) (.tmp 18) 39 rfl w.heap.size 5 i0 (.int .u8 0) 1 1 Tryz.underlying39 hi hz0 hz1 hz2 rfl (by decide) _ _ _ rfl (hown.alloc _) ⟨wr.heap.size, 0, none⟩ 1 1 [.int .u8 (hd (X / 16)).toNat] rfl rfl (cell_one_new _ _ _) (one_of rfl) (by unfold maxLen; omega) (by omega) (by simp; omega) ?_; intro v1 w2 hown2 hgrow2 hnil2)
        | (at_builtin; refine wpList_append_own _ rfl (.tmp 20) (.tmp 27) 39 rfl w.heap.size 5 i0 (.int .u8 0) 1 1 Tryz.underlying39 hi hz0 hz1 hz2 rfl (by decide) _ _ _ rfl (hown2.alloc _) ⟨w2.heap.size, 0, none⟩ 1 1 [.int .u8 (hd (X % 16)).toNat] rfl rfl (cell_one_new _ _ _) (one_of rfl) (by unfold maxLen; omega) (by omega) (by have := hgrow2.size; simp at this ⊢; omega) ?_; intro v3 w3 hown3 hgrow3 hnil3))
      go_roundw
      case rel =>
        have h2 : Below w.heap.size w w2 := (hnx.alloc hsize _).grown hgrow2 (by simp; omega) (fun j hj => (hown.lt j hj).1)
        refine ⟨k + 1, by omega, by go_num, ?_, ?_⟩
        · have e1 : (hexL (s.data.toList.take (k + 1))).map ub = (hexL (s.data.toList.take k)).map ub ++ [.int .u8 (hd (X / 16)).toNat] ++ [.int .u8 (hd (X % 16)).toNat] := by
            rw [hexL_snoc _ k (by simpa using hlt), List.map_append]
            have : s.data.toList[k]'(by simpa using hlt) = s[k] := rfl
            rw [this, HX.out, List.append_assoc]
            rfl
          rw [e1, show 2 * (k + 1) = 2 * k + 1 + 1 by omega]
          exact hown3
        · exact (h2.alloc h2.size _).grown hgrow3 (by have := h2.size; simp; omega) (fun j hj => (hown2.lt j hj).1)
      case measure => simp [intOf]; omega
    · obtain rfl : k = s.size := by omega
      have hc := own_conv (P := Tryz.prog) (src := 39) (dst := 9) hown (by rw [hexL_len, List.length_take, size_data]; omega) Tryz.underlying39 Tryz.underlying5 Tryz.underlying9
      rw [List.take_of_length_le (by simp)] at hc
      go_wp2
      go_ret
      exact ⟨rfl, hnx⟩
end Go.Proofs.YtgdopepghmjopaaGreatDoor
namespace Go.Proofs.YtgdopepghmjopaaGreatDoor
open Go.RowKit Go.Shelf
end Go.Proofs.YtgdopepghmjopaaGreatDoor
namespace Go.Proofs.YtgdopepghmjopaaGreatDoor
open Go.RowKit Go.Shelf
end Go.Proofs.YtgdopepghmjopaaGreatDoor
namespace Go.Proofs.YtgdopepghmjopaaGreatDoor
open Go.RowKit Go.Shelf
def mN (n1 n2 n3 n4 n5 n6 n7 : Int) : Nat → Int
  | 1 => n1
  | 2 => n2
  | 3 => n3
  | 4 => n4
  | 5 => n5
  | 6 => n6
  | 7 => n7
  | _ => 0
theorem alloc_cell (w : World) (cs : Array Value) (t : TypeId) (i : Nat) (v : Value) (h : cs[i]? = some v) : (w.alloc (.cells cs t)).cell? ⟨w.heap.size, i, none⟩ = some v := by
  have q := rangeAt_new w cs.toList t i v (by rw [Array.getElem?_toList]; exact h)
  rw [Nat.zero_add] at q
  exact q
theorem ptrE_ok {c p e s : Int} (h : ptrOk c p e s = true) : ptrE c p e s = 0 := by unfold ptrE; rw [if_pos h]
theorem noteE_ok {c p e s : Int} (h : noteOk c p e s = true) : noteE c p e s = 0 := by unfold noteE; rw [if_pos h]
theorem metaE_ok {st : ByteArray} {n : Nat → Int} (h : metaOk st n = true) : metaE st n = 0 := by unfold metaE; rw [if_pos h]
end Go.Proofs.YtgdopepghmjopaaGreatDoor
namespace Go.Proofs.YtgdopepghmjopaaGreatDoor
open Go.RowKit Go.Shelf
end Go.Proofs.YtgdopepghmjopaaGreatDoor
