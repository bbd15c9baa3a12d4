import Derived.Test.YthihmgdefbahpaaPart12
namespace Go.Proofs.Ythihmgdefbahpaa
open Go.RowKit
theorem egC_bad {k : Int} {gs : List GR} {E : Int} (h : egE k gs = E) (hE : E ≠ 0) : Ending.returned (.tuple #[.agg #[.string ⟨#[]⟩, .string ⟨#[]⟩], .int .i64 E]) = .returned (.tuple #[egC k gs, .int .i64 (egE k gs)]) := by
  have hn : egE k gs ≠ 0 := by rw [h]; exact hE
  unfold egC egI egD
  rw [if_neg hn, if_neg hn, h]
theorem egC_ok {k : Int} {gs : List GR} (h : egE k gs = 0) : Ending.returned (.tuple #[.agg #[.string (strOf (encN gs gs.length)), .string (strOf (encD gs))], .int .i64 0]) = .returned (.tuple #[egC k gs, .int .i64 (egE k gs)]) := by
  unfold egC egI egD
  rw [if_pos h, if_pos h, h]
set_option maxHeartbeats 8000000 in
set_option maxRecDepth 100000 in
set_option linter.unusedSimpArgs false in
/-- the document's Encode, of any groups -/
theorem rencode_gen (k0 : Int) (v : Value) (gs : List GR) (w : World) (hg : GLies w v gs) (hlen : gs.length ≤ 1048576) (hps : ∀ g ∈ gs, g.2.length ≤ 1048576) (hD : (encD gs).length ≤ 4294967295) :
    Calls Try.prog 15 #[.int .i64 k0, v] w fun e w' => e = .returned (.tuple #[egC k0 gs, .int .i64 (egE k0 gs)]) ∧ Below w.heap.size w w' := by
  obtain ⟨W0, hW0⟩ : ∃ W0, W0 = w.alloc (.cells #[.string ⟨#[]⟩, .string ⟨#[]⟩] 23) := ⟨_, rfl⟩
  have s0 : W0.heap.size = w.heap.size + 1 := by rw [hW0]; simp
  have b0w : Below w.heap.size w W0 := by rw [hW0]; exact (Below.refl _ w).alloc (Nat.le_refl _) _
  have HB0 := hide b0w
  have KCA : Hid (∀ w', Below W0.heap.size W0 w' → w'.cell? ⟨w.heap.size, 0, none⟩ = some (.string ⟨#[]⟩) ∧ w'.cell? ⟨w.heap.size, 1, none⟩ = some (.string ⟨#[]⟩) ∧ w'.frozen? ⟨w.heap.size, 0, none⟩ = false ∧ w'.frozen? ⟨w.heap.size, 1, none⟩ = false) := fun w' hb => by
    rw [hb.cell (by rw [s0]; exact Nat.lt_succ_self _), hb.cell (by rw [s0]; exact Nat.lt_succ_self _), hb.frozen (by rw [s0]; exact Nat.lt_succ_self _), hb.frozen (by rw [s0]; exact Nat.lt_succ_self _), hW0]
    exact ⟨by simp, by simp, by simp, by simp⟩
  clear b0w
  by_cases hk0 : 1 ≤ k0 ∧ k0 ≤ 16
  · obtain ⟨k, rfl⟩ : ∃ k : Nat, k0 = (k : Int) := ⟨k0.toNat, by omega⟩
    obtain ⟨qs, ao, g, off, cap, hql, rfl, h3, h4, h5, h6⟩ := hg
    have HK := hide hk0
    have HL := hide h5
    have H6 := hide h6
    have HPS := hide hps
    have hk : 1 ≤ k ∧ k ≤ 16 := by omega
    rw [hql] at h3 h4 ⊢
    clear h5 h6 hps hk0
    go_enter Try.func15, Try.ntmps15
    go_wp2_with fail
    rw [← hW0]
    go_loopw [6, 7, 8] (fun vi vd i wr => ∃ j : Nat, j ≤ gs.length ∧ i = .int .i64 (j : Int) ∧ (encN gs j).length = j * (k + 4) ∧ (∀ t, t < j → gBad (k : Int) gs t = 0) ∧ wr.ownsRow W0.heap.size 5 1 vi (encN gs j).length ((encN gs j).map ub) ∧ wr.ownsRow W0.heap.size 5 1 vd (encD (gs.take j)).length ((encD (gs.take j)).map ub) ∧ Apart vd vi ∧ Below W0.heap.size W0 wr)
      (fun _ _ i _ => gs.length - (intOf i).toNat)
    case atStart => exact ⟨0, by omega, rfl, by simp [encN], fun t ht => by omega, World.ownsRow_nil _ _ _ _, World.ownsRow_nil _ _ _ _, .inl rfl, Below.refl _ _⟩
    case round =>
      obtain ⟨j, hj, rfl, hln, hno, hoi, hod, hap, hnx⟩ := hrel
      have hsz := hnx.size
      have hlD := encD_le gs j
      have hlnb : (encN gs j).length ≤ 20971520 := by
        rw [hln]
        exact Nat.mul_le_mul (show j ≤ 1048576 by omega) (show k + 4 ≤ 20 by omega)
      have HLN := hide hln
      have HNO := hide hno
      have HOI := hide hoi
      have HOD := hide hod
      have HAP := hide hap
      have HNX := hide hnx
      obtain ⟨ad, cd, rfl⟩ := own_shape hod
      have bw : Below w.heap.size w wr := HB0.out.trans (hnx.mono (by omega))
      have BW := hide bw
      clear hln hno hoi hod hap
      by_cases hlt : j < gs.length
      · have hjq : j < qs.length := by omega
        obtain rfl := h3 (by omega)
        have lt0 := h4 (by omega)
        have hliw := HL.out.below lt0 bw
        obtain ⟨c0, c1⟩ := hliw j hjq
        obtain ⟨e1, e2⟩ := H6.out j hlt hjq
        obtain ⟨pb, po, y1, y2, y3, y4⟩ := e2.below bw
        have hpl := HPS.out gs[j] (List.getElem_mem hlt)
        have RC := hide (fun w' (hb : Below wr.heap.size wr w') => rrecord_any qs[j].2.1 pb po qs[j].2.2.2 gs[j].2 w' y2 (fun z => Nat.lt_of_lt_of_le (y3 z) hb.size) (by omega) (fun i hi => y4.below (y3 (by omega)) hb i hi))
        rw [← y1] at RC
        rw [e1] at c0
        have HPREV : Hid (∀ i, j = i + 1 → wr.cell? ⟨g, off + i * 2, none⟩ = some (.string (gs.getD (j - 1) default).1)) := fun i hi => by
          obtain ⟨z0, _⟩ := hliw i (by omega)
          rw [z0, (H6.out i (by omega) (by omega)).1, gr_at (by omega : j - 1 < gs.length)]
          subst hi
          rfl
        have HED := hide (encD_take gs j hlt)
        have HEN := hide (encN_step gs j hlt)
        have hrl := recL_len gs[j].2
        have hle2 := encD_le gs (j + 1)
        rw [HED.out, List.length_append] at hle2
        have rt1 : Hid ((strOf (recL gs[j].2)).data.toList = recL gs[j].2) := rfl
        have rt2 : (strOf (recL gs[j].2)).size = (recL gs[j].2).length := strOf_size _
        have RB := hide (fun h => egC_bad (eg_bad (i := j) HK.out hlt HNO.out h).1 h)
        have HHb := hide (gBad_hash (k := (k : Int)) hlt)
        have HU := hide (gBad_up (k := (k : Int)) hlt)
        have HC := hide (gBad_rec (k := (k : Int)) hlt)
        have HFI := hide (fun (h : errL (gs[j]'hlt).2 = 0) => (fine h).2.2.1)
        have HRS := hide (fun (h : errL (gs[j]'hlt).2 = 0) => recS_ok h)
        have NGP : Hid (gBad (k : Int) gs j = 0 → ∀ t, t < j + 1 → gBad (k : Int) gs t = 0) := fun h t ht => by
          rcases Nat.lt_or_ge t j with q | q
          · exact HNO.out t q
          · obtain rfl : t = j := by omega
            exact h
        have hji : (j : Int) < (gs.length : Int) := by omega
        clear hnx hliw y1 y2 y3 y4 e1 e2 hpl bw HPS
        generalize gs[j].1 = H at *
        generalize (gs.getD (j - 1) default).1 = HP at *
        generalize qs[j].2 = SQ at *
        generalize recS gs[j].2 = RS at *
        generalize strOf (recL gs[j].2) = RT at *
        generalize recL gs[j].2 = RL at *
        generalize sizeL gs[j].2 = SZ at *
        generalize errL gs[j].2 = ERR at *
        generalize gBad (k : Int) gs j = GB at *
        obtain ⟨WA, hWA⟩ : ∃ WA, WA = wr.alloc (.cells #[.string H, .slice SQ.1 SQ.2.1 SQ.2.2] 49) := ⟨_, rfl⟩
        have sA : WA.heap.size = wr.heap.size + 1 := by rw [hWA]; simp
        have bA : Below wr.heap.size wr WA := by rw [hWA]; exact (Below.refl _ wr).alloc (Nat.le_refl _) _
        have p0 : WA.cell? ⟨wr.heap.size, 0, none⟩ = some (.string H) := by rw [hWA]; simp
        have p1 : WA.cell? ⟨wr.heap.size, 1, none⟩ = some (.slice SQ.1 SQ.2.1 SQ.2.2) := by rw [hWA]; simp
        have BA := hide bA
        have NA := hide (HNX.out.trans (bA.mono hsz))
        have NBA := hide (HB0.out.trans ((HNX.out.trans (bA.mono hsz)).mono (by omega)))
        have D4 := hide (fun w' => digits_any (encD (gs.take j)).length 4 (by omega) (by omega) w')
        have z4 : (strOf (dig 4 (encD (gs.take j)).length)).size = 4 := by rw [strOf_size, dig_len]
        have d4 : Hid ((strOf (dig 4 (encD (gs.take j)).length)).data.toList = dig 4 (encD (gs.take j)).length) := rfl
        generalize strOf (dig 4 (encD (gs.take j)).length) = E4 at *
        have HKEY : Hid (∀ nq, ∀ w2, Below (WA.drewN nq).heap.size (WA.drewN nq) w2 → Below wr.heap.size wr w2 ∧ w2.cell? ⟨wr.heap.size, 0, none⟩ = some (.string H)) := fun nq w2 hb => by
          have hb' : Below WA.heap.size WA w2 := (below_drewN (Below.refl _ WA) nq).trans hb
          exact ⟨BA.out.trans (hb'.mono (by omega)), (hb'.cell (by rw [sA]; exact Nat.lt_succ_self _)).trans p0⟩
        clear bA
        by_cases hz2 : (H.size : Int) = (k : Int)
        · have hz : H.size = k := by omega
          have hne : ((H.size : Int) != (k : Int)) = false := by rw [hz]; simp
          by_cases hj0 : j = 0
          · subst hj0
            rw [Nat.zero_mul, Nat.add_zero] at c0 c1
            have hgj := HC.out hz2 (fun q => q.1 rfl)
            by_cases hERR0 : ERR = 0
            · have NG : Hid (∀ t, t < 1 → gBad (k : Int) gs t = 0) := NGP.out (hgj.trans hERR0)
              have hfz := HFI.out hERR0
              rw [hERR0, HRS.out hERR0] at RC
              clear hERR0 hgj
              go_wp2_with fail
              rw [← hWA]
              clear hWA
              go_quiet (fail)
              go_wp2_with fail
              refine Calls.mono (RC.out _ (below_drewN BA.out _)) ?_
              rintro e w2 ⟨rfl, hb2⟩
              obtain ⟨B2, c20⟩ := HKEY.out _ w2 hb2
              have s2 := B2.size
              have N2 := hide (HNX.out.trans (B2.mono hsz))
              have OI2 := hide (own_below HOI.out B2)
              have OD2 := hide (own_below HOD.out B2)
              have s02 : W0.heap.size ≤ w2.heap.size := Nat.le_trans hsz s2
              clear hb2 B2
              go_wp2_with (at_builtin; refine wpList_appAny rfl _ _ rfl W0.heap.size _ _ _ H rfl rfl OI2.out (by omega) s02 ?_; intro v3 w3 o3 G3; have s3 := G3.size; have s03 := Nat.le_trans s02 s3; have O3 := hide o3; have AD3 := hide (HAP.out.grew OD2.out G3); have N3 := hide (N2.out.trans (G3.below s02 (fun t ht => (OI2.out.lt t ht).1))); clear o3 G3)
              refine Calls.mono (D4.out _) ?_
              rintro e w4 ⟨rfl, hb4⟩
              have s4 := hb4.size
              have s04 := Nat.le_trans s03 s4
              have O4 := hide (own_below O3.out hb4)
              have OD4 := hide (own_below AD3.out.2 hb4)
              have N4 := hide (N3.out.trans (hb4.mono s03))
              clear hb4
              go_wp2_with (first
                | (at_builtin; refine wpList_appAny rfl _ _ rfl W0.heap.size _ _ _ RT rfl rfl AD5.out.2 (by omega) s05 ?_; intro v6 w6 o6 G6; have O6 := hide o6; have AD6 := hide (AD5.out.1.symm.grew O5.out G6); have N6 := hide (N5.out.trans (G6.below s05 (fun t ht => (AD5.out.2.lt t ht).1))); clear o6 G6)
                | (at_builtin; refine wpList_appAny rfl _ _ rfl W0.heap.size _ _ _ E4 rfl rfl O4.out (by omega) s04 ?_; intro v5 w5 o5 G5; have s5 := G5.size; have s05 := Nat.le_trans s04 s5; have O5 := hide o5; have AD5 := hide (AD3.out.1.grew OD4.out G5); have N5 := hide (N4.out.trans (G5.below s04 (fun t ht => (O4.out.lt t ht).1))); clear o5 G5))
              go_roundw
              case rel =>
                refine ⟨1, by omega, by go_num, ?_, NG.out, ?_, ?_, AD6.out.1.symm, N6.out⟩
                · rw [HEN.out]; simp only [List.length_append, dig_len, HLN.out, size_data]; rw [hz]; first | omega | (rw [Nat.add_mul]; omega)
                · have := AD6.out.2
                  rw [d4.out] at this
                  rw [HEN.out]
                  simp only [List.map_append, List.length_append, dig_len, size_data] at this ⊢
                  rw [z4] at this
                  exact this
                · have := O6.out
                  rw [rt1.out] at this
                  rw [HED.out]
                  simp only [List.map_append, List.length_append] at this ⊢
                  rw [rt2] at this
                  exact this
              case measure => simp [intOf]; omega
            · have RES := hide (RB.out (by rw [hgj]; exact hERR0))
              rw [hgj] at RES
              have hEb : (ERR == 0) = false := by simpa using hERR0
              have hEc : (ERR != 0) = true := by simpa using hERR0
              clear hgj
              go_wp2_with fail
              rw [← hWA]
              clear hWA
              go_quiet (fail)
              go_wp2_with fail
              refine Calls.mono (RC.out _ (below_drewN BA.out _)) ?_
              rintro e w2 ⟨rfl, hb2⟩
              obtain ⟨B2, c20⟩ := HKEY.out _ w2 hb2
              have N2 := hide (HNX.out.trans (B2.mono hsz))
              obtain ⟨kc0, kc1, kf0, kf1⟩ := KCA.out w2 N2.out
              have NB := hide (HB0.out.trans (N2.out.mono (by omega)))
              clear hb2 B2
              go_wp2_with fail
              refine bodyPost_ret (v := .tuple #[.agg #[.string ⟨#[]⟩, .string ⟨#[]⟩], .int .i64 ERR]) ?_ rfl ⟨RES.out, ?_⟩
              · rw [results_cell_tmp rfl]
                go_simp
              · exact (NB.out.setCell (Nat.le_refl _) _).setCell (Nat.le_refl _) _
          · obtain ⟨i, hi⟩ : ∃ i, j = i + 1 := ⟨j - 1, by omega⟩
            have cp := HPREV.out i hi
            have pA : WA.cell? ⟨g, off + i * 2, none⟩ = some (.string HP) := by rw [BA.out.cell (by exact Nat.lt_of_lt_of_le lt0 BW.out.size)]; exact cp
            have hk3 : decide (0 < j) = true := decide_eq_true (by omega)
            have hk4 : (j : Int) - 1 = (i : Int) := by omega
            have hi2 : (i : Int) < (gs.length : Int) := by omega
            have HI := hide hi
            have HJ0 := hide hj0
            clear hi cp hj0
            by_cases hup : H = HP ∨ lessS H HP = true
            · have hgj := HU.out hz2 ⟨HJ0.out, hup⟩
              have RES := hide (RB.out (by rw [hgj]; decide))
              rw [hgj] at RES
              have hle : (Op.bytesLess H.toList HP.toList || H.toList == HP.toList) = true := by
                rcases hup with e | e
                · rw [e]; simp
                · have e2 : Op.bytesLess H.toList HP.toList = true := e
                  rw [e2]; rfl
              clear hgj hup
              obtain ⟨kc0, kc1, kf0, kf1⟩ := KCA.out _ NA.out
              go_wp2_with fail
              rw [← hWA]
              clear hWA
              go_quiet (fail)
              go_wp2_with fail
              refine bodyPost_ret (v := .tuple #[.agg #[.string ⟨#[]⟩, .string ⟨#[]⟩], .int .i64 37]) ?_ rfl ⟨RES.out, ?_⟩
              · rw [results_cell_tmp rfl]
                go_simp
              · exact ((below_drewN NBA.out _).setCell (Nat.le_refl _) _).setCell (Nat.le_refl _) _
            · have hgj := HC.out hz2 (fun q => hup q.2)
              have hle : (Op.bytesLess H.toList HP.toList || H.toList == HP.toList) = false := by
                have a : (H.toList == HP.toList) = false := by rw [eq_beq]; exact decide_eq_false (fun e => hup (.inl e))
                have b : Op.bytesLess H.toList HP.toList = false := by
                  cases hc : Op.bytesLess H.toList HP.toList with
                  | false => rfl
                  | true => exact absurd (.inr hc) hup
                rw [a, b]; rfl
              clear hup
              by_cases hERR0 : ERR = 0
              · have NG : Hid (∀ t, t < (j + 1) → gBad (k : Int) gs t = 0) := NGP.out (hgj.trans hERR0)
                have hfz := HFI.out hERR0
                rw [hERR0, HRS.out hERR0] at RC
                clear hERR0 hgj
                go_wp2_with fail
                rw [← hWA]
                clear hWA
                go_quiet (fail)
                go_wp2_with fail
                refine Calls.mono (RC.out _ (below_drewN BA.out _)) ?_
                rintro e w2 ⟨rfl, hb2⟩
                obtain ⟨B2, c20⟩ := HKEY.out _ w2 hb2
                have s2 := B2.size
                have N2 := hide (HNX.out.trans (B2.mono hsz))
                have OI2 := hide (own_below HOI.out B2)
                have OD2 := hide (own_below HOD.out B2)
                have s02 : W0.heap.size ≤ w2.heap.size := Nat.le_trans hsz s2
                clear hb2 B2
                go_wp2_with (at_builtin; refine wpList_appAny rfl _ _ rfl W0.heap.size _ _ _ H rfl rfl OI2.out (by omega) s02 ?_; intro v3 w3 o3 G3; have s3 := G3.size; have s03 := Nat.le_trans s02 s3; have O3 := hide o3; have AD3 := hide (HAP.out.grew OD2.out G3); have N3 := hide (N2.out.trans (G3.below s02 (fun t ht => (OI2.out.lt t ht).1))); clear o3 G3)
                refine Calls.mono (D4.out _) ?_
                rintro e w4 ⟨rfl, hb4⟩
                have s4 := hb4.size
                have s04 := Nat.le_trans s03 s4
                have O4 := hide (own_below O3.out hb4)
                have OD4 := hide (own_below AD3.out.2 hb4)
                have N4 := hide (N3.out.trans (hb4.mono s03))
                clear hb4
                go_wp2_with (first
                  | (at_builtin; refine wpList_appAny rfl _ _ rfl W0.heap.size _ _ _ RT rfl rfl AD5.out.2 (by omega) s05 ?_; intro v6 w6 o6 G6; have O6 := hide o6; have AD6 := hide (AD5.out.1.symm.grew O5.out G6); have N6 := hide (N5.out.trans (G6.below s05 (fun t ht => (AD5.out.2.lt t ht).1))); clear o6 G6)
                  | (at_builtin; refine wpList_appAny rfl _ _ rfl W0.heap.size _ _ _ E4 rfl rfl O4.out (by omega) s04 ?_; intro v5 w5 o5 G5; have s5 := G5.size; have s05 := Nat.le_trans s04 s5; have O5 := hide o5; have AD5 := hide (AD3.out.1.grew OD4.out G5); have N5 := hide (N4.out.trans (G5.below s04 (fun t ht => (O4.out.lt t ht).1))); clear o5 G5))
                go_roundw
                case rel =>
                  refine ⟨(j + 1), by omega, by go_num, ?_, NG.out, ?_, ?_, AD6.out.1.symm, N6.out⟩
                  · rw [HEN.out]; simp only [List.length_append, dig_len, HLN.out, size_data]; rw [hz]; first | omega | (rw [Nat.add_mul]; omega)
                  · have := AD6.out.2
                    rw [d4.out] at this
                    rw [HEN.out]
                    simp only [List.map_append, List.length_append, dig_len, size_data] at this ⊢
                    rw [z4] at this
                    exact this
                  · have := O6.out
                    rw [rt1.out] at this
                    rw [HED.out]
                    simp only [List.map_append, List.length_append] at this ⊢
                    rw [rt2] at this
                    exact this
                case measure => simp [intOf]; omega
              · have RES := hide (RB.out (by rw [hgj]; exact hERR0))
                rw [hgj] at RES
                have hEb : (ERR == 0) = false := by simpa using hERR0
                have hEc : (ERR != 0) = true := by simpa using hERR0
                clear hgj
                go_wp2_with fail
                rw [← hWA]
                clear hWA
                go_quiet (fail)
                go_wp2_with fail
                refine Calls.mono (RC.out _ (below_drewN BA.out _)) ?_
                rintro e w2 ⟨rfl, hb2⟩
                obtain ⟨B2, c20⟩ := HKEY.out _ w2 hb2
                have N2 := hide (HNX.out.trans (B2.mono hsz))
                obtain ⟨kc0, kc1, kf0, kf1⟩ := KCA.out w2 N2.out
                have NB := hide (HB0.out.trans (N2.out.mono (by omega)))
                clear hb2 B2
                go_wp2_with fail
                refine bodyPost_ret (v := .tuple #[.agg #[.string ⟨#[]⟩, .string ⟨#[]⟩], .int .i64 ERR]) ?_ rfl ⟨RES.out, ?_⟩
                · rw [results_cell_tmp rfl]
                  go_simp
                · exact (NB.out.setCell (Nat.le_refl _) _).setCell (Nat.le_refl _) _
        · have hgj := HHb.out hz2
          have RES := hide (RB.out (by rw [hgj]; decide))
          rw [hgj] at RES
          have hne : ((H.size : Int) != (k : Int)) = true := by simpa using hz2
          have hne2 : ((H.size : Int) == (k : Int)) = false := by simpa using hz2
          obtain ⟨kc0, kc1, kf0, kf1⟩ := KCA.out _ NA.out
          rw [hWA] at kc0 kc1 kf0 kf1 NBA
          clear hgj
          go_wp2_with fail
          refine bodyPost_ret (v := .tuple #[.agg #[.string ⟨#[]⟩, .string ⟨#[]⟩], .int .i64 34]) ?_ rfl ⟨RES.out, ?_⟩
          · rw [results_cell_tmp rfl]
            go_simp
          · exact (NBA.out.setCell (Nat.le_refl _) _).setCell (Nat.le_refl _) _
      · obtain rfl : j = gs.length := by omega
        obtain ⟨kc0, kc1, kf0, kf1⟩ := KCA.out _ hnx
        rw [List.take_length] at HOD hlD
        have hci := own_conv (P := Try.prog) (src := 76) (dst := 9) (l := encN gs gs.length) HOI.out rfl Try.underlying76 Try.underlying5 Try.underlying9
        have hcd := own_conv (P := Try.prog) (src := 76) (dst := 9) (l := encD gs) HOD.out rfl Try.underlying76 Try.underlying5 Try.underlying9
        rw [List.take_length]
        clear hnx bw
        by_cases hbig : 65536 < (encD gs).length
        · have hbi : (65536 : Int) < ((encD gs).length : Int) := by omega
          have RES := hide (egC_bad (eg_big HK.out HNO.out hbig).1 (by decide))
          clear hci hcd
          go_wp2_with fail
          refine bodyPost_ret (v := .tuple #[.agg #[.string ⟨#[]⟩, .string ⟨#[]⟩], .int .i64 3]) ?_ rfl ⟨RES.out, ?_⟩
          · rw [results_cell_tmp rfl]
            go_simp
          · exact (BW.out.setCell (Nat.le_refl _) _).setCell (Nat.le_refl _) _
        · have hbi : ((encD gs).length : Int) ≤ 65536 := by omega
          have RES := hide (egC_ok (eg_ok HK.out HNO.out hbig).1)
          go_wp2_with fail
          refine bodyPost_ret (v := .tuple #[.agg #[.string (strOf (encN gs gs.length)), .string (strOf (encD gs))], .int .i64 0]) ?_ rfl ⟨RES.out, ?_⟩
          · rw [results_cell_tmp rfl]
            go_simp
          · exact (BW.out.setCell (Nat.le_refl _) _).setCell (Nat.le_refl _) _
  · have RES := hide (egC_bad (eg_width (gs := gs) hk0).1 (by decide))
    obtain ⟨kc0, kc1, kf0, kf1⟩ := KCA.out _ (Below.refl _ W0)
    by_cases h1 : k0 < 1
    · clear hk0
      go_enter Try.func15, Try.ntmps15
      go_wp2_with fail
      rw [← hW0]
      refine bodyPost_ret (v := .tuple #[.agg #[.string ⟨#[]⟩, .string ⟨#[]⟩], .int .i64 30]) ?_ rfl ⟨RES.out, ?_⟩
      · rw [results_cell_tmp rfl]
        go_simp
      · first | exact HB0.out | exact (HB0.out.setCell (by simp) _).setCell (by simp) _
    · have h2 : 16 < k0 := by omega
      clear hk0
      go_enter Try.func15, Try.ntmps15
      go_wp2_with fail
      rw [← hW0]
      refine bodyPost_ret (v := .tuple #[.agg #[.string ⟨#[]⟩, .string ⟨#[]⟩], .int .i64 30]) ?_ rfl ⟨RES.out, ?_⟩
      · rw [results_cell_tmp rfl]
        go_simp
      · first | exact HB0.out | exact (HB0.out.setCell (by simp) _).setCell (by simp) _
end Go.Proofs.Ythihmgdefbahpaa
