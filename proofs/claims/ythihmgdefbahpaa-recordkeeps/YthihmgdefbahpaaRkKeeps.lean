import Derived.Test.YthihmgdefbahpaaPart11
namespace Go.Proofs.Ythihmgdefbahpaa
open Go.RowKit
theorem up_rises {gs : List GR} (h : UpG gs) : Rises gs.length (fun t => (gs.getD t default).1) := by
  intro i hi
  simp only
  rw [gr_at (by omega : i < gs.length), gr_at hi]
  exact List.pairwise_iff_getElem.1 h i (i + 1) (by omega) hi (by omega)
set_option maxHeartbeats 4000000 in
set_option maxRecDepth 100000 in
set_option linter.unusedSimpArgs false in
/-- the law RecordKeeps -/
theorem keeps_any (m : Int) (v vq : Value) (ps qs : List PU) (w : World) (hp : PutsAt w v ps) (hlen : ps.length ≤ 9223372036854775807) (hq : PutsAt w vq qs) (hlenq : qs.length ≤ 9223372036854775807) :
    Calls Try.prog 7 #[.int .i64 m, v, vq] w fun e w' => e = .returned (.bool true) ∧ Below w.heap.size w w' := by
  obtain ⟨k, hk, hk1, hk2⟩ := btw_nat m
  have MK := hide (mkG_ok k ps)
  have hml := MK.out.len
  have EG := hide (MK.out.enc ⟨hk1, hk2⟩)
  have C1 := hide (made_any k v ps w hk2 hp hlen)
  have BT := hide (between_any m w)
  rw [hk] at BT
  obtain ⟨eI, eD, sI, sD⟩ := eg_shape EG.out
  obtain ⟨bk1, bk2⟩ := back EG.out
  have ER := hide (fun i (hi : i < (mkG k ps).length) => ((eg_inv EG.out).2.1 i hi).2.1)
  have HZ := hide (fun i (hi : i < (mkG k ps).length) => (MK.out.1.2 _ (List.getElem_mem hi)).1)
  have RI := hide (up_rises MK.out.up.1)
  have hdl := MK.out.2.1
  have eC : egC (k : Int) (mkG k ps) = .agg #[.string (egI (k : Int) (mkG k ps)), .string (egD (k : Int) (mkG k ps))] := rfl
  have CP := hide (fun lv w' (hg : GLies w' lv (mkG k ps)) => copied_any lv (mkG k ps) w' hg (fun g hg => List.length_pos_iff.2 (MK.out.1.2 g hg).2.1) (by omega) (fun g hg => Nat.le_trans (MK.out.pairs g hg) (by omega)))
  have CE := hide (fun cv w' (hg : GLies w' cv (mkG k ps)) => encode_any (k : Int) cv (mkG k ps) w' hg (by omega) (fun g hg => Nat.le_trans (MK.out.pairs g hg) (by omega)))
  rw [EG.out, eC] at CE
  have hdz : (egD (k : Int) (mkG k ps)).size ≤ 65536 := by rw [sD]; exact hdl
  have hiz : (egI (k : Int) (mkG k ps)).size ≤ 655360 := by
    rw [sI]
    have : (mkG k ps).length * (k + 4) ≤ 32768 * 20 := Nat.mul_le_mul hml (by omega)
    omega
  have CD := hide (fun w' => decode_any (k : Int) (egI (k : Int) (mkG k ps)) (egD (k : Int) (mkG k ps)) (by omega) (by omega) w')
  rw [bk1, bk2] at CD
  have SG := hide (fun v1 v2 b1 b2 w' (h1 : GroupsAt w' b1 v1 (mkG k ps)) (h2 : GroupsAt w' b2 v2 (mkG k ps)) => sameGroups_any v1 v2 b1 b2 (mkG k ps) w' h1 h2 (by omega) (fun g hg => Nat.le_trans (MK.out.pairs g hg) (by omega)))
  have LK : Hid (∀ h kk w', h.size = k → 1 ≤ kk.size ∧ kk.size ≤ 255 → Calls Try.prog 9 #[.int .i64 (k : Int), .agg #[.string (egI (k : Int) (mkG k ps)), .string (egD (k : Int) (mkG k ps))], .string h, .string kk] w' fun e w'' => e = .returned (.tuple #[.string ((lkV (mkG k ps) h kk).getD ⟨#[]⟩), .bool (lkV (mkG k ps) h kk).isSome, .int .i64 0]) ∧ Below w'.heap.size w' w'') := by
    intro h kk w' h1 h2
    have := lookup_any (k : Int) (egI (k : Int) (mkG k ps)) (egD (k : Int) (mkG k ps)) h kk (by omega) (by omega) (by omega) (by omega) w'
    rw [lk_ok (by unfold lkE; rw [if_pos bk1, if_pos (by omega), if_pos h2]), bk2] at this
    exact this
  have HO := hide (fun lv b h kk w' (hg : GroupsAt w' b lv (mkG k ps)) => holds_any lv b (mkG k ps) h kk w' hg RI.out (fun g hg => by obtain ⟨i, hi, rfl⟩ := List.getElem_of_mem hg; exact ER.out i hi) (by omega))
  have LS : Hid (∀ i (hi : i < (mkG k ps).length) (PS : List KV) (X : ByteArray), PS = (mkG k ps)[i].2 → X = (mkG k ps)[i].1 → ∀ j (hj : j < PS.length), lkV (mkG k ps) X PS[j].1 = some PS[j].2) := by
    intro i hi PS X e1 e2 j hj
    subst e1 e2
    rw [lk_some RI.out hi rfl, pf_first (keys_rise (ER.out i hi)) hj rfl]; rfl
  have KZ : Hid (∀ i (hi : i < (mkG k ps).length) (PS : List KV), PS = (mkG k ps)[i].2 → ∀ j (hj : j < PS.length), 1 ≤ PS[j].1.size ∧ PS[j].1.size ≤ 255 ∧ PS[j].2.size ≤ 4096) := by
    intro i hi PS e1 j hj
    subst e1
    exact (MK.out.1.2 _ (List.getElem_mem hi)).2.2.2 _ (List.getElem_mem hj)
  clear eI eD eC sI sD hdl bk1 bk2
  generalize egI (k : Int) (mkG k ps) = I at *
  generalize egD (k : Int) (mkG k ps) = D at *
  generalize mkG k ps = gs at *
  obtain ⟨aq, bq, oq, cq, rfl, y1, y2, y3⟩ := hq
  have Y3 := hide y3
  clear y3
  go_enter Try.func7, Try.ntmps7
  go_wp2_with fail
  refine Calls.mono BT.out ?_
  rintro e wx ⟨rfl, rfl⟩
  go_wp2_with fail
  refine Calls.mono C1.out ?_
  rintro e w1 ⟨lv, rfl, g1, b1⟩
  have B1 := hide b1
  have G1 := hide (g1.groups (Nat.le_refl _) (Nat.le_refl _))
  clear b1 g1 C1 hp
  obtain ⟨ao, g, cap, rfl, h1, h2, h3⟩ := G1.out.split
  have H3 := hide h3
  clear h3
  go_wp2_with fail
  refine Calls.mono (CP.out _ _ G1.out.lies) ?_
  rintro e w2 ⟨cv, rfl, g2, b2⟩
  have B2 := hide b2
  have G2 := hide (g2.groups (Nat.le_refl _) (Nat.le_refl _)).lies
  clear b2 g2
  go_wp2_with fail
  refine Calls.mono (CE.out _ _ G2.out) ?_
  rintro e w3 ⟨rfl, b3⟩
  have B3 := hide (B2.out.trans (b3.mono B2.out.size))
  have hs3 := B3.out.size
  clear b3
  go_wp2_with fail
  obtain ⟨W0, hW0⟩ : ∃ W0, W0 = w3.alloc (.cells #[.string I, .string D] 23) := ⟨_, rfl⟩
  have s0 : W0.heap.size = w3.heap.size + 1 := by rw [hW0]; simp
  have KC : Hid (∀ w', Below W0.heap.size W0 w' → w'.cell? ⟨w3.heap.size, 0, none⟩ = some (.string I) ∧ w'.cell? ⟨w3.heap.size, 1, none⟩ = some (.string D)) := fun w' hw => by
    rw [hw.cell (by rw [s0]; exact Nat.lt_succ_self _), hw.cell (by rw [s0]; exact Nat.lt_succ_self _), hW0]; exact ⟨by simp, by simp⟩
  have b0 : Below w1.heap.size w1 W0 := by rw [hW0]; exact B3.out.alloc hs3 _
  have BW : Hid (∀ w', Below W0.heap.size W0 w' → Below w1.heap.size w1 w') := fun w' hw => b0.trans (hw.mono b0.size)
  have FIN : Hid (∀ w', Below W0.heap.size W0 w' → Below w.heap.size w w') := fun w' hw => B1.out.trans ((b0.trans (hw.mono b0.size)).mono B1.out.size)
  have GL : Hid (∀ w', Below W0.heap.size W0 w' → GroupsAt w' w.heap.size (.slice ao gs.length cap) gs) := fun w' hw => G1.out.below (b0.trans (hw.mono b0.size))
  rw [← hW0]
  refine Calls.mono (num_any _ _) ?_
  rintro e wx ⟨rfl, rfl⟩
  obtain ⟨kc0, kc1⟩ := KC.out W0 (Below.refl _ _)
  clear hW0 b0 s0 hs3 B3 B2 B1 CP CE G2 G1
  go_wp2_with fail
  refine Calls.mono (CD.out _) ?_
  rintro e w4 ⟨bv, rfl, g4, b4⟩
  have B4 := hide b4
  have SG4 := hide (SG.out _ _ _ _ w4 g4 (GL.out _ b4))
  clear b4 g4
  go_wp2_with fail
  refine Calls.mono (num_any _ _) ?_
  rintro e wx ⟨rfl, rfl⟩
  go_wp2_with fail
  refine Calls.mono SG4.out ?_
  rintro e w5 ⟨rfl, b5⟩
  have B5 := hide (B4.out.trans (b5.mono B4.out.size))
  clear b5 SG4 B4
  go_wp2_with fail
  go_loopw [13] (fun i wr => ∃ j : Nat, j ≤ gs.length ∧ i = .int .i64 j ∧ Below W0.heap.size W0 wr) (fun i _ => gs.length - (intOf i).toNat)
  case atStart => exact ⟨0, Nat.zero_le _, rfl, B5.out⟩
  case round =>
    obtain ⟨i, hi, rfl, hnx⟩ := hrel
    have HNX := hide hnx
    obtain ⟨kd0, kd1⟩ := KC.out wr hnx
    clear hnx kc0 kc1
    by_cases hlt : i < gs.length
    · obtain rfl := h1 (by omega)
      have t1 := h2 (by omega)
      obtain ⟨p1, d1, d2, d3⟩ := H3.out i hlt
      obtain ⟨q1, r1, u1, rfl, x11, x12, x13⟩ := own_pairs d3
      have hxz := HZ.out i hlt
      obtain ⟨fl, fp, fz, fs⟩ := fine (ER.out i hlt)
      obtain ⟨PS, hPS⟩ : ∃ PS, PS = gs[i].2 := ⟨_, rfl⟩
      obtain ⟨X, hX⟩ : ∃ X, X = gs[i].1 := ⟨_, rfl⟩
      have LS2 := hide (LS.out i hlt PS X hPS hX)
      have KZ2 := hide (KZ.out i hlt PS hPS)
      rw [← hPS] at d2 d3 x11 x12 x13 fl fp
      rw [← hX] at d1 hxz
      have hx12 := x12 fp
      have hx11 := x11 fp
      subst hx11
      have HD : Hid (∀ w', Below W0.heap.size W0 w' → w'.cell? ⟨g, i * 2, none⟩ = some (.string X) ∧ w'.cell? ⟨g, i * 2 + 1, none⟩ = some (.slice (some ⟨r1, 0, none⟩) PS.length u1) ∧ LiesP r1 0 w' PS) := fun w' hw => by
        have hw := BW.out w' hw
        rw [hw.cell (by exact t1), hw.cell (by exact t1)]
        exact ⟨d1, d2, x13.below hx12 hw⟩
      have hii : (i : Int) < (gs.length : Int) := by omega
      clear hPS hX fs fz d1 d2 d3 x11 x12 x13
      go_wp2_with fail
      go_loopw [14] (fun jv wr => ∃ j : Nat, j ≤ PS.length ∧ jv = .int .i64 j ∧ Below W0.heap.size W0 wr) (fun jv _ => PS.length - (intOf jv).toNat)
      case atStart => exact ⟨0, Nat.zero_le _, rfl, HNX.out⟩
      case round =>
        obtain ⟨j, hj, rfl, hnx2⟩ := hrel
        have HN2 := hide hnx2
        obtain ⟨c0, c1, c2⟩ := HD.out wr hnx2
        obtain ⟨ke0, ke1⟩ := KC.out wr hnx2
        have C2 := hide c2
        clear hnx2 c2 kd0 kd1
        by_cases hjl : j < PS.length
        · have hji : (j : Int) < (PS.length : Int) := by omega
          obtain ⟨y0, y1'⟩ := C2.out j hjl
          rw [Nat.zero_add] at y0 y1'
          have ls := LS2.out j hjl
          have kz := KZ2.out j hjl
          have L1 := hide (fun w' => LK.out X PS[j].1 w' hxz ⟨kz.1, kz.2.1⟩)
          rw [ls] at L1
          simp only [Option.getD_some, Option.isSome_some] at L1
          have HR : Hid (∀ w', Below W0.heap.size W0 w' → w'.cell? ⟨r1, j * 2 + 1, none⟩ = some (.string PS[j].2)) := fun w' hw => by
            have := ((HD.out w' hw).2.2 j hjl).2
            rwa [Nat.zero_add] at this
          have HR0 : Hid (∀ w', Below W0.heap.size W0 w' → w'.cell? ⟨r1, j * 2, none⟩ = some (.string PS[j].1)) := fun w' hw => by
            have := ((HD.out w' hw).2.2 j hjl).1
            rwa [Nat.zero_add] at this
          clear ls kz
          generalize PS[j].1 = K1 at *
          generalize PS[j].2 = V1 at *
          have HS : Hid (∀ w', Below W0.heap.size W0 w' → w'.cell? ⟨w3.heap.size, 0, none⟩ = some (.string I) ∧ w'.cell? ⟨w3.heap.size, 1, none⟩ = some (.string D) ∧ w'.cell? ⟨g, i * 2, none⟩ = some (.string X) ∧ w'.cell? ⟨g, i * 2 + 1, none⟩ = some (.slice (some ⟨r1, 0, none⟩) PS.length u1) ∧ w'.cell? ⟨r1, j * 2, none⟩ = some (.string K1)) := fun w' hw => ⟨(KC.out w' hw).1, (KC.out w' hw).2, (HD.out w' hw).1, (HD.out w' hw).2.1, HR0.out w' hw⟩
          go_wp2_with fail
          refine wp_region_held_drew (S := fun w' => w'.cell? ⟨w3.heap.size, 0, none⟩ = some (.string I) ∧ w'.cell? ⟨w3.heap.size, 1, none⟩ = some (.string D) ∧ w'.cell? ⟨g, i * 2, none⟩ = some (.string X) ∧ w'.cell? ⟨g, i * 2 + 1, none⟩ = some (.slice (some ⟨r1, 0, none⟩) PS.length u1) ∧ w'.cell? ⟨r1, j * 2, none⟩ = some (.string K1)) (by kernel_rfl) (HS.out _ HN2.out.drew) (fun hHeld => ?_)
          refine wpAnyH_take (i := 0) (v := (.int .i64 (k : Int))) rfl (by kernel_rfl) (by kernel_rfl) (by kernel_rfl) (fun _ _ _ h => h) (Or.inl ⟨by rfl, ?_⟩) (by assumption) ?_
          · intro w' hSw
            (try dsimp only at hSw)
            go_simp <;> first | exact i64_in (by omega) (by omega) | exact u32_in (by omega) (by omega) | exact u32_add _ _ | (rw [Int.tmod_eq_emod_of_nonneg (by omega)]; omega) | (rw [Int.tdiv_eq_ediv_of_nonneg (by omega)]; omega) | omega
          (try simp only [Act.put, List.setIfInBounds_toArray, List.set_cons_zero, List.set_cons_succ])
          refine wpAnyH_take (i := 1) (v := (.agg #[.string I, .string D])) rfl (by kernel_rfl) (by kernel_rfl) (by kernel_rfl) (fun _ _ _ h => h) (Or.inl ⟨by rfl, ?_⟩) (by assumption) ?_
          · intro w' hSw
            (try dsimp only at hSw)
            (obtain ⟨hS1, hS2, hS3, hS4, hS5⟩ := hSw; go_simp)
          (try simp only [Act.put, List.setIfInBounds_toArray, List.set_cons_zero, List.set_cons_succ])
          refine wpAnyH_take (i := 2) (v := (.slice (some ⟨g, 0, none⟩) gs.length cap)) rfl (by kernel_rfl) (by kernel_rfl) (by kernel_rfl) (fun _ _ _ h => h) (Or.inl ⟨by rfl, ?_⟩) (by assumption) ?_
          · intro w' hSw
            (try dsimp only at hSw)
            go_simp <;> first | exact i64_in (by omega) (by omega) | exact u32_in (by omega) (by omega) | exact u32_add _ _ | (rw [Int.tmod_eq_emod_of_nonneg (by omega)]; omega) | (rw [Int.tdiv_eq_ediv_of_nonneg (by omega)]; omega) | omega
          (try simp only [Act.put, List.setIfInBounds_toArray, List.set_cons_zero, List.set_cons_succ])
          refine wpAnyH_take (i := 3) (v := (.int .i64 (i : Int))) rfl (by kernel_rfl) (by kernel_rfl) (by kernel_rfl) (fun _ _ _ h => h) (Or.inl ⟨by rfl, ?_⟩) (by assumption) ?_
          · intro w' hSw
            (try dsimp only at hSw)
            go_simp <;> first | exact i64_in (by omega) (by omega) | exact u32_in (by omega) (by omega) | exact u32_add _ _ | (rw [Int.tmod_eq_emod_of_nonneg (by omega)]; omega) | (rw [Int.tdiv_eq_ediv_of_nonneg (by omega)]; omega) | omega
          (try simp only [Act.put, List.setIfInBounds_toArray, List.set_cons_zero, List.set_cons_succ])
          refine wpAnyH_take (i := 4) (v := (.pointer (some ⟨g, i * 2, none⟩))) rfl (by kernel_rfl) (by kernel_rfl) (by kernel_rfl) (fun _ _ _ h => h) (Or.inl ⟨by rfl, ?_⟩) (by assumption) ?_
          · intro w' hSw
            (try dsimp only at hSw)
            go_simp <;> first | exact i64_in (by omega) (by omega) | exact u32_in (by omega) (by omega) | exact u32_add _ _ | (rw [Int.tmod_eq_emod_of_nonneg (by omega)]; omega) | (rw [Int.tdiv_eq_ediv_of_nonneg (by omega)]; omega) | omega
          (try simp only [Act.put, List.setIfInBounds_toArray, List.set_cons_zero, List.set_cons_succ])
          refine wpAnyH_take (i := 5) (v := (.pointer (some ⟨g, i * 2, none⟩))) rfl (by kernel_rfl) (by kernel_rfl) (by kernel_rfl) (fun _ _ _ h => h) (Or.inl ⟨by rfl, ?_⟩) (by assumption) ?_
          · intro w' hSw
            (try dsimp only at hSw)
            go_simp <;> first | exact i64_in (by omega) (by omega) | exact u32_in (by omega) (by omega) | exact u32_add _ _ | (rw [Int.tmod_eq_emod_of_nonneg (by omega)]; omega) | (rw [Int.tdiv_eq_ediv_of_nonneg (by omega)]; omega) | omega
          (try simp only [Act.put, List.setIfInBounds_toArray, List.set_cons_zero, List.set_cons_succ])
          refine wpAnyH_take (i := 6) (v := (.string X)) rfl (by kernel_rfl) (by kernel_rfl) (by kernel_rfl) (fun _ _ _ h => h) (Or.inl ⟨by rfl, ?_⟩) (by assumption) ?_
          · intro w' hSw
            (try dsimp only at hSw)
            (obtain ⟨hS1, hS2, hS3, hS4, hS5⟩ := hSw; go_simp)
          (try simp only [Act.put, List.setIfInBounds_toArray, List.set_cons_zero, List.set_cons_succ])
          refine wpAnyH_take (i := 7) (v := (.slice (some ⟨g, 0, none⟩) gs.length cap)) rfl (by kernel_rfl) (by kernel_rfl) (by kernel_rfl) (fun _ _ _ h => h) (Or.inl ⟨by rfl, ?_⟩) (by assumption) ?_
          · intro w' hSw
            (try dsimp only at hSw)
            go_simp <;> first | exact i64_in (by omega) (by omega) | exact u32_in (by omega) (by omega) | exact u32_add _ _ | (rw [Int.tmod_eq_emod_of_nonneg (by omega)]; omega) | (rw [Int.tdiv_eq_ediv_of_nonneg (by omega)]; omega) | omega
          (try simp only [Act.put, List.setIfInBounds_toArray, List.set_cons_zero, List.set_cons_succ])
          refine wpAnyH_take (i := 8) (v := (.int .i64 (i : Int))) rfl (by kernel_rfl) (by kernel_rfl) (by kernel_rfl) (fun _ _ _ h => h) (Or.inl ⟨by rfl, ?_⟩) (by assumption) ?_
          · intro w' hSw
            (try dsimp only at hSw)
            go_simp <;> first | exact i64_in (by omega) (by omega) | exact u32_in (by omega) (by omega) | exact u32_add _ _ | (rw [Int.tmod_eq_emod_of_nonneg (by omega)]; omega) | (rw [Int.tdiv_eq_ediv_of_nonneg (by omega)]; omega) | omega
          (try simp only [Act.put, List.setIfInBounds_toArray, List.set_cons_zero, List.set_cons_succ])
          refine wpAnyH_take (i := 9) (v := (.pointer (some ⟨g, i * 2, none⟩))) rfl (by kernel_rfl) (by kernel_rfl) (by kernel_rfl) (fun _ _ _ h => h) (Or.inl ⟨by rfl, ?_⟩) (by assumption) ?_
          · intro w' hSw
            (try dsimp only at hSw)
            go_simp <;> first | exact i64_in (by omega) (by omega) | exact u32_in (by omega) (by omega) | exact u32_add _ _ | (rw [Int.tmod_eq_emod_of_nonneg (by omega)]; omega) | (rw [Int.tdiv_eq_ediv_of_nonneg (by omega)]; omega) | omega
          (try simp only [Act.put, List.setIfInBounds_toArray, List.set_cons_zero, List.set_cons_succ])
          refine wpAnyH_take (i := 10) (v := (.pointer (some ⟨g, i * 2 + 1, none⟩))) rfl (by kernel_rfl) (by kernel_rfl) (by kernel_rfl) (fun _ _ _ h => h) (Or.inl ⟨by rfl, ?_⟩) (by assumption) ?_
          · intro w' hSw
            (try dsimp only at hSw)
            go_simp <;> first | exact i64_in (by omega) (by omega) | exact u32_in (by omega) (by omega) | exact u32_add _ _ | (rw [Int.tmod_eq_emod_of_nonneg (by omega)]; omega) | (rw [Int.tdiv_eq_ediv_of_nonneg (by omega)]; omega) | omega
          (try simp only [Act.put, List.setIfInBounds_toArray, List.set_cons_zero, List.set_cons_succ])
          refine wpAnyH_take (i := 11) (v := (.slice (some ⟨r1, 0, none⟩) PS.length u1)) rfl (by kernel_rfl) (by kernel_rfl) (by kernel_rfl) (fun _ _ _ h => h) (Or.inl ⟨by rfl, ?_⟩) (by assumption) ?_
          · intro w' hSw
            (try dsimp only at hSw)
            (obtain ⟨hS1, hS2, hS3, hS4, hS5⟩ := hSw; go_simp)
          (try simp only [Act.put, List.setIfInBounds_toArray, List.set_cons_zero, List.set_cons_succ])
          refine wpAnyH_take (i := 12) (v := (.int .i64 (j : Int))) rfl (by kernel_rfl) (by kernel_rfl) (by kernel_rfl) (fun _ _ _ h => h) (Or.inl ⟨by rfl, ?_⟩) (by assumption) ?_
          · intro w' hSw
            (try dsimp only at hSw)
            go_simp <;> first | exact i64_in (by omega) (by omega) | exact u32_in (by omega) (by omega) | exact u32_add _ _ | (rw [Int.tmod_eq_emod_of_nonneg (by omega)]; omega) | (rw [Int.tdiv_eq_ediv_of_nonneg (by omega)]; omega) | omega
          (try simp only [Act.put, List.setIfInBounds_toArray, List.set_cons_zero, List.set_cons_succ])
          refine wpAnyH_take (i := 13) (v := (.pointer (some ⟨r1, j * 2, none⟩))) rfl (by kernel_rfl) (by kernel_rfl) (by kernel_rfl) (fun _ _ _ h => h) (Or.inl ⟨by rfl, ?_⟩) (by assumption) ?_
          · intro w' hSw
            (try dsimp only at hSw)
            go_simp <;> first | exact i64_in (by omega) (by omega) | exact u32_in (by omega) (by omega) | exact u32_add _ _ | (rw [Int.tmod_eq_emod_of_nonneg (by omega)]; omega) | (rw [Int.tdiv_eq_ediv_of_nonneg (by omega)]; omega) | omega
          (try simp only [Act.put, List.setIfInBounds_toArray, List.set_cons_zero, List.set_cons_succ])
          refine wpAnyH_take (i := 14) (v := (.pointer (some ⟨r1, j * 2, none⟩))) rfl (by kernel_rfl) (by kernel_rfl) (by kernel_rfl) (fun _ _ _ h => h) (Or.inl ⟨by rfl, ?_⟩) (by assumption) ?_
          · intro w' hSw
            (try dsimp only at hSw)
            go_simp <;> first | exact i64_in (by omega) (by omega) | exact u32_in (by omega) (by omega) | exact u32_add _ _ | (rw [Int.tmod_eq_emod_of_nonneg (by omega)]; omega) | (rw [Int.tdiv_eq_ediv_of_nonneg (by omega)]; omega) | omega
          (try simp only [Act.put, List.setIfInBounds_toArray, List.set_cons_zero, List.set_cons_succ])
          refine wpAnyH_take (i := 15) (v := (.string K1)) rfl (by kernel_rfl) (by kernel_rfl) (by kernel_rfl) (fun _ _ _ h => h) (Or.inl ⟨by rfl, ?_⟩) (by assumption) ?_
          · intro w' hSw
            (try dsimp only at hSw)
            (obtain ⟨hS1, hS2, hS3, hS4, hS5⟩ := hSw; go_simp)
          (try simp only [Act.put, List.setIfInBounds_toArray, List.set_cons_zero, List.set_cons_succ])
          refine wpAnyH_ready (rs := [16]) (by kernel_rfl) (by simp) ?_
          refine AllReadyH.cons rfl (fun K hK => ?_) AllReadyH.nil
          go_simp
          refine Calls.mono (L1.out _) ?_
          rintro e w6 ⟨rfl, b6⟩
          have B6 := hide (HN2.out.drew.trans (b6.mono HN2.out.drew.size))
          clear b6
          refine hK.out _ _ (HS.out _ B6.out) (fun hHeld => ?_)
          clear hK
          (try simp only [Act.put, List.setIfInBounds_toArray, List.set_cons_zero, List.set_cons_succ])
          refine wpAnyH_take (i := 17) (v := (.tuple #[.string V1, .bool true, .int .i64 0])) rfl (by kernel_rfl) (by kernel_rfl) (by kernel_rfl) (fun _ _ _ h => h) (Or.inl ⟨by rfl, ?_⟩) (by assumption) ?_
          · intro w' hSw
            (try dsimp only at hSw)
            go_simp <;> first | exact i64_in (by omega) (by omega) | exact u32_in (by omega) (by omega) | exact u32_add _ _ | (rw [Int.tmod_eq_emod_of_nonneg (by omega)]; omega) | (rw [Int.tdiv_eq_ediv_of_nonneg (by omega)]; omega) | omega
          (try simp only [Act.put, List.setIfInBounds_toArray, List.set_cons_zero, List.set_cons_succ])
          refine wpAnyH_take (i := 18) (v := (.string V1)) rfl (by kernel_rfl) (by kernel_rfl) (by kernel_rfl) (fun _ _ _ h => h) (Or.inl ⟨by rfl, ?_⟩) (by assumption) ?_
          · intro w' hSw
            (try dsimp only at hSw)
            go_simp <;> first | exact i64_in (by omega) (by omega) | exact u32_in (by omega) (by omega) | exact u32_add _ _ | (rw [Int.tmod_eq_emod_of_nonneg (by omega)]; omega) | (rw [Int.tdiv_eq_ediv_of_nonneg (by omega)]; omega) | omega
          (try simp only [Act.put, List.setIfInBounds_toArray, List.set_cons_zero, List.set_cons_succ])
          refine wpAnyH_take (i := 19) (v := (.bool true)) rfl (by kernel_rfl) (by kernel_rfl) (by kernel_rfl) (fun _ _ _ h => h) (Or.inl ⟨by rfl, ?_⟩) (by assumption) ?_
          · intro w' hSw
            (try dsimp only at hSw)
            go_simp <;> first | exact i64_in (by omega) (by omega) | exact u32_in (by omega) (by omega) | exact u32_add _ _ | (rw [Int.tmod_eq_emod_of_nonneg (by omega)]; omega) | (rw [Int.tdiv_eq_ediv_of_nonneg (by omega)]; omega) | omega
          (try simp only [Act.put, List.setIfInBounds_toArray, List.set_cons_zero, List.set_cons_succ])
          refine wpAnyH_take (i := 20) (v := (.int .i64 0)) rfl (by kernel_rfl) (by kernel_rfl) (by kernel_rfl) (fun _ _ _ h => h) (Or.inl ⟨by rfl, ?_⟩) (by assumption) ?_
          · intro w' hSw
            (try dsimp only at hSw)
            go_simp <;> first | exact i64_in (by omega) (by omega) | exact u32_in (by omega) (by omega) | exact u32_add _ _ | (rw [Int.tmod_eq_emod_of_nonneg (by omega)]; omega) | (rw [Int.tdiv_eq_ediv_of_nonneg (by omega)]; omega) | omega
          (try simp only [Act.put, List.setIfInBounds_toArray, List.set_cons_zero, List.set_cons_succ])
          refine wpAnyH_ready (rs := [21]) (by kernel_rfl) (by simp) ?_
          refine AllReadyH.cons rfl (fun K hK => ?_) AllReadyH.nil
          go_simp
          refine hK.out _ _ (HS.out _ B6.out) (fun hHeld => ?_)
          clear hK
          (try simp only [Act.put, List.setIfInBounds_toArray, List.set_cons_zero, List.set_cons_succ])
          refine wpAnyH_ready (rs := [22]) (by kernel_rfl) (by simp) ?_
          refine AllReadyH.cons rfl (fun K hK => ?_) AllReadyH.nil
          go_simp
          refine hK.out _ _ (HS.out _ B6.out) (fun hHeld => ?_)
          clear hK
          (try simp only [Act.put, List.setIfInBounds_toArray, List.set_cons_zero, List.set_cons_succ])
          refine wpAnyH_ready (rs := [23]) (by kernel_rfl) (by simp) ?_
          refine AllReadyH.cons rfl (fun K hK => ?_) AllReadyH.nil
          go_simp
          refine hK.out _ _ (HS.out _ B6.out) (fun hHeld => ?_)
          clear hK
          (try simp only [Act.put, List.setIfInBounds_toArray, List.set_cons_zero, List.set_cons_succ])
          refine wpAnyH_done (by kernel_rfl) ?_ _
          obtain ⟨kf0, kf1, kf2, kf3, kf4⟩ := HS.out _ B6.out
          have kf5 := HR.out _ B6.out
          go_wp2_with fail
          refine Calls.mono (num_any _ _) ?_
          rintro e wx ⟨rfl, rfl⟩
          go_wp2_with fail
          go_roundw
          case rel => exact ⟨j + 1, by omega, by go_num, B6.out⟩
          case measure => simp [intOf]; omega
        · have hji : ¬ (j : Int) < (PS.length : Int) := by omega
          go_wp2_with fail
          go_roundw
          case rel => exact ⟨i + 1, by omega, by go_num, HN2.out⟩
          case measure => simp [intOf]; omega
    · have hii : ¬ (i : Int) < (gs.length : Int) := by omega
      go_wp2_with fail
      go_loopw [18] (fun jv wr => ∃ j : Nat, j ≤ qs.length ∧ jv = .int .i64 j ∧ Below W0.heap.size W0 wr) (fun jv _ => qs.length - (intOf jv).toNat)
      case atStart => exact ⟨0, Nat.zero_le _, rfl, HNX.out⟩
      case round =>
        obtain ⟨j, hj, rfl, hnx2⟩ := hrel
        have HN2 := hide hnx2
        by_cases hjl : j < qs.length
        · obtain rfl := y1 (by omega)
          have x1 := y2 (by omega)
          have hji : (j : Int) < (qs.length : Int) := by omega
          have hw := FIN.out wr hnx2
          have c0 : wr.cell? ⟨bq, oq + j * 3, none⟩ = some (.string qs[j].1) := by rw [hw.cell (by exact x1)]; exact (Y3.out j hjl).1
          have c1 : wr.cell? ⟨bq, oq + j * 3 + 1, none⟩ = some (.string qs[j].2.1) := by rw [hw.cell (by exact x1)]; exact (Y3.out j hjl).2.1
          obtain ⟨ke0, ke1⟩ := KC.out wr hnx2
          generalize qs[j].1 = QH at *
          generalize qs[j].2.1 = QK at *
          have L1 := hide (fun w' => LK.out (fitB QH k) (kyd QK) w' (fitB_size _ _) (kyd_size _))
          have H1 := hide (fun w' hg => HO.out (.slice ao gs.length cap) w.heap.size (fitB QH k) (kyd QK) w' hg)
          have FT := hide (fun w' => fit_any QH k hk2 w')
          have KY := hide (fun w' => keyed_any QK w')
          generalize fitB QH k = FH at *
          generalize kyd QK = FK at *
          generalize (lkV gs FH FK).getD ⟨#[]⟩ = LV at *
          generalize (lkV gs FH FK).isSome = LB at *
          clear hnx2 kd0 kd1 hw
          go_wp2_with fail
          refine Calls.mono (FT.out _) ?_
          rintro e wx ⟨rfl, rfl⟩
          go_wp2_with fail
          refine Calls.mono (KY.out _) ?_
          rintro e wx ⟨rfl, rfl⟩
          go_wp2_with fail
          refine Calls.mono (L1.out _) ?_
          rintro e w6 ⟨rfl, b6⟩
          have B6 := hide (HN2.out.trans (b6.mono HN2.out.size))
          have HO6 := hide (H1.out w6 (GL.out _ B6.out))
          clear b6
          go_wp2_with fail
          refine Calls.mono HO6.out ?_
          rintro e w7 ⟨rfl, b7⟩
          have B7 := hide (B6.out.trans (b7.mono B6.out.size))
          clear b7 HO6
          go_wp2_with fail
          refine Calls.mono (num_any _ _) ?_
          rintro e wx ⟨rfl, rfl⟩
          cases LB with
          | true =>
            go_wp2_with fail
            go_roundw
            case rel => exact ⟨j + 1, by omega, by go_num, B7.out⟩
            case measure => simp [intOf]; omega
          | false =>
            go_wp2_with fail
            go_roundw
            case rel => exact ⟨j + 1, by omega, by go_num, B7.out⟩
            case measure => simp [intOf]; omega
        · have hji : ¬ (j : Int) < (qs.length : Int) := by omega
          clear hnx2
          go_wp2_with fail
          go_ret
          exact ⟨rfl, FIN.out _ HN2.out⟩
end Go.Proofs.Ythihmgdefbahpaa
