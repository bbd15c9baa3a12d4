import Derived.Test.YtfmmfophdfjopaaGRaUn
import Derived.Deep.DeepCutAuto
namespace Go.Proofs.Ytfmmfophdfjopaa
open Go.RowKit
set_option maxHeartbeats 16000000 in
set_option maxRecDepth 100000 in
set_option linter.unusedSimpArgs false in
/-- the law RecordApart -/
theorem apart_any (m : Int) (v : Value) (ps : List PU) (w : World) (hp : PutsAt w v ps) (hlen : ps.length ≤ 9223372036854775807) :
    Calls Try.prog 3 #[.int .i64 m, v] w fun e w' => e = .returned (.bool true) ∧ Below w.heap.size w w' := by
  obtain ⟨k, hk, hk1, hk2⟩ := btw_nat m
  have MK := hide (mkG_ok k ps)
  have hml := MK.out.len
  have EG := hide (MK.out.enc ⟨hk1, hk2⟩)
  have C1 := hide (made_any k v ps w hk2 hp hlen)
  have BT := hide (between_any m w)
  rw [hk] at BT
  have sI := (eg_shape EG.out).2.2.1
  have sD := (eg_shape EG.out).2.2.2
  obtain ⟨bk1, bk2⟩ := back EG.out
  have hdl := MK.out.2.1
  have eC : egC (k : Int) (mkG k ps) = .agg #[.string (egI (k : Int) (mkG k ps)), .string (egD (k : Int) (mkG k ps))] := rfl
  have CP := hide (fun lv w' (hg : GLies w' lv (mkG k ps)) => copied_any lv (mkG k ps) w' hg (fun g hg => List.length_pos_iff.2 (MK.out.1.2 g hg).2.1) (by omega) (fun g hg => Nat.le_trans (MK.out.pairs g hg) (by omega)))
  have CE := hide (fun cv w' (hg : GLies w' cv (mkG k ps)) => encode_any (k : Int) cv (mkG k ps) w' hg (by omega) (fun g hg => Nat.le_trans (MK.out.pairs g hg) (by omega)))
  rw [EG.out, eC] at CE
  have hdz : (egD (k : Int) (mkG k ps)).size ≤ 65536 := by rw [sD]; exact hdl
  have hiz : (egI (k : Int) (mkG k ps)).size ≤ 655360 := by
    rw [sI]
    have : (mkG k ps).length * (k + 4) ≤ 32768 * 20 := Nat.mul_le_mul hml (by omega)
    omega
  have CD := hide (fun w' => decode_apart (k : Int) (egI (k : Int) (mkG k ps)) (egD (k : Int) (mkG k ps)) (by omega) (by omega) w')
  rw [bk1, bk2] at CD
  have SG := hide (fun v1 v2 w' (h1 : GLies w' v1 (mkG k ps)) (h2 : GLies w' v2 (mkG k ps)) => sameGroups_lies v1 v2 (mkG k ps) w' h1 h2 (by omega) (fun g hg => Nat.le_trans (MK.out.pairs g hg) (by omega)))
  -- the half
  obtain ⟨hs, hhs⟩ : ∃ hs, hs = (mkG k ps).take ((mkG k ps).length / 2) := ⟨_, rfl⟩
  have MH : MkOk k hs := by rw [hhs]; exact MK.out.take _
  have hhl : hs.length = (mkG k ps).length / 2 := by rw [hhs, List.length_take]; omega
  have hml2 := MH.len
  have EH := MH.enc ⟨hk1, hk2⟩
  obtain ⟨bh1, bh2⟩ := back EH
  have eC2 : egC (k : Int) hs = .agg #[.string (egI (k : Int) hs), .string (egD (k : Int) hs)] := rfl
  have CPh := hide (fun lv w' (hg : GLies w' lv hs) => copied_any lv hs w' hg (fun g hg => List.length_pos_iff.2 (MH.1.2 g hg).2.1) (by omega) (fun g hg => Nat.le_trans (MH.pairs g hg) (by omega)))
  have CEh := hide (fun cv w' (hg : GLies w' cv hs) => encode_any (k : Int) cv hs w' hg (by omega) (fun g hg => Nat.le_trans (MH.pairs g hg) (by omega)))
  rw [EH, eC2] at CEh
  have hdz2 : (egD (k : Int) hs).size ≤ 65536 := by rw [(eg_shape EH).2.2.2]; exact MH.2.1
  have hiz2 : (egI (k : Int) hs).size ≤ 655360 := by
    rw [(eg_shape EH).2.2.1]
    have : hs.length * (k + 4) ≤ 32768 * 20 := Nat.mul_le_mul hml2 (by omega)
    omega
  have CDh := hide (fun w' => decode_any (k : Int) (egI (k : Int) hs) (egD (k : Int) hs) (by omega) (by omega) w')
  rw [bh1, bh2] at CDh
  have SGh := hide (fun v1 v2 w' (h1 : GLies w' v1 hs) (h2 : GLies w' v2 hs) => sameGroups_lies v1 v2 hs w' h1 h2 (by omega) (fun g hg => Nat.le_trans (MH.pairs g hg) (by omega)))
  have JR := hide (fun i (hi : i < (mkG k ps).length) => join_record EG.out hi)
  have AN := hide (fun lv w' (hg : GLies w' lv (mkG k ps)) => anew_any k ⟨hk1, hk2⟩ lv (mkG k ps) w' hg MK.out)
  have TK := hide (fun w' ao cap (h : GLies w' (.slice ao (mkG k ps).length cap) (mkG k ps)) => (hhs ▸ h.take ((mkG k ps).length / 2) (by omega) cap : GLies w' (.slice ao ((mkG k ps).length / 2) cap) hs))
  have PZ := hide (fun i (hi : i < (mkG k ps).length) => fine ((eg_inv EG.out).2.1 i hi).2.1)
  clear sI eC hdl bk1 bk2 eC2 EH bh1 bh2 hml2 MH hhs
  have HSD := hide sD
  clear sD
  have HHL := hide hhl
  clear hhl
  generalize egI (k : Int) (mkG k ps) = I at *
  generalize egD (k : Int) (mkG k ps) = D at *
  generalize egI (k : Int) hs = I2 at *
  generalize egD (k : Int) hs = D2 at *
  generalize mkG k ps = gs at *
  go_enter Try.func3, Try.ntmps3
  go_wp2_with fail
  refine Calls.mono BT.out ?_
  rintro e wx ⟨rfl, rfl⟩
  go_wp2_with fail
  refine Calls.mono C1.out ?_
  rintro e w1 ⟨lv, rfl, g1, b1⟩
  have B1 := hide b1
  have G1 := hide (g1.groups (Nat.le_refl _) (Nat.le_refl _))
  clear b1 g1 C1 hp
  obtain ⟨ao, g, cap, rfl, h1, h2, h3⟩ := G1.out.split
  have hcapl : gs.length ≤ cap := by
    obtain ⟨ts, e, r, _⟩ := G1.out
    exact own_cap r
  have hsl : 0 ≤ (gs.length : Int) / 2 ∧ (gs.length : Int) / 2 ≤ (cap : Int) := by omega
  have H3 := hide h3
  clear h3
  go_wp2_with fail
  refine Calls.mono (CP.out _ _ G1.out.lies) ?_
  rintro e w2 ⟨cv, rfl, g2, b2⟩
  have B2 := hide b2
  have G2 := hide (g2.groups (Nat.le_refl _) (Nat.le_refl _)).lies
  clear b2 g2
  go_wp2_with fail
  refine Calls.mono (CE.out _ _ G2.out) ?_
  rintro e w3 ⟨rfl, b3⟩
  have B3 := hide (B2.out.trans (b3.mono B2.out.size))
  have hs3 := B3.out.size
  clear b3
  go_wp2_with fail
  obtain ⟨W0, hW0⟩ : ∃ W0, W0 = w3.alloc (.cells #[.string I, .string D] 27) := ⟨_, rfl⟩
  have s0 : W0.heap.size = w3.heap.size + 1 := by rw [hW0]; simp
  have KC : Hid (∀ w', Below W0.heap.size W0 w' → w'.cell? ⟨w3.heap.size, 0, none⟩ = some (.string I) ∧ w'.cell? ⟨w3.heap.size, 1, none⟩ = some (.string D)) := fun w' hw => by
    rw [hw.cell (by rw [s0]; exact Nat.lt_succ_self _), hw.cell (by rw [s0]; exact Nat.lt_succ_self _), hW0]; exact ⟨by simp, by simp⟩
  have b0 : Below w1.heap.size w1 W0 := by rw [hW0]; exact B3.out.alloc hs3 _
  have BW : Hid (∀ w', Below W0.heap.size W0 w' → Below w1.heap.size w1 w') := fun w' hw => b0.trans (hw.mono b0.size)
  have FIN : Hid (∀ w', Below W0.heap.size W0 w' → Below w.heap.size w w') := fun w' hw => B1.out.trans ((b0.trans (hw.mono b0.size)).mono B1.out.size)
  have GL : Hid (∀ w', Below W0.heap.size W0 w' → GLies w' (.slice ao gs.length cap) gs) := fun w' hw => (G1.out.below (b0.trans (hw.mono b0.size))).lies
  rw [← hW0]
  refine Calls.mono (num_any _ _) ?_
  rintro e wx ⟨rfl, rfl⟩
  obtain ⟨kc0, kc1⟩ := KC.out W0 (Below.refl _ _)
  clear hW0 b0 s0 hs3 B3 B2 B1 CP CE G2 G1
  go_wp2_with fail
  refine Calls.mono (CD.out _) ?_
  rintro e w4 ⟨fv, rfl, g4, b4⟩
  obtain ⟨af, cf, rfl⟩ : ∃ a c, fv = .slice a gs.length c := by
    obtain ⟨ts, e, r, _⟩ := g4
    rw [← e, List.length_map]; exact own_shape r
  have B4 := hide b4
  have G4 := hide g4
  have SG4 := hide (SG.out _ _ w4 g4.groups.lies (GL.out _ b4))
  clear b4 g4 kc0 kc1
  go_wp2_with fail
  refine Calls.mono (num_any _ _) ?_
  rintro e wx ⟨rfl, rfl⟩
  go_wp2_with fail
  refine Calls.mono SG4.out ?_
  rintro e w5 ⟨rfl, b5⟩
  have B5 := hide (B4.out.trans (b5.mono B4.out.size))
  have N5 := hide b5
  obtain ⟨kc0, kc1⟩ := KC.out w5 B5.out
  clear b5 SG4
  go_wp2_with fail
  refine Calls.mono (CD.out _) ?_
  rintro e w6 ⟨av, rfl, g6, b6⟩
  obtain ⟨aa, ca, rfl⟩ : ∃ a c, av = .slice a gs.length c := by
    obtain ⟨ts, e, r, _⟩ := g6
    rw [← e, List.length_map]; exact own_shape r
  have N6 := hide (N5.out.trans (b6.mono N5.out.size))
  have B6 := hide (B5.out.trans (b6.mono B5.out.size))
  have s45 := N5.out.size
  have G6 := hide (g6.groups.base (b2 := w4.heap.size) s45)
  clear b6 g6 kc0 kc1
  go_wp2_with fail
  refine Calls.mono (CPh.out _ _ (TK.out _ _ _ (GL.out _ B6.out))) ?_
  rintro e w7 ⟨cv2, rfl, g7, b7⟩
  have N7 := hide (N6.out.trans (b7.mono N6.out.size))
  have G7 := hide (g7.groups (Nat.le_refl _) (Nat.le_refl _)).lies
  have A7 := hide (G6.out.below b7)
  clear b7 g7 G6
  go_wp2_with fail
  refine Calls.mono (CEh.out _ _ G7.out) ?_
  rintro e w8 ⟨rfl, b8⟩
  obtain ⟨W8, hW8⟩ : ∃ W8, W8 = w8.alloc (.cells #[.string I2, .string D2] 27) := ⟨_, rfl⟩
  have bb8 : Below w8.heap.size w8 W8 := by rw [hW8]; exact (Below.refl _ w8).alloc (Nat.le_refl _) _
  have N8 := hide ((N7.out.trans (b8.mono N7.out.size)).trans (bb8.mono (N7.out.trans (b8.mono N7.out.size)).size))
  have A8 := hide ((A7.out.below b8).below bb8)
  have kl0 : W8.cell? ⟨w8.heap.size, 0, none⟩ = some (.string I2) := by rw [hW8]; simp
  have kl1 : W8.cell? ⟨w8.heap.size, 1, none⟩ = some (.string D2) := by rw [hW8]; simp
  go_wp2_with fail
  rw [← hW8]
  clear hW8 b8 bb8 A7 G7
  refine Calls.mono (CDh.out _) ?_
  rintro e w9 ⟨ov, rfl, g9, b9⟩
  obtain ⟨ax, cx, rfl⟩ : ∃ a c, ov = .slice a hs.length c := by
    obtain ⟨ts, e, r, _⟩ := g9
    rw [← e, List.length_map]; exact own_shape r
  have N9 := hide (N8.out.trans (b9.mono N8.out.size))
  have A9 := hide (A8.out.below b9)
  have O9 := hide (g9.base (b2 := w4.heap.size) N8.out.size)
  have BB9 := hide (B4.out.trans (N9.out.mono B4.out.size))
  have SA9 := hide (SG.out _ _ w9 A9.out.lies (GL.out _ BB9.out))
  clear b9 g9 A8 kl0 kl1
  go_wp2_with fail
  refine Calls.mono (num_any _ _) ?_
  rintro e wx ⟨rfl, rfl⟩
  go_wp2_with fail
  refine Calls.mono (num_any _ _) ?_
  rintro e wx ⟨rfl, rfl⟩
  go_wp2_with fail
  refine Calls.mono (num_any _ _) ?_
  rintro e wx ⟨rfl, rfl⟩
  go_wp2_with fail
  refine Calls.mono SA9.out ?_
  rintro e w10 ⟨rfl, b10⟩
  have N10 := hide (N9.out.trans (b10.mono N9.out.size))
  have A10 := hide (A9.out.below b10)
  have O10 := hide (O9.out.below b10)
  have BB10 := hide (B4.out.trans (N10.out.mono B4.out.size))
  have SO10 := hide (SGh.out _ _ w10 O10.out.lies (TK.out _ _ _ (GL.out _ BB10.out)))
  clear b10 A9 O9 SA9 BB9
  go_wp2_with fail
  refine Calls.mono SO10.out ?_
  rintro e w11 ⟨rfl, b11⟩
  have N11 := hide (N10.out.trans (b11.mono N10.out.size))
  have A11 := hide (A10.out.below b11)
  have O11 := hide (O10.out.below b11)
  clear b11 A10 O10 SO10 BB10 N10 N9 N8 N7 N6 N5
  go_wp2_with fail
  -- the first loop
  obtain ⟨ts, hts, hrow, hrows, hpw⟩ := G4.out
  have hlts : ts.length = gs.length := by rw [← hts, List.length_map]
  have BW4 := hide (B4.out.trans (N11.out.mono B4.out.size))
  have hS11 : w4.heap.size ≤ w11.heap.size := N11.out.size
  obtain ⟨F, hF⟩ : ∃ F, 0 < ts.length → af = some ⟨F, 0, none⟩ := by
    rcases hrow.2 with ⟨q, h0⟩ | ⟨F, _, _, q, _⟩
    · exact ⟨0, fun h => by omega⟩
    · simp only [Value.slice.injEq] at q
      exact ⟨F, fun _ => q.1⟩
  have ST : Hid (Stc W0.heap.size w4.heap.size w11.heap.size F ts) := by
    refine ⟨hS11, fun hp => ?_, fun j hj g hg => ?_, fun j k hj hk hjk g hg => ?_, fun j hj => ?_⟩
    · have := hrow.lt F (by rw [hF hp]; rfl)
      exact ⟨this.1, this.2⟩
    · have h1 := hrows _ (List.getElem_mem hj)
      have h2 := h1.lt g hg
      refine ⟨h2.1, h2.2, fun e => ?_⟩
      rcases own_type h1 hrow (by decide) with q | q
      · rw [hg] at q; cases q
      · apply q
        rw [hg, hF (by omega), e]
        rfl
    · intro e
      have hpw' := List.pairwise_iff_getElem.1 hpw
      by_cases hlt : j < k
      · exact hpw' j k hj hk hlt g hg e
      · exact hpw' k j hk hj (by omega) g e hg
    · have h1 := hrows _ (List.getElem_mem hj)
      have hne : 0 < ts[j].1.2.length := by
        have hm : ts[j].1 ∈ gs := by rw [← hts]; exact List.mem_map_of_mem (List.getElem_mem hj)
        exact List.length_pos_iff.2 (MK.out.1.2 _ hm).2.1
      rcases h1.2 with ⟨_, h0⟩ | ⟨g, c, _, q, _⟩
      · omega
      · exact ⟨g, c, q⟩
  have A0 := hide (AA.start (S4 := w4.heap.size) hF (own_below hrow N11.out) (fun t ht => own_below (hrows t ht) N11.out))
  have HGS : Hid (∀ (j : Nat) (h : j < ts.length) (h' : j < gs.length), ts[j].1 = gs[j]) := fun j h h' => by
    have : (ts.map Prod.fst)[j]? = gs[j]? := by rw [hts]
    rw [List.getElem?_map, List.getElem?_eq_getElem h, List.getElem?_eq_getElem h'] at this
    simpa using this
  have HPL : Hid (∀ (j : Nat) (h : j < ts.length), ts[j].1.2.length ≤ 65000) := fun j h => by
    have hm : ts[j].1 ∈ gs := by rw [← hts]; exact List.mem_map_of_mem (List.getElem_mem h)
    exact Nat.le_trans (MK.out.pairs _ hm) (by omega)
  clear hrow hrows hpw G4 hts
  obtain ⟨i0, hi, hz0, hz1, hz2⟩ := info_parts infoL2
  obtain ⟨i3, hj3, hy0, hy1, hy2⟩ := info_parts info3
  go_loopw [17, 18, 19] (fun kv sv vi wr => ∃ (ks : List (Nat × Nat × Nat)), ks.length ≤ ts.length ∧ vi = .int .i64 (ks.length : Int) ∧ Hid (AA W0.heap.size w4.heap.size F w11 ts ks.length wr) ∧ Hid (BB W0.heap.size w11.heap.size ts kv ks wr) ∧ Hid (wr.ownsRow w11.heap.size 3 1 sv ks.length (szs ks))) (fun _ _ vi _ => ts.length - (intOf vi).toNat)
  case atStart => exact ⟨[], Nat.zero_le _, rfl, A0.out, ⟨World.ownsRow_nil _ _ _ _, fun j h => absurd h (Nat.not_lt_zero _), fun j h => absurd h (Nat.not_lt_zero _), fun j h => absurd h (Nat.not_lt_zero _), Nat.zero_le _⟩, World.ownsRow_nil _ _ _ _⟩
  case round =>
    obtain ⟨ks, hkl, rfl, HA, HB, HC⟩ := hrel
    obtain ⟨ak, ck, rfl⟩ := own_shape HB.out.row
    obtain ⟨az, cz, rfl⟩ := own_shape HC.out
    by_cases hil : ks.length < ts.length
    case pos =>
      obtain rfl : af = some ⟨F, 0, none⟩ := hF (by omega)
      obtain ⟨g0, c0, htv⟩ := ST.out.s ks.length hil
      have hgi : ts[ks.length].2.ownBlock = some g0 := by rw [htv]; rfl
      have hrl : W0.heap.size ≤ wr.heap.size := by
        have := HA.out.un.size
        have := BW4.out.size
        omega
      have hr11 : w11.heap.size ≤ wr.heap.size := HA.out.un.size
      have hW11 := BW4.out.size
      have cF := HA.out.cell ks.length hil
      rw [htv] at cF
      have hli : (ks.length : Int) < (gs.length : Int) := by omega
      have hkl2 : ks.length ≤ 65536 := by omega
      -- the list that was made
      obtain ⟨pv, _, hpv, hpo⟩ := H3.out ks.length (by omega)
      obtain ⟨ap, cp, rfl⟩ := own_shape hpo
      have BL := hide (BW.out _ (BW4.out.trans ((HA.out.un.below (by omega)).mono (by omega))))
      obtain rfl : ao = some ⟨g, 0, none⟩ := h1 (by omega)
      have RG := HA.out.rest ks.length hil (Nat.le_refl _)
      rw [htv] at RG
      have HRG := hide RG
      have hpl := HPL.out ks.length hil
      have hEq := HGS.out ks.length hil (by omega)
      rw [← hEq] at hpv
      have HPV := hide hpv
      clear hpv hpo hEq RG
      have HTV := hide htv
      have HGI := hide hgi
      obtain ⟨P0, hP0⟩ : ∃ P0, P0 = ts[ks.length].1.2 := ⟨_, rfl⟩
      rw [← hP0] at cF HPV hpl HRG HTV
      have HP0 := hide hP0
      clear hP0
      have hm1 : ks.length + 1 ≤ maxLen ∧ (ks.length + 1) * 24 ≤ 140737488355328 ∧ (ks.length + 1) * 8 ≤ 140737488355328 := by unfold maxLen; omega
      obtain ⟨hm1, hm2, hm3⟩ := hm1
      have CS : Hid (∀ (Y : World), (∀ k, k < wr.heap.size → k ≠ g0 → Y.heap[k]? = wr.heap[k]?) → Y.cell? ⟨F, ks.length * 2 + 1, none⟩ = some (.slice (some ⟨g0, 0, none⟩) P0.length c0)) := fun Y hY => by
        rw [← cF]
        exact World.cell?_of_block (hY F (HA.out.fl (by omega)) (fun e => (ST.out.b ks.length hil g0 HGI.out).2.2 e.symm))
      clear htv hgi
      go_wp2_with fail
      refine wp_region_held_drew (S := fun Y => Y.cell? ⟨F, ks.length * 2 + 1, none⟩ = some (.slice (some ⟨g0, 0, none⟩) P0.length c0)) (by kernel_rfl) (CS.out _ fun k _ _ => rfl) (fun hHeld => ?_)
      refine wpAnyH_take (i := 0) (v := (.slice ak ks.length ck)) rfl (by kernel_rfl) (by kernel_rfl) (by kernel_rfl) (fun _ _ _ h => h) (Or.inl ⟨by rfl, ?_⟩) (by assumption) ?_
      · intro w' hSw
        (try dsimp only at hSw)
        go_simp <;> first | exact i64_in (by omega) (by omega) | exact u32_in (by omega) (by omega) | exact u32_add _ _ | (rw [Int.tmod_eq_emod_of_nonneg (by omega)]; omega) | (rw [Int.tdiv_eq_ediv_of_nonneg (by omega)]; omega) | omega
      (try simp only [Act.put, List.setIfInBounds_toArray, List.set_cons_zero, List.set_cons_succ])
      refine wpAnyH_take (i := 1) (v := (.slice (some ⟨F, 0, none⟩) gs.length cf)) rfl (by kernel_rfl) (by kernel_rfl) (by kernel_rfl) (fun _ _ _ h => h) (Or.inl ⟨by rfl, ?_⟩) (by assumption) ?_
      · intro w' hSw
        (try dsimp only at hSw)
        go_simp <;> first | exact i64_in (by omega) (by omega) | exact u32_in (by omega) (by omega) | exact u32_add _ _ | (rw [Int.tmod_eq_emod_of_nonneg (by omega)]; omega) | (rw [Int.tdiv_eq_ediv_of_nonneg (by omega)]; omega) | omega
      (try simp only [Act.put, List.setIfInBounds_toArray, List.set_cons_zero, List.set_cons_succ])
      refine wpAnyH_take (i := 2) (v := (.int .i64 (ks.length : Int))) rfl (by kernel_rfl) (by kernel_rfl) (by kernel_rfl) (fun _ _ _ h => h) (Or.inl ⟨by rfl, ?_⟩) (by assumption) ?_
      · intro w' hSw
        (try dsimp only at hSw)
        go_simp <;> first | exact i64_in (by omega) (by omega) | exact u32_in (by omega) (by omega) | exact u32_add _ _ | (rw [Int.tmod_eq_emod_of_nonneg (by omega)]; omega) | (rw [Int.tdiv_eq_ediv_of_nonneg (by omega)]; omega) | omega
      (try simp only [Act.put, List.setIfInBounds_toArray, List.set_cons_zero, List.set_cons_succ])
      refine wpAnyH_take (i := 3) (v := (.pointer (some ⟨F, ks.length * 2, none⟩))) rfl (by kernel_rfl) (by kernel_rfl) (by kernel_rfl) (fun _ _ _ h => h) (Or.inl ⟨by rfl, ?_⟩) (by assumption) ?_
      · intro w' hSw
        (try dsimp only at hSw)
        go_simp <;> first | exact i64_in (by omega) (by omega) | exact u32_in (by omega) (by omega) | exact u32_add _ _ | (rw [Int.tmod_eq_emod_of_nonneg (by omega)]; omega) | (rw [Int.tdiv_eq_ediv_of_nonneg (by omega)]; omega) | omega
      (try simp only [Act.put, List.setIfInBounds_toArray, List.set_cons_zero, List.set_cons_succ])
      refine wpAnyH_take (i := 4) (v := (.pointer (some ⟨F, ks.length * 2 + 1, none⟩))) rfl (by kernel_rfl) (by kernel_rfl) (by kernel_rfl) (fun _ _ _ h => h) (Or.inl ⟨by rfl, ?_⟩) (by assumption) ?_
      · intro w' hSw
        (try dsimp only at hSw)
        go_simp <;> first | exact i64_in (by omega) (by omega) | exact u32_in (by omega) (by omega) | exact u32_add _ _ | (rw [Int.tmod_eq_emod_of_nonneg (by omega)]; omega) | (rw [Int.tdiv_eq_ediv_of_nonneg (by omega)]; omega) | omega
      (try simp only [Act.put, List.setIfInBounds_toArray, List.set_cons_zero, List.set_cons_succ])
      refine wpAnyH_take (i := 5) (v := (.slice (some ⟨g0, 0, none⟩) P0.length c0)) rfl (by kernel_rfl) (by kernel_rfl) (by kernel_rfl) (fun _ _ _ h => h) (Or.inl ⟨by rfl, ?_⟩) (by assumption) ?_
      · intro w' hSw
        (try dsimp only at hSw)
        (have y := hSw; go_simp)
      (try simp only [Act.put, List.setIfInBounds_toArray, List.set_cons_zero, List.set_cons_succ])
      refine wpAnyH_take (i := 6) (v := (.int .i64 (ks.length : Int))) rfl (by kernel_rfl) (by kernel_rfl) (by kernel_rfl) (fun _ _ _ h => h) (Or.inl ⟨by rfl, ?_⟩) (by assumption) ?_
      · intro w' hSw
        (try dsimp only at hSw)
        go_simp <;> first | exact i64_in (by omega) (by omega) | exact u32_in (by omega) (by omega) | exact u32_add _ _ | (rw [Int.tmod_eq_emod_of_nonneg (by omega)]; omega) | (rw [Int.tdiv_eq_ediv_of_nonneg (by omega)]; omega) | omega
      (try simp only [Act.put, List.setIfInBounds_toArray, List.set_cons_zero, List.set_cons_succ])
      refine wpAnyH_take (i := 7) (v := (.int .u8 ((ks.length : Int) % 256))) rfl (by kernel_rfl) (by kernel_rfl) (by kernel_rfl) (fun _ _ _ h => h) (Or.inl ⟨by rfl, ?_⟩) (by assumption) ?_
      · intro w' hSw
        (try dsimp only at hSw)
        (go_simp; exact u8_wr _)
      (try simp only [Act.put, List.setIfInBounds_toArray, List.set_cons_zero, List.set_cons_succ])
      refine wpAnyH_take (i := 8) (v := (.int .i64 (ks.length : Int))) rfl (by kernel_rfl) (by kernel_rfl) (by kernel_rfl) (fun _ _ _ h => h) (Or.inl ⟨by rfl, ?_⟩) (by assumption) ?_
      · intro w' hSw
        (try dsimp only at hSw)
        go_simp <;> first | exact i64_in (by omega) (by omega) | exact u32_in (by omega) (by omega) | exact u32_add _ _ | (rw [Int.tmod_eq_emod_of_nonneg (by omega)]; omega) | (rw [Int.tdiv_eq_ediv_of_nonneg (by omega)]; omega) | omega
      (try simp only [Act.put, List.setIfInBounds_toArray, List.set_cons_zero, List.set_cons_succ])
      refine wpAnyH_take (i := 9) (v := (.int .i64 ((ks.length : Int) / 256))) rfl (by kernel_rfl) (by kernel_rfl) (by kernel_rfl) (fun _ _ _ h => h) (Or.inl ⟨by rfl, ?_⟩) (by assumption) ?_
      · intro w' hSw
        (try dsimp only at hSw)
        go_simp <;> first | exact i64_in (by omega) (by omega) | exact u32_in (by omega) (by omega) | exact u32_add _ _ | (rw [Int.tmod_eq_emod_of_nonneg (by omega)]; omega) | (rw [Int.tdiv_eq_ediv_of_nonneg (by omega)]; omega) | omega
      (try simp only [Act.put, List.setIfInBounds_toArray, List.set_cons_zero, List.set_cons_succ])
      refine wpAnyH_take (i := 10) (v := (.int .u8 ((ks.length : Int) / 256 % 256))) rfl (by kernel_rfl) (by kernel_rfl) (by kernel_rfl) (fun _ _ _ h => h) (Or.inl ⟨by rfl, ?_⟩) (by assumption) ?_
      · intro w' hSw
        (try dsimp only at hSw)
        (go_simp; exact u8_wr _)
      (try simp only [Act.put, List.setIfInBounds_toArray, List.set_cons_zero, List.set_cons_succ])
      refine wpAnyH_ready (rs := [11]) (by kernel_rfl) (by simp) ?_
      refine AllReadyH.cons rfl (fun K hK => ?_) AllReadyH.nil
      go_simp
      obtain ⟨WA, hWA⟩ : ∃ WA, WA = (wr.alloc (.cells #[.int .u8 ((ks.length : Int) % 256), .int .u8 ((ks.length : Int) / 256 % 256)] 5)).drew := ⟨_, rfl⟩
      have bA : Below wr.heap.size wr WA := by rw [hWA]; exact ((Below.refl wr.heap.size wr).alloc (Nat.le_refl _) _).drew
      have MC : (convert 42 9 (.slice (some ⟨wr.heap.size, 0, none⟩) 2 2)).run Try.prog WA = .ok (.string (strOf [UInt8.ofNat ks.length, UInt8.ofNat (ks.length / 256)])) WA := by rw [hWA]; exact mark_convD wr ks.length
      rw [← hWA]
      clear hWA
      have SA : WA.cell? ⟨F, ks.length * 2 + 1, none⟩ = some (.slice (some ⟨g0, 0, none⟩) P0.length c0) := CS.out _ fun k hk _ => bA.block k hk
      have RA := own_below HRG.out bA
      have sA := bA.size
      have MA := hide (marked_any g0 c0 W0.heap.size P0 (mkS 109 ks.length) WA RA (by omega) (by omega))
      have HBA := hide bA
      clear RA bA
      refine hK.out _ _ SA (fun hHeld => ?_)
      clear hK
      (try simp only [Act.put, List.setIfInBounds_toArray, List.set_cons_zero, List.set_cons_succ])
      refine wpAnyH_ready (rs := [12]) (by kernel_rfl) (by simp) ?_
      refine AllReadyH.cons rfl (fun K hK => ?_) AllReadyH.nil
      go_simp
      refine hK.out _ _ SA (fun hHeld => ?_)
      clear hK MC
      (try simp only [Act.put, List.setIfInBounds_toArray, List.set_cons_zero, List.set_cons_succ])
      refine wpAnyH_take (i := 13) (v := (.string (mkS 109 ks.length))) rfl (by kernel_rfl) (by kernel_rfl) (by kernel_rfl) (fun _ _ _ h => h) (Or.inl ⟨by rfl, ?_⟩) (by assumption) ?_
      · intro w' hSw
        (try dsimp only at hSw)
        (have ma := mark_add 109 ks.length; have sz : (strOf [UInt8.ofNat ks.length, UInt8.ofNat (ks.length / 256)]).size = 2 := rfl; go_simp)
      (try simp only [Act.put, List.setIfInBounds_toArray, List.set_cons_zero, List.set_cons_succ])
      refine wpAnyH_ready (rs := [14]) (by kernel_rfl) (by simp) ?_
      refine AllReadyH.cons rfl (fun K hK => ?_) AllReadyH.nil
      go_simp
      refine Calls.mono MA.out ?_
      rintro e w2 ⟨g', c', rfl, o2, l2, gr2, hp2⟩
      have G2 := below_grown HBA.out gr2
      have hsb := ST.out.b ks.length hil g0 HGI.out
      have A2 : Hid (AA W0.heap.size w4.heap.size F w11 ts (ks.length + 1) w2) := HA.out.mark ST.out hil HGI.out G2 (by rw [← HP0.out]; exact l2)
      have B2 : Hid (BB W0.heap.size w11.heap.size ts (.slice ak ks.length ck) ks w2) := HB.out.low ST.out G2 hsb.2.1 (fun j hj hjk => ST.out.d ks.length j hil hj (by omega) g0 HGI.out)
      have C2 : Hid (w2.ownsRow w11.heap.size 3 1 (.slice az ks.length cz) ks.length (szs ks)) := HC.out.kept G2 (by
        cases e : (Value.slice az ks.length cz).ownBlock with
        | none => exact .inl rfl
        | some k => exact .inr (fun e2 => by have := (HC.out.lt k e).1; have := Option.some.inj e2; omega))
      have O2 := hide o2
      have hp3 : ts[ks.length].2.ownBlock = some g' ∨ w11.heap.size ≤ g' := by
        rcases hp2 with rfl | q
        · exact .inl HGI.out
        · exact .inr (by omega)
      have s22 : w11.heap.size ≤ w2.heap.size := A2.out.un.size
      have SF : Hid (∀ Y, AA W0.heap.size w4.heap.size F w11 ts (ks.length + 1) Y → Y.cell? ⟨F, ks.length * 2 + 1, none⟩ = some (.slice (some ⟨g0, 0, none⟩) P0.length c0)) := fun Y hY => by
        rw [hY.cell ks.length hil, HTV.out]
      clear o2 l2 gr2 hp2 G2 MA SA CS
      refine hK.out _ _ (SF.out _ A2.out) (fun hHeld => ?_)
      clear hK
      (try simp only [Act.put, List.setIfInBounds_toArray, List.set_cons_zero, List.set_cons_succ])
      refine wpAnyH_ready (rs := [15]) (by kernel_rfl) (by simp) ?_
      refine AllReadyH.cons rfl (fun K hK => ?_) AllReadyH.nil
      go_simp
      have A3 := hide (A2.out.keep ST.out rfl (alloc_grown w2 (.cells #[.slice (some ⟨g', 0, none⟩) (P0.length + 65) c'] 38)) (fun k hk => by cases hk))
      have B3 := hide (B2.out.none (alloc_grown w2 (.cells #[.slice (some ⟨g', 0, none⟩) (P0.length + 65) c'] 38)))
      have C3 := hide (own_none C2.out (alloc_grown w2 (.cells #[.slice (some ⟨g', 0, none⟩) (P0.length + 65) c'] 38)))
      have O3 := hide (own_none O2.out (alloc_grown w2 (.cells #[.slice (some ⟨g', 0, none⟩) (P0.length + 65) c'] 38)))
      have s23 := le_alloc (o := .cells #[.slice (some ⟨g', 0, none⟩) (P0.length + 65) c'] 38) s22
      clear A2 B2 C2 O2
      refine hK.out _ _ (SF.out _ A3.out) (fun hHeld => ?_)
      clear hK
      (try simp only [Act.put, List.setIfInBounds_toArray, List.set_cons_zero, List.set_cons_succ])
      refine wpAnyH_ready (rs := [16]) (by kernel_rfl) (by simp) ?_
      refine AllReadyH.cons rfl (fun K hK => ?_) AllReadyH.nil
      refine ite_yes (by rfl) ?_
      refine wp_append_own (w2.alloc (.cells #[.slice (some ⟨g', 0, none⟩) (P0.length + 65) c'] 38)) (.tmp 124) (.tmp 139) 36 ?hho w11.heap.size 38 i0 (.slice none 0 0) 1 24 Try.underlying36 hi hz0 hz1 hz2 ?hzs (by decide) (.slice ak ks.length ck) ks.length (kcs ks) ?hhs B3.out.row ⟨w2.heap.size, 0, none⟩ 1 1 [.slice (some ⟨g', 0, none⟩) (P0.length + 65) c'] ?hhx rfl (cell_one_new _ _ _) (fun x hx => by simp at hx; subst hx; rfl) hm1 hm2 s23 ?hhk
      case hho => rfl
      case hzs => rfl
      case hhs => kernel_rfl
      case hhx => kernel_rfl
      intro v4 w40 o4 g4 n4
      clear n4
      have A4 := hide (A3.out.keep ST.out rfl g4 (fun k hk => (B3.out.row.lt k hk).1))
      have B4' := hide (BB.add B3.out hil (by rw [← HP0.out]) O3.out hp3 o4 g4)
      have C4' := hide (row_type C3.out B3.out.row (by decide) g4)
      obtain ⟨a4, c4, rfl⟩ := own_shape o4
      clear o4 g4 A3 B3 C3 O3
      refine hK.out _ _ (SF.out _ A4.out) (fun hHeld => ?_)
      clear hK
      (try simp only [Act.put, List.setIfInBounds_toArray, List.set_cons_zero, List.set_cons_succ])
      refine wpAnyH_ready (rs := [17]) (by kernel_rfl) (by simp) ?_
      refine AllReadyH.cons rfl (fun K hK => ?_) AllReadyH.nil
      go_simp
      refine hK.out _ _ (SF.out _ A4.out) (fun hHeld => ?_)
      clear hK
      (try simp only [Act.put, List.setIfInBounds_toArray, List.set_cons_zero, List.set_cons_succ])
      refine wpAnyH_done (by kernel_rfl) ?_ _
      clear hHeld SF
      have L4 := BW.out _ (BW4.out.trans (A4.out.un.below hW11))
      have hl4 : w40.cell? ⟨g, ks.length * 2 + 1, none⟩ = some (.slice ap P0.length cp) := (L4.cell (h2 (by omega))).trans HPV.out
      have s40 : w11.heap.size ≤ w40.heap.size := A4.out.un.size
      clear L4
      go_upto_region 21 with (at_builtin; refine wpList_append_own _ rfl _ _ 37 rfl w11.heap.size 3 i3 (.int .i64 0) 1 8 Try.underlying37 hj3 hy0 hy1 hy2 rfl (by decide) _ _ _ rfl (own_none C4'.out (alloc_grown w40 _)) ⟨w40.heap.size, 0, none⟩ 1 1 [.int .i64 ((P0.length : Int) + 65)] rfl rfl (cell_one_new _ _ _) (fun x hx => by simp at hx; subst hx; rfl) hm1 hm3 (le_alloc s40) ?_; intro v5 w5 o5 g5 n5; clear n5)
      have A5 := hide ((A4.out.keep ST.out rfl (alloc_grown w40 (.cells #[.int .i64 ((P0.length : Int) + 65)] 3)) (fun k hk => by cases hk)).keep ST.out rfl g5 (fun k hk => (C4'.out.lt k hk).1))
      have B5 := hide ((B4'.out.none (alloc_grown w40 (.cells #[.int .i64 ((P0.length : Int) + 65)] 3))).other (own_none C4'.out (alloc_grown w40 (.cells #[.int .i64 ((P0.length : Int) + 65)] 3))) g5)
      have C5 : Hid (w5.ownsRow w11.heap.size 3 1 v5 (ks ++ [(g', P0.length + 65, c')]).length (szs (ks ++ [(g', P0.length + 65, c')]))) := by
        have e : szs (ks ++ [(g', P0.length + 65, c')]) = szs ks ++ [.int .i64 ((P0.length : Int) + 65)] := by simp [szs]
        show World.ownsRow _ _ _ _ _ _ _
        rw [e, List.length_append]
        exact o5
      obtain ⟨a5, c5, rfl⟩ := own_shape o5
      obtain ⟨⟨y5, hy5⟩, hf5⟩ := A5.out.wr ks.length hil
      clear o5 g5 A4 B4' C4' hl4
      go_wp2_with fail
      go_roundw
      case rel =>
        have gr := set_grown w5 F (ks.length * 2) (.string ⟨#[109]⟩)
        have hfb := ST.out.f (by omega)
        refine ⟨ks ++ [(g', P0.length + 65, c')], by simp; omega, by rw [List.length_append]; go_num, ?_, ?_, ?_⟩
        · show AA _ _ _ _ _ _ _
          rw [List.length_append]
          exact A5.out.set ST.out (by omega) ks.length _
        · exact B5.out.low ST.out gr hfb.2 (fun j hj _ e => (ST.out.b j hj F e).2.2 rfl)
        · exact C5.out.kept gr (by
            cases e : (Value.slice a5 (ks.length + 1) c5).ownBlock with
            | none => exact .inl rfl
            | some k => exact .inr (fun e2 => by have := (C5.out.lt k e).1; have := Option.some.inj e2; omega))
      case measure => simp [intOf]; omega
    case neg =>
      have hkn : ks.length = ts.length := by omega
      have hW11 := BW4.out.size
      have BR := hide (BW4.out.trans (HA.out.un.below hW11))
      have A20 : Hid (GroupsAt wr w4.heap.size (.slice aa gs.length ca) gs ∧ GroupsAt wr w4.heap.size (.slice ax hs.length cx) hs) := ⟨HA.out.un.groups A11.out (Nat.le_refl _), HA.out.un.groups O11.out (Nat.le_refl _)⟩
      obtain ⟨kc0, kc1⟩ := KC.out wr BR.out
      have hnl : ¬ (ks.length : Int) < (gs.length : Int) := by omega
      clear A11 O11
      go_wp2_with fail
      refine Calls.mono (CD.out _) ?_
      rintro e w21 ⟨v2, rfl, g21, b21⟩
      obtain ⟨a2, c2, rfl⟩ : ∃ a c, v2 = .slice a gs.length c := by
        obtain ⟨us, e, r, _⟩ := g21
        rw [← e, List.length_map]; exact own_shape r
      have B21 := hide b21
      have BR21 := hide (BR.out.trans (b21.mono BR.out.size))
      have SG2 := hide (SG.out _ _ w21 g21.groups.lies (GL.out _ BR21.out))
      have G21 := hide g21.groups
      clear b21 g21 kc0 kc1
      go_wp2_with fail
      refine Calls.mono (num_any _ _) ?_
      rintro e wx ⟨rfl, rfl⟩
      go_wp2_with fail
      refine Calls.mono SG2.out ?_
      rintro e w22 ⟨rfl, b22⟩
      have B22 := hide (B21.out.trans (b22.mono B21.out.size))
      have BR22 := hide (BR21.out.trans (b22.mono BR21.out.size))
      have G22 := hide (G21.out.below b22)
      clear b22 SG2 G21 B21 BR21
      go_wp2_with fail
      have NE : Hid (∀ (j : Nat) (h : j < gs.length), 0 < gs[j].2.length ∧ gs[j].2.length ≤ 65000) := fun j h => ⟨List.length_pos_iff.2 (MK.out.1.2 _ (List.getElem_mem h)).2.1, Nat.le_trans (MK.out.pairs _ (List.getElem_mem h)) (by omega)⟩
      have BZ := hide BR22.out.size
      have RD : Hid (∀ (j : Nat) (hj : j < gs.length) (w' : World), Calls Try.prog 12 #[.string D, .int .i64 ((encD (gs.take j)).length : Int)] w' fun e w'' => ∃ g1 c1, e = .returned (.tuple #[.slice (some ⟨g1, 0, none⟩) gs[j].2.length c1, .int .i64 ((encD (gs.take (j + 1))).length : Int), .int .i64 0]) ∧ w''.ownsRow w'.heap.size 55 2 (.slice (some ⟨g1, 0, none⟩) gs[j].2.length c1) gs[j].2.length (pc gs[j].2) ∧ Below w'.heap.size w' w'') := fun j hj w' => by
        obtain ⟨⟨j1, j2, j3⟩, _⟩ := JR.out j hj
        refine (readRecord_any D ((encD (gs.take j)).length : Int) (by omega) w').mono ?_
        rintro e w'' ⟨v1, rfl, o1, b1⟩
        rw [j2] at o1
        have hn := (NE.out j hj).1
        rcases o1.2 with ⟨_, h0⟩ | ⟨g1, c1, _, q, _⟩
        · omega
        · subst q
          exact ⟨g1, c1, by rw [j1, j3], o1, b1⟩
      have ENX : Hid (∀ (j : Nat) (hj : j < gs.length), (encD (gs.take j)).length < (encD (gs.take (j + 1))).length) := fun j hj => by
        rw [encD_take gs j hj, List.length_append, recL_len]; omega
      have LP : Hid (∀ (j : Nat) (hj : j < gs.length) (Y : World), Below w1.heap.size w1 Y → ∃ al gl cl, Y.cell? ⟨g, j * 2 + 1, none⟩ = some (.slice al gs[j].2.length cl) ∧ al = some ⟨gl, 0, none⟩ ∧ gl < Y.heap.size ∧ LiesP gl 0 Y gs[j].2) := fun j hj Y hY => by
        obtain ⟨pv, _, hpv, hpo⟩ := H3.out j hj
        obtain ⟨al, gl, cl, rfl, q1, q2, q3⟩ := own_pairs (own_below hpo hY)
        have hn := (NE.out j hj).1
        exact ⟨al, gl, cl, (hY.cell (h2 (by omega))).trans hpv, q1 hn, q2 hn, q3⟩
      have K4 : Hid (∀ Y, Below w22.heap.size w22 Y → AA W0.heap.size w4.heap.size F w11 ts ks.length Y ∧ BB W0.heap.size w11.heap.size ts (.slice ak ks.length ck) ks Y ∧ Y.ownsRow w11.heap.size 3 1 (.slice az ks.length cz) ks.length (szs ks) ∧ GroupsAt Y w4.heap.size (.slice aa gs.length ca) gs ∧ GroupsAt Y w4.heap.size (.slice ax hs.length cx) hs ∧ GLies Y (.slice a2 gs.length c2) gs ∧ Below W0.heap.size W0 Y) := fun Y hY => by
        have q := B22.out.trans (hY.mono B22.out.size)
        exact ⟨HA.out.keep ST.out rfl (below_grown0 q) (fun k hk => by cases hk), HB.out.none (below_grown0 q), own_none HC.out (below_grown0 q), A20.out.1.below q, A20.out.2.below q, (G22.out.below hY).lies, BR22.out.trans (hY.mono BR22.out.size)⟩
      go_loopw [22, 23, 24, 25] (fun rv tv va vi wq => ∃ (rs qs : List (Nat × Nat × Nat)), qs.length ≤ gs.length ∧ rs.length = 2 * qs.length ∧ vi = .int .i64 (qs.length : Int) ∧ va = .int .i64 ((encD (gs.take qs.length)).length : Int) ∧ Hid (RG w22.heap.size gs w22 rv tv rs qs rs.length wq)) (fun _ _ _ vi _ => gs.length - (intOf vi).toNat)
      case atStart => exact ⟨[], [], Nat.zero_le _, rfl, rfl, rfl, RG.start⟩
      case round =>
        obtain ⟨rs, qs, hql, hrl, rfl, rfl, HR⟩ := hrel
        obtain ⟨ar, cr, rfl⟩ := own_shape HR.out.rr
        obtain ⟨at', ct, rfl⟩ := own_shape HR.out.tr
        have sq := HR.out.bl.size
        have BQ := hide (BR22.out.trans (HR.out.bl.mono BZ.out))
        by_cases hql2 : qs.length < gs.length
        case pos =>
          have hqi : (qs.length : Int) < (gs.length : Int) := by omega
          obtain rfl : ao = some ⟨g, 0, none⟩ := h1 (by omega)
          obtain ⟨_, kc1⟩ := KC.out wr BQ.out
          have hne := NE.out qs.length hql2
          have hnx := ENX.out qs.length hql2
          have hnxi : ¬ ((encD (gs.take (qs.length + 1))).length : Int) ≤ ((encD (gs.take qs.length)).length : Int) := by omega
          have R1 := hide (RD.out qs.length hql2 wr)
          have R2 := hide (fun w' => RD.out qs.length hql2 w')
          obtain ⟨PQ, hPQ⟩ : ∃ PQ, PQ = gs[qs.length].2 := ⟨_, rfl⟩
          have HPQ := hide hPQ
          have LQ := hide (fun Y hY => LP.out qs.length hql2 Y hY)
          rw [← hPQ] at R1 R2 LQ hne
          clear hPQ
          obtain ⟨NX, hNX⟩ : ∃ NX, NX = (encD (gs.take (qs.length + 1))).length := ⟨_, rfl⟩
          rw [← hNX] at R1 R2 hnx hnxi
          have HNX := hide hNX
          clear hNX
          generalize (encD (gs.take qs.length)).length = AT at *
          have hm1 : qs.length + 1 ≤ maxLen ∧ (qs.length + 1) * 24 ≤ 140737488355328 ∧ rs.length + 1 ≤ maxLen ∧ (rs.length + 1) * 24 ≤ 140737488355328 ∧ rs.length + 1 + 1 ≤ maxLen ∧ (rs.length + 1 + 1) * 24 ≤ 140737488355328 := by unfold maxLen; omega
          obtain ⟨hm1, hm2, hm3, hm4, hm5, hm6⟩ := hm1
          have HRL := hide hrl
          clear hrl
          go_wp2_with fail
          refine Calls.mono R1.out ?_
          rintro e wA ⟨gp, cp, rfl, oA, bA⟩
          have QA := hide (BQ.out.trans (bA.mono BQ.out.size))
          obtain ⟨_, kc1⟩ := KC.out wA QA.out
          have hgp := oA.lt gp rfl
          have sA := bA.size
          have OA := hide oA
          have BA := hide bA
          clear oA bA R1
          go_wp2_with fail
          refine Calls.mono (R2.out _) ?_
          rintro e wB ⟨gq, cq, rfl, oB, bB⟩
          have QB := hide (QA.out.trans (bB.mono QA.out.size))
          have hgq := oB.lt gq rfl
          have sB := bB.size
          have OB := hide oB
          have PB := hide (own_below OA.out bB)
          have BB1 := hide (BA.out.trans (bB.mono BA.out.size))
          obtain ⟨al, gl, cl, hl1, rfl, hl3, hl4⟩ := LQ.out wB (BW.out _ QB.out)
          have SP1 := hide (samePairs_any (some ⟨gp, 0, none⟩) (some ⟨gl, 0, none⟩) gp 0 cp gl 0 cl PQ wB (fun _ => rfl) (fun _ => rfl) (fun _ => (PB.out.lt gp rfl).2) (fun _ => hl3) (own_lies PB.out) hl4 (by omega))
          clear oB bB R2 OA BA QA kc1 hl4
          go_wp2_with fail
          refine Calls.mono (num_any _ _) ?_
          rintro e wx ⟨rfl, rfl⟩
          go_wp2_with fail
          refine Calls.mono SP1.out ?_
          rintro e wC ⟨rfl, bC⟩
          have QC := hide (QB.out.trans (bC.mono QB.out.size))
          have PC := hide (own_below PB.out bC)
          have OC := hide (own_below OB.out bC)
          have BC := hide (BB1.out.trans (bC.mono BB1.out.size))
          obtain ⟨al2, gl2, cl2, hl5, rfl, hl6, hl7⟩ := LQ.out wC (BW.out _ QC.out)
          have SP2 := hide (samePairs_any (some ⟨gq, 0, none⟩) (some ⟨gl2, 0, none⟩) gq 0 cq gl2 0 cl2 PQ wC (fun _ => rfl) (fun _ => rfl) (fun _ => (OC.out.lt gq rfl).2) (fun _ => hl6) (own_lies OC.out) hl7 (by omega))
          clear bC PB OB BB1 QB hl1 hl3 hl7 SP1
          go_wp2_with fail
          refine Calls.mono (num_any _ _) ?_
          rintro e wx ⟨rfl, rfl⟩
          go_wp2_with fail
          refine Calls.mono SP2.out ?_
          rintro e wD ⟨rfl, bD⟩
          have PD := own_below PC.out bD
          have OD := own_below OC.out bD
          have BD := BC.out.trans (bD.mono BC.out.size)
          have RGD := HR.out.below sq BD
          have sD : w22.heap.size ≤ wD.heap.size := Nat.le_trans sq BD.size
          have TD := alloc_grown wD (.cells #[.slice (some ⟨gq, 0, none⟩) PQ.length cq] 38)
          have RE := hide (RGD.late sD TD (fun k hk => by cases hk))
          have PE := hide (own_none PD TD)
          have OE := hide (own_none (own_base OD (show w22.heap.size ≤ wA.heap.size by omega)) TD)
          have sE := le_alloc (o := .cells #[.slice (some ⟨gq, 0, none⟩) PQ.length cq] 38) sD
          clear bD PD OD BD RGD TD PC OC BC QC SP2 hl5 hl6
          go_upto_region 36 with (at_builtin; refine wpList_append_own _ rfl _ _ 36 rfl w22.heap.size 38 i0 (.slice none 0 0) 1 24 Try.underlying36 hi hz0 hz1 hz2 rfl (by decide) _ _ _ rfl RE.out.tr ⟨wD.heap.size, 0, none⟩ 1 1 [.slice (some ⟨gq, 0, none⟩) PQ.length cq] rfl rfl (cell_one_new _ _ _) (fun x hx => by simp at hx; subst hx; rfl) hm1 hm2 sE ?_; intro v5 w5 o5 g5 n5; clear n5)
          obtain ⟨a5, c5, rfl⟩ := own_shape o5
          have R5 := RE.out.twin sE hql2 (by rw [← HPQ.out]; exact OE.out) (fun h => by have := HRL.out; omega) (by rw [← HPQ.out]; exact o5) g5
          rw [← HPQ.out] at R5
          have P5 := row_type PE.out RE.out.tr (by decide) g5
          have s5 : w22.heap.size ≤ w5.heap.size := R5.bl.size
          have TF := alloc_grown w5 (.cells #[.slice (some ⟨gp, 0, none⟩) PQ.length cp] 38)
          have RF := hide (R5.late s5 TF (fun k hk => by cases hk))
          have PF := hide (own_none P5 TF)
          have sF := le_alloc (o := .cells #[.slice (some ⟨gp, 0, none⟩) PQ.length cp] 38) s5
          clear o5 g5 R5 P5 TF RE PE OE
          go_upto_region 37 with (at_builtin; refine wpList_append_own _ rfl _ _ 36 rfl w22.heap.size 38 i0 (.slice none 0 0) 1 24 Try.underlying36 hi hz0 hz1 hz2 rfl (by decide) _ _ _ rfl RF.out.rr ⟨w5.heap.size, 0, none⟩ 1 1 [.slice (some ⟨gp, 0, none⟩) PQ.length cp] rfl rfl (cell_one_new _ _ _) (fun x hx => by simp at hx; subst hx; rfl) hm3 hm4 sF ?_; intro v6 w6 o6 g6 n6; clear n6)
          obtain ⟨a6, c6, rfl⟩ := own_shape o6
          have R6 := RF.out.read sF (Nat.le_refl _) (fun h0 h => by
            have hq0 : qs = [] := List.length_eq_zero_iff.1 (by have := HRL.out; omega)
            subst hq0
            show gp ≠ gq
            omega) o6 g6
          have P6 := row_type PF.out RF.out.rr (by decide) g6
          have s6 : w22.heap.size ≤ w6.heap.size := R6.bl.size
          have TG := alloc_grown w6 (.cells #[.int .u8 ((qs.length : Int) % 256), .int .u8 ((qs.length : Int) / 256 % 256)] 5)
          have R7 := hide (R6.late s6 TG (fun k hk => by cases hk))
          have P7 := hide (own_none P6 TG)
          have s7 := le_alloc (o := .cells #[.int .u8 ((qs.length : Int) % 256), .int .u8 ((qs.length : Int) / 256 % 256)] 5) s6
          have MC := mark_conv w6 qs.length
          have ma := mark_add 114 qs.length
          have sz : (strOf [UInt8.ofNat qs.length, UInt8.ofNat (qs.length / 256)]).size = 2 := rfl
          have w8a := u8_wr (qs.length : Int)
          have w8b := u8_wr ((qs.length : Int) / 256)
          have MA := hide (marked_any gp cp wr.heap.size PQ (mkS 114 qs.length) _ P7.out (Nat.le_trans (by have := (P7.out.lt gp rfl); omega) (Nat.le_of_lt (P7.out.lt gp rfl).2)) (by omega))
          clear o6 g6 R6 P6 TG RF PF
          go_wp2_with fail
          refine Calls.mono MA.out ?_
          rintro e wM ⟨g', c', rfl, o8, l8, gr8, hp8⟩
          have hgS : w22.heap.size ≤ gp := by omega
          have R8 := R7.out.keep s7 gr8 (fun k hk => by have := Option.some.inj hk; omega) (own_type R7.out.tr P7.out (by decide)) (own_type R7.out.rr P7.out (by decide)) (fun j q1 q2 e => by
            have e' := Option.some.inj e
            rcases snoc_at qs _ j q1 with ⟨p, _, e3⟩ | ⟨p, e3⟩
            · rw [e3] at e'
              have q5 : qs[j].1 < wr.heap.size := ((HR.out.te j p q2).2.lt _ rfl).2
              omega
            · rw [e3] at e'
              dsimp only at e'
              omega) (fun j q1 q2 e => by
            have e' := Option.some.inj e
            rw [List.getElem_append_left q2] at e'
            have := (HR.out.re j q2 q2).2.1
            omega)
          have sM : w22.heap.size ≤ wM.heap.size := R8.bl.size
          have hgM : gp < wM.heap.size := Nat.lt_of_lt_of_le (P7.out.lt gp rfl).2 gr8.size
          have R8m := R8.more (by simp) (by
            rw [List.getElem_append_right (Nat.le_refl _)]
            simp only [Nat.sub_self, List.getElem_cons_zero]
            refine ⟨hgS, hgM, hne.1, by omega, ?_⟩
            rw [show rs.length / 2 = qs.length by have := HRL.out; omega]
            exact l8)
          have hg9 : w22.heap.size ≤ g' := by
            rcases hp8 with rfl | q
            · exact hgS
            · omega
          have T9 := alloc_grown wM (.cells #[.slice (some ⟨g', 0, none⟩) (PQ.length + 65) c'] 38)
          have R9 := hide (R8m.late sM T9 (fun k hk => by cases hk))
          have O9 := hide (own_none o8 T9)
          have s9 := le_alloc (o := .cells #[.slice (some ⟨g', 0, none⟩) (PQ.length + 65) c'] 38) sM
          clear o8 l8 gr8 hp8 R8 R8m T9 R7 P7 MA MC ma sz w8a w8b
          go_upto_region 38 with (at_builtin; refine wpList_append_own _ rfl _ _ 36 rfl w22.heap.size 38 i0 (.slice none 0 0) 1 24 Try.underlying36 hi hz0 hz1 hz2 rfl (by decide) _ _ _ rfl R9.out.rr ⟨wM.heap.size, 0, none⟩ 1 1 [.slice (some ⟨g', 0, none⟩) (PQ.length + 65) c'] rfl rfl (cell_one_new _ _ _) (fun x hx => by simp at hx; subst hx; rfl) (by rw [List.length_append]; exact hm5) (by rw [List.length_append]; exact hm6) s9 ?_; intro v9 w9 o9 g9 n9; clear n9)
          obtain ⟨a9, c9, rfl⟩ := own_shape o9
          have R10 := R9.out.read s9 (by simp) (fun _ h => by simp at h) o9 g9
          have O10 := row_type O9.out R9.out.rr (by decide) g9
          have R11 : Hid (RG w22.heap.size gs w22 (.slice a9 ((rs ++ [(gp, PQ.length, cp)]).length + 1) c9) (.slice a5 (qs.length + 1) c5) (rs ++ [(gp, PQ.length, cp)] ++ [(g', PQ.length + 65, c')]) (qs ++ [(gq, PQ.length, cq)]) (rs.length + 1 + 1) w9) := R10.more (by simp) (by
            rw [List.getElem_append_right (by simp)]
            simp only [List.length_append, List.length_cons, List.length_nil, Nat.zero_add, Nat.sub_self, List.getElem_cons_zero]
            refine ⟨hg9, (O10.lt g' rfl).2, by omega, by omega, ?_⟩
            rw [show (rs.length + 1) / 2 = qs.length by have := HRL.out; omega]
            have hl : (mks (PQ.length + 65) (mkS 114 qs.length)).length = PQ.length + 65 := mks_len _ _
            refine own_lies (base := wr.heap.size) (c := c') ?_
            rw [hl]
            exact O10)
          clear o9 g9 R9 O9 R10 O10
          go_wp2_with fail
          go_roundw
          case rel =>
            refine ⟨rs ++ [(gp, PQ.length, cp)] ++ [(g', PQ.length + 65, c')], qs ++ [(gq, PQ.length, cq)], by simp; omega, by have := HRL.out; simp only [List.length_append, List.length_cons, List.length_nil]; omega, by rw [List.length_append]; go_num, ?_, ?_⟩
            · rw [List.length_append, HNX.out]
              rfl
            · have e : (rs ++ [(gp, PQ.length, cp)] ++ [(g', PQ.length + 65, c')]).length = rs.length + 1 + 1 := by simp
              show RG _ _ _ _ _ _ _ _ _
              rw [e]
              exact R11.out
          case measure => simp [intOf]; omega
        case neg =>
          rename World => w30
          have hqn : qs.length = gs.length := by omega
          have sW := HR.out.bl.size
          have K5 := hide (fun Y (hY : Below w30.heap.size w30 Y) => K4.out Y (HR.out.bl.trans (hY.mono sW)))
          have hnl2 : ¬ (qs.length : Int) < (gs.length : Int) := by omega
          have hrb : rs.length ≤ 140000 := by omega
          have HQN := hide hqn
          have HKN := hide hkn
          have HLT := hide hlts
          have HRL := hide hrl
          have CRD : Hid (∀ (j : Nat) (h : j < rs.length), ∃ br, ar = some ⟨br, 0, none⟩ ∧ br < w30.heap.size ∧ w30.cell? ⟨br, j, none⟩ = some (.slice (some ⟨rs[j].1, 0, none⟩) rs[j].2.1 rs[j].2.2)) := fun j h => row_atj HR.out.rr h
          clear hqn hkn hlts hrl
          go_wp2_with fail
          go_loopw [32] (fun vi wq => ∃ (j : Nat), j ≤ rs.length ∧ vi = .int .i64 (j : Int) ∧ Hid (Below w30.heap.size w30 wq)) (fun vi _ => rs.length - (intOf vi).toNat)
          case atStart => exact ⟨0, Nat.zero_le _, rfl, Below.refl _ _⟩
          case round =>
            obtain ⟨j, hj, rfl, HB3⟩ := hrel
            by_cases hjl : j < rs.length
            case pos =>
              have hji : (j : Int) < (rs.length : Int) := by omega
              obtain ⟨br, hbr, hbl, hcl⟩ := CRD.out j hjl
              obtain rfl := hbr
              obtain ⟨e1, e2, e3, e4, e5⟩ := HR.out.re j hjl hjl
              obtain ⟨gj, hgj⟩ : ∃ gj, gj = rs[j].1 := ⟨_, rfl⟩
              obtain ⟨nj, hnj⟩ : ∃ nj, nj = rs[j].2.1 := ⟨_, rfl⟩
              obtain ⟨cj, hcj⟩ : ∃ cj, cj = rs[j].2.2 := ⟨_, rfl⟩
              rw [← hgj, ← hnj, ← hcj] at hcl
              rw [← hgj, ← hnj] at e5
              rw [← hgj] at e2
              rw [← hnj] at e3 e4
              clear e1 hgj hnj hcj
              have CJ : Hid (∀ Y, Below wr.heap.size wr Y → Y.cell? ⟨br, j, none⟩ = some (.slice (some ⟨gj, 0, none⟩) nj cj)) := fun Y hY => ((HB3.out.trans (hY.mono HB3.out.size)).cell hbl).trans hcl
              obtain ⟨h, hh1, hh2, hh3⟩ : ∃ h : Nat, j / 2 = h ∧ (j : Int) / 2 = (h : Int) ∧ (j : Int) / 512 = (h : Int) / 256 := ⟨j / 2, rfl, by omega, by omega⟩
              rw [hh1] at e5
              have AL := hide (fun Y (hY : Below wr.heap.size wr Y) => all_any (some ⟨gj, 0, none⟩) gj cj nj (mkS 114 h) Y (fun _ => rfl) (fun _ => Nat.lt_of_lt_of_le e2 (HB3.out.trans (hY.mono HB3.out.size)).size) (e5.below e2 (HB3.out.trans (hY.mono HB3.out.size))) (by omega))
              clear e5 hcl hh1
              go_wp2_with fail
              refine wp_region_held_drew (S := fun Y => Below wr.heap.size wr Y) (by kernel_rfl) ((Below.refl _ _).drew) (fun hHeld => ?_)
              refine wpAnyH_take (i := 0) (v := (.slice (some ⟨br, 0, none⟩) rs.length cr)) rfl (by kernel_rfl) (by kernel_rfl) (by kernel_rfl) (fun _ _ _ h => h) (Or.inl ⟨by rfl, ?_⟩) (by assumption) ?_
              · intro w' hSw
                (try dsimp only at hSw)
                go_simp <;> first | exact i64_in (by omega) (by omega) | exact u32_in (by omega) (by omega) | exact u32_add _ _ | (rw [Int.tmod_eq_emod_of_nonneg (by omega)]; omega) | (rw [Int.tdiv_eq_ediv_of_nonneg (by omega)]; omega) | omega
              (try simp only [Act.put, List.setIfInBounds_toArray, List.set_cons_zero, List.set_cons_succ])
              refine wpAnyH_take (i := 1) (v := (.int .i64 (j : Int))) rfl (by kernel_rfl) (by kernel_rfl) (by kernel_rfl) (fun _ _ _ h => h) (Or.inl ⟨by rfl, ?_⟩) (by assumption) ?_
              · intro w' hSw
                (try dsimp only at hSw)
                go_simp <;> first | exact i64_in (by omega) (by omega) | exact u32_in (by omega) (by omega) | exact u32_add _ _ | (rw [Int.tmod_eq_emod_of_nonneg (by omega)]; omega) | (rw [Int.tdiv_eq_ediv_of_nonneg (by omega)]; omega) | omega
              (try simp only [Act.put, List.setIfInBounds_toArray, List.set_cons_zero, List.set_cons_succ])
              refine wpAnyH_take (i := 2) (v := (.pointer (some ⟨br, j, none⟩))) rfl (by kernel_rfl) (by kernel_rfl) (by kernel_rfl) (fun _ _ _ h => h) (Or.inl ⟨by rfl, ?_⟩) (by assumption) ?_
              · intro w' hSw
                (try dsimp only at hSw)
                go_simp <;> first | exact i64_in (by omega) (by omega) | exact u32_in (by omega) (by omega) | exact u32_add _ _ | (rw [Int.tmod_eq_emod_of_nonneg (by omega)]; omega) | (rw [Int.tdiv_eq_ediv_of_nonneg (by omega)]; omega) | omega
              (try simp only [Act.put, List.setIfInBounds_toArray, List.set_cons_zero, List.set_cons_succ])
              refine wpAnyH_take (i := 3) (v := (.slice (some ⟨gj, 0, none⟩) nj cj)) rfl (by kernel_rfl) (by kernel_rfl) (by kernel_rfl) (fun _ _ _ h => h) (Or.inl ⟨by rfl, ?_⟩) (by assumption) ?_
              · intro w' hSw
                (try dsimp only at hSw)
                (have y := CJ.out _ hSw; go_simp)
              (try simp only [Act.put, List.setIfInBounds_toArray, List.set_cons_zero, List.set_cons_succ])
              refine wpAnyH_take (i := 4) (v := (.int .i64 (j : Int))) rfl (by kernel_rfl) (by kernel_rfl) (by kernel_rfl) (fun _ _ _ h => h) (Or.inl ⟨by rfl, ?_⟩) (by assumption) ?_
              · intro w' hSw
                (try dsimp only at hSw)
                go_simp <;> first | exact i64_in (by omega) (by omega) | exact u32_in (by omega) (by omega) | exact u32_add _ _ | (rw [Int.tmod_eq_emod_of_nonneg (by omega)]; omega) | (rw [Int.tdiv_eq_ediv_of_nonneg (by omega)]; omega) | omega
              (try simp only [Act.put, List.setIfInBounds_toArray, List.set_cons_zero, List.set_cons_succ])
              refine wpAnyH_take (i := 5) (v := (.int .i64 (h : Int))) rfl (by kernel_rfl) (by kernel_rfl) (by kernel_rfl) (fun _ _ _ h => h) (Or.inl ⟨by rfl, ?_⟩) (by assumption) ?_
              · intro w' hSw
                (try dsimp only at hSw)
                go_simp <;> first | exact i64_in (by omega) (by omega) | exact u32_in (by omega) (by omega) | exact u32_add _ _ | (rw [Int.tmod_eq_emod_of_nonneg (by omega)]; omega) | (rw [Int.tdiv_eq_ediv_of_nonneg (by omega)]; omega) | omega
              (try simp only [Act.put, List.setIfInBounds_toArray, List.set_cons_zero, List.set_cons_succ])
              refine wpAnyH_take (i := 6) (v := (.int .u8 ((h : Int) % 256))) rfl (by kernel_rfl) (by kernel_rfl) (by kernel_rfl) (fun _ _ _ h => h) (Or.inl ⟨by rfl, ?_⟩) (by assumption) ?_
              · intro w' hSw
                (try dsimp only at hSw)
                (go_simp; exact u8_wr _)
              (try simp only [Act.put, List.setIfInBounds_toArray, List.set_cons_zero, List.set_cons_succ])
              refine wpAnyH_take (i := 7) (v := (.int .i64 (j : Int))) rfl (by kernel_rfl) (by kernel_rfl) (by kernel_rfl) (fun _ _ _ h => h) (Or.inl ⟨by rfl, ?_⟩) (by assumption) ?_
              · intro w' hSw
                (try dsimp only at hSw)
                go_simp <;> first | exact i64_in (by omega) (by omega) | exact u32_in (by omega) (by omega) | exact u32_add _ _ | (rw [Int.tmod_eq_emod_of_nonneg (by omega)]; omega) | (rw [Int.tdiv_eq_ediv_of_nonneg (by omega)]; omega) | omega
              (try simp only [Act.put, List.setIfInBounds_toArray, List.set_cons_zero, List.set_cons_succ])
              refine wpAnyH_take (i := 8) (v := (.int .i64 ((h : Int) / 256))) rfl (by kernel_rfl) (by kernel_rfl) (by kernel_rfl) (fun _ _ _ h => h) (Or.inl ⟨by rfl, ?_⟩) (by assumption) ?_
              · intro w' hSw
                (try dsimp only at hSw)
                go_simp <;> first | exact i64_in (by omega) (by omega) | exact u32_in (by omega) (by omega) | exact u32_add _ _ | (rw [Int.tmod_eq_emod_of_nonneg (by omega)]; omega) | (rw [Int.tdiv_eq_ediv_of_nonneg (by omega)]; omega) | omega
              (try simp only [Act.put, List.setIfInBounds_toArray, List.set_cons_zero, List.set_cons_succ])
              refine wpAnyH_take (i := 9) (v := (.int .u8 ((h : Int) / 256 % 256))) rfl (by kernel_rfl) (by kernel_rfl) (by kernel_rfl) (fun _ _ _ h => h) (Or.inl ⟨by rfl, ?_⟩) (by assumption) ?_
              · intro w' hSw
                (try dsimp only at hSw)
                (go_simp; exact u8_wr _)
              (try simp only [Act.put, List.setIfInBounds_toArray, List.set_cons_zero, List.set_cons_succ])
              refine wpAnyH_ready (rs := [10]) (by kernel_rfl) (by simp) ?_
              refine AllReadyH.cons rfl (fun K hK => ?_) AllReadyH.nil
              go_simp
              obtain ⟨WA, hWA⟩ : ∃ WA, WA = (wr.alloc (.cells #[.int .u8 ((h : Int) % 256), .int .u8 ((h : Int) / 256 % 256)] 5)).drew := ⟨_, rfl⟩
              have bA : Below wr.heap.size wr WA := by rw [hWA]; exact ((Below.refl wr.heap.size wr).alloc (Nat.le_refl _) _).drew
              have MC : (convert 42 9 (.slice (some ⟨wr.heap.size, 0, none⟩) 2 2)).run Try.prog WA = .ok (.string (strOf [UInt8.ofNat h, UInt8.ofNat (h / 256)])) WA := by rw [hWA]; exact mark_convD wr h
              rw [← hWA]
              clear hWA
              refine hK.out _ _ bA (fun hHeld => ?_)
              clear hK
              (try simp only [Act.put, List.setIfInBounds_toArray, List.set_cons_zero, List.set_cons_succ])
              refine wpAnyH_ready (rs := [11]) (by kernel_rfl) (by simp) ?_
              refine AllReadyH.cons rfl (fun K hK => ?_) AllReadyH.nil
              go_simp
              refine hK.out _ _ bA (fun hHeld => ?_)
              clear hK MC
              (try simp only [Act.put, List.setIfInBounds_toArray, List.set_cons_zero, List.set_cons_succ])
              refine wpAnyH_take (i := 12) (v := (.string (mkS 114 h))) rfl (by kernel_rfl) (by kernel_rfl) (by kernel_rfl) (fun _ _ _ h => h) (Or.inl ⟨by rfl, ?_⟩) (by assumption) ?_
              · intro w' hSw
                (try dsimp only at hSw)
                (have ma := mark_add 114 h; have sz : (strOf [UInt8.ofNat h, UInt8.ofNat (h / 256)]).size = 2 := rfl; go_simp)
              (try simp only [Act.put, List.setIfInBounds_toArray, List.set_cons_zero, List.set_cons_succ])
              refine wpAnyH_ready (rs := [13]) (by kernel_rfl) (by simp) ?_
              refine AllReadyH.cons rfl (fun K hK => ?_) AllReadyH.nil
              go_simp
              refine Calls.mono (AL.out _ bA) ?_
              rintro e w2 ⟨rfl, b2⟩
              have bB := bA.trans (b2.mono bA.size)
              refine hK.out _ _ bB (fun hHeld => ?_)
              clear hK
              (try simp only [Act.put, List.setIfInBounds_toArray, List.set_cons_zero, List.set_cons_succ])
              refine wpAnyH_take (i := 14) (v := (.bool false)) rfl (by kernel_rfl) (by kernel_rfl) (by kernel_rfl) (fun _ _ _ h => h) (Or.inl ⟨by rfl, ?_⟩) (by assumption) ?_
              · intro w' hSw
                (try dsimp only at hSw)
                go_simp <;> first | exact i64_in (by omega) (by omega) | exact u32_in (by omega) (by omega) | exact u32_add _ _ | (rw [Int.tmod_eq_emod_of_nonneg (by omega)]; omega) | (rw [Int.tdiv_eq_ediv_of_nonneg (by omega)]; omega) | omega
              (try simp only [Act.put, List.setIfInBounds_toArray, List.set_cons_zero, List.set_cons_succ])
              refine wpAnyH_done (by kernel_rfl) ?_ _
              have BB3 := hide (HB3.out.trans (bB.mono HB3.out.size))
              clear hHeld bA b2 bB AL CJ
              go_wp2_with fail
              go_roundw
              case rel => exact ⟨j + 1, by omega, by go_num, BB3.out⟩
              case measure => simp [intOf]; omega
            case neg =>
              rename World => w31
              have K6 := hide (fun Y (hY : Below w31.heap.size w31 Y) => K5.out Y (HB3.out.trans (hY.mono HB3.out.size)))
              have K60 := hide (K6.out w31 (Below.refl _ _))
              have hnl3 : ¬ (j : Int) < (rs.length : Int) := by omega
              have BT3 := hide (HR.out.below sW HB3.out)
              have hkb : ks.length ≤ 65536 := by have := HKN.out; have := HLT.out; omega
              clear CRD
              go_wp2_with fail
              go_loopw [33] (fun vi wq => ∃ (q : Nat), q ≤ ks.length ∧ vi = .int .i64 (q : Int) ∧ Hid (Below w31.heap.size w31 wq)) (fun vi _ => ks.length - (intOf vi).toNat)
              case atStart => exact ⟨0, Nat.zero_le _, rfl, Below.refl _ _⟩
              case round =>
                obtain ⟨q, hq, rfl, HB4⟩ := hrel
                by_cases hql4 : q < ks.length
                case pos =>
                  have hqi4 : (q : Int) < (ks.length : Int) := by omega
                  have hqt : q < ts.length := by have := HKN.out; omega
                  obtain ⟨bk, rfl, hbk, hck⟩ := row_atj K60.out.2.1.row hql4
                  obtain ⟨bz, rfl, hbz, hcz⟩ := row_int K60.out.2.2.1 hql4
                  obtain rfl : af = some ⟨F, 0, none⟩ := hF (by omega)
                  obtain ⟨g0, c0, htv⟩ := ST.out.s q hqt
                  have cF := K60.out.1.cell q hqt
                  have hFl := K60.out.1.fl (by omega)
                  rw [htv] at cF
                  have hdn := K60.out.1.done q hqt hql4 g0 (by rw [htv]; rfl)
                  have hon := K60.out.2.1.own q hql4
                  obtain ⟨P0, hP0⟩ : ∃ P0, P0 = ts[q].1.2.length := ⟨_, rfl⟩
                  obtain ⟨gk, hgk⟩ : ∃ gk, gk = ks[q].1 := ⟨_, rfl⟩
                  obtain ⟨nk, hnk⟩ : ∃ nk, nk = ks[q].2.1 := ⟨_, rfl⟩
                  obtain ⟨c2k, hc2⟩ : ∃ c2k, c2k = ks[q].2.2 := ⟨_, rfl⟩
                  have hnb : nk ≤ 70000 := by rw [hnk, K60.out.2.1.n q hql4 hqt]; have := HPL.out q hqt; omega
                  have hpb : P0 ≤ 65000 := by rw [hP0]; exact HPL.out q hqt
                  rw [← hgk, ← hnk, ← hc2] at hck
                  rw [← hnk] at hcz
                  rw [← hP0] at cF hdn
                  rw [← hgk, ← hnk, ← hc2] at hon
                  have hlk : LiesP gk 0 w31 (mks nk (mkS 109 q)) := own_lies (c := c2k) (by rw [mks_len]; exact hon)
                  have hgl : gk < w31.heap.size := (hon.lt gk rfl).2
                  have MU : Hid (∀ Y, Below wr.heap.size wr Y → Below w31.heap.size w31 Y) := fun Y hY => HB4.out.trans (hY.mono HB4.out.size)
                  have CC : Hid (∀ Y, Below wr.heap.size wr Y → Y.cell? ⟨bk, q, none⟩ = some (.slice (some ⟨gk, 0, none⟩) nk c2k) ∧ Y.cell? ⟨bz, q, none⟩ = some (.int .i64 (nk : Int)) ∧ Y.cell? ⟨F, q * 2 + 1, none⟩ = some (.slice (some ⟨g0, 0, none⟩) P0 c0)) := fun Y hY => ⟨((MU.out Y hY).cell hbk).trans hck, ((MU.out Y hY).cell hbz).trans hcz, ((MU.out Y hY).cell hFl).trans cF⟩
                  have AL1 := hide (fun Y (hY : Below wr.heap.size wr Y) => all_any (some ⟨gk, 0, none⟩) gk c2k nk (mkS 109 q) Y (fun _ => rfl) (fun _ => Nat.lt_of_lt_of_le hgl (MU.out Y hY).size) (hlk.below hgl (MU.out Y hY)) (by omega))
                  have AL2 := hide (fun Y (hY : Below wr.heap.size wr Y) => all_any (some ⟨g0, 0, none⟩) g0 c0 P0 (mkS 109 q) Y (fun _ => rfl) (fun _ => Nat.lt_of_lt_of_le hdn.1 (MU.out Y hY).size) (hdn.2.below hdn.1 (MU.out Y hY)) (by omega))
                  have hqg : (q : Int) < (gs.length : Int) := by have := HKN.out; have := HLT.out; omega
                  clear hck hcz cF hdn hon hlk htv hP0 hgk hnk hc2
                  have MC := mark_conv wr q
                  have ma := mark_add 109 q
                  have sz : (strOf [UInt8.ofNat q, UInt8.ofNat (q / 256)]).size = 2 := rfl
                  have w8a := u8_wr (q : Int)
                  have w8b := u8_wr ((q : Int) / 256)
                  go_upto_region 48 with fail
                  obtain ⟨WA, hWA⟩ : ∃ WA, WA = wr.alloc (.cells #[.int .u8 ((q : Int) % 256), .int .u8 ((q : Int) / 256 % 256)] 5) := ⟨_, rfl⟩
                  have bA : Below wr.heap.size wr WA := by rw [hWA]; exact (Below.refl wr.heap.size wr).alloc (Nat.le_refl _) _
                  rw [← hWA]
                  clear hWA MC ma sz w8a w8b
                  refine wp_region_held_drew (S := fun Y => Below wr.heap.size wr Y) (by kernel_rfl) bA.drew (fun hHeld => ?_)
                  refine wpAnyH_take (i := 0) (v := (.slice (some ⟨bk, 0, none⟩) gs.length ck)) rfl (by kernel_rfl) (by kernel_rfl) (by kernel_rfl) (fun _ _ _ h => h) (Or.inl ⟨by rfl, ?_⟩) (by assumption) ?_
                  · intro w' hSw
                    (try dsimp only at hSw)
                    go_simp <;> first | exact i64_in (by omega) (by omega) | exact u32_in (by omega) (by omega) | exact u32_add _ _ | (rw [Int.tmod_eq_emod_of_nonneg (by omega)]; omega) | (rw [Int.tdiv_eq_ediv_of_nonneg (by omega)]; omega) | omega
                  (try simp only [Act.put, List.setIfInBounds_toArray, List.set_cons_zero, List.set_cons_succ])
                  refine wpAnyH_take (i := 1) (v := (.int .i64 (q : Int))) rfl (by kernel_rfl) (by kernel_rfl) (by kernel_rfl) (fun _ _ _ h => h) (Or.inl ⟨by rfl, ?_⟩) (by assumption) ?_
                  · intro w' hSw
                    (try dsimp only at hSw)
                    go_simp <;> first | exact i64_in (by omega) (by omega) | exact u32_in (by omega) (by omega) | exact u32_add _ _ | (rw [Int.tmod_eq_emod_of_nonneg (by omega)]; omega) | (rw [Int.tdiv_eq_ediv_of_nonneg (by omega)]; omega) | omega
                  (try simp only [Act.put, List.setIfInBounds_toArray, List.set_cons_zero, List.set_cons_succ])
                  refine wpAnyH_take (i := 2) (v := (.pointer (some ⟨bk, q, none⟩))) rfl (by kernel_rfl) (by kernel_rfl) (by kernel_rfl) (fun _ _ _ h => h) (Or.inl ⟨by rfl, ?_⟩) (by assumption) ?_
                  · intro w' hSw
                    (try dsimp only at hSw)
                    go_simp <;> first | exact i64_in (by omega) (by omega) | exact u32_in (by omega) (by omega) | exact u32_add _ _ | (rw [Int.tmod_eq_emod_of_nonneg (by omega)]; omega) | (rw [Int.tdiv_eq_ediv_of_nonneg (by omega)]; omega) | omega
                  (try simp only [Act.put, List.setIfInBounds_toArray, List.set_cons_zero, List.set_cons_succ])
                  refine wpAnyH_take (i := 3) (v := (.slice (some ⟨gk, 0, none⟩) nk c2k)) rfl (by kernel_rfl) (by kernel_rfl) (by kernel_rfl) (fun _ _ _ h => h) (Or.inl ⟨by rfl, ?_⟩) (by assumption) ?_
                  · intro w' hSw
                    (try dsimp only at hSw)
                    (have y := (CC.out _ hSw).1; go_simp)
                  (try simp only [Act.put, List.setIfInBounds_toArray, List.set_cons_zero, List.set_cons_succ])
                  refine wpAnyH_take (i := 4) (v := (.int .i64 (nk : Int))) rfl (by kernel_rfl) (by kernel_rfl) (by kernel_rfl) (fun _ _ _ h => h) (Or.inl ⟨by rfl, ?_⟩) (by assumption) ?_
                  · intro w' hSw
                    (try dsimp only at hSw)
                    go_simp <;> first | exact i64_in (by omega) (by omega) | exact u32_in (by omega) (by omega) | exact u32_add _ _ | (rw [Int.tmod_eq_emod_of_nonneg (by omega)]; omega) | (rw [Int.tdiv_eq_ediv_of_nonneg (by omega)]; omega) | omega
                  (try simp only [Act.put, List.setIfInBounds_toArray, List.set_cons_zero, List.set_cons_succ])
                  refine wpAnyH_take (i := 5) (v := (.slice (some ⟨bz, 0, none⟩) gs.length cz)) rfl (by kernel_rfl) (by kernel_rfl) (by kernel_rfl) (fun _ _ _ h => h) (Or.inl ⟨by rfl, ?_⟩) (by assumption) ?_
                  · intro w' hSw
                    (try dsimp only at hSw)
                    go_simp <;> first | exact i64_in (by omega) (by omega) | exact u32_in (by omega) (by omega) | exact u32_add _ _ | (rw [Int.tmod_eq_emod_of_nonneg (by omega)]; omega) | (rw [Int.tdiv_eq_ediv_of_nonneg (by omega)]; omega) | omega
                  (try simp only [Act.put, List.setIfInBounds_toArray, List.set_cons_zero, List.set_cons_succ])
                  refine wpAnyH_take (i := 6) (v := (.int .i64 (q : Int))) rfl (by kernel_rfl) (by kernel_rfl) (by kernel_rfl) (fun _ _ _ h => h) (Or.inl ⟨by rfl, ?_⟩) (by assumption) ?_
                  · intro w' hSw
                    (try dsimp only at hSw)
                    go_simp <;> first | exact i64_in (by omega) (by omega) | exact u32_in (by omega) (by omega) | exact u32_add _ _ | (rw [Int.tmod_eq_emod_of_nonneg (by omega)]; omega) | (rw [Int.tdiv_eq_ediv_of_nonneg (by omega)]; omega) | omega
                  (try simp only [Act.put, List.setIfInBounds_toArray, List.set_cons_zero, List.set_cons_succ])
                  refine wpAnyH_take (i := 7) (v := (.pointer (some ⟨bz, q, none⟩))) rfl (by kernel_rfl) (by kernel_rfl) (by kernel_rfl) (fun _ _ _ h => h) (Or.inl ⟨by rfl, ?_⟩) (by assumption) ?_
                  · intro w' hSw
                    (try dsimp only at hSw)
                    go_simp <;> first | exact i64_in (by omega) (by omega) | exact u32_in (by omega) (by omega) | exact u32_add _ _ | (rw [Int.tmod_eq_emod_of_nonneg (by omega)]; omega) | (rw [Int.tdiv_eq_ediv_of_nonneg (by omega)]; omega) | omega
                  (try simp only [Act.put, List.setIfInBounds_toArray, List.set_cons_zero, List.set_cons_succ])
                  refine wpAnyH_take (i := 8) (v := (.int .i64 (nk : Int))) rfl (by kernel_rfl) (by kernel_rfl) (by kernel_rfl) (fun _ _ _ h => h) (Or.inl ⟨by rfl, ?_⟩) (by assumption) ?_
                  · intro w' hSw
                    (try dsimp only at hSw)
                    (have y := (CC.out _ hSw).2.1; go_simp)
                  (try simp only [Act.put, List.setIfInBounds_toArray, List.set_cons_zero, List.set_cons_succ])
                  refine wpAnyH_take (i := 9) (v := (.bool false)) rfl (by kernel_rfl) (by kernel_rfl) (by kernel_rfl) (fun _ _ _ h => h) (Or.inl ⟨by rfl, ?_⟩) (by assumption) ?_
                  · intro w' hSw
                    (try dsimp only at hSw)
                    go_simp <;> first | exact i64_in (by omega) (by omega) | exact u32_in (by omega) (by omega) | exact u32_add _ _ | (rw [Int.tmod_eq_emod_of_nonneg (by omega)]; omega) | (rw [Int.tdiv_eq_ediv_of_nonneg (by omega)]; omega) | omega
                  (try simp only [Act.put, List.setIfInBounds_toArray, List.set_cons_zero, List.set_cons_succ])
                  refine wpAnyH_take (i := 10) (v := (.bool false)) rfl (by kernel_rfl) (by kernel_rfl) (by kernel_rfl) (fun _ _ _ h => h) (Or.inl ⟨by rfl, ?_⟩) (by assumption) ?_
                  · intro w' hSw
                    (try dsimp only at hSw)
                    go_simp <;> first | exact i64_in (by omega) (by omega) | exact u32_in (by omega) (by omega) | exact u32_add _ _ | (rw [Int.tmod_eq_emod_of_nonneg (by omega)]; omega) | (rw [Int.tdiv_eq_ediv_of_nonneg (by omega)]; omega) | omega
                  (try simp only [Act.put, List.setIfInBounds_toArray, List.set_cons_zero, List.set_cons_succ])
                  refine wpAnyH_take (i := 11) (v := (.slice (some ⟨bk, 0, none⟩) gs.length ck)) rfl (by kernel_rfl) (by kernel_rfl) (by kernel_rfl) (fun _ _ _ h => h) (Or.inl ⟨by kernel_rfl, ?_⟩) (by assumption) ?_
                  · intro w' hSw
                    (try dsimp only at hSw)
                    go_simp
                  (try simp only [Act.put, List.setIfInBounds_toArray, List.set_cons_zero, List.set_cons_succ])
                  refine wpAnyH_take (i := 12) (v := (.int .i64 (q : Int))) rfl (by kernel_rfl) (by kernel_rfl) (by kernel_rfl) (fun _ _ _ h => h) (Or.inl ⟨by kernel_rfl, ?_⟩) (by assumption) ?_
                  · intro w' hSw
                    (try dsimp only at hSw)
                    go_simp
                  (try simp only [Act.put, List.setIfInBounds_toArray, List.set_cons_zero, List.set_cons_succ])
                  refine wpAnyH_take (i := 13) (v := (.pointer (some ⟨bk, q, none⟩))) rfl (by kernel_rfl) (by kernel_rfl) (by kernel_rfl) (fun _ _ _ h => h) (Or.inl ⟨by kernel_rfl, ?_⟩) (by assumption) ?_
                  · intro w' hSw
                    (try dsimp only at hSw)
                    go_simp
                  (try simp only [Act.put, List.setIfInBounds_toArray, List.set_cons_zero, List.set_cons_succ])
                  refine wpAnyH_take (i := 14) (v := (.slice (some ⟨gk, 0, none⟩) nk c2k)) rfl (by kernel_rfl) (by kernel_rfl) (by kernel_rfl) (fun _ _ _ h => h) (Or.inl ⟨by kernel_rfl, ?_⟩) (by assumption) ?_
                  · intro w' hSw
                    (try dsimp only at hSw)
                    (have y := (CC.out _ hSw).1; go_simp)
                  (try simp only [Act.put, List.setIfInBounds_toArray, List.set_cons_zero, List.set_cons_succ])
                  refine wpAnyH_take (i := 15) (v := (.string (mkS 109 q))) rfl (by kernel_rfl) (by kernel_rfl) (by kernel_rfl) (fun _ _ _ h => h) (Or.inl ⟨by kernel_rfl, ?_⟩) (by assumption) ?_
                  · intro w' hSw
                    (try dsimp only at hSw)
                    go_simp
                  (try simp only [Act.put, List.setIfInBounds_toArray, List.set_cons_zero, List.set_cons_succ])
                  refine wpAnyH_ready (rs := [16]) (by kernel_rfl) (by simp) ?_
                  refine AllReadyH.cons rfl (fun K hK => ?_) AllReadyH.nil
                  go_simp
                  refine Calls.mono (AL1.out _ bA.drew) ?_
                  rintro e w2 ⟨rfl, b2⟩
                  have bB := bA.drew.trans (b2.mono bA.drew.size)
                  refine hK.out _ _ (bB) (fun hHeld => ?_)
                  clear hK
                  (try simp only [Act.put, List.setIfInBounds_toArray, List.set_cons_zero, List.set_cons_succ])
                  refine wpAnyH_take (i := 17) (v := (.bool false)) rfl (by kernel_rfl) (by kernel_rfl) (by kernel_rfl) (fun _ _ _ h => h) (Or.inl ⟨by kernel_rfl, ?_⟩) (by assumption) ?_
                  · intro w' hSw
                    (try dsimp only at hSw)
                    go_simp
                  (try simp only [Act.put, List.setIfInBounds_toArray, List.set_cons_zero, List.set_cons_succ])
                  refine wpAnyH_take (i := 18) (v := (.bool false)) rfl (by kernel_rfl) (by kernel_rfl) (by kernel_rfl) (fun _ _ _ h => h) (Or.inl ⟨by rfl, ?_⟩) (by assumption) ?_
                  · intro w' hSw
                    (try dsimp only at hSw)
                    go_simp <;> first | exact i64_in (by omega) (by omega) | exact u32_in (by omega) (by omega) | exact u32_add _ _ | (rw [Int.tmod_eq_emod_of_nonneg (by omega)]; omega) | (rw [Int.tdiv_eq_ediv_of_nonneg (by omega)]; omega) | omega
                  (try simp only [Act.put, List.setIfInBounds_toArray, List.set_cons_zero, List.set_cons_succ])
                  refine wpAnyH_take (i := 19) (v := (.bool false)) rfl (by kernel_rfl) (by kernel_rfl) (by kernel_rfl) (fun _ _ _ h => h) (Or.inl ⟨by rfl, ?_⟩) (by assumption) ?_
                  · intro w' hSw
                    (try dsimp only at hSw)
                    go_simp <;> first | exact i64_in (by omega) (by omega) | exact u32_in (by omega) (by omega) | exact u32_add _ _ | (rw [Int.tmod_eq_emod_of_nonneg (by omega)]; omega) | (rw [Int.tdiv_eq_ediv_of_nonneg (by omega)]; omega) | omega
                  (try simp only [Act.put, List.setIfInBounds_toArray, List.set_cons_zero, List.set_cons_succ])
                  refine wpAnyH_take (i := 20) (v := (.slice (some ⟨F, 0, none⟩) gs.length cf)) rfl (by kernel_rfl) (by kernel_rfl) (by kernel_rfl) (fun _ _ _ h => h) (Or.inl ⟨by kernel_rfl, ?_⟩) (by assumption) ?_
                  · intro w' hSw
                    (try dsimp only at hSw)
                    go_simp
                  (try simp only [Act.put, List.setIfInBounds_toArray, List.set_cons_zero, List.set_cons_succ])
                  refine wpAnyH_take (i := 21) (v := (.int .i64 (q : Int))) rfl (by kernel_rfl) (by kernel_rfl) (by kernel_rfl) (fun _ _ _ h => h) (Or.inl ⟨by kernel_rfl, ?_⟩) (by assumption) ?_
                  · intro w' hSw
                    (try dsimp only at hSw)
                    go_simp
                  (try simp only [Act.put, List.setIfInBounds_toArray, List.set_cons_zero, List.set_cons_succ])
                  refine wpAnyH_take (i := 22) (v := (.pointer (some ⟨F, q * 2, none⟩))) rfl (by kernel_rfl) (by kernel_rfl) (by kernel_rfl) (fun _ _ _ h => h) (Or.inl ⟨by kernel_rfl, ?_⟩) (by assumption) ?_
                  · intro w' hSw
                    (try dsimp only at hSw)
                    go_simp
                  (try simp only [Act.put, List.setIfInBounds_toArray, List.set_cons_zero, List.set_cons_succ])
                  refine wpAnyH_take (i := 23) (v := (.pointer (some ⟨F, q * 2 + 1, none⟩))) rfl (by kernel_rfl) (by kernel_rfl) (by kernel_rfl) (fun _ _ _ h => h) (Or.inl ⟨by kernel_rfl, ?_⟩) (by assumption) ?_
                  · intro w' hSw
                    (try dsimp only at hSw)
                    go_simp
                  (try simp only [Act.put, List.setIfInBounds_toArray, List.set_cons_zero, List.set_cons_succ])
                  refine wpAnyH_take (i := 24) (v := (.slice (some ⟨g0, 0, none⟩) P0 c0)) rfl (by kernel_rfl) (by kernel_rfl) (by kernel_rfl) (fun _ _ _ h => h) (Or.inl ⟨by kernel_rfl, ?_⟩) (by assumption) ?_
                  · intro w' hSw
                    (try dsimp only at hSw)
                    (have y := (CC.out _ hSw).2.2; go_simp)
                  (try simp only [Act.put, List.setIfInBounds_toArray, List.set_cons_zero, List.set_cons_succ])
                  refine wpAnyH_take (i := 25) (v := (.string (mkS 109 q))) rfl (by kernel_rfl) (by kernel_rfl) (by kernel_rfl) (fun _ _ _ h => h) (Or.inl ⟨by kernel_rfl, ?_⟩) (by assumption) ?_
                  · intro w' hSw
                    (try dsimp only at hSw)
                    go_simp
                  (try simp only [Act.put, List.setIfInBounds_toArray, List.set_cons_zero, List.set_cons_succ])
                  refine wpAnyH_ready (rs := [26]) (by kernel_rfl) (by simp) ?_
                  refine AllReadyH.cons rfl (fun K hK => ?_) AllReadyH.nil
                  go_simp
                  refine Calls.mono (AL2.out _ bB) ?_
                  rintro e w2' ⟨rfl, b3⟩
                  have bC := bB.trans (b3.mono bB.size)
                  refine hK.out _ _ (bC) (fun hHeld => ?_)
                  clear hK
                  (try simp only [Act.put, List.setIfInBounds_toArray, List.set_cons_zero, List.set_cons_succ])
                  refine wpAnyH_take (i := 27) (v := (.bool false)) rfl (by kernel_rfl) (by kernel_rfl) (by kernel_rfl) (fun _ _ _ h => h) (Or.inl ⟨by kernel_rfl, ?_⟩) (by assumption) ?_
                  · intro w' hSw
                    (try dsimp only at hSw)
                    go_simp
                  (try simp only [Act.put, List.setIfInBounds_toArray, List.set_cons_zero, List.set_cons_succ])
                  refine wpAnyH_take (i := 28) (v := (.bool false)) rfl (by kernel_rfl) (by kernel_rfl) (by kernel_rfl) (fun _ _ _ h => h) (Or.inl ⟨by rfl, ?_⟩) (by assumption) ?_
                  · intro w' hSw
                    (try dsimp only at hSw)
                    go_simp <;> first | exact i64_in (by omega) (by omega) | exact u32_in (by omega) (by omega) | exact u32_add _ _ | (rw [Int.tmod_eq_emod_of_nonneg (by omega)]; omega) | (rw [Int.tdiv_eq_ediv_of_nonneg (by omega)]; omega) | omega
                  (try simp only [Act.put, List.setIfInBounds_toArray, List.set_cons_zero, List.set_cons_succ])
                  refine wpAnyH_done (by kernel_rfl) ?_ _
                  have BB4 := hide (MU.out _ bC)
                  clear hHeld bA b2 bB b3 bC AL1 AL2 CC MU
                  go_wp2_with fail
                  go_roundw
                  case rel => exact ⟨q + 1, by omega, by go_num, BB4.out⟩
                  case measure => simp [intOf]; omega
                case neg =>
                  rename World => w32
                  have K7 := hide (fun Y (hY : Below w32.heap.size w32 Y) => K6.out Y (HB4.out.trans (hY.mono HB4.out.size)))
                  have K70 := hide (K7.out w32 (Below.refl _ _))
                  have hnl4 : ¬ (q : Int) < (gs.length : Int) := by have := HKN.out; have := HLT.out; omega
                  have RT := hide (BT3.out.below (Nat.le_trans sW HB3.out.size) HB4.out)
                  clear BT3
                  go_wp2_with fail
                  go_loopw [35] (fun vi wq => ∃ (y : Nat), y ≤ qs.length ∧ vi = .int .i64 (y : Int) ∧ Hid (Below w32.heap.size w32 wq)) (fun vi _ => qs.length - (intOf vi).toNat)
                  case atStart => exact ⟨0, Nat.zero_le _, rfl, Below.refl _ _⟩
                  case round =>
                    obtain ⟨y, hy, rfl, HB5⟩ := hrel
                    by_cases hyl : y < qs.length
                    case pos =>
                      have hyi : (y : Int) < (qs.length : Int) := by omega
                      have hyg : y < gs.length := by have := HQN.out; omega
                      have hygi : (y : Int) < (gs.length : Int) := by omega
                      obtain ⟨bt, rfl, hbt, hct⟩ := row_atj RT.out.tr hyl
                      obtain ⟨hte1, hte2⟩ := RT.out.te y hyl hyg
                      obtain rfl : ao = some ⟨g, 0, none⟩ := h1 (by omega)
                      obtain ⟨al, gl, cl, hl1, rfl, hl3, hl4⟩ := LP.out y hyg w32 (BW.out _ K70.out.2.2.2.2.2.2)
                      have hgl32 : g < w32.heap.size := by
                        have := (BW.out _ K70.out.2.2.2.2.2.2).size
                        have := h2 (by omega)
                        omega
                      rw [hte1] at hct
                      have hnb := (NE.out y hyg).2
                      have hlt := own_lies hte2
                      have hgt : qs[y].1 < w32.heap.size := (hte2.lt _ rfl).2
                      obtain ⟨PY, hPY⟩ : ∃ PY, PY = gs[y].2 := ⟨_, rfl⟩
                      obtain ⟨gt, hgt2⟩ : ∃ gt, gt = qs[y].1 := ⟨_, rfl⟩
                      obtain ⟨ct2, hct2⟩ : ∃ ct2, ct2 = qs[y].2.2 := ⟨_, rfl⟩
                      rw [← hPY, ← hgt2, ← hct2] at hct
                      rw [← hPY, ← hgt2] at hlt
                      rw [← hgt2] at hgt
                      rw [← hPY] at hl1 hl4 hnb
                      clear hte1 hte2 hPY hgt2 hct2
                      have MU : Hid (∀ Y, Below wr.heap.size wr Y → Below w32.heap.size w32 Y) := fun Y hY => HB5.out.trans (hY.mono HB5.out.size)
                      have CC : Hid (∀ Y, Below wr.heap.size wr Y → Y.cell? ⟨bt, y, none⟩ = some (.slice (some ⟨gt, 0, none⟩) PY.length ct2) ∧ Y.cell? ⟨g, y * 2 + 1, none⟩ = some (.slice (some ⟨gl, 0, none⟩) PY.length cl)) := fun Y hY => ⟨((MU.out Y hY).cell hbt).trans hct, ((MU.out Y hY).cell hgl32).trans hl1⟩
                      have SP := hide (fun Y (hY : Below wr.heap.size wr Y) => samePairs_any (some ⟨gt, 0, none⟩) (some ⟨gl, 0, none⟩) gt 0 ct2 gl 0 cl PY Y (fun _ => rfl) (fun _ => rfl) (fun _ => Nat.lt_of_lt_of_le hgt (MU.out Y hY).size) (fun _ => Nat.lt_of_lt_of_le hl3 (MU.out Y hY).size) (hlt.below hgt (MU.out Y hY)) (hl4.below hl3 (MU.out Y hY)) (by omega))
                      clear hct hlt hl1 hl4
                      go_wp2_with fail
                      refine wp_region_held_drew (S := fun Y => Below wr.heap.size wr Y) (by kernel_rfl) ((Below.refl _ _).drew) (fun hHeld => ?_)
                      refine wpAnyH_take (i := 0) (v := (.slice (some ⟨bt, 0, none⟩) qs.length ct)) rfl (by kernel_rfl) (by kernel_rfl) (by kernel_rfl) (fun _ _ _ h => h) (Or.inl ⟨by rfl, ?_⟩) (by assumption) ?_
                      · intro w' hSw
                        (try dsimp only at hSw)
                        go_simp <;> first | exact i64_in (by omega) (by omega) | exact u32_in (by omega) (by omega) | exact u32_add _ _ | (rw [Int.tmod_eq_emod_of_nonneg (by omega)]; omega) | (rw [Int.tdiv_eq_ediv_of_nonneg (by omega)]; omega) | omega
                      (try simp only [Act.put, List.setIfInBounds_toArray, List.set_cons_zero, List.set_cons_succ])
                      refine wpAnyH_take (i := 1) (v := (.int .i64 (y : Int))) rfl (by kernel_rfl) (by kernel_rfl) (by kernel_rfl) (fun _ _ _ h => h) (Or.inl ⟨by rfl, ?_⟩) (by assumption) ?_
                      · intro w' hSw
                        (try dsimp only at hSw)
                        go_simp <;> first | exact i64_in (by omega) (by omega) | exact u32_in (by omega) (by omega) | exact u32_add _ _ | (rw [Int.tmod_eq_emod_of_nonneg (by omega)]; omega) | (rw [Int.tdiv_eq_ediv_of_nonneg (by omega)]; omega) | omega
                      (try simp only [Act.put, List.setIfInBounds_toArray, List.set_cons_zero, List.set_cons_succ])
                      refine wpAnyH_take (i := 2) (v := (.pointer (some ⟨bt, y, none⟩))) rfl (by kernel_rfl) (by kernel_rfl) (by kernel_rfl) (fun _ _ _ h => h) (Or.inl ⟨by rfl, ?_⟩) (by assumption) ?_
                      · intro w' hSw
                        (try dsimp only at hSw)
                        go_simp <;> first | exact i64_in (by omega) (by omega) | exact u32_in (by omega) (by omega) | exact u32_add _ _ | (rw [Int.tmod_eq_emod_of_nonneg (by omega)]; omega) | (rw [Int.tdiv_eq_ediv_of_nonneg (by omega)]; omega) | omega
                      (try simp only [Act.put, List.setIfInBounds_toArray, List.set_cons_zero, List.set_cons_succ])
                      refine wpAnyH_take (i := 3) (v := (.slice (some ⟨gt, 0, none⟩) PY.length ct2)) rfl (by kernel_rfl) (by kernel_rfl) (by kernel_rfl) (fun _ _ _ h => h) (Or.inl ⟨by rfl, ?_⟩) (by assumption) ?_
                      · intro w' hSw
                        (try dsimp only at hSw)
                        (have yy := (CC.out _ hSw).1; go_simp)
                      (try simp only [Act.put, List.setIfInBounds_toArray, List.set_cons_zero, List.set_cons_succ])
                      refine wpAnyH_take (i := 4) (v := (.slice (some ⟨g, 0, none⟩) gs.length cap)) rfl (by kernel_rfl) (by kernel_rfl) (by kernel_rfl) (fun _ _ _ h => h) (Or.inl ⟨by rfl, ?_⟩) (by assumption) ?_
                      · intro w' hSw
                        (try dsimp only at hSw)
                        go_simp <;> first | exact i64_in (by omega) (by omega) | exact u32_in (by omega) (by omega) | exact u32_add _ _ | (rw [Int.tmod_eq_emod_of_nonneg (by omega)]; omega) | (rw [Int.tdiv_eq_ediv_of_nonneg (by omega)]; omega) | omega
                      (try simp only [Act.put, List.setIfInBounds_toArray, List.set_cons_zero, List.set_cons_succ])
                      refine wpAnyH_take (i := 5) (v := (.int .i64 (y : Int))) rfl (by kernel_rfl) (by kernel_rfl) (by kernel_rfl) (fun _ _ _ h => h) (Or.inl ⟨by rfl, ?_⟩) (by assumption) ?_
                      · intro w' hSw
                        (try dsimp only at hSw)
                        go_simp <;> first | exact i64_in (by omega) (by omega) | exact u32_in (by omega) (by omega) | exact u32_add _ _ | (rw [Int.tmod_eq_emod_of_nonneg (by omega)]; omega) | (rw [Int.tdiv_eq_ediv_of_nonneg (by omega)]; omega) | omega
                      (try simp only [Act.put, List.setIfInBounds_toArray, List.set_cons_zero, List.set_cons_succ])
                      refine wpAnyH_take (i := 6) (v := (.pointer (some ⟨g, y * 2, none⟩))) rfl (by kernel_rfl) (by kernel_rfl) (by kernel_rfl) (fun _ _ _ h => h) (Or.inl ⟨by rfl, ?_⟩) (by assumption) ?_
                      · intro w' hSw
                        (try dsimp only at hSw)
                        go_simp <;> first | exact i64_in (by omega) (by omega) | exact u32_in (by omega) (by omega) | exact u32_add _ _ | (rw [Int.tmod_eq_emod_of_nonneg (by omega)]; omega) | (rw [Int.tdiv_eq_ediv_of_nonneg (by omega)]; omega) | omega
                      (try simp only [Act.put, List.setIfInBounds_toArray, List.set_cons_zero, List.set_cons_succ])
                      refine wpAnyH_take (i := 7) (v := (.pointer (some ⟨g, y * 2 + 1, none⟩))) rfl (by kernel_rfl) (by kernel_rfl) (by kernel_rfl) (fun _ _ _ h => h) (Or.inl ⟨by rfl, ?_⟩) (by assumption) ?_
                      · intro w' hSw
                        (try dsimp only at hSw)
                        go_simp <;> first | exact i64_in (by omega) (by omega) | exact u32_in (by omega) (by omega) | exact u32_add _ _ | (rw [Int.tmod_eq_emod_of_nonneg (by omega)]; omega) | (rw [Int.tdiv_eq_ediv_of_nonneg (by omega)]; omega) | omega
                      (try simp only [Act.put, List.setIfInBounds_toArray, List.set_cons_zero, List.set_cons_succ])
                      refine wpAnyH_take (i := 8) (v := (.slice (some ⟨gl, 0, none⟩) PY.length cl)) rfl (by kernel_rfl) (by kernel_rfl) (by kernel_rfl) (fun _ _ _ h => h) (Or.inl ⟨by rfl, ?_⟩) (by assumption) ?_
                      · intro w' hSw
                        (try dsimp only at hSw)
                        (have yy := (CC.out _ hSw).2; go_simp)
                      (try simp only [Act.put, List.setIfInBounds_toArray, List.set_cons_zero, List.set_cons_succ])
                      refine wpAnyH_ready (rs := [9]) (by kernel_rfl) (by simp) ?_
                      refine AllReadyH.cons rfl (fun K hK => ?_) AllReadyH.nil
                      go_simp
                      refine Calls.mono (SP.out _ (Below.refl _ _).drew) ?_
                      rintro e w2 ⟨rfl, b2⟩
                      have bB := (Below.refl wr.heap.size wr).drew.trans b2
                      refine hK.out _ _ (bB) (fun hHeld => ?_)
                      clear hK
                      (try simp only [Act.put, List.setIfInBounds_toArray, List.set_cons_zero, List.set_cons_succ])
                      refine wpAnyH_take (i := 10) (v := (.bool false)) rfl (by kernel_rfl) (by kernel_rfl) (by kernel_rfl) (fun _ _ _ h => h) (Or.inl ⟨by rfl, ?_⟩) (by assumption) ?_
                      · intro w' hSw
                        (try dsimp only at hSw)
                        go_simp <;> first | exact i64_in (by omega) (by omega) | exact u32_in (by omega) (by omega) | exact u32_add _ _ | (rw [Int.tmod_eq_emod_of_nonneg (by omega)]; omega) | (rw [Int.tdiv_eq_ediv_of_nonneg (by omega)]; omega) | omega
                      (try simp only [Act.put, List.setIfInBounds_toArray, List.set_cons_zero, List.set_cons_succ])
                      refine wpAnyH_done (by kernel_rfl) ?_ _
                      have BB5 := hide (MU.out _ bB)
                      clear hHeld b2 bB SP CC MU
                      go_wp2_with fail
                      go_roundw
                      case rel => exact ⟨y + 1, by omega, by go_num, BB5.out⟩
                      case measure => simp [intOf]; omega
                    case neg =>
                      rename World => w33
                      have K8 := hide (fun Y (hY : Below w33.heap.size w33 Y) => K7.out Y (HB5.out.trans (hY.mono HB5.out.size)))
                      have hnl5 : ¬ (y : Int) < (qs.length : Int) := by omega
                      have k0 := K8.out w33 (Below.refl _ _)
                      have S1 := hide (SG.out _ _ w33 k0.2.2.2.2.2.1 (GL.out _ k0.2.2.2.2.2.2))
                      clear k0 RT K70
                      go_wp2_with fail
                      refine Calls.mono S1.out ?_
                      rintro e w34 ⟨rfl, b34⟩
                      have k1 := K8.out w34 b34
                      have S2 := hide (SG.out _ _ w34 k1.2.2.2.1.lies (GL.out _ k1.2.2.2.2.2.2))
                      have B34 := hide b34
                      clear k1 b34 S1
                      go_wp2_with fail
                      refine Calls.mono S2.out ?_
                      rintro e w35 ⟨rfl, b35⟩
                      have B35 := hide (B34.out.trans (b35.mono B34.out.size))
                      have k2 := K8.out w35 B35.out
                      have S3 := hide (SGh.out _ _ w35 k2.2.2.2.2.1.lies (TK.out _ _ _ (GL.out _ k2.2.2.2.2.2.2)))
                      clear k2 b35 S2 B34
                      go_wp2_with fail
                      refine Calls.mono S3.out ?_
                      rintro e w36 ⟨rfl, b36⟩
                      have B36 := hide (B35.out.trans (b36.mono B35.out.size))
                      have k3 := (K8.out w36 B36.out).2.2.2.2.2.2
                      obtain ⟨kc0, kc1⟩ := KC.out w36 k3
                      have S4' := hide (AN.out _ w36 (GL.out _ k3))
                      clear k3 b36 S3 B35
                      go_wp2_with fail
                      refine Calls.mono S4'.out ?_
                      rintro e w37 ⟨rfl, b37⟩
                      have B37 := hide (FIN.out _ (K8.out w37 (B36.out.trans (b37.mono B36.out.size))).2.2.2.2.2.2)
                      clear b37 S4' B36 kc0 kc1
                      go_wp2_with fail
                      go_ret
                      exact ⟨rfl, B37.out⟩
end Go.Proofs.Ytfmmfophdfjopaa
