import Derived.Test.YtpoegknmkbnjlaaDoorGErNil
import Derived.Test.YtpoegknmkbnjlaaDoorGErTake
import Derived.Test.YtpoegknmkbnjlaaDoorEtMv1
import Derived.Test.YtpoegknmkbnjlaaDoorEtMv2
namespace Go.Proofs.YtpoegknmkbnjlaaDoor.Cn
open Go.RowKit
set_option maxHeartbeats 16000000 in
set_option maxRecDepth 100000 in
set_option linter.unusedSimpArgs false in
set_option linter.unusedVariables false in
theorem moves_tick {w : World} {D o : Nat} {A : Array Value} {own ref sv : Value} {SL : List Mg} {B : Nat → Prop} {n : Nat} (h : Dk w D o A own ref sv SL B n) (hn : n ≤ 99999999999) (s : Sp) (hk : s.k = 3) (hm : MgFit s.m) :
    Calls Tryd.prog 14 #[.pointer (some ⟨D, o, none⟩), .agg (spV s)] w fun e w' => e = .returned (.bool true) ∧ ∃ A' sv' SL' B', Dk w' D o A' own ref sv' SL' B' (n + 3) ∧ Dn w w' D o A A' B B' sv sv' := by
  obtain ⟨Bo, hBo⟩ : ∃ Bo, Bo = w.heap.size := ⟨_, rfl⟩
  obtain ⟨W0, hW0⟩ : ∃ W0, W0 = w.alloc (.cells (spV s) 38) := ⟨_, rfl⟩
  have k0 : Kp w W0 non := by rw [hW0]; exact (Kp.refl w non).alloc _
  have ob0 : W0.heap[Bo]? = some (.cells (spV s) 38) := by rw [hW0, hBo]; exact heap_last w _
  have h0 := h.kp0 k0
  have H0 := hide h0
  have KK0 := hide k0
  obtain ⟨sv0, hsv0⟩ : ∃ sv0, sv0 = s.v := ⟨_, rfl⟩
  obtain ⟨sm, hsm⟩ : ∃ sm, sm = s.m := ⟨_, rfl⟩
  obtain ⟨c, L, hL1, ca⟩ := both_tick (h0).pa (by omega)
  have CA := hide ca
  have HL1 := hide hL1
  have FX : Hid (∀ X, Kp W0 X B → X.cell? ⟨D, o, none⟩ = some own ∧ X.cell? ⟨D, o + 1, none⟩ = some ref ∧ X.cell? ⟨Bo, 2, none⟩ = some (.int .i64 sv0) ∧ X.rangeAt Bo 3 (mgV sm).toList) := fun X hX => by
    have b1 := (hX.block _ (blk_lt h0.blk) h0.dB).trans h0.blk
    have b2 := (hX.block _ (blk_lt ob0) (fun e => by have := h.pa.lt e; omega)).trans ob0
    refine ⟨by rw [cell_row b1]; exact h0.c0, by rw [cell_row b1]; exact h0.c1, by rw [cell_row b2, hsv0]; rfl, fun j u hj => ?_⟩
    have hl : j < 11 := by
      have := (List.getElem?_eq_some_iff.1 hj).1
      simpa [mgV] using this
    rw [hsm] at hj
    rw [cell_row b2]
    have e : (spV s)[3 + j]? = (mgV s.m)[j]? := by
      have : j = 0 ∨ j = 1 ∨ j = 2 ∨ j = 3 ∨ j = 4 ∨ j = 5 ∨ j = 6 ∨ j = 7 ∨ j = 8 ∨ j = 9 ∨ j = 10 := by omega
      rcases this with rfl | rfl | rfl | rfl | rfl | rfl | rfl | rfl | rfl | rfl | rfl <;> rfl
    rw [e]
    simpa using hj
  have n0 : W0.cell? ⟨Bo, 0, none⟩ = some (.int .i64 3) := by rw [cell_row ob0, ← hk]; rfl
  have HSV : Hid (∀ k, sv.ownBlock = some k → k < w.heap.size) := fun k hk => (h.sB hk).2.2
  clear h k0 ob0 h0 hk hm hsv0 hsm ca hL1
  go_enter Tryd.func14, Tryd.ntmps14
  go_upto_region 1 with fail
  rw [← hW0, ← hBo]
  clear hW0 hBo
  go_upto_region 13 with fail
  clear n0
  obtain ⟨z0, z1, -, -⟩ := FX.out W0 (Kp.refl _ _)
  go_wp2_with fail
  clear z0 z1
  refine Calls.mono CA.out ?_
  rintro e w1 ⟨u, rfl, o1, k1, nx⟩
  have K1 : Hid (Kp W0 w1 B) := k1
  have O1 : Hid (w1.ownsRow W0.heap.size 36 11 u L.length (mgs L)) := o1
  have NX := hide (nx w1 (Kp.refl _ _))
  clear o1 k1 nx CA
  go_upto_region 14 with fail
  obtain ⟨z0, z1, -, -⟩ := FX.out w1 K1.out
  go_wp2_with fail
  clear z0 z1
  refine Calls.mono NX.out ?_
  rintro e w2 ⟨u2, B2, rfl, o2, k2, p2, g2⟩
  have K2 : Hid (Kp w1 w2 B) := k2
  have O2 : Hid (w2.ownsRow W0.heap.size 36 11 u2 L.length (mgs L)) := own_base o2 (K1.out.size)
  have P2 := hide p2
  have G2 : Hid (∀ k, B2 k → B k ∨ W0.heap.size ≤ k) := g2
  clear o2 k2 p2 g2 NX
  obtain ⟨dk2, dn2⟩ := H0.out.pair (K1.out.trans K2.out (fun _ e => Or.inl e)) P2.out G2.out (Nat.le_add_right n 2)
  have DN2 : Hid (Dn w w2 D o A A B B2 sv sv) := (Dn.same KK0.out).trans dn2
  have DK2 := hide dk2
  have U1 : Hid (w2.ownsRow W0.heap.size 36 11 u L.length (mgs L)) := own_kp O1.out K2.out (fun k e q => by have := own_ge O1.out e; have := H0.out.pa.lt q; omega)
  have SZ0 : Hid (w.heap.size ≤ W0.heap.size) := KK0.out.size
  obtain ⟨dk3, dn3⟩ := dk2.out u
  obtain ⟨W3, hW3⟩ : ∃ W3, W3 = w2.setCell ⟨D, o + 3, none⟩ u := ⟨_, rfl⟩
  rw [← hW3] at dk3 dn3
  have k23 : Kp w2 W3 (fun k => k = D) := by rw [hW3]; exact (Kp.refl w2 (fun k => k = D)).set (Or.inl rfl) _ _
  have nD : ∀ k, k = D → ∀ {b : Nat} {v : Value}, w2.ownsRow b 36 11 v L.length (mgs L) → v.ownBlock ≠ some k := fun k e b v hv hq => by
    obtain ⟨cc, hc⟩ := own_typ hv hq
    rw [e, DK2.out.blk] at hc
    simp at hc
  have V1 : Hid (W3.ownsRow W0.heap.size 36 11 u L.length (mgs L)) := own_kp U1.out k23 (fun k e q => nD k q U1.out e)
  have V2 : Hid (W3.ownsRow W0.heap.size 36 11 u2 L.length (mgs L)) := own_kp O2.out k23 (fun k e q => nD k q O2.out e)
  obtain ⟨A3, hA3⟩ : ∃ A3, A3 = A.setIfInBounds (o + 3) u := ⟨_, rfl⟩
  rw [← hA3] at dk3 dn3
  have DK3 := hide dk3
  have DN3 : Hid (Dn w W3 D o A A3 B B2 sv sv) := DN2.out.trans dn3
  have x3 : ∃ x3v, w2.cell? ⟨D, o + 3, none⟩ = some x3v := by rw [cell_row DK2.out.blk]; exact ⟨_, Array.getElem?_eq_getElem (by rw [DK2.out.sz]; rcases DK2.out.oo with e | e <;> omega)⟩
  obtain ⟨x3v, x3⟩ := x3
  have f3 := fz_row DK2.out.blk (o + 3)
  have HW3 := hide hW3
  have NB : Hid (∀ X : World, ∀ A' sv' SL' m, Dk X D o A' own ref sv' SL' B2 m → ∀ {b : Nat} {v : Value} {j : Nat}, X.ownsRow W0.heap.size 36 11 v j (mgs L) → ∀ k, v.ownBlock = some k → ¬ B2 k ∧ k ≠ D) := fun X A' sv' SL' m hd b v j hv k hq => by
    obtain ⟨cc, hc⟩ := own_typ hv hq
    refine ⟨hd.pa.not hc ms_not, fun e => ?_⟩
    rw [e, hd.blk] at hc
    simp at hc
  obtain ⟨ua, uc, rfl⟩ := own_sl V1.out
  obtain ⟨u2a, u2c, rfl⟩ := own_sl V2.out
  obtain ⟨n', hn'⟩ : ∃ n', n' = n + 2 := ⟨_, rfl⟩
  rw [← hn'] at DK3
  have HNN := hide hn'
  have HNB := hide hn
  clear dk2 dn2 dk3 dn3 k23 nD hA3 hW3 DN2 H0 KK0 K1 K2 O1 O2 P2 G2 U1 DK2 FX hn' hn
  go_upto_region 15 with fail
  go_upto_region 16 with fail
  rw [← HW3.out]
  clear x3 f3 HW3
  obtain ⟨ln, hln⟩ : ∃ ln, ln = L.length := ⟨_, rfl⟩
  rw [← hln] at V1 V2 HL1 ⊢
  have HLN := hide hln
  clear hln
  go_wp2_with fail
  go_loopw [9] (fun vi wr => ∃ (i : Nat), i ≤ ln ∧ vi = .int .i64 (i : Int) ∧ ∃ (A' : Array Value) (sv' : Value) (SL' : List Mg), Hid (Dk wr D o A' own ref sv' SL' B2 (n' + i)) ∧ Hid (Dn W3 wr D o A3 A' B2 B2 sv sv')) (fun vi _ => ln - (intOf vi).toNat)
  case atStart => exact ⟨0, Nat.zero_le _, rfl, A3, sv, SL, DK3.out, Dn.same (Kp.refl _ _)⟩
  case round =>
    obtain ⟨i, hi, rfl, A', sv', SL', DK, DN⟩ := hrel
    have Vr1 : Hid (wr.ownsRow W0.heap.size 36 11 (.slice ua ln uc) ln (mgs L)) := own_kp V1.out DN.out.kp (fun k e q => by
      obtain ⟨q1, q2⟩ := NB.out _ _ _ _ _ DK3.out (b := 0) V1.out k e
      rcases q with q | q | q
      · exact q2 q
      · exact q1 q
      · have := HSV.out k q
        have := own_ge V1.out e
        have := SZ0.out
        omega)
    have Vr2 : Hid (wr.ownsRow W0.heap.size 36 11 (.slice u2a ln u2c) ln (mgs L)) := own_kp V2.out DN.out.kp (fun k e q => by
      obtain ⟨q1, q2⟩ := NB.out _ _ _ _ _ DK3.out (b := 0) V2.out k e
      rcases q with q | q | q
      · exact q2 q
      · exact q1 q
      · have := HSV.out k q
        have := own_ge V2.out e
        have := SZ0.out
        omega)
    by_cases hin : i < ln
    case pos =>
      have hii : (i : Int) < (ln : Int) := by omega
      have hiL : i < L.length := by rw [← HLN.out]; exact hin
      obtain ⟨g2, c2', hg2⟩ := own_g Vr2.out (by omega)
      injection hg2 with hg2 _ hg2c
      subst hg2
      subst hg2c
      obtain ⟨m, hm⟩ : ∃ m, m = L[i] := ⟨_, rfl⟩
      have RNG : Hid (wr.rangeAt g2 (i * 11) (mgV m).toList) := by rw [hm]; exact mg_rng Vr2.out i hiL
      have ew := wrap_in (x := (i : Int) + 1) (by have := HL1.out; omega) (by have := HL1.out; omega)
      have hlb : ln ≤ 1 := HL1.out
      obtain ⟨sva, svc, rfl⟩ := own_sl DK.out.sn
      obtain ⟨W4, hW4⟩ : ∃ W4, W4 = wr.drew.alloc (.cells (mgV m) 36) := ⟨_, rfl⟩
      obtain ⟨G4, hG4⟩ : ∃ G4, G4 = wr.drew.heap.size := ⟨_, rfl⟩
      have k4 : Kp wr W4 non := by rw [hW4]; exact ((Kp.refl wr non).drew).alloc _
      have D4 := hide (DK.out.kp0 k4)
      have DN4 : Hid (Dn W3 W4 D o A3 A' B2 B2 sv (.slice sva SL'.length svc)) := DN.out.kp0 k4
      have M4 : Hid (W4.heap[G4]? = some (.cells (mgV m) 36)) := by rw [hW4, hG4]; exact heap_last _ _
      have V24 : Hid (W4.ownsRow W0.heap.size 36 11 (.slice (some ⟨g2, 0, none⟩) ln u2c) ln (mgs L)) := own_kp Vr2.out k4 (fun _ _ f => f)
      have G24 : Hid (g2 < wr.heap.size) := by obtain ⟨cc, hc⟩ := own_typ Vr2.out rfl; exact blk_lt hc
      have R4 : Hid (W4.rangeAt g2 (i * 11) (mgV m).toList) := by rw [hm]; exact mg_rng V24.out i hiL
      have SLB : Hid (SL'.length ≤ 1000000000000) := by show _ ≤ _; have := DK.out.sl; have := HNB.out; have := HNN.out; omega
      have HSV4 : Hid (∀ k, (Value.slice sva SL'.length svc).ownBlock = some k → k ≠ g2) := fun k e q => by
        rcases DN.out.gs k e with z | z
        · have := HSV.out k z
          have := own_ge Vr2.out (g := g2) rfl
          have := SZ0.out
          omega
        · obtain ⟨cc, hc⟩ := own_typ V2.out (g := g2) rfl
          have := blk_lt hc
          omega
      have HW4 := hide hW4
      have HG4 := hide hG4
      have CD : Hid (wr.cell? ⟨D, o + 2, none⟩ = some (.slice sva SL'.length svc) ∧ W4.cell? ⟨D, o + 2, none⟩ = some (.slice sva SL'.length svc)) := ⟨by rw [cell_row DK.out.blk]; exact DK.out.c2, by rw [cell_row D4.out.blk]; exact D4.out.c2⟩
      have HI := hide (And.intro hi hiL)
      clear k4 hW4 hG4 hm hi hiL Vr1
      go_upto_region 19 with fail
      refine wp_region_held_drew (S := fun X => X.rangeAt g2 (i * 11) (mgV m).toList) (by kernel_rfl) RNG.out (fun hHeld => ?_)
      refine wTk (i := 0) (v := (.pointer (some ⟨D, o, none⟩))) rfl ?_ ?_
      · intro w' hSw
        (try dsimp only at hSw)
        go_simp
      (try simp only [Act.put, List.getElem_toArray, List.getElem_cons_zero, List.getElem_cons_succ, List.setIfInBounds_toArray, List.set_cons_zero, List.set_cons_succ])
      refine wTk (i := 1) (v := (.pointer (some ⟨D, o, none⟩))) rfl ?_ ?_
      · intro w' hSw
        (try dsimp only at hSw)
        go_simp
      (try simp only [Act.put, List.getElem_toArray, List.getElem_cons_zero, List.getElem_cons_succ, List.setIfInBounds_toArray, List.set_cons_zero, List.set_cons_succ])
      refine wTk (i := 2) (v := (.pointer (some ⟨D, o, none⟩))) rfl ?_ ?_
      · intro w' hSw
        (try dsimp only at hSw)
        go_simp
      (try simp only [Act.put, List.getElem_toArray, List.getElem_cons_zero, List.getElem_cons_succ, List.setIfInBounds_toArray, List.set_cons_zero, List.set_cons_succ])
      refine wTk (i := 3) (v := (.pointer (some ⟨D, o + 2, none⟩))) rfl ?_ ?_
      · intro w' hSw
        (try dsimp only at hSw)
        go_simp
      (try simp only [Act.put, List.getElem_toArray, List.getElem_cons_zero, List.getElem_cons_succ, List.setIfInBounds_toArray, List.set_cons_zero, List.set_cons_succ])
      refine wTk (i := 5) (v := (.slice (some ⟨g2, 0, none⟩) ln u2c)) rfl ?_ ?_
      · intro w' hSw
        (try dsimp only at hSw)
        go_simp
      (try simp only [Act.put, List.getElem_toArray, List.getElem_cons_zero, List.getElem_cons_succ, List.setIfInBounds_toArray, List.set_cons_zero, List.set_cons_succ])
      refine wTk (i := 6) (v := (.int .i64 (i : Int))) rfl ?_ ?_
      · intro w' hSw
        (try dsimp only at hSw)
        go_simp
      (try simp only [Act.put, List.getElem_toArray, List.getElem_cons_zero, List.getElem_cons_succ, List.setIfInBounds_toArray, List.set_cons_zero, List.set_cons_succ])
      refine wTk (i := 7) (v := (.pointer (some ⟨g2, i * 11, none⟩))) rfl ?_ ?_
      · intro w' hSw
        (try dsimp only at hSw)
        go_simp
      (try simp only [Act.put, List.getElem_toArray, List.getElem_cons_zero, List.getElem_cons_succ, List.setIfInBounds_toArray, List.set_cons_zero, List.set_cons_succ])
      refine wTk (i := 8) (v := (.agg (mgV m))) rfl ?_ ?_
      · intro w' hSw
        (try dsimp only at hSw)
        (exact exec_ldMr (.tmp 91) rfl rfl hSw)
      (try simp only [Act.put, List.getElem_toArray, List.getElem_cons_zero, List.getElem_cons_succ, List.setIfInBounds_toArray, List.set_cons_zero, List.set_cons_succ])
      refine wpAnyH_ready (rs := [4, 9]) (by kernel_rfl) (by simp) ?_
      refine AllReadyH.cons rfl (fun K hK => ?_) (AllReadyH.cons rfl (fun K hK => ?_) AllReadyH.nil)
      · skip
        have cA : wr.drew.cell? ⟨D, o + 2, none⟩ = some (.slice sva SL'.length svc) := CD.out.1
        have cA2 := CD.out.1
        go_simp
        clear cA cA2
        refine hK.out _ _ (RNG.out) (fun hHeld => ?_)
        clear hK
        (try simp only [Act.put, List.setIfInBounds_toArray, List.set_cons_zero, List.set_cons_succ])
        refine wpAnyH_ready (rs := [9]) (by kernel_rfl) (by simp) ?_
        refine AllReadyH.cons rfl (fun K hK => ?_) AllReadyH.nil
        refine wp_bsM (.tmp 92) rfl m rfl ?_
        rw [← HW4.out, ← HG4.out]
        clear HW4
        refine hK.out _ _ (R4.out) (fun hHeld => ?_)
        clear hK
        (try simp only [Act.put, List.setIfInBounds_toArray, List.set_cons_zero, List.set_cons_succ])
        refine wpAnyH_ready (rs := [10]) (by kernel_rfl) (by simp) ?_
        refine AllReadyH.cons rfl (fun K hK => ?_) AllReadyH.nil
        refine wp_apM (.tmp 88) (.tmp 93) rfl 0 (.slice sva SL'.length svc) SL' rfl D4.out.sn G4 m (by first | rfl | (rw [HG4.out]; rfl)) M4.out SLB.out (Nat.zero_le _) ?_
        intro v' w5 o5 g5 n5
        obtain ⟨na, nc, rfl⟩ := own_sl o5
        obtain ⟨b5, d6, e6⟩ := D4.out.grow m o5 g5 n5
        have c5 : w5.cell? ⟨D, o + 2, none⟩ = some (.slice sva SL'.length svc) := by rw [cell_row b5]; exact D4.out.c2
        have f5 := fz_row b5 (o + 2)
        have R5 : Hid (w5.rangeAt g2 (i * 11) (mgV m).toList) := fun j u hj => by
          have z := R4.out j u hj
          rw [← z]
          unfold World.cell?
          rw [(Kp.of_grown g5).block g2 (by obtain ⟨cc, hc⟩ := own_typ V24.out (g := g2) rfl; exact blk_lt hc) (fun e => HSV4.out g2 e.symm rfl)]
        obtain ⟨W6, hW6⟩ : ∃ W6, W6 = w5.setCell ⟨D, o + 2, none⟩ (.slice na (SL'.length + 1) nc) := ⟨_, rfl⟩
        rw [← hW6] at d6 e6
        have D6 := hide d6
        have E6 := hide e6
        have R6 : Hid (W6.rangeAt g2 (i * 11) (mgV m).toList) := fun j u hj => by
          have z := R5.out j u hj
          rw [← z, hW6]
          unfold World.cell?
          rw [((Kp.refl w5 (fun k => k = D)).set (Or.inl rfl) _ _ : Kp w5 (w5.setCell ⟨D, o + 2, none⟩ (.slice na (SL'.length + 1) nc)) (fun k => k = D)).block g2 (by have z2 := (Kp.of_grown g5).size; obtain ⟨cc, hc⟩ := own_typ V24.out (g := g2) rfl; have := blk_lt hc; omega) (fun e => (NB.out _ _ _ _ _ D4.out (b := 0) V24.out g2 rfl).2 e)]
        have HW6 := hide hW6
        clear o5 g5 n5 b5 d6 e6 hW6 CD
        refine hK.out _ _ (R5.out) (fun hHeld => ?_)
        clear hK
        (try simp only [Act.put, List.setIfInBounds_toArray, List.set_cons_zero, List.set_cons_succ])
        refine wTk (i := 11) (v := (.pointer (some ⟨D, o, none⟩))) rfl ?_ ?_
        · intro w' hSw
          (try dsimp only at hSw)
          go_simp
        (try simp only [Act.put, List.getElem_toArray, List.getElem_cons_zero, List.getElem_cons_succ, List.setIfInBounds_toArray, List.set_cons_zero, List.set_cons_succ])
        refine wTk (i := 12) (v := (.pointer (some ⟨D, o + 2, none⟩))) rfl ?_ ?_
        · intro w' hSw
          (try dsimp only at hSw)
          go_simp
        (try simp only [Act.put, List.getElem_toArray, List.getElem_cons_zero, List.getElem_cons_succ, List.setIfInBounds_toArray, List.set_cons_zero, List.set_cons_succ])
        refine wpAnyH_ready (rs := [13]) (by kernel_rfl) (by simp) ?_
        refine AllReadyH.cons rfl (fun K hK => ?_) AllReadyH.nil
        go_simp
        rw [← HW6.out]
        clear c5 f5 HW6
        refine hK.out _ _ (R6.out) (fun hHeld => ?_)
        clear hK
        (try simp only [Act.put, List.setIfInBounds_toArray, List.set_cons_zero, List.set_cons_succ])
        refine wpAnyH_done (by kernel_rfl) ?_ _
        clear hHeld
        go_wp2_with fail
        go_roundw
        case rel => exact ⟨i + 1, by have := HI.out; omega, by go_num, _, _, _, D6.out, DN4.out.trans E6.out⟩
        case measure => simp [intOf]; omega
      · skip
        refine wp_bsM (.tmp 92) rfl m rfl ?_
        rw [← HW4.out, ← HG4.out]
        clear HW4
        refine hK.out _ _ (R4.out) (fun hHeld => ?_)
        clear hK
        (try simp only [Act.put, List.setIfInBounds_toArray, List.set_cons_zero, List.set_cons_succ])
        refine wpAnyH_ready (rs := [4]) (by kernel_rfl) (by simp) ?_
        refine AllReadyH.cons rfl (fun K hK => ?_) AllReadyH.nil
        have cA := CD.out.2
        go_simp
        clear cA
        refine hK.out _ _ (R4.out) (fun hHeld => ?_)
        clear hK
        (try simp only [Act.put, List.setIfInBounds_toArray, List.set_cons_zero, List.set_cons_succ])
        refine wpAnyH_ready (rs := [10]) (by kernel_rfl) (by simp) ?_
        refine AllReadyH.cons rfl (fun K hK => ?_) AllReadyH.nil
        refine wp_apM (.tmp 88) (.tmp 93) rfl 0 (.slice sva SL'.length svc) SL' rfl D4.out.sn G4 m (by first | rfl | (rw [HG4.out]; rfl)) M4.out SLB.out (Nat.zero_le _) ?_
        intro v' w5 o5 g5 n5
        obtain ⟨na, nc, rfl⟩ := own_sl o5
        obtain ⟨b5, d6, e6⟩ := D4.out.grow m o5 g5 n5
        have c5 : w5.cell? ⟨D, o + 2, none⟩ = some (.slice sva SL'.length svc) := by rw [cell_row b5]; exact D4.out.c2
        have f5 := fz_row b5 (o + 2)
        have R5 : Hid (w5.rangeAt g2 (i * 11) (mgV m).toList) := fun j u hj => by
          have z := R4.out j u hj
          rw [← z]
          unfold World.cell?
          rw [(Kp.of_grown g5).block g2 (by obtain ⟨cc, hc⟩ := own_typ V24.out (g := g2) rfl; exact blk_lt hc) (fun e => HSV4.out g2 e.symm rfl)]
        obtain ⟨W6, hW6⟩ : ∃ W6, W6 = w5.setCell ⟨D, o + 2, none⟩ (.slice na (SL'.length + 1) nc) := ⟨_, rfl⟩
        rw [← hW6] at d6 e6
        have D6 := hide d6
        have E6 := hide e6
        have R6 : Hid (W6.rangeAt g2 (i * 11) (mgV m).toList) := fun j u hj => by
          have z := R5.out j u hj
          rw [← z, hW6]
          unfold World.cell?
          rw [((Kp.refl w5 (fun k => k = D)).set (Or.inl rfl) _ _ : Kp w5 (w5.setCell ⟨D, o + 2, none⟩ (.slice na (SL'.length + 1) nc)) (fun k => k = D)).block g2 (by have z2 := (Kp.of_grown g5).size; obtain ⟨cc, hc⟩ := own_typ V24.out (g := g2) rfl; have := blk_lt hc; omega) (fun e => (NB.out _ _ _ _ _ D4.out (b := 0) V24.out g2 rfl).2 e)]
        have HW6 := hide hW6
        clear o5 g5 n5 b5 d6 e6 hW6 CD
        refine hK.out _ _ (R5.out) (fun hHeld => ?_)
        clear hK
        (try simp only [Act.put, List.setIfInBounds_toArray, List.set_cons_zero, List.set_cons_succ])
        refine wTk (i := 11) (v := (.pointer (some ⟨D, o, none⟩))) rfl ?_ ?_
        · intro w' hSw
          (try dsimp only at hSw)
          go_simp
        (try simp only [Act.put, List.getElem_toArray, List.getElem_cons_zero, List.getElem_cons_succ, List.setIfInBounds_toArray, List.set_cons_zero, List.set_cons_succ])
        refine wTk (i := 12) (v := (.pointer (some ⟨D, o + 2, none⟩))) rfl ?_ ?_
        · intro w' hSw
          (try dsimp only at hSw)
          go_simp
        (try simp only [Act.put, List.getElem_toArray, List.getElem_cons_zero, List.getElem_cons_succ, List.setIfInBounds_toArray, List.set_cons_zero, List.set_cons_succ])
        refine wpAnyH_ready (rs := [13]) (by kernel_rfl) (by simp) ?_
        refine AllReadyH.cons rfl (fun K hK => ?_) AllReadyH.nil
        go_simp
        rw [← HW6.out]
        clear c5 f5 HW6
        refine hK.out _ _ (R6.out) (fun hHeld => ?_)
        clear hK
        (try simp only [Act.put, List.setIfInBounds_toArray, List.set_cons_zero, List.set_cons_succ])
        refine wpAnyH_done (by kernel_rfl) ?_ _
        clear hHeld
        go_wp2_with fail
        go_roundw
        case rel => exact ⟨i + 1, by have := HI.out; omega, by go_num, _, _, _, D6.out, DN4.out.trans E6.out⟩
        case measure => simp [intOf]; omega
    case neg =>
      obtain rfl : i = ln := by omega
      have SM := hide (sameM_x (L := L) HLN.out.symm Vr1.out Vr2.out (by have := HL1.out; omega))
      have NU := hide num21
      clear hi hin Vr1 Vr2
      go_wp2_with fail
      refine Calls.mono SM.out ?_
      rintro e w7 ⟨rfl, k7⟩
      have D7 := hide (DK.out.kp0 k7)
      have DN7 : Hid (Dn w w7 D o A A' B B2 sv sv') := (DN3.out.trans DN.out).kp0 k7
      have qc : (c == c) = true := by simp
      clear k7 SM DK DN
      go_wp2_with (go_at_call 13; refine Calls.mono (NU.out _ _) ?_; rintro e w8 ⟨rfl, rfl⟩)
      go_ret
      refine ⟨rfl, A', sv', SL', B2, D7.out.more ?_, DN7.out⟩
      have := HL1.out
      have := HNN.out
      omega
end Go.Proofs.YtpoegknmkbnjlaaDoor.Cn
namespace Go.Proofs.YtpoegknmkbnjlaaDoor.Cn
open Go.RowKit
theorem wpList_ldMGt {w : World} {ops : Array Oper} {rest : List Oper} {o : Oper} {a : Act} {Q : Exit → Act → World → Prop} (x : Operand) (ho : o.op = .load 36 x) (hw : Region.wanted o (yielded ops a.tmps) = true) (m : Mg) (b : Nat) (hx : a.eval x = .pointer (some ⟨b, 0, none⟩)) (hO : MgAt w b m)
    (h : wpList Tryd.prog ops Q rest (a.put o.dst (.agg (mgV m))) w) : wpList Tryd.prog ops Q (o :: rest) a w := by
  have hl : (Instr.loadAt 36 (.pointer (some ⟨b, 0, none⟩))).run Tryd.prog w = .ok (.agg (mgV m)) w := by
    simp only [Instr.loadAt, Instr.sureAddr, Sem.run_bind, Sem.run_pure, Result.andThen]
    exact run_loadVar_row _ _ 36 36 (mgV m) (0, 0) _ hO Tryd.underlying36 rfl mg_info
  refine wpList_step fun K hK => ?_
  rw [if_pos hw]
  unfold Oper.wp execOp
  simp only [ho, Sem.run_bind, Sem.run_pure, Result.andThen_ok, hx, hl]
  exact hK _ _ h
theorem wpList_blRGt {w : World} {ops : Array Oper} {rest : List Oper} {o : Oper} {a : Act} {Q : Exit → Act → World → Prop} (ty : TypeId) (parts : Array (Nat × Operand)) (ho : o.op = .build ty parts) (hw : Region.wanted o (yielded ops a.tmps) = true) (A : Array Value) (hb : Tryd.prog.built ty (parts.map fun (i, x) => (i, a.eval x)).toList = some A)
    (h : wpList Tryd.prog ops Q rest (a.put o.dst (.agg A)) w) : wpList Tryd.prog ops Q (o :: rest) a w := by
  refine wpList_step fun K hK => ?_
  rw [if_pos hw]
  unfold Oper.wp execOp
  simp only [ho, Sem.run_bind, Sem.run_pure]
  have := run_build w ty _ A hb
  rw [this]
  exact hK _ _ h
theorem spt_info : (Tryd.prog.info? 38).map (·.size) = some 14 := by kernel_rfl
theorem exec_ldSp {ρ : Operand → Value} {o : Oper} {w : World} {b : Nat} {s : Sp} (p : Operand) (ho : o.op = .load 38 p) (hx : ρ p = .pointer (some ⟨b, 0, none⟩)) (hO : w.heap[b]? = some (.cells (spV s) 38)) : (execOp ρ o).run Tryd.prog w = .ok (.value (.agg (spV s))) w := by
  have hl : (Instr.loadAt 38 (.pointer (some ⟨b, 0, none⟩))).run Tryd.prog w = .ok (.agg (spV s)) w := by
    simp only [Instr.loadAt, Instr.sureAddr, Sem.run_bind, Sem.run_pure, Result.andThen]
    exact run_loadVar_row _ _ 38 38 (spV s) (0, 0) _ hO Tryd.underlying38 rfl spt_info
  unfold execOp
  simp only [ho, hx, Sem.run_bind, hl, Result.andThen_ok, Sem.run_pure]
/-- what a step of a desk leaves -/
def Played (w w' : World) (D o : Nat) (A : Array Value) (own ref sv : Value) (B : Nat → Prop) (n : Nat) : Prop := ∃ A' sv' SL' B', Dk w' D o A' own ref sv' SL' B' n ∧ Dn w w' D o A A' B B' sv sv'
end Go.Proofs.YtpoegknmkbnjlaaDoor.Cn
namespace Go.Proofs.YtpoegknmkbnjlaaDoor.Cn
open Go.RowKit
set_option maxHeartbeats 16000000 in
set_option maxRecDepth 100000 in
set_option linter.unusedSimpArgs false in
set_option linter.unusedVariables false in
theorem plays_mv1 {w : World} {D o : Nat} {A : Array Value} {own ref sv : Value} {SL : List Mg} {B : Nat → Prop} {n : Nat} (h : Dk w D o A own ref sv SL B n) (hn : n ≤ 99999999999) (s : Sp) (hk : s.k = 1) (hm : MgFit s.m) :
    Calls Tryd.prog 9 #[.pointer (some ⟨D, o, none⟩), .agg (spV s)] w fun e w' => e = .returned (.bool true) ∧ Played w w' D o A own ref sv B (n + 3) := by
  obtain ⟨Bo, hBo⟩ : ∃ Bo, Bo = w.heap.size := ⟨_, rfl⟩
  obtain ⟨W0, hW0⟩ : ∃ W0, W0 = w.alloc (.cells (spV s) 38) := ⟨_, rfl⟩
  have k0 : Kp w W0 non := by rw [hW0]; exact (Kp.refl w non).alloc _
  have ob0 : W0.heap[Bo]? = some (.cells (spV s) 38) := by rw [hW0, hBo]; exact heap_last w _
  have h0 := h.kp0 k0
  have x3 : ∃ x3v, W0.cell? ⟨D, o + 3, none⟩ = some x3v := by rw [cell_row h0.blk]; exact ⟨_, Array.getElem?_eq_getElem (by rw [h0.sz]; rcases h0.oo with e | e <;> omega)⟩
  obtain ⟨x3v, x3⟩ := x3
  have f3 := fz_row h0.blk (o + 3)
  obtain ⟨d1, e1⟩ := h0.out (.slice none 0 0)
  obtain ⟨W1, hW1⟩ : ∃ W1, W1 = W0.setCell ⟨D, o + 3, none⟩ (.slice none 0 0) := ⟨_, rfl⟩
  rw [← hW1] at d1 e1
  obtain ⟨A1, hA1⟩ : ∃ A1, A1 = A.setIfInBounds (o + 3) (.slice none 0 0) := ⟨_, rfl⟩
  rw [← hA1] at d1 e1
  have ob1 : W1.heap[Bo]? = some (.cells (spV s) 38) := by
    rw [hW1]
    exact (((Kp.refl W0 (fun k => k = D)).set (Or.inl rfl) _ _ : Kp W0 (W0.setCell ⟨D, o + 3, none⟩ (.slice none 0 0)) (fun k => k = D)).block _ (blk_lt ob0) (fun e => by have := blk_lt h.blk; omega)).trans ob0
  have D1 := hide d1
  have E1 : Hid (Dn w W1 D o A A1 B B sv sv) := (Dn.same k0).trans e1
  have OB1 := hide ob1
  have c0 : W1.cell? ⟨Bo, 0, none⟩ = some (.int .i64 1) := by rw [cell_row ob1, ← hk]; rfl
  have LT : Hid (Bo < W1.heap.size) := blk_lt ob1
  have NBo : Hid (¬ B Bo ∧ Bo ≠ D) := ⟨fun e => by have := h.pa.lt e; omega, fun e => by have := blk_lt h.blk; omega⟩
  have HW1 := hide hW1
  have HK := hide hk
  clear h k0 ob0 h0 d1 e1 hA1 ob1 hW1 hk
  go_enter Tryd.func9, Tryd.ntmps9
  go_upto_region 1 with fail
  rw [← hW0, ← hBo]
  clear hW0 hBo
  go_upto_region 2 with fail
  rw [← HW1.out]
  clear x3 f3 HW1
  have MV := hide (moves_beg D1.out hn s HK.out hm)
  go_wp2_with (refine wpList_ldR rfl 38 (.tmp 3) rfl Bo rfl _ (spV s) OB1.out Tryd.underlying38 spt_info ?_)
  refine Calls.mono MV.out ?_
  rintro e w2 ⟨rfl, A', sv', SL', B', d2, e2⟩
  have D2 := hide d2
  have E2 := hide (E1.out.trans e2)
  clear d2 e2 MV
  go_wp2_with fail
  go_ret
  exact ⟨rfl, A', sv', SL', B', D2.out, E2.out⟩
set_option maxHeartbeats 16000000 in
set_option maxRecDepth 100000 in
set_option linter.unusedSimpArgs false in
set_option linter.unusedVariables false in
theorem plays_mv2 {w : World} {D o : Nat} {A : Array Value} {own ref sv : Value} {SL : List Mg} {B : Nat → Prop} {n : Nat} (h : Dk w D o A own ref sv SL B n) (hn : n ≤ 99999999999) (s : Sp) (hk : s.k = 2) (hm : MgFit s.m) :
    Calls Tryd.prog 9 #[.pointer (some ⟨D, o, none⟩), .agg (spV s)] w fun e w' => e = .returned (.bool true) ∧ Played w w' D o A own ref sv B (n + 3) := by
  obtain ⟨Bo, hBo⟩ : ∃ Bo, Bo = w.heap.size := ⟨_, rfl⟩
  obtain ⟨W0, hW0⟩ : ∃ W0, W0 = w.alloc (.cells (spV s) 38) := ⟨_, rfl⟩
  have k0 : Kp w W0 non := by rw [hW0]; exact (Kp.refl w non).alloc _
  have ob0 : W0.heap[Bo]? = some (.cells (spV s) 38) := by rw [hW0, hBo]; exact heap_last w _
  have h0 := h.kp0 k0
  have x3 : ∃ x3v, W0.cell? ⟨D, o + 3, none⟩ = some x3v := by rw [cell_row h0.blk]; exact ⟨_, Array.getElem?_eq_getElem (by rw [h0.sz]; rcases h0.oo with e | e <;> omega)⟩
  obtain ⟨x3v, x3⟩ := x3
  have f3 := fz_row h0.blk (o + 3)
  obtain ⟨d1, e1⟩ := h0.out (.slice none 0 0)
  obtain ⟨W1, hW1⟩ : ∃ W1, W1 = W0.setCell ⟨D, o + 3, none⟩ (.slice none 0 0) := ⟨_, rfl⟩
  rw [← hW1] at d1 e1
  obtain ⟨A1, hA1⟩ : ∃ A1, A1 = A.setIfInBounds (o + 3) (.slice none 0 0) := ⟨_, rfl⟩
  rw [← hA1] at d1 e1
  have ob1 : W1.heap[Bo]? = some (.cells (spV s) 38) := by
    rw [hW1]
    exact (((Kp.refl W0 (fun k => k = D)).set (Or.inl rfl) _ _ : Kp W0 (W0.setCell ⟨D, o + 3, none⟩ (.slice none 0 0)) (fun k => k = D)).block _ (blk_lt ob0) (fun e => by have := blk_lt h.blk; omega)).trans ob0
  have D1 := hide d1
  have E1 : Hid (Dn w W1 D o A A1 B B sv sv) := (Dn.same k0).trans e1
  have OB1 := hide ob1
  have c0 : W1.cell? ⟨Bo, 0, none⟩ = some (.int .i64 2) := by rw [cell_row ob1, ← hk]; rfl
  have LT : Hid (Bo < W1.heap.size) := blk_lt ob1
  have NBo : Hid (¬ B Bo ∧ Bo ≠ D) := ⟨fun e => by have := h.pa.lt e; omega, fun e => by have := blk_lt h.blk; omega⟩
  have HW1 := hide hW1
  have HK := hide hk
  clear h k0 ob0 h0 d1 e1 hA1 ob1 hW1 hk
  go_enter Tryd.func9, Tryd.ntmps9
  go_upto_region 1 with fail
  rw [← hW0, ← hBo]
  clear hW0 hBo
  go_upto_region 2 with fail
  rw [← HW1.out]
  clear x3 f3 HW1
  have MV := hide (moves_take D1.out hn s HK.out hm)
  go_wp2_with (refine wpList_ldR rfl 38 (.tmp 3) rfl Bo rfl _ (spV s) OB1.out Tryd.underlying38 spt_info ?_)
  refine Calls.mono MV.out ?_
  rintro e w2 ⟨rfl, A', sv', SL', B', d2, e2⟩
  have D2 := hide d2
  have E2 := hide (E1.out.trans e2)
  clear d2 e2 MV
  go_wp2_with fail
  go_ret
  exact ⟨rfl, A', sv', SL', B', D2.out, E2.out⟩
set_option maxHeartbeats 16000000 in
set_option maxRecDepth 100000 in
set_option linter.unusedSimpArgs false in
set_option linter.unusedVariables false in
theorem plays_mv3 {w : World} {D o : Nat} {A : Array Value} {own ref sv : Value} {SL : List Mg} {B : Nat → Prop} {n : Nat} (h : Dk w D o A own ref sv SL B n) (hn : n ≤ 99999999999) (s : Sp) (hk : s.k = 3) (hm : MgFit s.m) :
    Calls Tryd.prog 9 #[.pointer (some ⟨D, o, none⟩), .agg (spV s)] w fun e w' => e = .returned (.bool true) ∧ Played w w' D o A own ref sv B (n + 3) := by
  obtain ⟨Bo, hBo⟩ : ∃ Bo, Bo = w.heap.size := ⟨_, rfl⟩
  obtain ⟨W0, hW0⟩ : ∃ W0, W0 = w.alloc (.cells (spV s) 38) := ⟨_, rfl⟩
  have k0 : Kp w W0 non := by rw [hW0]; exact (Kp.refl w non).alloc _
  have ob0 : W0.heap[Bo]? = some (.cells (spV s) 38) := by rw [hW0, hBo]; exact heap_last w _
  have h0 := h.kp0 k0
  have x3 : ∃ x3v, W0.cell? ⟨D, o + 3, none⟩ = some x3v := by rw [cell_row h0.blk]; exact ⟨_, Array.getElem?_eq_getElem (by rw [h0.sz]; rcases h0.oo with e | e <;> omega)⟩
  obtain ⟨x3v, x3⟩ := x3
  have f3 := fz_row h0.blk (o + 3)
  obtain ⟨d1, e1⟩ := h0.out (.slice none 0 0)
  obtain ⟨W1, hW1⟩ : ∃ W1, W1 = W0.setCell ⟨D, o + 3, none⟩ (.slice none 0 0) := ⟨_, rfl⟩
  rw [← hW1] at d1 e1
  obtain ⟨A1, hA1⟩ : ∃ A1, A1 = A.setIfInBounds (o + 3) (.slice none 0 0) := ⟨_, rfl⟩
  rw [← hA1] at d1 e1
  have ob1 : W1.heap[Bo]? = some (.cells (spV s) 38) := by
    rw [hW1]
    exact (((Kp.refl W0 (fun k => k = D)).set (Or.inl rfl) _ _ : Kp W0 (W0.setCell ⟨D, o + 3, none⟩ (.slice none 0 0)) (fun k => k = D)).block _ (blk_lt ob0) (fun e => by have := blk_lt h.blk; omega)).trans ob0
  have D1 := hide d1
  have E1 : Hid (Dn w W1 D o A A1 B B sv sv) := (Dn.same k0).trans e1
  have OB1 := hide ob1
  have c0 : W1.cell? ⟨Bo, 0, none⟩ = some (.int .i64 3) := by rw [cell_row ob1, ← hk]; rfl
  have LT : Hid (Bo < W1.heap.size) := blk_lt ob1
  have NBo : Hid (¬ B Bo ∧ Bo ≠ D) := ⟨fun e => by have := h.pa.lt e; omega, fun e => by have := blk_lt h.blk; omega⟩
  have HW1 := hide hW1
  have HK := hide hk
  clear h k0 ob0 h0 d1 e1 hA1 ob1 hW1 hk
  go_enter Tryd.func9, Tryd.ntmps9
  go_upto_region 1 with fail
  rw [← hW0, ← hBo]
  clear hW0 hBo
  go_upto_region 2 with fail
  rw [← HW1.out]
  clear x3 f3 HW1
  have MV := hide (moves_tick D1.out hn s HK.out hm)
  go_wp2_with (refine wpList_ldR rfl 38 (.tmp 3) rfl Bo rfl _ (spV s) OB1.out Tryd.underlying38 spt_info ?_)
  refine Calls.mono MV.out ?_
  rintro e w2 ⟨rfl, A', sv', SL', B', d2, e2⟩
  have D2 := hide d2
  have E2 := hide (E1.out.trans e2)
  clear d2 e2 MV
  go_wp2_with fail
  go_ret
  exact ⟨rfl, A', sv', SL', B', D2.out, E2.out⟩
set_option maxHeartbeats 16000000 in
set_option maxRecDepth 100000 in
set_option linter.unusedSimpArgs false in
set_option linter.unusedVariables false in
theorem plays_no {w : World} {D o : Nat} {A : Array Value} {own ref sv : Value} {SL : List Mg} {B : Nat → Prop} {n : Nat} (h : Dk w D o A own ref sv SL B n) (hn : n ≤ 99999999999) (s : Sp) (h1 : s.k ≠ 1) (h2 : s.k ≠ 2) (h3 : s.k ≠ 3) (h4 : s.k ≠ 4) (h5 : s.k ≠ 5) (h6 : s.k ≠ 6) :
    Calls Tryd.prog 9 #[.pointer (some ⟨D, o, none⟩), .agg (spV s)] w fun e w' => e = .returned (.bool true) ∧ Played w w' D o A own ref sv B (n + 3) := by
  obtain ⟨kv, hk⟩ : ∃ kv, s.k = kv := ⟨_, rfl⟩
  have q1 : (kv == 1) = false := by rw [← hk]; simpa using h1
  have q2 : (kv == 2) = false := by rw [← hk]; simpa using h2
  have q3 : (kv == 3) = false := by rw [← hk]; simpa using h3
  have q4 : (kv == 4) = false := by rw [← hk]; simpa using h4
  have q5 : (kv == 5) = false := by rw [← hk]; simpa using h5
  have q6 : (kv == 6) = false := by rw [← hk]; simpa using h6
  obtain ⟨Bo, hBo⟩ : ∃ Bo, Bo = w.heap.size := ⟨_, rfl⟩
  obtain ⟨W0, hW0⟩ : ∃ W0, W0 = w.alloc (.cells (spV s) 38) := ⟨_, rfl⟩
  have k0 : Kp w W0 non := by rw [hW0]; exact (Kp.refl w non).alloc _
  have ob0 : W0.heap[Bo]? = some (.cells (spV s) 38) := by rw [hW0, hBo]; exact heap_last w _
  have h0 := h.kp0 k0
  have x3 : ∃ x3v, W0.cell? ⟨D, o + 3, none⟩ = some x3v := by rw [cell_row h0.blk]; exact ⟨_, Array.getElem?_eq_getElem (by rw [h0.sz]; rcases h0.oo with e | e <;> omega)⟩
  obtain ⟨x3v, x3⟩ := x3
  have f3 := fz_row h0.blk (o + 3)
  obtain ⟨d1, e1⟩ := h0.out (.slice none 0 0)
  obtain ⟨W1, hW1⟩ : ∃ W1, W1 = W0.setCell ⟨D, o + 3, none⟩ (.slice none 0 0) := ⟨_, rfl⟩
  rw [← hW1] at d1 e1
  obtain ⟨A1, hA1⟩ : ∃ A1, A1 = A.setIfInBounds (o + 3) (.slice none 0 0) := ⟨_, rfl⟩
  rw [← hA1] at d1 e1
  have ob1 : W1.heap[Bo]? = some (.cells (spV s) 38) := by
    rw [hW1]
    exact (((Kp.refl W0 (fun k => k = D)).set (Or.inl rfl) _ _ : Kp W0 (W0.setCell ⟨D, o + 3, none⟩ (.slice none 0 0)) (fun k => k = D)).block _ (blk_lt ob0) (fun e => by have := blk_lt h.blk; omega)).trans ob0
  have D1 := hide d1
  have E1 : Hid (Dn w W1 D o A A1 B B sv sv) := (Dn.same k0).trans e1
  have OB1 := hide ob1
  have c0 : W1.cell? ⟨Bo, 0, none⟩ = some (.int .i64 kv) := by rw [cell_row ob1, ← hk]; rfl
  have LT : Hid (Bo < W1.heap.size) := blk_lt ob1
  have NBo : Hid (¬ B Bo ∧ Bo ≠ D) := ⟨fun e => by have := h.pa.lt e; omega, fun e => by have := blk_lt h.blk; omega⟩
  have HW1 := hide hW1
  clear h k0 ob0 h0 d1 e1 hA1 ob1 hW1 hk h1 h2 h3 h4 h5 h6
  go_enter Tryd.func9, Tryd.ntmps9
  go_upto_region 1 with fail
  rw [← hW0, ← hBo]
  clear hW0 hBo
  go_upto_region 2 with fail
  rw [← HW1.out]
  clear x3 f3 HW1
  go_wp2_with fail
  go_ret
  exact ⟨rfl, A1, sv, SL, B, D1.out.more (Nat.le_add_right _ _), E1.out⟩
set_option maxHeartbeats 16000000 in
set_option maxRecDepth 100000 in
set_option linter.unusedSimpArgs false in
set_option linter.unusedVariables false in
theorem plays_busy {w : World} {D o : Nat} {A : Array Value} {own ref sv : Value} {SL : List Mg} {B : Nat → Prop} {n : Nat} (h : Dk w D o A own ref sv SL B n) (hn : n ≤ 99999999999) (s : Sp) (hk : s.k = 4) :
    Calls Tryd.prog 9 #[.pointer (some ⟨D, o, none⟩), .agg (spV s)] w fun e w' => e = .returned (.bool true) ∧ Played w w' D o A own ref sv B (n + 3) := by
  obtain ⟨Bo, hBo⟩ : ∃ Bo, Bo = w.heap.size := ⟨_, rfl⟩
  obtain ⟨W0, hW0⟩ : ∃ W0, W0 = w.alloc (.cells (spV s) 38) := ⟨_, rfl⟩
  have k0 : Kp w W0 non := by rw [hW0]; exact (Kp.refl w non).alloc _
  have ob0 : W0.heap[Bo]? = some (.cells (spV s) 38) := by rw [hW0, hBo]; exact heap_last w _
  have h0 := h.kp0 k0
  have x3 : ∃ x3v, W0.cell? ⟨D, o + 3, none⟩ = some x3v := by rw [cell_row h0.blk]; exact ⟨_, Array.getElem?_eq_getElem (by rw [h0.sz]; rcases h0.oo with e | e <;> omega)⟩
  obtain ⟨x3v, x3⟩ := x3
  have f3 := fz_row h0.blk (o + 3)
  obtain ⟨d1, e1⟩ := h0.out (.slice none 0 0)
  obtain ⟨W1, hW1⟩ : ∃ W1, W1 = W0.setCell ⟨D, o + 3, none⟩ (.slice none 0 0) := ⟨_, rfl⟩
  rw [← hW1] at d1 e1
  obtain ⟨A1, hA1⟩ : ∃ A1, A1 = A.setIfInBounds (o + 3) (.slice none 0 0) := ⟨_, rfl⟩
  rw [← hA1] at d1 e1
  have ob1 : W1.heap[Bo]? = some (.cells (spV s) 38) := by
    rw [hW1]
    exact (((Kp.refl W0 (fun k => k = D)).set (Or.inl rfl) _ _ : Kp W0 (W0.setCell ⟨D, o + 3, none⟩ (.slice none 0 0)) (fun k => k = D)).block _ (blk_lt ob0) (fun e => by have := blk_lt h.blk; omega)).trans ob0
  have D1 := hide d1
  have E1 : Hid (Dn w W1 D o A A1 B B sv sv) := (Dn.same k0).trans e1
  have OB1 := hide ob1
  have c0 : W1.cell? ⟨Bo, 0, none⟩ = some (.int .i64 4) := by rw [cell_row ob1, ← hk]; rfl
  have LT : Hid (Bo < W1.heap.size) := blk_lt ob1
  have NBo : Hid (¬ B Bo ∧ Bo ≠ D) := ⟨fun e => by have := h.pa.lt e; omega, fun e => by have := blk_lt h.blk; omega⟩
  have HW1 := hide hW1
  clear h k0 ob0 h0 d1 e1 hA1 ob1 hW1 hk
  go_enter Tryd.func9, Tryd.ntmps9
  go_upto_region 1 with fail
  rw [← hW0, ← hBo]
  clear hW0 hBo
  go_upto_region 2 with fail
  rw [← HW1.out]
  clear x3 f3 HW1
  obtain ⟨bz, bu1, bu2⟩ := both_busy D1.out.pa
  have BU1 : Hid (∀ X, Kp W1 X non → Calls Tryd.prog 16 #[own] X fun e w' => e = .returned (.bool bz) ∧ X = w') := bu1
  have BU2 : Hid (∀ X, Kp W1 X non → Calls Tryd.prog 17 #[ref] X fun e w' => e = .returned (.bool bz) ∧ X = w') := bu2
  have CX : Hid (∀ X : World, Kp W1 X non → X.cell? ⟨D, o, none⟩ = some own ∧ X.cell? ⟨D, o + 1, none⟩ = some ref) := fun X hX => by
    have z := D1.out.kp0 hX
    rw [cell_row z.blk, cell_row z.blk]
    exact ⟨z.c0, z.c1⟩
  clear bu1 bu2
  go_upto_region 11 with fail
  clear c0
  refine wp_region_held_drew (S := fun X => Kp W1 X non) (by kernel_rfl) ((Kp.refl W1 non).drew) (fun hHeld => ?_)
  refine wTk (i := 0) (v := (.pointer (some ⟨D, o, none⟩))) rfl ?_ ?_
  · intro w' hSw
    (try dsimp only at hSw)
    go_simp
  (try simp only [Act.put, List.getElem_toArray, List.getElem_cons_zero, List.getElem_cons_succ, List.setIfInBounds_toArray, List.set_cons_zero, List.set_cons_succ])
  refine wTk (i := 1) (v := (.pointer (some ⟨D, o, none⟩))) rfl ?_ ?_
  · intro w' hSw
    (try dsimp only at hSw)
    go_simp
  (try simp only [Act.put, List.getElem_toArray, List.getElem_cons_zero, List.getElem_cons_succ, List.setIfInBounds_toArray, List.set_cons_zero, List.set_cons_succ])
  refine wTk (i := 2) (v := (.pointer (some ⟨D, o, none⟩))) rfl ?_ ?_
  · intro w' hSw
    (try dsimp only at hSw)
    go_simp
  (try simp only [Act.put, List.getElem_toArray, List.getElem_cons_zero, List.getElem_cons_succ, List.setIfInBounds_toArray, List.set_cons_zero, List.set_cons_succ])
  refine wTk (i := 3) (v := own) rfl ?_ ?_
  · intro w' hSw
    (try dsimp only at hSw)
    (have z := (CX.out _ hSw).1; go_simp)
  (try simp only [Act.put, List.getElem_toArray, List.getElem_cons_zero, List.getElem_cons_succ, List.setIfInBounds_toArray, List.set_cons_zero, List.set_cons_succ])
  refine wpAnyH_callTake (i := 4) (v := (.bool bz)) rfl (by kernel_rfl) (by kernel_rfl) (by kernel_rfl) (fun _ _ _ h => h) (by kernel_rfl) 16 #[own] (fun w' => by kernel_rfl) (fun w' hSw => BU1.out w' hSw) (by assumption) ?_
  (try simp only [Act.put, List.getElem_toArray, List.getElem_cons_zero, List.getElem_cons_succ, List.setIfInBounds_toArray, List.set_cons_zero, List.set_cons_succ])
  refine wTk (i := 5) (v := (.pointer (some ⟨D, o, none⟩))) rfl ?_ ?_
  · intro w' hSw
    (try dsimp only at hSw)
    go_simp
  (try simp only [Act.put, List.getElem_toArray, List.getElem_cons_zero, List.getElem_cons_succ, List.setIfInBounds_toArray, List.set_cons_zero, List.set_cons_succ])
  refine wTk (i := 6) (v := (.pointer (some ⟨D, o, none⟩))) rfl ?_ ?_
  · intro w' hSw
    (try dsimp only at hSw)
    go_simp
  (try simp only [Act.put, List.getElem_toArray, List.getElem_cons_zero, List.getElem_cons_succ, List.setIfInBounds_toArray, List.set_cons_zero, List.set_cons_succ])
  refine wTk (i := 7) (v := (.pointer (some ⟨D, o + 1, none⟩))) rfl ?_ ?_
  · intro w' hSw
    (try dsimp only at hSw)
    go_simp
  (try simp only [Act.put, List.getElem_toArray, List.getElem_cons_zero, List.getElem_cons_succ, List.setIfInBounds_toArray, List.set_cons_zero, List.set_cons_succ])
  refine wTk (i := 8) (v := ref) rfl ?_ ?_
  · intro w' hSw
    (try dsimp only at hSw)
    (have z := (CX.out _ hSw).2; go_simp)
  (try simp only [Act.put, List.getElem_toArray, List.getElem_cons_zero, List.getElem_cons_succ, List.setIfInBounds_toArray, List.set_cons_zero, List.set_cons_succ])
  refine wpAnyH_callTake (i := 9) (v := (.bool bz)) rfl (by kernel_rfl) (by kernel_rfl) (by kernel_rfl) (fun _ _ _ h => h) (by kernel_rfl) 17 #[ref] (fun w' => by kernel_rfl) (fun w' hSw => BU2.out w' hSw) (by assumption) ?_
  (try simp only [Act.put, List.getElem_toArray, List.getElem_cons_zero, List.getElem_cons_succ, List.setIfInBounds_toArray, List.set_cons_zero, List.set_cons_succ])
  refine wTk (i := 10) (v := (.bool true)) rfl ?_ ?_
  · intro w' hSw
    (try dsimp only at hSw)
    (go_simp <;> simp)
  (try simp only [Act.put, List.getElem_toArray, List.getElem_cons_zero, List.getElem_cons_succ, List.setIfInBounds_toArray, List.set_cons_zero, List.set_cons_succ])
  refine wpAnyH_ready (rs := [11]) (by kernel_rfl) (by simp) ?_
  refine AllReadyH.cons rfl (fun K hK => ?_) AllReadyH.nil
  go_simp
  refine hK.out _ _ (((Kp.refl W1 non).drew)) (fun hHeld => ?_)
  clear hK
  (try simp only [Act.put, List.setIfInBounds_toArray, List.set_cons_zero, List.set_cons_succ])
  refine wpAnyH_done (by kernel_rfl) ?_ _
  clear hHeld
  go_wp2_with fail
  go_ret
  have kd : Kp W1 W1.drew non := (Kp.refl W1 non).drew
  exact ⟨rfl, A1, sv, SL, B, (D1.out.kp0 kd).more (Nat.le_add_right _ _), E1.out.kp0 kd⟩
end Go.Proofs.YtpoegknmkbnjlaaDoor.Cn
