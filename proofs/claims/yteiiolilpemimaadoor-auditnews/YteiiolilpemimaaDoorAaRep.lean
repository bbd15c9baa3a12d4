import Derived.Test.YteiiolilpemimaaDoorAaDiff
namespace Go.Proofs.YteiiolilpemimaaDoor.Cn
open Go.RowKit
/-- a report, as cells -/
def adA (j vr o : Int) (dv mv : Value) : Array Value := #[.int .i64 j, .int .i64 vr, .int .i64 o, dv, mv]
theorem ad_info : (Tryd.prog.info? 49).map (·.size) = some 5 := by kernel_rfl
theorem ad_one (j vr o : Int) {dv mv : Value} (h1 : ∃ a n c, dv = .slice a n c) (h2 : ∃ a n c, mv = .slice a n c) : (adA j vr o dv mv).all (·.oneCell') = true := by
  obtain ⟨a, n, c, rfl⟩ := h1
  obtain ⟨a', n', c', rfl⟩ := h2
  simp [adA, Value.oneCell']
def outO (d m : Nat) : Int := if 0 < d then 2 else if 0 < m then 3 else 1
/-- what differs, as told: rising -/
structure DfL (T : Tl) (n : Nat) (L : List Int) : Prop where
  ex : ∃ D : List Int, D.Nodup ∧ (∀ p, p ∈ D ↔ isDf T n p) ∧ L = srtI D
theorem rep_fin {w W0 WZ WY : World} {B B3 : Nat} {A0 A1 X : Array Value} {da sa : Option Addr} {dn dc mn sc : Nat} {xs ys : List Value} (K0 : Kp w W0 non) (hB : B = w.heap.size) (kz : Kp W0 WZ non) (m0 : W0.heap[B]? = some (.cells A0 49)) (hB3 : W0.heap.size ≤ B3) (od : WZ.ownsRow W0.heap.size 3 1 (.slice da dn dc) dn xs) (os : WZ.ownsRow W0.heap.size 3 1 (.slice sa mn sc) mn ys) (mz3 : WZ.heap[B3]? = some (.cells A1 49)) (ky : Kp WZ WY (fun k => k = B3)) (_my : WY.heap[B3]? = some (.cells X 49)) :
    WY.heap[B]? = some (.cells A0 49) ∧ Kp w (WY.setRow B X) non ∧ (WY.setRow B X).ownsRow w.heap.size 3 1 (.slice da dn dc) dn xs ∧ (WY.setRow B X).ownsRow w.heap.size 3 1 (.slice sa mn sc) mn ys := by
  have bl := blk_lt m0
  have n1 : B ≠ B3 := by omega
  have mz := (kz.block _ bl (fun f => f)).trans m0
  have myB : WY.heap[B]? = some (.cells A0 49) := (ky.block _ (blk_lt mz) n1).trans mz
  have kk : Kp WY (WY.setRow B X) (fun k => k = B) := (Kp.refl WY (fun k => k = B)).row (Or.inl rfl) _
  have ty : ∀ {u : Value} {n : Nat} {zs : List Value}, WZ.ownsRow W0.heap.size 3 1 u n zs → (WY.setRow B X).ownsRow w.heap.size 3 1 u n zs := fun {u n zs} ho => by
    have o1 := own_kp ho ky (fun k hk e => by
      obtain ⟨cur, hcu⟩ := own_typ ho hk
      rw [e, mz3] at hcu
      simp at hcu)
    refine own_base (own_kp o1 kk (fun k hk e => ?_)) K0.size
    have := own_ge o1 hk
    omega
  exact ⟨myB, ((K0.trans kz (fun _ f => f.elim)).trans (T := fun k => k = B3) ky (fun k e => Or.inr (by have := K0.size; omega))).trans (T := fun k => k = B) kk (fun k e => Or.inr (by omega)), ty od, ty os⟩
def misL (v : Au) : List Int := pickL (fun h => h.stt == 2) v.hs v.hs.length
set_option maxHeartbeats 16000000 in
set_option maxRecDepth 100000 in
set_option linter.unusedSimpArgs false in
set_option linter.unusedVariables false in
theorem report_a {w : World} {A H hc M : Nat} {v : Au} (h : AuAt w A H hc M v) (n : Nat) (hn : v.rp = (n : Int)) (hn16 : n ≤ 16) (hl : v.hs.length ≤ 1000) :
    Calls Tryd.prog 56 #[.pointer (some ⟨A, 0, none⟩)] w fun e w' => ∃ dv mv DL, e = .returned (.agg (adA v.num v.ver (outO DL.length (misL v).length) dv mv)) ∧ DfL v.told n DL ∧ w'.ownsRow w.heap.size 3 1 dv DL.length (ints DL) ∧ w'.ownsRow w.heap.size 3 1 mv (misL v).length (ints (misL v)) ∧ Kp w w' non := by
  obtain ⟨B, hB⟩ : ∃ B, B = w.heap.size := ⟨_, rfl⟩
  obtain ⟨W0, hW0⟩ : ∃ W0, W0 = w.alloc (.cells #[.int .i64 0, .int .i64 0, .int .i64 0, .slice none 0 0, .slice none 0 0] 49) := ⟨_, rfl⟩
  have k0 : Kp w W0 non := by rw [hW0]; exact (Kp.refl w non).alloc _
  have m0 : W0.heap[B]? = some (.cells #[.int .i64 0, .int .i64 0, .int .i64 0, .slice none 0 0, .slice none 0 0] 49) := by rw [hW0, hB]; exact heap_last w _
  have h0 := h.kp0 k0
  have HA := hide h0
  have K0 := hide k0
  have M0 := hide m0
  have CC : Hid (∀ X, Kp W0 X non → X.cell? ⟨A, 5, none⟩ = some (.int .i64 v.num) ∧ X.cell? ⟨A, 6, none⟩ = some (.int .i64 v.ver)) := fun X hX => by
    obtain ⟨-, -, -, -, -, c5, c6, -⟩ := (h0.kp0 hX).cells
    exact ⟨c5, c6⟩
  have DIF : Hid (∀ X, Kp W0 X non → Calls Tryd.prog 65 #[.pointer (some ⟨A, 0, none⟩)] X fun e w' => ∃ u D, e = .returned u ∧ D.Nodup ∧ (∀ p, p ∈ D ↔ isDf v.told n p) ∧ w'.ownsRow X.heap.size 3 1 u D.length (ints (srtI D)) ∧ Kp X w' non) := fun X hX => differing_a (h0.kp0 hX) n hn hn16
  have SIL : Hid (∀ X, Kp W0 X non → Calls Tryd.prog 66 #[.pointer (some ⟨A, 0, none⟩)] X fun e w' => ∃ u, e = .returned u ∧ w'.ownsRow X.heap.size 3 1 u (misL v).length (ints (misL v)) ∧ Kp X w' non) := fun X hX => silent_a (h0.kp0 hX) hl
  have HB := hide hB
  clear h k0 m0 h0 hn
  go_enter Tryd.func56, Tryd.ntmps56
  go_upto_region 1 with fail
  rw [← hW0, ← hB]
  clear hW0 hB
  refine wp_region_held_drew (S := fun X => X.cell? ⟨A, 5, none⟩ = some (.int .i64 v.num) ∧ X.cell? ⟨A, 6, none⟩ = some (.int .i64 v.ver)) (by kernel_rfl) (CC.out W0 (Kp.refl _ _)) (fun hHeld => ?_)
  refine wpAnyH_take (i := 0) (v := (.pointer (some ⟨A, 0, none⟩))) rfl (by kernel_rfl) (by kernel_rfl) (by kernel_rfl) (fun _ _ _ h => h) (Or.inl ⟨by kernel_rfl, ?_⟩) (by assumption) ?_
  · intro w' hSw
    (try dsimp only at hSw)
    go_simp
  (try simp only [Act.put, List.getElem_toArray, List.getElem_cons_zero, List.getElem_cons_succ, List.setIfInBounds_toArray, List.set_cons_zero, List.set_cons_succ])
  refine wpAnyH_take (i := 1) (v := (.pointer (some ⟨A, 0, none⟩))) rfl (by kernel_rfl) (by kernel_rfl) (by kernel_rfl) (fun _ _ _ h => h) (Or.inl ⟨by kernel_rfl, ?_⟩) (by assumption) ?_
  · intro w' hSw
    (try dsimp only at hSw)
    go_simp
  (try simp only [Act.put, List.getElem_toArray, List.getElem_cons_zero, List.getElem_cons_succ, List.setIfInBounds_toArray, List.set_cons_zero, List.set_cons_succ])
  refine wpAnyH_take (i := 2) (v := (.pointer (some ⟨A, 5, none⟩))) rfl (by kernel_rfl) (by kernel_rfl) (by kernel_rfl) (fun _ _ _ h => h) (Or.inl ⟨by kernel_rfl, ?_⟩) (by assumption) ?_
  · intro w' hSw
    (try dsimp only at hSw)
    go_simp
  (try simp only [Act.put, List.getElem_toArray, List.getElem_cons_zero, List.getElem_cons_succ, List.setIfInBounds_toArray, List.set_cons_zero, List.set_cons_succ])
  refine wpAnyH_take (i := 3) (v := (.int .i64 v.num)) rfl (by kernel_rfl) (by kernel_rfl) (by kernel_rfl) (fun _ _ _ h => h) (Or.inl ⟨by kernel_rfl, ?_⟩) (by assumption) ?_
  · intro w' hSw
    (try dsimp only at hSw)
    (have z := hSw.1; go_simp)
  (try simp only [Act.put, List.getElem_toArray, List.getElem_cons_zero, List.getElem_cons_succ, List.setIfInBounds_toArray, List.set_cons_zero, List.set_cons_succ])
  refine wpAnyH_take (i := 4) (v := (.pointer (some ⟨A, 0, none⟩))) rfl (by kernel_rfl) (by kernel_rfl) (by kernel_rfl) (fun _ _ _ h => h) (Or.inl ⟨by kernel_rfl, ?_⟩) (by assumption) ?_
  · intro w' hSw
    (try dsimp only at hSw)
    go_simp
  (try simp only [Act.put, List.getElem_toArray, List.getElem_cons_zero, List.getElem_cons_succ, List.setIfInBounds_toArray, List.set_cons_zero, List.set_cons_succ])
  refine wpAnyH_take (i := 5) (v := (.pointer (some ⟨A, 0, none⟩))) rfl (by kernel_rfl) (by kernel_rfl) (by kernel_rfl) (fun _ _ _ h => h) (Or.inl ⟨by kernel_rfl, ?_⟩) (by assumption) ?_
  · intro w' hSw
    (try dsimp only at hSw)
    go_simp
  (try simp only [Act.put, List.getElem_toArray, List.getElem_cons_zero, List.getElem_cons_succ, List.setIfInBounds_toArray, List.set_cons_zero, List.set_cons_succ])
  refine wpAnyH_take (i := 6) (v := (.pointer (some ⟨A, 6, none⟩))) rfl (by kernel_rfl) (by kernel_rfl) (by kernel_rfl) (fun _ _ _ h => h) (Or.inl ⟨by kernel_rfl, ?_⟩) (by assumption) ?_
  · intro w' hSw
    (try dsimp only at hSw)
    go_simp
  (try simp only [Act.put, List.getElem_toArray, List.getElem_cons_zero, List.getElem_cons_succ, List.setIfInBounds_toArray, List.set_cons_zero, List.set_cons_succ])
  refine wpAnyH_take (i := 7) (v := (.int .i64 v.ver)) rfl (by kernel_rfl) (by kernel_rfl) (by kernel_rfl) (fun _ _ _ h => h) (Or.inl ⟨by kernel_rfl, ?_⟩) (by assumption) ?_
  · intro w' hSw
    (try dsimp only at hSw)
    (have z := hSw.2; go_simp)
  (try simp only [Act.put, List.getElem_toArray, List.getElem_cons_zero, List.getElem_cons_succ, List.setIfInBounds_toArray, List.set_cons_zero, List.set_cons_succ])
  refine wpAnyH_take (i := 8) (v := (.pointer (some ⟨A, 0, none⟩))) rfl (by kernel_rfl) (by kernel_rfl) (by kernel_rfl) (fun _ _ _ h => h) (Or.inl ⟨by kernel_rfl, ?_⟩) (by assumption) ?_
  · intro w' hSw
    (try dsimp only at hSw)
    go_simp
  (try simp only [Act.put, List.getElem_toArray, List.getElem_cons_zero, List.getElem_cons_succ, List.setIfInBounds_toArray, List.set_cons_zero, List.set_cons_succ])
  refine wpAnyH_take (i := 10) (v := (.pointer (some ⟨A, 0, none⟩))) rfl (by kernel_rfl) (by kernel_rfl) (by kernel_rfl) (fun _ _ _ h => h) (Or.inl ⟨by kernel_rfl, ?_⟩) (by assumption) ?_
  · intro w' hSw
    (try dsimp only at hSw)
    go_simp
  (try simp only [Act.put, List.getElem_toArray, List.getElem_cons_zero, List.getElem_cons_succ, List.setIfInBounds_toArray, List.set_cons_zero, List.set_cons_succ])
  refine wpAnyH_ready (rs := [9, 13]) (by kernel_rfl) (by simp) ?_
  refine AllReadyH.cons rfl (fun K hK => ?_) (AllReadyH.cons rfl (fun K hK => ?_) AllReadyH.nil)
  · go_simp
    refine Calls.mono (DIF.out W0.drew ((Kp.refl W0 non).drew)) ?_
    rintro e WD ⟨ud, D, rfl, hd1, hd2, hd3, hd4⟩
    obtain ⟨da, dc, rfl⟩ := own_sl hd3
    have KN : Hid (Kp W0 WD non) := Kp.trans ((Kp.refl W0 non).drew) hd4 (fun _ f => f.elim)
    have OD : Hid (WD.ownsRow W0.heap.size 3 1 (.slice da D.length dc) D.length (ints (srtI D))) := own_base hd3 (((Kp.refl W0 non).drew) : Kp W0 W0.drew non).size
    have HD1 := hide (And.intro hd1 hd2)
    clear hd1 hd2 hd3 hd4
    have KP := KN
    clear KN
    refine hK.out _ _ ((CC.out WD KP.out)) (fun hHeld => ?_)
    clear hK
    (try simp only [Act.put, List.setIfInBounds_toArray, List.set_cons_zero, List.set_cons_succ])
    refine wpAnyH_ready (rs := [11, 13]) (by kernel_rfl) (by simp) ?_
    refine AllReadyH.cons rfl (fun K hK => ?_) (AllReadyH.cons rfl (fun K hK => ?_) AllReadyH.nil)
    · go_simp
      refine Calls.mono (SIL.out WD KP.out) ?_
      rintro e WS ⟨us, rfl, hs3, hs4⟩
      obtain ⟨sa, sc, rfl⟩ := own_sl hs3
      have KN : Hid (Kp W0 WS non) := KP.out.trans hs4 (fun _ f => f.elim)
      have OS : Hid (WS.ownsRow W0.heap.size 3 1 (.slice sa (misL v).length sc) (misL v).length (ints (misL v))) := own_base hs3 KP.out.size
      have ON : Hid (WS.ownsRow W0.heap.size 3 1 (.slice da D.length dc) D.length (ints (srtI D))) := own_kp OD.out hs4 (fun _ _ f => f)
      clear hs3 hs4 KP OD
      have KP := KN
      have OD := ON
      clear KN ON
      refine hK.out _ _ ((CC.out WS KP.out)) (fun hHeld => ?_)
      clear hK
      (try simp only [Act.put, List.setIfInBounds_toArray, List.set_cons_zero, List.set_cons_succ])
      refine wpAnyH_take (i := 12) (v := (.agg (adA v.num v.ver 1 (.slice da D.length dc) (.slice sa (misL v).length sc)))) rfl (by kernel_rfl) (by kernel_rfl) (by kernel_rfl) (fun _ _ _ h => h) (Or.inl ⟨by kernel_rfl, ?_⟩) (by assumption) ?_
      · intro w' hSw
        (try dsimp only at hSw)
        (exact exec_bl 49 #[(0, .tmp 7), (1, .tmp 11), (2, .const (.int .i64 1)), (3, .tmp 13), (4, .tmp 15)] rfl _ (by kernel_rfl))
      (try simp only [Act.put, List.getElem_toArray, List.getElem_cons_zero, List.getElem_cons_succ, List.setIfInBounds_toArray, List.set_cons_zero, List.set_cons_succ])
      refine wpAnyH_ready (rs := [13]) (by kernel_rfl) (by simp) ?_
      refine AllReadyH.cons rfl (fun K hK => ?_) AllReadyH.nil
      go_simp
      obtain ⟨B3, hB3⟩ : ∃ B3, B3 = WS.heap.size := ⟨_, rfl⟩
      obtain ⟨WA, hWA⟩ : ∃ WA, WA = WS.alloc (.cells #[.int .i64 0, .int .i64 0, .int .i64 0, .slice none 0 0, .slice none 0 0] 49) := ⟨_, rfl⟩
      rw [← hB3, ← hWA]
      have kn : Kp WS WA non := by rw [hWA]; exact (Kp.refl WS non).alloc _
      have MB : Hid (WA.heap[B3]? = some (.cells #[.int .i64 0, .int .i64 0, .int .i64 0, .slice none 0 0, .slice none 0 0] 49)) := by rw [hWA, hB3]; exact heap_last WS _
      have B3G : Hid (W0.heap.size ≤ B3) := by rw [hB3]; exact KP.out.size
      have KN : Hid (Kp W0 WA non) := KP.out.trans kn (fun _ f => f.elim)
      have ON : Hid (WA.ownsRow W0.heap.size 3 1 (.slice da D.length dc) D.length (ints (srtI D))) := own_kp OD.out kn (fun _ _ f => f)
      clear OD
      have OD := ON
      clear ON
      have ON : Hid (WA.ownsRow W0.heap.size 3 1 (.slice sa (misL v).length sc) (misL v).length (ints (misL v))) := own_kp OS.out kn (fun _ _ f => f)
      clear OS
      have OS := ON
      clear ON
      clear KP
      have KP := KN
      clear KN hB3 hWA kn
      refine hK.out _ _ ((CC.out WA KP.out)) (fun hHeld => ?_)
      clear hK
      (try simp only [Act.put, List.setIfInBounds_toArray, List.set_cons_zero, List.set_cons_succ])
      refine wpAnyH_ready (rs := [14]) (by kernel_rfl) (by simp) ?_
      refine AllReadyH.cons rfl (fun K hK => ?_) AllReadyH.nil
      refine wp_store_row 49 (.tmp 3) (.tmp 16) rfl B3 (adA v.num v.ver 1 (.slice da D.length dc) (.slice sa (misL v).length sc)) rfl rfl 49 _ MB.out ad_info rfl (ad_one _ _ _ ⟨_, _, _, rfl⟩ ⟨_, _, _, rfl⟩) ?_
      obtain ⟨WZ, hWZ⟩ : ∃ WZ, WZ = WA.setRow B3 (adA v.num v.ver 1 (.slice da D.length dc) (.slice sa (misL v).length sc)) := ⟨_, rfl⟩
      have kz : Kp W0 WZ non := by rw [hWZ]; exact KP.out.row (Or.inr B3G.out) _
      have mz : WZ.heap[B3]? = some (.cells (adA v.num v.ver 1 (.slice da D.length dc) (.slice sa (misL v).length sc)) 49) := by rw [hWZ]; exact setRow_heap _ _ _ _ _ _ MB.out
      have nd : ∀ k, (Value.slice da D.length dc).ownBlock = some k → k ≠ B3 := fun k hk e => by
        obtain ⟨cur, hcu⟩ := own_typ OD.out hk
        rw [e, MB.out] at hcu
        simp at hcu
      have ns : ∀ k, (Value.slice sa (misL v).length sc).ownBlock = some k → k ≠ B3 := fun k hk e => by
        obtain ⟨cur, hcu⟩ := own_typ OS.out hk
        rw [e, MB.out] at hcu
        simp at hcu
      have k1 : Kp WA WZ (fun k => k = B3) := by rw [hWZ]; exact (Kp.refl WA (fun k => k = B3)).row (Or.inl rfl) _
      have od : WZ.ownsRow W0.heap.size 3 1 (.slice da D.length dc) D.length (ints (srtI D)) := own_kp OD.out k1 nd
      have os : WZ.ownsRow W0.heap.size 3 1 (.slice sa (misL v).length sc) (misL v).length (ints (misL v)) := own_kp OS.out k1 ns
      rw [← hWZ]
      have KZ := hide kz
      have MZ := hide mz
      have OD2 := hide od
      have OS2 := hide os
      clear KP MB OD OS hWZ nd ns k1
      have z3 : WZ.cell? ⟨B3, 3, none⟩ = some (.slice da D.length dc) := by rw [cell_row mz]; rfl
      have z4 : WZ.cell? ⟨B3, 4, none⟩ = some (.slice sa (misL v).length sc) := by rw [cell_row mz]; rfl
      have z2 : WZ.cell? ⟨B3, 2, none⟩ = some (.int .i64 1) := by rw [cell_row mz]; rfl
      have f2 : WZ.frozen? ⟨B3, 2, none⟩ = false := fz_row mz 2
      clear kz mz od os
      refine hK.out _ _ ((CC.out WZ KZ.out)) (fun hHeld => ?_)
      clear hK
      (try simp only [Act.put, List.setIfInBounds_toArray, List.set_cons_zero, List.set_cons_succ])
      refine wpAnyH_done (by kernel_rfl) ?_ _
      clear hHeld
      have REM := hide fun (WY : World) (X : Array Value) ky my => rep_fin (WY := WY) (X := X) K0.out HB.out KZ.out M0.out B3G.out OD2.out OS2.out MZ.out ky my
      have HDL : Hid (DfL v.told n (srtI D)) := ⟨D, HD1.out.1, HD1.out.2, rfl⟩
      have SL := hide (srtI_len D)
      clear KZ OD2 OS2 HD1 M0 K0 HA CC DIF SIL
      obtain ⟨dn, hdn⟩ : ∃ dn, dn = D.length := ⟨_, rfl⟩
      obtain ⟨mn, hmn⟩ : ∃ mn, mn = (misL v).length := ⟨_, rfl⟩
      have HDN := hide hdn
      have HMN := hide hmn
      rw [← hdn] at z3 ⊢
      rw [← hmn] at z4 ⊢
      rw [← hdn, ← hmn] at MZ REM
      clear hdn hmn
      by_cases hd0 : 0 < dn
      case pos =>
        have q0 : (0 : Int) < (dn : Int) := by omega
        have EO : Hid (outO (srtI D).length (misL v).length = 2) := by rw [SL.out, ← HDN.out]; exact if_pos hd0
        obtain ⟨WY, hWY⟩ : ∃ WY, WY = WZ.setCell ⟨B3, 2, none⟩ (.int .i64 2) := ⟨_, rfl⟩
        have my : WY.heap[B3]? = some (.cells (adA v.num v.ver 2 (.slice da dn dc) (.slice sa mn sc)) 49) := by rw [hWY]; exact set_row MZ.out 2 _
        have RM := hide (REM.out WY (adA v.num v.ver 2 (.slice da dn dc) (.slice sa mn sc)) (by rw [hWY]; exact (Kp.refl WZ (fun k => k = B3)).set (Or.inl rfl) _ _) my)
        have MY := hide my
        clear my MZ REM
        go_upto_region 6 with fail
        rw [← hWY]
        clear hWY z2 z3 z4 f2
        go_wp2_with (first | refine wpList_ldR rfl 49 (.tmp 3) rfl B3 rfl _ (adA v.num v.ver 2 (.slice da dn dc) (.slice sa mn sc)) MY.out Tryd.underlying49 ad_info ?_ | refine wpList_stR rfl 49 (.tmp 2) (.tmp 29) rfl B rfl (adA v.num v.ver 2 (.slice da dn dc) (.slice sa mn sc)) _ rfl _ RM.out.1 ad_info rfl (ad_one _ _ _ ⟨_, _, _, rfl⟩ ⟨_, _, _, rfl⟩) ?_)
        refine bodyPost_ret (v := .agg (adA v.num v.ver 2 (.slice da dn dc) (.slice sa mn sc))) (res_row1 Tryd.results56 _ _ _ B rfl _ (setRow_heap _ _ _ _ _ _ RM.out.1) Tryd.underlying49 ad_info) rfl ⟨.slice da dn dc, .slice sa mn sc, srtI D, by rw [EO.out], HDL.out, ?_, ?_, RM.out.2.1⟩
        · rw [SL.out, ← HDN.out]
          exact RM.out.2.2.1
        · rw [← HMN.out]
          exact RM.out.2.2.2
      case neg =>
        obtain rfl : dn = 0 := by omega
        by_cases hm0 : 0 < mn
        case pos =>
          have q0 : (0 : Int) < (mn : Int) := by omega
          have EO : Hid (outO (srtI D).length (misL v).length = 3) := by rw [SL.out, ← HDN.out, ← HMN.out]; unfold Hid outO; rw [if_neg (by omega), if_pos hm0]
          obtain ⟨WY, hWY⟩ : ∃ WY, WY = WZ.setCell ⟨B3, 2, none⟩ (.int .i64 3) := ⟨_, rfl⟩
          have my : WY.heap[B3]? = some (.cells (adA v.num v.ver 3 (.slice da 0 dc) (.slice sa mn sc)) 49) := by rw [hWY]; exact set_row MZ.out 2 _
          have RM := hide (REM.out WY (adA v.num v.ver 3 (.slice da 0 dc) (.slice sa mn sc)) (by rw [hWY]; exact (Kp.refl WZ (fun k => k = B3)).set (Or.inl rfl) _ _) my)
          have MY := hide my
          clear my MZ REM
          go_upto_region 6 with fail
          rw [← hWY]
          clear hWY z2 z3 z4 f2
          go_wp2_with (first | refine wpList_ldR rfl 49 (.tmp 3) rfl B3 rfl _ (adA v.num v.ver 3 (.slice da 0 dc) (.slice sa mn sc)) MY.out Tryd.underlying49 ad_info ?_ | refine wpList_stR rfl 49 (.tmp 2) (.tmp 29) rfl B rfl (adA v.num v.ver 3 (.slice da 0 dc) (.slice sa mn sc)) _ rfl _ RM.out.1 ad_info rfl (ad_one _ _ _ ⟨_, _, _, rfl⟩ ⟨_, _, _, rfl⟩) ?_)
          refine bodyPost_ret (v := .agg (adA v.num v.ver 3 (.slice da 0 dc) (.slice sa mn sc))) (res_row1 Tryd.results56 _ _ _ B rfl _ (setRow_heap _ _ _ _ _ _ RM.out.1) Tryd.underlying49 ad_info) rfl ⟨.slice da 0 dc, .slice sa mn sc, srtI D, by rw [EO.out], HDL.out, ?_, ?_, RM.out.2.1⟩
          · rw [SL.out, ← HDN.out]
            exact RM.out.2.2.1
          · rw [← HMN.out]
            exact RM.out.2.2.2
        case neg =>
          obtain rfl : mn = 0 := by omega
          have EO : Hid (outO (srtI D).length (misL v).length = 1) := by rw [SL.out, ← HDN.out, ← HMN.out]; rfl
          have RM := hide (REM.out WZ (adA v.num v.ver 1 (.slice da 0 dc) (.slice sa 0 sc)) (Kp.refl WZ _) MZ.out)
          have MY := MZ
          clear MZ REM
          go_upto_region 6 with fail
          clear z2 z3 z4 f2
          go_wp2_with (first | refine wpList_ldR rfl 49 (.tmp 3) rfl B3 rfl _ (adA v.num v.ver 1 (.slice da 0 dc) (.slice sa 0 sc)) MY.out Tryd.underlying49 ad_info ?_ | refine wpList_stR rfl 49 (.tmp 2) (.tmp 29) rfl B rfl (adA v.num v.ver 1 (.slice da 0 dc) (.slice sa 0 sc)) _ rfl _ RM.out.1 ad_info rfl (ad_one _ _ _ ⟨_, _, _, rfl⟩ ⟨_, _, _, rfl⟩) ?_)
          refine bodyPost_ret (v := .agg (adA v.num v.ver 1 (.slice da 0 dc) (.slice sa 0 sc))) (res_row1 Tryd.results56 _ _ _ B rfl _ (setRow_heap _ _ _ _ _ _ RM.out.1) Tryd.underlying49 ad_info) rfl ⟨.slice da 0 dc, .slice sa 0 sc, srtI D, by rw [EO.out], HDL.out, ?_, ?_, RM.out.2.1⟩
          · rw [SL.out, ← HDN.out]
            exact RM.out.2.2.1
          · rw [← HMN.out]
            exact RM.out.2.2.2
    · go_simp
      obtain ⟨B3, hB3⟩ : ∃ B3, B3 = WD.heap.size := ⟨_, rfl⟩
      obtain ⟨WA, hWA⟩ : ∃ WA, WA = WD.alloc (.cells #[.int .i64 0, .int .i64 0, .int .i64 0, .slice none 0 0, .slice none 0 0] 49) := ⟨_, rfl⟩
      rw [← hB3, ← hWA]
      have kn : Kp WD WA non := by rw [hWA]; exact (Kp.refl WD non).alloc _
      have MB : Hid (WA.heap[B3]? = some (.cells #[.int .i64 0, .int .i64 0, .int .i64 0, .slice none 0 0, .slice none 0 0] 49)) := by rw [hWA, hB3]; exact heap_last WD _
      have B3G : Hid (W0.heap.size ≤ B3) := by rw [hB3]; exact KP.out.size
      have KN : Hid (Kp W0 WA non) := KP.out.trans kn (fun _ f => f.elim)
      have ON : Hid (WA.ownsRow W0.heap.size 3 1 (.slice da D.length dc) D.length (ints (srtI D))) := own_kp OD.out kn (fun _ _ f => f)
      clear OD
      have OD := ON
      clear ON
      clear KP
      have KP := KN
      clear KN hB3 hWA kn
      refine hK.out _ _ ((CC.out WA KP.out)) (fun hHeld => ?_)
      clear hK
      (try simp only [Act.put, List.setIfInBounds_toArray, List.set_cons_zero, List.set_cons_succ])
      refine wpAnyH_ready (rs := [11]) (by kernel_rfl) (by simp) ?_
      refine AllReadyH.cons rfl (fun K hK => ?_) AllReadyH.nil
      go_simp
      refine Calls.mono (SIL.out WA KP.out) ?_
      rintro e WS ⟨us, rfl, hs3, hs4⟩
      obtain ⟨sa, sc, rfl⟩ := own_sl hs3
      have KN : Hid (Kp W0 WS non) := KP.out.trans hs4 (fun _ f => f.elim)
      have OS : Hid (WS.ownsRow W0.heap.size 3 1 (.slice sa (misL v).length sc) (misL v).length (ints (misL v))) := own_base hs3 KP.out.size
      have ON : Hid (WS.ownsRow W0.heap.size 3 1 (.slice da D.length dc) D.length (ints (srtI D))) := own_kp OD.out hs4 (fun _ _ f => f)
      have MN : Hid (WS.heap[B3]? = some (.cells #[.int .i64 0, .int .i64 0, .int .i64 0, .slice none 0 0, .slice none 0 0] 49)) := (hs4.block _ (blk_lt MB.out) (fun f => f)).trans MB.out
      clear MB
      have MB := MN
      clear MN
      clear hs3 hs4 KP OD
      have KP := KN
      have OD := ON
      clear KN ON
      refine hK.out _ _ ((CC.out WS KP.out)) (fun hHeld => ?_)
      clear hK
      (try simp only [Act.put, List.setIfInBounds_toArray, List.set_cons_zero, List.set_cons_succ])
      refine wpAnyH_take (i := 12) (v := (.agg (adA v.num v.ver 1 (.slice da D.length dc) (.slice sa (misL v).length sc)))) rfl (by kernel_rfl) (by kernel_rfl) (by kernel_rfl) (fun _ _ _ h => h) (Or.inl ⟨by kernel_rfl, ?_⟩) (by assumption) ?_
      · intro w' hSw
        (try dsimp only at hSw)
        (exact exec_bl 49 #[(0, .tmp 7), (1, .tmp 11), (2, .const (.int .i64 1)), (3, .tmp 13), (4, .tmp 15)] rfl _ (by kernel_rfl))
      (try simp only [Act.put, List.getElem_toArray, List.getElem_cons_zero, List.getElem_cons_succ, List.setIfInBounds_toArray, List.set_cons_zero, List.set_cons_succ])
      refine wpAnyH_ready (rs := [14]) (by kernel_rfl) (by simp) ?_
      refine AllReadyH.cons rfl (fun K hK => ?_) AllReadyH.nil
      refine wp_store_row 49 (.tmp 3) (.tmp 16) rfl B3 (adA v.num v.ver 1 (.slice da D.length dc) (.slice sa (misL v).length sc)) rfl rfl 49 _ MB.out ad_info rfl (ad_one _ _ _ ⟨_, _, _, rfl⟩ ⟨_, _, _, rfl⟩) ?_
      obtain ⟨WZ, hWZ⟩ : ∃ WZ, WZ = WS.setRow B3 (adA v.num v.ver 1 (.slice da D.length dc) (.slice sa (misL v).length sc)) := ⟨_, rfl⟩
      have kz : Kp W0 WZ non := by rw [hWZ]; exact KP.out.row (Or.inr B3G.out) _
      have mz : WZ.heap[B3]? = some (.cells (adA v.num v.ver 1 (.slice da D.length dc) (.slice sa (misL v).length sc)) 49) := by rw [hWZ]; exact setRow_heap _ _ _ _ _ _ MB.out
      have nd : ∀ k, (Value.slice da D.length dc).ownBlock = some k → k ≠ B3 := fun k hk e => by
        obtain ⟨cur, hcu⟩ := own_typ OD.out hk
        rw [e, MB.out] at hcu
        simp at hcu
      have ns : ∀ k, (Value.slice sa (misL v).length sc).ownBlock = some k → k ≠ B3 := fun k hk e => by
        obtain ⟨cur, hcu⟩ := own_typ OS.out hk
        rw [e, MB.out] at hcu
        simp at hcu
      have k1 : Kp WS WZ (fun k => k = B3) := by rw [hWZ]; exact (Kp.refl WS (fun k => k = B3)).row (Or.inl rfl) _
      have od : WZ.ownsRow W0.heap.size 3 1 (.slice da D.length dc) D.length (ints (srtI D)) := own_kp OD.out k1 nd
      have os : WZ.ownsRow W0.heap.size 3 1 (.slice sa (misL v).length sc) (misL v).length (ints (misL v)) := own_kp OS.out k1 ns
      rw [← hWZ]
      have KZ := hide kz
      have MZ := hide mz
      have OD2 := hide od
      have OS2 := hide os
      clear KP MB OD OS hWZ nd ns k1
      have z3 : WZ.cell? ⟨B3, 3, none⟩ = some (.slice da D.length dc) := by rw [cell_row mz]; rfl
      have z4 : WZ.cell? ⟨B3, 4, none⟩ = some (.slice sa (misL v).length sc) := by rw [cell_row mz]; rfl
      have z2 : WZ.cell? ⟨B3, 2, none⟩ = some (.int .i64 1) := by rw [cell_row mz]; rfl
      have f2 : WZ.frozen? ⟨B3, 2, none⟩ = false := fz_row mz 2
      clear kz mz od os
      refine hK.out _ _ ((CC.out WZ KZ.out)) (fun hHeld => ?_)
      clear hK
      (try simp only [Act.put, List.setIfInBounds_toArray, List.set_cons_zero, List.set_cons_succ])
      refine wpAnyH_done (by kernel_rfl) ?_ _
      clear hHeld
      have REM := hide fun (WY : World) (X : Array Value) ky my => rep_fin (WY := WY) (X := X) K0.out HB.out KZ.out M0.out B3G.out OD2.out OS2.out MZ.out ky my
      have HDL : Hid (DfL v.told n (srtI D)) := ⟨D, HD1.out.1, HD1.out.2, rfl⟩
      have SL := hide (srtI_len D)
      clear KZ OD2 OS2 HD1 M0 K0 HA CC DIF SIL
      obtain ⟨dn, hdn⟩ : ∃ dn, dn = D.length := ⟨_, rfl⟩
      obtain ⟨mn, hmn⟩ : ∃ mn, mn = (misL v).length := ⟨_, rfl⟩
      have HDN := hide hdn
      have HMN := hide hmn
      rw [← hdn] at z3 ⊢
      rw [← hmn] at z4 ⊢
      rw [← hdn, ← hmn] at MZ REM
      clear hdn hmn
      by_cases hd0 : 0 < dn
      case pos =>
        have q0 : (0 : Int) < (dn : Int) := by omega
        have EO : Hid (outO (srtI D).length (misL v).length = 2) := by rw [SL.out, ← HDN.out]; exact if_pos hd0
        obtain ⟨WY, hWY⟩ : ∃ WY, WY = WZ.setCell ⟨B3, 2, none⟩ (.int .i64 2) := ⟨_, rfl⟩
        have my : WY.heap[B3]? = some (.cells (adA v.num v.ver 2 (.slice da dn dc) (.slice sa mn sc)) 49) := by rw [hWY]; exact set_row MZ.out 2 _
        have RM := hide (REM.out WY (adA v.num v.ver 2 (.slice da dn dc) (.slice sa mn sc)) (by rw [hWY]; exact (Kp.refl WZ (fun k => k = B3)).set (Or.inl rfl) _ _) my)
        have MY := hide my
        clear my MZ REM
        go_upto_region 6 with fail
        rw [← hWY]
        clear hWY z2 z3 z4 f2
        go_wp2_with (first | refine wpList_ldR rfl 49 (.tmp 3) rfl B3 rfl _ (adA v.num v.ver 2 (.slice da dn dc) (.slice sa mn sc)) MY.out Tryd.underlying49 ad_info ?_ | refine wpList_stR rfl 49 (.tmp 2) (.tmp 29) rfl B rfl (adA v.num v.ver 2 (.slice da dn dc) (.slice sa mn sc)) _ rfl _ RM.out.1 ad_info rfl (ad_one _ _ _ ⟨_, _, _, rfl⟩ ⟨_, _, _, rfl⟩) ?_)
        refine bodyPost_ret (v := .agg (adA v.num v.ver 2 (.slice da dn dc) (.slice sa mn sc))) (res_row1 Tryd.results56 _ _ _ B rfl _ (setRow_heap _ _ _ _ _ _ RM.out.1) Tryd.underlying49 ad_info) rfl ⟨.slice da dn dc, .slice sa mn sc, srtI D, by rw [EO.out], HDL.out, ?_, ?_, RM.out.2.1⟩
        · rw [SL.out, ← HDN.out]
          exact RM.out.2.2.1
        · rw [← HMN.out]
          exact RM.out.2.2.2
      case neg =>
        obtain rfl : dn = 0 := by omega
        by_cases hm0 : 0 < mn
        case pos =>
          have q0 : (0 : Int) < (mn : Int) := by omega
          have EO : Hid (outO (srtI D).length (misL v).length = 3) := by rw [SL.out, ← HDN.out, ← HMN.out]; unfold Hid outO; rw [if_neg (by omega), if_pos hm0]
          obtain ⟨WY, hWY⟩ : ∃ WY, WY = WZ.setCell ⟨B3, 2, none⟩ (.int .i64 3) := ⟨_, rfl⟩
          have my : WY.heap[B3]? = some (.cells (adA v.num v.ver 3 (.slice da 0 dc) (.slice sa mn sc)) 49) := by rw [hWY]; exact set_row MZ.out 2 _
          have RM := hide (REM.out WY (adA v.num v.ver 3 (.slice da 0 dc) (.slice sa mn sc)) (by rw [hWY]; exact (Kp.refl WZ (fun k => k = B3)).set (Or.inl rfl) _ _) my)
          have MY := hide my
          clear my MZ REM
          go_upto_region 6 with fail
          rw [← hWY]
          clear hWY z2 z3 z4 f2
          go_wp2_with (first | refine wpList_ldR rfl 49 (.tmp 3) rfl B3 rfl _ (adA v.num v.ver 3 (.slice da 0 dc) (.slice sa mn sc)) MY.out Tryd.underlying49 ad_info ?_ | refine wpList_stR rfl 49 (.tmp 2) (.tmp 29) rfl B rfl (adA v.num v.ver 3 (.slice da 0 dc) (.slice sa mn sc)) _ rfl _ RM.out.1 ad_info rfl (ad_one _ _ _ ⟨_, _, _, rfl⟩ ⟨_, _, _, rfl⟩) ?_)
          refine bodyPost_ret (v := .agg (adA v.num v.ver 3 (.slice da 0 dc) (.slice sa mn sc))) (res_row1 Tryd.results56 _ _ _ B rfl _ (setRow_heap _ _ _ _ _ _ RM.out.1) Tryd.underlying49 ad_info) rfl ⟨.slice da 0 dc, .slice sa mn sc, srtI D, by rw [EO.out], HDL.out, ?_, ?_, RM.out.2.1⟩
          · rw [SL.out, ← HDN.out]
            exact RM.out.2.2.1
          · rw [← HMN.out]
            exact RM.out.2.2.2
        case neg =>
          obtain rfl : mn = 0 := by omega
          have EO : Hid (outO (srtI D).length (misL v).length = 1) := by rw [SL.out, ← HDN.out, ← HMN.out]; rfl
          have RM := hide (REM.out WZ (adA v.num v.ver 1 (.slice da 0 dc) (.slice sa 0 sc)) (Kp.refl WZ _) MZ.out)
          have MY := MZ
          clear MZ REM
          go_upto_region 6 with fail
          clear z2 z3 z4 f2
          go_wp2_with (first | refine wpList_ldR rfl 49 (.tmp 3) rfl B3 rfl _ (adA v.num v.ver 1 (.slice da 0 dc) (.slice sa 0 sc)) MY.out Tryd.underlying49 ad_info ?_ | refine wpList_stR rfl 49 (.tmp 2) (.tmp 29) rfl B rfl (adA v.num v.ver 1 (.slice da 0 dc) (.slice sa 0 sc)) _ rfl _ RM.out.1 ad_info rfl (ad_one _ _ _ ⟨_, _, _, rfl⟩ ⟨_, _, _, rfl⟩) ?_)
          refine bodyPost_ret (v := .agg (adA v.num v.ver 1 (.slice da 0 dc) (.slice sa 0 sc))) (res_row1 Tryd.results56 _ _ _ B rfl _ (setRow_heap _ _ _ _ _ _ RM.out.1) Tryd.underlying49 ad_info) rfl ⟨.slice da 0 dc, .slice sa 0 sc, srtI D, by rw [EO.out], HDL.out, ?_, ?_, RM.out.2.1⟩
          · rw [SL.out, ← HDN.out]
            exact RM.out.2.2.1
          · rw [← HMN.out]
            exact RM.out.2.2.2
  · go_simp
    obtain ⟨B3, hB3⟩ : ∃ B3, B3 = W0.heap.size := ⟨_, rfl⟩
    obtain ⟨WA, hWA⟩ : ∃ WA, WA = (W0.alloc (.cells #[.int .i64 0, .int .i64 0, .int .i64 0, .slice none 0 0, .slice none 0 0] 49)).drew := ⟨_, rfl⟩
    rw [← hB3, ← hWA]
    have kn : Kp W0 WA non := by rw [hWA]; exact ((Kp.refl W0 non).alloc _).drew
    have MB : Hid (WA.heap[B3]? = some (.cells #[.int .i64 0, .int .i64 0, .int .i64 0, .slice none 0 0, .slice none 0 0] 49)) := by rw [hWA, hB3]; exact heap_last W0 _
    have B3G : Hid (W0.heap.size ≤ B3) := by rw [hB3]; exact Nat.le_refl _
    have KN : Hid (Kp W0 WA non) := kn
    have KP := KN
    clear KN hB3 hWA kn
    refine hK.out _ _ ((CC.out WA KP.out)) (fun hHeld => ?_)
    clear hK
    (try simp only [Act.put, List.setIfInBounds_toArray, List.set_cons_zero, List.set_cons_succ])
    refine wpAnyH_ready (rs := [9]) (by kernel_rfl) (by simp) ?_
    refine AllReadyH.cons rfl (fun K hK => ?_) AllReadyH.nil
    go_simp
    refine Calls.mono (DIF.out WA KP.out) ?_
    rintro e WD ⟨ud, D, rfl, hd1, hd2, hd3, hd4⟩
    obtain ⟨da, dc, rfl⟩ := own_sl hd3
    have KN : Hid (Kp W0 WD non) := Kp.trans KP.out hd4 (fun _ f => f.elim)
    have OD : Hid (WD.ownsRow W0.heap.size 3 1 (.slice da D.length dc) D.length (ints (srtI D))) := own_base hd3 (KP.out : Kp W0 WA non).size
    have MN : Hid (WD.heap[B3]? = some (.cells #[.int .i64 0, .int .i64 0, .int .i64 0, .slice none 0 0, .slice none 0 0] 49)) := (hd4.block _ (blk_lt MB.out) (fun f => f)).trans MB.out
    clear MB
    have MB := MN
    clear MN
    have HD1 := hide (And.intro hd1 hd2)
    clear hd1 hd2 hd3 hd4
    clear KP
    have KP := KN
    clear KN
    refine hK.out _ _ ((CC.out WD KP.out)) (fun hHeld => ?_)
    clear hK
    (try simp only [Act.put, List.setIfInBounds_toArray, List.set_cons_zero, List.set_cons_succ])
    refine wpAnyH_ready (rs := [11]) (by kernel_rfl) (by simp) ?_
    refine AllReadyH.cons rfl (fun K hK => ?_) AllReadyH.nil
    go_simp
    refine Calls.mono (SIL.out WD KP.out) ?_
    rintro e WS ⟨us, rfl, hs3, hs4⟩
    obtain ⟨sa, sc, rfl⟩ := own_sl hs3
    have KN : Hid (Kp W0 WS non) := KP.out.trans hs4 (fun _ f => f.elim)
    have OS : Hid (WS.ownsRow W0.heap.size 3 1 (.slice sa (misL v).length sc) (misL v).length (ints (misL v))) := own_base hs3 KP.out.size
    have ON : Hid (WS.ownsRow W0.heap.size 3 1 (.slice da D.length dc) D.length (ints (srtI D))) := own_kp OD.out hs4 (fun _ _ f => f)
    have MN : Hid (WS.heap[B3]? = some (.cells #[.int .i64 0, .int .i64 0, .int .i64 0, .slice none 0 0, .slice none 0 0] 49)) := (hs4.block _ (blk_lt MB.out) (fun f => f)).trans MB.out
    clear MB
    have MB := MN
    clear MN
    clear hs3 hs4 KP OD
    have KP := KN
    have OD := ON
    clear KN ON
    refine hK.out _ _ ((CC.out WS KP.out)) (fun hHeld => ?_)
    clear hK
    (try simp only [Act.put, List.setIfInBounds_toArray, List.set_cons_zero, List.set_cons_succ])
    refine wpAnyH_take (i := 12) (v := (.agg (adA v.num v.ver 1 (.slice da D.length dc) (.slice sa (misL v).length sc)))) rfl (by kernel_rfl) (by kernel_rfl) (by kernel_rfl) (fun _ _ _ h => h) (Or.inl ⟨by kernel_rfl, ?_⟩) (by assumption) ?_
    · intro w' hSw
      (try dsimp only at hSw)
      (exact exec_bl 49 #[(0, .tmp 7), (1, .tmp 11), (2, .const (.int .i64 1)), (3, .tmp 13), (4, .tmp 15)] rfl _ (by kernel_rfl))
    (try simp only [Act.put, List.getElem_toArray, List.getElem_cons_zero, List.getElem_cons_succ, List.setIfInBounds_toArray, List.set_cons_zero, List.set_cons_succ])
    refine wpAnyH_ready (rs := [14]) (by kernel_rfl) (by simp) ?_
    refine AllReadyH.cons rfl (fun K hK => ?_) AllReadyH.nil
    refine wp_store_row 49 (.tmp 3) (.tmp 16) rfl B3 (adA v.num v.ver 1 (.slice da D.length dc) (.slice sa (misL v).length sc)) rfl rfl 49 _ MB.out ad_info rfl (ad_one _ _ _ ⟨_, _, _, rfl⟩ ⟨_, _, _, rfl⟩) ?_
    obtain ⟨WZ, hWZ⟩ : ∃ WZ, WZ = WS.setRow B3 (adA v.num v.ver 1 (.slice da D.length dc) (.slice sa (misL v).length sc)) := ⟨_, rfl⟩
    have kz : Kp W0 WZ non := by rw [hWZ]; exact KP.out.row (Or.inr B3G.out) _
    have mz : WZ.heap[B3]? = some (.cells (adA v.num v.ver 1 (.slice da D.length dc) (.slice sa (misL v).length sc)) 49) := by rw [hWZ]; exact setRow_heap _ _ _ _ _ _ MB.out
    have nd : ∀ k, (Value.slice da D.length dc).ownBlock = some k → k ≠ B3 := fun k hk e => by
      obtain ⟨cur, hcu⟩ := own_typ OD.out hk
      rw [e, MB.out] at hcu
      simp at hcu
    have ns : ∀ k, (Value.slice sa (misL v).length sc).ownBlock = some k → k ≠ B3 := fun k hk e => by
      obtain ⟨cur, hcu⟩ := own_typ OS.out hk
      rw [e, MB.out] at hcu
      simp at hcu
    have k1 : Kp WS WZ (fun k => k = B3) := by rw [hWZ]; exact (Kp.refl WS (fun k => k = B3)).row (Or.inl rfl) _
    have od : WZ.ownsRow W0.heap.size 3 1 (.slice da D.length dc) D.length (ints (srtI D)) := own_kp OD.out k1 nd
    have os : WZ.ownsRow W0.heap.size 3 1 (.slice sa (misL v).length sc) (misL v).length (ints (misL v)) := own_kp OS.out k1 ns
    rw [← hWZ]
    have KZ := hide kz
    have MZ := hide mz
    have OD2 := hide od
    have OS2 := hide os
    clear KP MB OD OS hWZ nd ns k1
    have z3 : WZ.cell? ⟨B3, 3, none⟩ = some (.slice da D.length dc) := by rw [cell_row mz]; rfl
    have z4 : WZ.cell? ⟨B3, 4, none⟩ = some (.slice sa (misL v).length sc) := by rw [cell_row mz]; rfl
    have z2 : WZ.cell? ⟨B3, 2, none⟩ = some (.int .i64 1) := by rw [cell_row mz]; rfl
    have f2 : WZ.frozen? ⟨B3, 2, none⟩ = false := fz_row mz 2
    clear kz mz od os
    refine hK.out _ _ ((CC.out WZ KZ.out)) (fun hHeld => ?_)
    clear hK
    (try simp only [Act.put, List.setIfInBounds_toArray, List.set_cons_zero, List.set_cons_succ])
    refine wpAnyH_done (by kernel_rfl) ?_ _
    clear hHeld
    have REM := hide fun (WY : World) (X : Array Value) ky my => rep_fin (WY := WY) (X := X) K0.out HB.out KZ.out M0.out B3G.out OD2.out OS2.out MZ.out ky my
    have HDL : Hid (DfL v.told n (srtI D)) := ⟨D, HD1.out.1, HD1.out.2, rfl⟩
    have SL := hide (srtI_len D)
    clear KZ OD2 OS2 HD1 M0 K0 HA CC DIF SIL
    obtain ⟨dn, hdn⟩ : ∃ dn, dn = D.length := ⟨_, rfl⟩
    obtain ⟨mn, hmn⟩ : ∃ mn, mn = (misL v).length := ⟨_, rfl⟩
    have HDN := hide hdn
    have HMN := hide hmn
    rw [← hdn] at z3 ⊢
    rw [← hmn] at z4 ⊢
    rw [← hdn, ← hmn] at MZ REM
    clear hdn hmn
    by_cases hd0 : 0 < dn
    case pos =>
      have q0 : (0 : Int) < (dn : Int) := by omega
      have EO : Hid (outO (srtI D).length (misL v).length = 2) := by rw [SL.out, ← HDN.out]; exact if_pos hd0
      obtain ⟨WY, hWY⟩ : ∃ WY, WY = WZ.setCell ⟨B3, 2, none⟩ (.int .i64 2) := ⟨_, rfl⟩
      have my : WY.heap[B3]? = some (.cells (adA v.num v.ver 2 (.slice da dn dc) (.slice sa mn sc)) 49) := by rw [hWY]; exact set_row MZ.out 2 _
      have RM := hide (REM.out WY (adA v.num v.ver 2 (.slice da dn dc) (.slice sa mn sc)) (by rw [hWY]; exact (Kp.refl WZ (fun k => k = B3)).set (Or.inl rfl) _ _) my)
      have MY := hide my
      clear my MZ REM
      go_upto_region 6 with fail
      rw [← hWY]
      clear hWY z2 z3 z4 f2
      go_wp2_with (first | refine wpList_ldR rfl 49 (.tmp 3) rfl B3 rfl _ (adA v.num v.ver 2 (.slice da dn dc) (.slice sa mn sc)) MY.out Tryd.underlying49 ad_info ?_ | refine wpList_stR rfl 49 (.tmp 2) (.tmp 29) rfl B rfl (adA v.num v.ver 2 (.slice da dn dc) (.slice sa mn sc)) _ rfl _ RM.out.1 ad_info rfl (ad_one _ _ _ ⟨_, _, _, rfl⟩ ⟨_, _, _, rfl⟩) ?_)
      refine bodyPost_ret (v := .agg (adA v.num v.ver 2 (.slice da dn dc) (.slice sa mn sc))) (res_row1 Tryd.results56 _ _ _ B rfl _ (setRow_heap _ _ _ _ _ _ RM.out.1) Tryd.underlying49 ad_info) rfl ⟨.slice da dn dc, .slice sa mn sc, srtI D, by rw [EO.out], HDL.out, ?_, ?_, RM.out.2.1⟩
      · rw [SL.out, ← HDN.out]
        exact RM.out.2.2.1
      · rw [← HMN.out]
        exact RM.out.2.2.2
    case neg =>
      obtain rfl : dn = 0 := by omega
      by_cases hm0 : 0 < mn
      case pos =>
        have q0 : (0 : Int) < (mn : Int) := by omega
        have EO : Hid (outO (srtI D).length (misL v).length = 3) := by rw [SL.out, ← HDN.out, ← HMN.out]; unfold Hid outO; rw [if_neg (by omega), if_pos hm0]
        obtain ⟨WY, hWY⟩ : ∃ WY, WY = WZ.setCell ⟨B3, 2, none⟩ (.int .i64 3) := ⟨_, rfl⟩
        have my : WY.heap[B3]? = some (.cells (adA v.num v.ver 3 (.slice da 0 dc) (.slice sa mn sc)) 49) := by rw [hWY]; exact set_row MZ.out 2 _
        have RM := hide (REM.out WY (adA v.num v.ver 3 (.slice da 0 dc) (.slice sa mn sc)) (by rw [hWY]; exact (Kp.refl WZ (fun k => k = B3)).set (Or.inl rfl) _ _) my)
        have MY := hide my
        clear my MZ REM
        go_upto_region 6 with fail
        rw [← hWY]
        clear hWY z2 z3 z4 f2
        go_wp2_with (first | refine wpList_ldR rfl 49 (.tmp 3) rfl B3 rfl _ (adA v.num v.ver 3 (.slice da 0 dc) (.slice sa mn sc)) MY.out Tryd.underlying49 ad_info ?_ | refine wpList_stR rfl 49 (.tmp 2) (.tmp 29) rfl B rfl (adA v.num v.ver 3 (.slice da 0 dc) (.slice sa mn sc)) _ rfl _ RM.out.1 ad_info rfl (ad_one _ _ _ ⟨_, _, _, rfl⟩ ⟨_, _, _, rfl⟩) ?_)
        refine bodyPost_ret (v := .agg (adA v.num v.ver 3 (.slice da 0 dc) (.slice sa mn sc))) (res_row1 Tryd.results56 _ _ _ B rfl _ (setRow_heap _ _ _ _ _ _ RM.out.1) Tryd.underlying49 ad_info) rfl ⟨.slice da 0 dc, .slice sa mn sc, srtI D, by rw [EO.out], HDL.out, ?_, ?_, RM.out.2.1⟩
        · rw [SL.out, ← HDN.out]
          exact RM.out.2.2.1
        · rw [← HMN.out]
          exact RM.out.2.2.2
      case neg =>
        obtain rfl : mn = 0 := by omega
        have EO : Hid (outO (srtI D).length (misL v).length = 1) := by rw [SL.out, ← HDN.out, ← HMN.out]; rfl
        have RM := hide (REM.out WZ (adA v.num v.ver 1 (.slice da 0 dc) (.slice sa 0 sc)) (Kp.refl WZ _) MZ.out)
        have MY := MZ
        clear MZ REM
        go_upto_region 6 with fail
        clear z2 z3 z4 f2
        go_wp2_with (first | refine wpList_ldR rfl 49 (.tmp 3) rfl B3 rfl _ (adA v.num v.ver 1 (.slice da 0 dc) (.slice sa 0 sc)) MY.out Tryd.underlying49 ad_info ?_ | refine wpList_stR rfl 49 (.tmp 2) (.tmp 29) rfl B rfl (adA v.num v.ver 1 (.slice da 0 dc) (.slice sa 0 sc)) _ rfl _ RM.out.1 ad_info rfl (ad_one _ _ _ ⟨_, _, _, rfl⟩ ⟨_, _, _, rfl⟩) ?_)
        refine bodyPost_ret (v := .agg (adA v.num v.ver 1 (.slice da 0 dc) (.slice sa 0 sc))) (res_row1 Tryd.results56 _ _ _ B rfl _ (setRow_heap _ _ _ _ _ _ RM.out.1) Tryd.underlying49 ad_info) rfl ⟨.slice da 0 dc, .slice sa 0 sc, srtI D, by rw [EO.out], HDL.out, ?_, ?_, RM.out.2.1⟩
        · rw [SL.out, ← HDN.out]
          exact RM.out.2.2.1
        · rw [← HMN.out]
          exact RM.out.2.2.2
end Go.Proofs.YteiiolilpemimaaDoor.Cn
