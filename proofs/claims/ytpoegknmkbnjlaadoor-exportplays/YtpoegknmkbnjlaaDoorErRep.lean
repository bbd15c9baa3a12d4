import Derived.Test.YtpoegknmkbnjlaaDoorGKbMap
import Derived.Test.YtpoegknmkbnjlaaDoorGEtPure
import Derived.Test.YtpoegknmkbnjlaaDoorEwSame
import Derived.Test.YtpoegknmkbnjlaaDoorGGkRound
namespace Go.Proofs.YtpoegknmkbnjlaaDoor.Cn
open Go.RowKit
/-- a list of the report's is grown -/
theorem rep_fin {W4 w5 : World} {C B e sz m : Nat} {A : Array Value} {t : TypeId} {u v' : Value} {xs : List Value} (hC : W4.heap[C]? = some (.cells A t)) (hB : C < B) (o : w5.ownsRow B e sz v' m xs) (g : W4.grownBy w5 u.ownBlock) (hu : ∀ k, u.ownBlock = some k → B ≤ k) (j : Nat) :
    w5.heap[C]? = some (.cells A t) ∧ (w5.setCell ⟨C, j, none⟩ v').heap[C]? = some (.cells (A.setIfInBounds j v') t) ∧ (w5.setCell ⟨C, j, none⟩ v').ownsRow B e sz v' m xs ∧ Kp W4 (w5.setCell ⟨C, j, none⟩ v') (fun k => k = C ∨ u.ownBlock = some k) := by
  have kg := Kp.of_grown g
  have h1 : w5.heap[C]? = some (.cells A t) := (kg.block _ (blk_lt hC) (fun e => by have := hu C e.symm; omega)).trans hC
  have k2 : Kp w5 (w5.setCell ⟨C, j, none⟩ v') (fun k => k = C) := (Kp.refl w5 (fun k => k = C)).set (Or.inl rfl) _ _
  refine ⟨h1, set_row h1 j v', own_kp o k2 (fun k e q => by have := own_ge o e; omega), ?_⟩
  exact (kg.mono (fun k e => Or.inr e.symm)).trans k2 (fun k e => Or.inl (Or.inl e))
theorem report_rno {w : World} {Y : Nat} {r : Rx} {Z : Zr} (h : RxAt w Y r Z) (hen : r.en = false) :
    Calls Tryd.prog 19 #[.pointer (some ⟨Y, 0, none⟩)] w fun e w' => e = .returned (.tuple #[.agg (toA rp0 nilV nilV), .int .i64 151]) ∧ Kp w w' non := by
  have c6 : w.cell? ⟨Y, 6, none⟩ = some (.bool false) := by rw [← hen]; exact (rx_cells h.blk).2.2.2.2.2.2.1
  obtain ⟨A, hA⟩ : ∃ A, A = w.heap.size := ⟨_, rfl⟩
  obtain ⟨W0, hW0⟩ : ∃ W0, W0 = w.alloc (.cells #[.int .i64 0, .int .i64 0, .slice none 0 0, .slice none 0 0] 57) := ⟨_, rfl⟩
  have k0 : Kp w W0 non := by rw [hW0]; exact (Kp.refl w non).alloc _
  have A0 : W0.heap[A]? = some (.cells (toA rp0 nilV nilV) 57) := by rw [hW0, hA]; exact heap_last _ _
  have d6 : W0.cell? ⟨Y, 6, none⟩ = some (.bool false) := (k0.cell (blk_lt h.blk) (fun f => f)).trans c6
  obtain ⟨W1, hW1⟩ : ∃ W1, W1 = W0.setRow A (toA rp0 nilV nilV) := ⟨_, rfl⟩
  have B1 : W1.heap[A]? = some (.cells (toA rp0 nilV nilV) 57) := by rw [hW1]; exact setRow_heap _ _ _ _ _ _ A0
  have K1 : Hid (Kp w W1 non) := by rw [hW1]; exact k0.row (Or.inr (by rw [hA]; exact Nat.le_refl _)) _
  have TI := hide to_info
  have ON : Hid ((toA rp0 nilV nilV).all (·.oneCell') = true) := to_one rp0 ⟨_, _, _, rfl⟩ ⟨_, _, _, rfl⟩
  have HA0 := hide A0
  have HB1 := hide B1
  have HW1 := hide hW1
  clear h c6 k0 A0 B1 hW1 hen
  go_enter Tryd.func19, Tryd.ntmps19
  go_upto_region 1 with fail
  rw [← hW0, ← hA]
  clear hW0 hA
  go_wp2_with (refine wpList_stR rfl 57 (.tmp 2) (.tmp 15) rfl A rfl (toA rp0 nilV nilV) (toA rp0 nilV nilV) rfl _ HA0.out TI.out rfl ON.out ?_; rw [← HW1.out])
  refine bodyPost_ret (v := .tuple #[.agg (toA rp0 nilV nilV), .int .i64 151]) (res_row2 Tryd.results19 _ _ W1 A rfl _ rfl _ HB1.out Tryd.underlying57 TI.out) rfl ?_
  exact ⟨rfl, K1.out⟩
theorem report_rnil (w : World) :
    Calls Tryd.prog 19 #[.pointer none] w fun e w' => e = .returned (.tuple #[.agg (toA rp0 nilV nilV), .int .i64 2]) ∧ Kp w w' non := by
  obtain ⟨A, hA⟩ : ∃ A, A = w.heap.size := ⟨_, rfl⟩
  obtain ⟨W0, hW0⟩ : ∃ W0, W0 = w.alloc (.cells #[.int .i64 0, .int .i64 0, .slice none 0 0, .slice none 0 0] 57) := ⟨_, rfl⟩
  have k0 : Kp w W0 non := by rw [hW0]; exact (Kp.refl w non).alloc _
  have A0 : W0.heap[A]? = some (.cells (toA rp0 nilV nilV) 57) := by rw [hW0, hA]; exact heap_last _ _
  obtain ⟨W1, hW1⟩ : ∃ W1, W1 = W0.setRow A (toA rp0 nilV nilV) := ⟨_, rfl⟩
  have B1 : W1.heap[A]? = some (.cells (toA rp0 nilV nilV) 57) := by rw [hW1]; exact setRow_heap _ _ _ _ _ _ A0
  have K1 : Hid (Kp w W1 non) := by rw [hW1]; exact k0.row (Or.inr (by rw [hA]; exact Nat.le_refl _)) _
  have TI := hide to_info
  have ON : Hid ((toA rp0 nilV nilV).all (·.oneCell') = true) := to_one rp0 ⟨_, _, _, rfl⟩ ⟨_, _, _, rfl⟩
  have HA0 := hide A0
  have HB1 := hide B1
  have HW1 := hide hW1
  clear k0 A0 B1 hW1
  go_enter Tryd.func19, Tryd.ntmps19
  go_upto_region 1 with fail
  rw [← hW0, ← hA]
  clear hW0 hA
  go_wp2_with (refine wpList_stR rfl 57 (.tmp 2) (.tmp 9) rfl A rfl (toA rp0 nilV nilV) (toA rp0 nilV nilV) rfl _ HA0.out TI.out rfl ON.out ?_; rw [← HW1.out])
  refine bodyPost_ret (v := .tuple #[.agg (toA rp0 nilV nilV), .int .i64 2]) (res_row2 Tryd.results19 _ _ W1 A rfl _ rfl _ HB1.out Tryd.underlying57 TI.out) rfl ?_
  exact ⟨rfl, K1.out⟩
set_option maxHeartbeats 16000000 in
set_option maxRecDepth 100000 in
set_option linter.unusedSimpArgs false in
set_option linter.unusedVariables false in
theorem report_r {w : World} {Y : Nat} {r : Rx} {Z : Zr} (h : RxAt w Y r Z) (hen : r.en = true) (hl : r.last.ps.length ≤ 99999 ∧ r.last.ms.length ≤ 99999) :
    Calls Tryd.prog 19 #[.pointer (some ⟨Y, 0, none⟩)] w fun e w' => ∃ u1 u2, e = .returned (.tuple #[.agg (toA r.last u1 u2), .int .i64 0]) ∧ w'.ownsRow w.heap.size 89 2 u1 r.last.ps.length (prs r.last.ps) ∧ w'.ownsRow w.heap.size 3 1 u2 r.last.ms.length (ints r.last.ms) ∧ Kp w w' non := by
  obtain ⟨A, hA⟩ : ∃ A, A = w.heap.size := ⟨_, rfl⟩
  obtain ⟨W0, hW0⟩ : ∃ W0, W0 = w.alloc (.cells #[.int .i64 0, .int .i64 0, .slice none 0 0, .slice none 0 0] 57) := ⟨_, rfl⟩
  have hz0 : W0.heap.size = A + 1 := by rw [hW0, hA]; simp
  have k0 : Kp w W0 non := by rw [hW0]; exact (Kp.refl w non).alloc _
  have A0 : W0.heap[A]? = some (.cells (toA rp0 nilV nilV) 57) := by rw [hW0, hA]; exact heap_last _ _
  have x0 := h.kp0 k0
  obtain ⟨la, hla⟩ : ∃ la, la = r.last := ⟨_, rfl⟩
  obtain ⟨PS, hPS⟩ : ∃ PS, PS = r.last.ps := ⟨_, rfl⟩
  obtain ⟨MS, hMS⟩ : ∃ MS, MS = r.last.ms := ⟨_, rfl⟩
  obtain ⟨C, hC⟩ : ∃ C, C = A + 1 := ⟨_, rfl⟩
  obtain ⟨W1, hW1⟩ : ∃ W1, W1 = (W0.alloc (.cells (toA la nilV nilV) 57)).drew := ⟨_, rfl⟩
  have hzd : W0.heap.size = C := by rw [hC]; exact hz0
  have k1 : Kp W0 W1 non := by rw [hW1]; exact ((Kp.refl W0 non).alloc _).drew
  have c1 : W1.heap[C]? = some (.cells (toA la nilV nilV) 57) := by rw [hW1, ← hzd]; exact heap_last W0 _
  have hz1 : W1.heap.size = C + 1 := by rw [hW1]; show (W0.alloc _).heap.size = _; rw [World.size_alloc, hzd]
  have KW1 : Hid (Kp w W1 non) := k0.trans k1 (fun _ f => f.elim)
  have A1 : Hid (W1.heap[A]? = some (.cells (toA rp0 nilV nilV) 57)) := k1.blk0 A0
  have C1 := hide c1
  have c6 : W0.cell? ⟨Y, 6, none⟩ = some (.bool true) := by rw [← hen]; exact (rx_cells x0.blk).2.2.2.2.2.2.1
  have FY : Hid (∀ X : World, X.heap[Y]? = W0.heap[Y]? → X.cell? ⟨Y, 13, none⟩ = some (.int .i64 la.jb) ∧ X.cell? ⟨Y, 14, none⟩ = some (.int .i64 la.vr)) := fun X hX => by
    have b := hX.trans x0.blk
    rw [cell_row b, cell_row b, hla]
    exact ⟨rfl, rfl⟩
  have HS : Hid ((W0.alloc (.cells #[.int .i64 0, .int .i64 0, .slice none 0 0, .slice none 0 0] 57)).drew.setRow C (toA la nilV nilV) = W1) := by
    rw [hW1, ← hzd]
    have z : ((W0.alloc (.cells #[.int .i64 0, .int .i64 0, .slice none 0 0, .slice none 0 0] 57)).setRow W0.heap.size (toA la nilV nilV)) = W0.alloc (.cells (toA la nilV nilV) 57) := World.setRow_alloc_new _ _ _ _
    show (((W0.alloc _).setRow W0.heap.size _).drew) = _
    rw [z]
  have HL : Hid ((W0.alloc (.cells #[.int .i64 0, .int .i64 0, .slice none 0 0, .slice none 0 0] 57)).drew.heap[C]? = some (.cells #[.int .i64 0, .int .i64 0, .slice none 0 0, .slice none 0 0] 57)) := by
    rw [← hzd]
    exact heap_last W0 _
  have SY : Hid ((W0.alloc (.cells #[.int .i64 0, .int .i64 0, .slice none 0 0, .slice none 0 0] 57)).drew.heap[Y]? = W0.heap[Y]? ∧ W1.heap[Y]? = W0.heap[Y]?) := by
    refine ⟨(((Kp.refl W0 non).alloc _).drew).block _ (blk_lt x0.blk) (fun f => f), ?_⟩
    exact k1.block _ (blk_lt x0.blk) (fun f => f)
  have TI := hide to_info
  have ON : Hid ((toA la nilV nilV).all (·.oneCell') = true) := to_one la ⟨_, _, _, rfl⟩ ⟨_, _, _, rfl⟩
  have HC0 : Hid (∀ X : World, Kp w X non → (X.cell? ⟨Y, 15, none⟩ = some Z.lp ∧ X.ownsRow 0 89 2 Z.lp PS.length (prs PS)) ∧ (X.cell? ⟨Y, 16, none⟩ = some Z.lm ∧ X.ownsRow 0 3 1 Z.lm MS.length (ints MS))) := fun X hk => by
    have z := h.kp0 hk
    rw [hPS, hMS, cell_row z.blk, cell_row z.blk]
    exact ⟨⟨rfl, z.ow.lp⟩, rfl, z.ow.lm⟩
  obtain ⟨lp, hlp⟩ : ∃ lp, lp = Z.lp := ⟨_, rfl⟩
  obtain ⟨lm, hlm⟩ : ∃ lm, lm = Z.lm := ⟨_, rfl⟩
  rw [← hlp, ← hlm] at HC0
  obtain ⟨lpa, lpc, elp⟩ := own_sl (HC0.out w (Kp.refl _ _)).1.2
  obtain ⟨lma, lmc, elm⟩ := own_sl (HC0.out w (Kp.refl _ _)).2.2
  subst elp elm
  have NB : Hid (PS.length ≤ 99999 ∧ MS.length ≤ 99999) := by rw [hPS, hMS]; exact hl
  obtain ⟨n1, hn1⟩ : ∃ n1, n1 = PS.length := ⟨_, rfl⟩
  obtain ⟨n2, hn2⟩ : ∃ n2, n2 = MS.length := ⟨_, rfl⟩
  rw [← hn1, ← hn2] at HC0 NB
  have HN := hide (And.intro hn1 hn2)
  have HEQ := hide (And.intro hla (And.intro hPS hMS))
  have HAC := hide (And.intro hA hC)
  have HZD := hide hzd
  have HZ1 := hide hz1
  have HW0 := hide hW0
  clear h hen hl k0 A0 x0 hla hPS hMS k1 c1 hW1 hz0 hlp hlm hzd hz1 hn1 hn2 hC
  go_enter Tryd.func19, Tryd.ntmps19
  go_upto_region 1 with fail
  rw [← hW0, ← hA]
  clear hW0 hA HW0
  go_upto_region 5 with fail
  clear c6
  refine wp_region_held_drew (S := fun X => X.heap[Y]? = W0.heap[Y]?) (by kernel_rfl) rfl (fun hHeld => ?_)
  refine wTk (i := 0) (v := (.pointer (some ⟨Y, 0, none⟩))) rfl ?_ ?_
  · intro w' hSw
    (try dsimp only at hSw)
    go_simp
  (try simp only [Act.put, List.getElem_toArray, List.getElem_cons_zero, List.getElem_cons_succ, List.setIfInBounds_toArray, List.set_cons_zero, List.set_cons_succ])
  refine wTk (i := 1) (v := (.pointer (some ⟨Y, 0, none⟩))) rfl ?_ ?_
  · intro w' hSw
    (try dsimp only at hSw)
    go_simp
  (try simp only [Act.put, List.getElem_toArray, List.getElem_cons_zero, List.getElem_cons_succ, List.setIfInBounds_toArray, List.set_cons_zero, List.set_cons_succ])
  refine wTk (i := 2) (v := (.pointer (some ⟨Y, 13, none⟩))) rfl ?_ ?_
  · intro w' hSw
    (try dsimp only at hSw)
    go_simp
  (try simp only [Act.put, List.getElem_toArray, List.getElem_cons_zero, List.getElem_cons_succ, List.setIfInBounds_toArray, List.set_cons_zero, List.set_cons_succ])
  refine wTk (i := 3) (v := (.pointer (some ⟨Y, 13, none⟩))) rfl ?_ ?_
  · intro w' hSw
    (try dsimp only at hSw)
    go_simp
  (try simp only [Act.put, List.getElem_toArray, List.getElem_cons_zero, List.getElem_cons_succ, List.setIfInBounds_toArray, List.set_cons_zero, List.set_cons_succ])
  refine wTk (i := 4) (v := (.int .i64 la.jb)) rfl ?_ ?_
  · intro w' hSw
    (try dsimp only at hSw)
    (have z := (FY.out _ hSw).1; go_simp)
  (try simp only [Act.put, List.getElem_toArray, List.getElem_cons_zero, List.getElem_cons_succ, List.setIfInBounds_toArray, List.set_cons_zero, List.set_cons_succ])
  refine wTk (i := 5) (v := (.pointer (some ⟨Y, 0, none⟩))) rfl ?_ ?_
  · intro w' hSw
    (try dsimp only at hSw)
    go_simp
  (try simp only [Act.put, List.getElem_toArray, List.getElem_cons_zero, List.getElem_cons_succ, List.setIfInBounds_toArray, List.set_cons_zero, List.set_cons_succ])
  refine wTk (i := 6) (v := (.pointer (some ⟨Y, 0, none⟩))) rfl ?_ ?_
  · intro w' hSw
    (try dsimp only at hSw)
    go_simp
  (try simp only [Act.put, List.getElem_toArray, List.getElem_cons_zero, List.getElem_cons_succ, List.setIfInBounds_toArray, List.set_cons_zero, List.set_cons_succ])
  refine wTk (i := 7) (v := (.pointer (some ⟨Y, 13, none⟩))) rfl ?_ ?_
  · intro w' hSw
    (try dsimp only at hSw)
    go_simp
  (try simp only [Act.put, List.getElem_toArray, List.getElem_cons_zero, List.getElem_cons_succ, List.setIfInBounds_toArray, List.set_cons_zero, List.set_cons_succ])
  refine wTk (i := 8) (v := (.pointer (some ⟨Y, 14, none⟩))) rfl ?_ ?_
  · intro w' hSw
    (try dsimp only at hSw)
    go_simp
  (try simp only [Act.put, List.getElem_toArray, List.getElem_cons_zero, List.getElem_cons_succ, List.setIfInBounds_toArray, List.set_cons_zero, List.set_cons_succ])
  refine wTk (i := 9) (v := (.int .i64 la.vr)) rfl ?_ ?_
  · intro w' hSw
    (try dsimp only at hSw)
    (have z := (FY.out _ hSw).2; go_simp)
  (try simp only [Act.put, List.getElem_toArray, List.getElem_cons_zero, List.getElem_cons_succ, List.setIfInBounds_toArray, List.set_cons_zero, List.set_cons_succ])
  refine wTk (i := 10) (v := (.agg (toA la nilV nilV))) rfl ?_ ?_
  · intro w' hSw
    (try dsimp only at hSw)
    (unfold toA nilV; go_simp)
  (try simp only [Act.put, List.getElem_toArray, List.getElem_cons_zero, List.getElem_cons_succ, List.setIfInBounds_toArray, List.set_cons_zero, List.set_cons_succ])
  refine wpAnyH_ready (rs := [11]) (by kernel_rfl) (by simp) ?_
  refine AllReadyH.cons rfl (fun K hK => ?_) AllReadyH.nil
  have SZ := HZD.out
  go_simp
  (try rw [HZD.out])
  refine hK.out _ _ (SY.out.1) (fun hHeld => ?_)
  clear hK
  (try simp only [Act.put, List.setIfInBounds_toArray, List.set_cons_zero, List.set_cons_succ])
  clear SZ
  refine wpAnyH_ready (rs := [12]) (by kernel_rfl) (by simp) ?_
  refine AllReadyH.cons rfl (fun K hK => ?_) AllReadyH.nil
  refine wp_store_row 57 (.tmp 4) (.tmp 26) rfl C (toA la nilV nilV) rfl rfl _ #[.int .i64 0, .int .i64 0, .slice none 0 0, .slice none 0 0] HL.out TI.out rfl ON.out ?_
  rw [HS.out]
  refine hK.out _ _ (SY.out.2) (fun hHeld => ?_)
  clear hK
  (try simp only [Act.put, List.setIfInBounds_toArray, List.set_cons_zero, List.set_cons_succ])
  refine wpAnyH_done (by kernel_rfl) ?_ _
  clear hHeld SY HL HS ON FY HZD
  obtain ⟨B, hB⟩ : ∃ B, B = W1.heap.size := ⟨_, rfl⟩
  have HBW := hide (Nat.le_of_eq hB)
  have HBC : Hid (C < B) := by rw [hB, HZ1.out]; exact Nat.lt_succ_self _
  have BW1 : Hid (w.heap.size ≤ B) := by rw [hB]; exact KW1.out.size
  have BW : Hid (w.heap.size ≤ B) := by rw [hB]; exact KW1.out.size
  have HCW : Hid (w.heap.size ≤ C) := by rw [HAC.out.2, ← HAC.out.1]; exact Nat.le_succ _
  clear hB
  go_wp2_with fail
  go_loopw [5] (fun vi wr => ∃ (i : Nat), i ≤ n1 ∧ vi = .int .i64 (i : Int) ∧ ∃ (ua : Option Addr) (uc : Nat) (UL : List Pr), PS.take i = UL ∧ wr.heap[C]? = some (.cells (toA la (.slice ua UL.length uc) nilV) 57) ∧ wr.ownsRow B 89 2 (.slice ua UL.length uc) UL.length (prs UL) ∧ Hid (Kp w wr non) ∧ UL.length ≤ i ∧ (Kp W1 wr (fun k => k = C ∨ B ≤ k))) (fun vi _ => n1 - (intOf vi).toNat)
  case atStart => exact ⟨0, Nat.zero_le _, rfl, none, 0, [], rfl, C1.out, World.ownsRow_nil _ _ _ _, KW1.out, Nat.le_refl _, Kp.refl _ _⟩
  case round =>
    obtain ⟨i, hi, rfl, ua, uc, UL, KK, cb, ou, KW, hul, KB⟩ := hrel
    have CB := hide cb
    have OU := hide ou
    clear cb ou
    by_cases hin : i < n1
    case pos =>
      have HC : Hid (∀ X : World, Kp w X non → X.cell? ⟨Y, 15, none⟩ = some (.slice lpa n1 lpc) ∧ X.ownsRow 0 89 2 (.slice lpa n1 lpc) n1 (prs PS)) := fun X hk => (HC0.out X hk).1
      have HNN := hide HN.out.1
      have HNB := hide NB.out.1
      have BAX : Hid (∀ X, Kp wr X non → ∀ {V : World}, Kp X V (fun k => k = C ∨ (Value.slice ua UL.length uc).ownBlock = some k) → Kp W1 V (fun k => k = C ∨ B ≤ k)) := fun X hx V hv => (KB.trans hx (fun _ f => f.elim)).trans hv (fun k e => Or.inl (by rcases e with e | e; exact Or.inl e; exact Or.inr (own_ge OU.out e)))
      clear HC0
      obtain ⟨e15, ro⟩ := HC.out wr KW.out
      obtain ⟨pg, pc', hpg⟩ := own_g ro (by omega)
      injection hpg with hpg _ hpcc
      subst hpg
      subst hpcc
      have hiL : i < PS.length := by rw [← HNN.out]; exact hin
      have hii : (i : Int) < (n1 : Int) := by omega
      obtain ⟨pr, hpr⟩ : ∃ pr, pr = PS[i] := ⟨_, rfl⟩
      have RGE : Hid (∀ X : World, Kp w X non → X.rangeAt pg (i * 2) (prV pr).toList ∧ X.cell? ⟨Y, 15, none⟩ = some (.slice (some ⟨pg, 0, none⟩) n1 lpc)) := fun X hk => by
        obtain ⟨e15, ro2⟩ := HC.out X hk
        refine ⟨fun j u hj => ?_, e15⟩
        have hl : j < 2 := by
          have := (List.getElem?_eq_some_iff.1 hj).1
          simpa [prV] using this
        have e9 := prs_at PS i hiL j hl
        rw [← hpr] at e9
        have hj2 : (prV pr)[j]? = some u := by rw [← hj]; simp
        rw [hj2] at e9
        obtain ⟨g', c', e1, hc, _⟩ := own_at ro2 e9
        injection e1 with e1
        injection e1 with e1
        injection e1 with e1
        rw [e1]
        exact hc
      have HKK : Hid (PS.take (i + 1) = UL ++ [pr]) := by rw [List.take_succ_eq_append_getElem hiL, ← hpr, ← KK]; rfl
      have ULB : Hid (UL.length ≤ 100000) := by show _ ≤ _; have := HNB.out; omega
      have ULI := hide hul
      have hnb : n1 ≤ 99999 := HNB.out
      obtain ⟨W4, hW4⟩ : ∃ W4, W4 = wr.drew.alloc (.cells (prV pr) 89) := ⟨_, rfl⟩
      obtain ⟨G4, hG4⟩ : ∃ G4, G4 = wr.drew.heap.size := ⟨_, rfl⟩
      have KD : Hid (Kp wr wr.drew non) := (Kp.refl wr non).drew
      have K4 : Hid (Kp wr W4 non) := by rw [hW4]; first | exact ((Kp.refl wr non).drew).alloc _ | exact ((Kp.refl wr non).alloc _).drew
      have KW4 : Hid (Kp w W4 non) := KW.out.trans K4.out (fun _ f => f.elim)
      have O4 : Hid (W4.ownsRow B 89 2 (.slice ua UL.length uc) UL.length (prs UL)) := own_kp OU.out K4.out (fun _ _ f => f)
      have N4 : Hid (W4.ownsRow G4 89 2 (.slice (some ⟨G4, 0, none⟩) 1 1) 1 (prV pr).toList) := by rw [hW4, hG4, ← prs_one]; exact ⟨rfl, Or.inr ⟨_, 1, _, rfl, Nat.le_refl _, heap_last _ _, Nat.le_refl _, by unfold maxLen; omega, rfl, by rw [prs_one]; rfl⟩⟩
      have BS : Hid (B ≤ W4.heap.size) := by have := K4.out.size; have := HBW.out; have := KB.size; show _ ≤ _; omega
      have CBW : Hid (∀ X, Kp wr X non → X.heap[C]? = some (.cells (toA la (.slice ua UL.length uc) nilV) 57)) := fun X hk => hk.blk0 CB.out
      have HW4 := hide hW4
      have HG4 := hide hG4
      have HI := hide (And.intro hi hin)
      clear ro hpr hiL KK hW4 hG4 hul OU hin
      go_wp2_with fail
      clear e15
      refine wp_region_held_drew (S := fun X => Kp w X non) (by kernel_rfl) (KW.out.trans ((Kp.refl wr non).drew) (fun _ f => f.elim)) (fun hHeld => ?_)
      refine wTk (i := 0) (v := (.pointer (some ⟨C, 2, none⟩))) rfl ?_ ?_
      · intro w' hSw
        (try dsimp only at hSw)
        go_simp
      (try simp only [Act.put, List.getElem_toArray, List.getElem_cons_zero, List.getElem_cons_succ, List.setIfInBounds_toArray, List.set_cons_zero, List.set_cons_succ])
      refine wTk (i := 2) (v := (.pointer (some ⟨Y, 0, none⟩))) rfl ?_ ?_
      · intro w' hSw
        (try dsimp only at hSw)
        go_simp
      (try simp only [Act.put, List.getElem_toArray, List.getElem_cons_zero, List.getElem_cons_succ, List.setIfInBounds_toArray, List.set_cons_zero, List.set_cons_succ])
      refine wTk (i := 3) (v := (.pointer (some ⟨Y, 0, none⟩))) rfl ?_ ?_
      · intro w' hSw
        (try dsimp only at hSw)
        go_simp
      (try simp only [Act.put, List.getElem_toArray, List.getElem_cons_zero, List.getElem_cons_succ, List.setIfInBounds_toArray, List.set_cons_zero, List.set_cons_succ])
      refine wTk (i := 4) (v := (.pointer (some ⟨Y, 13, none⟩))) rfl ?_ ?_
      · intro w' hSw
        (try dsimp only at hSw)
        go_simp
      (try simp only [Act.put, List.getElem_toArray, List.getElem_cons_zero, List.getElem_cons_succ, List.setIfInBounds_toArray, List.set_cons_zero, List.set_cons_succ])
      refine wTk (i := 5) (v := (.pointer (some ⟨Y, 15, none⟩))) rfl ?_ ?_
      · intro w' hSw
        (try dsimp only at hSw)
        go_simp
      (try simp only [Act.put, List.getElem_toArray, List.getElem_cons_zero, List.getElem_cons_succ, List.setIfInBounds_toArray, List.set_cons_zero, List.set_cons_succ])
      refine wTk (i := 6) (v := (.slice (some ⟨pg, 0, none⟩) n1 lpc)) rfl ?_ ?_
      · intro w' hSw
        (try dsimp only at hSw)
        (have z := (RGE.out _ hSw).2; go_simp)
      (try simp only [Act.put, List.getElem_toArray, List.getElem_cons_zero, List.getElem_cons_succ, List.setIfInBounds_toArray, List.set_cons_zero, List.set_cons_succ])
      refine wTk (i := 7) (v := (.int .i64 (i : Int))) rfl ?_ ?_
      · intro w' hSw
        (try dsimp only at hSw)
        go_simp
      (try simp only [Act.put, List.getElem_toArray, List.getElem_cons_zero, List.getElem_cons_succ, List.setIfInBounds_toArray, List.set_cons_zero, List.set_cons_succ])
      refine wTk (i := 8) (v := (.pointer (some ⟨pg, i * 2, none⟩))) rfl ?_ ?_
      · intro w' hSw
        (try dsimp only at hSw)
        go_simp
      (try simp only [Act.put, List.getElem_toArray, List.getElem_cons_zero, List.getElem_cons_succ, List.setIfInBounds_toArray, List.set_cons_zero, List.set_cons_succ])
      refine wTk (i := 9) (v := (.agg (prV pr))) rfl ?_ ?_
      · intro w' hSw
        (try dsimp only at hSw)
        (exact exec_pr (.tmp 45) rfl rfl (RGE.out _ hSw).1)
      (try simp only [Act.put, List.getElem_toArray, List.getElem_cons_zero, List.getElem_cons_succ, List.setIfInBounds_toArray, List.set_cons_zero, List.set_cons_succ])
      refine wpAnyH_ready (rs := [1, 10]) (by kernel_rfl) (by simp) ?_
      refine AllReadyH.cons rfl (fun K hK => ?_) (AllReadyH.cons rfl (fun K hK => ?_) AllReadyH.nil)
      · skip
        have cA : wr.drew.cell? ⟨C, 2, none⟩ = some (.slice ua UL.length uc) := by rw [cell_row (CBW.out _ (KD.out))]; rfl
        have cA2 : wr.cell? ⟨C, 2, none⟩ = some (.slice ua UL.length uc) := cA
        go_simp
        clear cA cA2
        refine hK.out _ _ ((KW.out.trans ((Kp.refl wr non).drew) (fun _ f => f.elim))) (fun hHeld => ?_)
        clear hK
        (try simp only [Act.put, List.setIfInBounds_toArray, List.set_cons_zero, List.set_cons_succ])
        refine wpAnyH_ready (rs := [10]) (by kernel_rfl) (by simp) ?_
        refine AllReadyH.cons rfl (fun K hK => ?_) AllReadyH.nil
        refine wp_bsP (.tmp 46) rfl pr rfl ?_
        rw [← HW4.out, ← HG4.out]
        clear HW4
        refine hK.out _ _ (KW4.out) (fun hHeld => ?_)
        clear hK
        (try simp only [Act.put, List.setIfInBounds_toArray, List.set_cons_zero, List.set_cons_succ])
        refine wpAnyH_ready (rs := [11]) (by kernel_rfl) (by simp) ?_
        refine AllReadyH.cons rfl (fun K hK => ?_) AllReadyH.nil
        refine wp_apRow (.tmp 38) (.tmp 47) 55 rfl B 89 Tryd.underlying55 pr_infos rfl (by decide) (.slice ua UL.length uc) UL.length (prs UL) rfl O4.out G4 (.slice (some ⟨G4, 0, none⟩) 1 1) 1 (prV pr).toList (by first | rfl | (rw [HG4.out]; rfl)) N4.out (by simp [prV, Value.oneCell']) (by unfold maxLen; have := ULB.out; omega) (by have := ULB.out; omega) BS.out ?_
        intro v' w5 o5 g5 n5
        obtain ⟨na, nc, rfl⟩ := own_sl o5
        obtain ⟨b5, b6, o6, k6⟩ := rep_fin (CBW.out _ K4.out) HBC.out o5 g5 (fun k e => own_ge O4.out e) 2
        have c5 : w5.cell? ⟨C, 2, none⟩ = some (.slice ua UL.length uc) := by rw [cell_row b5]; rfl
        have f5 := fz_row b5 2
        have S5 : Hid (Kp w w5 non) := (KW4.out).trans (Kp.of_grown g5) (fun k e => Or.inr (by have := own_ge O4.out e.symm; have := BW.out; omega))
        obtain ⟨W6, hW6⟩ : ∃ W6, W6 = w5.setCell ⟨C, 2, none⟩ (.slice na (UL.length + 1) nc) := ⟨_, rfl⟩
        rw [← hW6] at b6 o6 k6
        have H6 := hide (And.intro b6 (And.intro o6 k6))
        have HW6 := hide hW6
        clear o5 g5 n5 b5 b6 o6 k6 hW6
        refine hK.out _ _ (S5.out) (fun hHeld => ?_)
        clear hK
        (try simp only [Act.put, List.setIfInBounds_toArray, List.set_cons_zero, List.set_cons_succ])
        refine wTk (i := 12) (v := (.pointer (some ⟨C, 2, none⟩))) rfl ?_ ?_
        · intro w' hSw
          (try dsimp only at hSw)
          go_simp
        (try simp only [Act.put, List.getElem_toArray, List.getElem_cons_zero, List.getElem_cons_succ, List.setIfInBounds_toArray, List.set_cons_zero, List.set_cons_succ])
        refine wpAnyH_ready (rs := [13]) (by kernel_rfl) (by simp) ?_
        refine AllReadyH.cons rfl (fun K hK => ?_) AllReadyH.nil
        go_simp
        rw [← HW6.out]
        clear c5 f5 HW6
        have S6 : Hid (Kp w W6 non) := KW4.out.trans H6.out.2.2 (fun k e => Or.inr (Or.elim e (fun e => by have := HCW.out; omega) (fun e => by have := own_ge O4.out e; have := BW.out; omega)))
        refine hK.out _ _ (S6.out) (fun hHeld => ?_)
        clear hK
        (try simp only [Act.put, List.setIfInBounds_toArray, List.set_cons_zero, List.set_cons_succ])
        refine wpAnyH_done (by kernel_rfl) ?_ _
        clear hHeld
        go_wp2_with fail
        go_roundw
        case rel => exact ⟨i + 1, by omega, by go_num, na, nc, UL ++ [pr], HKK.out, by have z := H6.out.1; rw [List.length_append, List.length_singleton]; exact z, by have z := H6.out.2.1; rw [List.length_append, List.length_singleton, prs_append, prs_one]; exact z, S6.out, by rw [List.length_append, List.length_singleton]; exact Nat.le_trans (show (UL.length + 1) ≤ i + 1 by have := ULI.out; omega) (Nat.le_refl _), BAX.out _ K4.out H6.out.2.2⟩
        case measure => simp [intOf]; omega
      · skip
        refine wp_bsP (.tmp 46) rfl pr rfl ?_
        rw [← HW4.out, ← HG4.out]
        clear HW4
        refine hK.out _ _ (KW4.out) (fun hHeld => ?_)
        clear hK
        (try simp only [Act.put, List.setIfInBounds_toArray, List.set_cons_zero, List.set_cons_succ])
        refine wpAnyH_ready (rs := [1]) (by kernel_rfl) (by simp) ?_
        refine AllReadyH.cons rfl (fun K hK => ?_) AllReadyH.nil
        have cA : W4.cell? ⟨C, 2, none⟩ = some (.slice ua UL.length uc) := by rw [cell_row (CBW.out _ (K4.out))]; rfl
        go_simp
        clear cA
        refine hK.out _ _ (KW4.out) (fun hHeld => ?_)
        clear hK
        (try simp only [Act.put, List.setIfInBounds_toArray, List.set_cons_zero, List.set_cons_succ])
        refine wpAnyH_ready (rs := [11]) (by kernel_rfl) (by simp) ?_
        refine AllReadyH.cons rfl (fun K hK => ?_) AllReadyH.nil
        refine wp_apRow (.tmp 38) (.tmp 47) 55 rfl B 89 Tryd.underlying55 pr_infos rfl (by decide) (.slice ua UL.length uc) UL.length (prs UL) rfl O4.out G4 (.slice (some ⟨G4, 0, none⟩) 1 1) 1 (prV pr).toList (by first | rfl | (rw [HG4.out]; rfl)) N4.out (by simp [prV, Value.oneCell']) (by unfold maxLen; have := ULB.out; omega) (by have := ULB.out; omega) BS.out ?_
        intro v' w5 o5 g5 n5
        obtain ⟨na, nc, rfl⟩ := own_sl o5
        obtain ⟨b5, b6, o6, k6⟩ := rep_fin (CBW.out _ K4.out) HBC.out o5 g5 (fun k e => own_ge O4.out e) 2
        have c5 : w5.cell? ⟨C, 2, none⟩ = some (.slice ua UL.length uc) := by rw [cell_row b5]; rfl
        have f5 := fz_row b5 2
        have S5 : Hid (Kp w w5 non) := (KW4.out).trans (Kp.of_grown g5) (fun k e => Or.inr (by have := own_ge O4.out e.symm; have := BW.out; omega))
        obtain ⟨W6, hW6⟩ : ∃ W6, W6 = w5.setCell ⟨C, 2, none⟩ (.slice na (UL.length + 1) nc) := ⟨_, rfl⟩
        rw [← hW6] at b6 o6 k6
        have H6 := hide (And.intro b6 (And.intro o6 k6))
        have HW6 := hide hW6
        clear o5 g5 n5 b5 b6 o6 k6 hW6
        refine hK.out _ _ (S5.out) (fun hHeld => ?_)
        clear hK
        (try simp only [Act.put, List.setIfInBounds_toArray, List.set_cons_zero, List.set_cons_succ])
        refine wTk (i := 12) (v := (.pointer (some ⟨C, 2, none⟩))) rfl ?_ ?_
        · intro w' hSw
          (try dsimp only at hSw)
          go_simp
        (try simp only [Act.put, List.getElem_toArray, List.getElem_cons_zero, List.getElem_cons_succ, List.setIfInBounds_toArray, List.set_cons_zero, List.set_cons_succ])
        refine wpAnyH_ready (rs := [13]) (by kernel_rfl) (by simp) ?_
        refine AllReadyH.cons rfl (fun K hK => ?_) AllReadyH.nil
        go_simp
        rw [← HW6.out]
        clear c5 f5 HW6
        have S6 : Hid (Kp w W6 non) := KW4.out.trans H6.out.2.2 (fun k e => Or.inr (Or.elim e (fun e => by have := HCW.out; omega) (fun e => by have := own_ge O4.out e; have := BW.out; omega)))
        refine hK.out _ _ (S6.out) (fun hHeld => ?_)
        clear hK
        (try simp only [Act.put, List.setIfInBounds_toArray, List.set_cons_zero, List.set_cons_succ])
        refine wpAnyH_done (by kernel_rfl) ?_ _
        clear hHeld
        go_wp2_with fail
        go_roundw
        case rel => exact ⟨i + 1, by omega, by go_num, na, nc, UL ++ [pr], HKK.out, by have z := H6.out.1; rw [List.length_append, List.length_singleton]; exact z, by have z := H6.out.2.1; rw [List.length_append, List.length_singleton, prs_append, prs_one]; exact z, S6.out, by rw [List.length_append, List.length_singleton]; exact Nat.le_trans (show (UL.length + 1) ≤ i + 1 by have := ULI.out; omega) (Nat.le_refl _), BAX.out _ K4.out H6.out.2.2⟩
        case measure => simp [intOf]; omega
    case neg =>
      obtain rfl : i = n1 := by omega
      obtain ⟨WA, rfl⟩ : ∃ WA, WA = wr := ⟨_, rfl⟩
      have eU : UL = PS := by rw [← KK, HN.out.1, List.take_length]
      subst eU
      have O1 := hide OU.out
      have CB1 := hide CB.out
      have AX : Hid (WA.heap[A]? = some (.cells (toA rp0 nilV nilV) 57)) := (KB.block _ (blk_lt A1.out) (fun q => by have := HAC.out; have := HBC.out; rcases q with q | q <;> omega)).trans A1.out
      have B2A : Hid (B ≤ WA.heap.size) := Nat.le_trans HBW.out KB.size
      obtain ⟨B2, hB2⟩ : ∃ B2, B2 = WA.heap.size := ⟨_, rfl⟩
      have HBW2 := hide (Nat.le_of_eq hB2)
      have HBC2 : Hid (C < B2) := by rw [hB2]; exact Nat.lt_of_lt_of_le HBC.out B2A.out
      have BW2 : Hid (w.heap.size ≤ B2) := by rw [hB2]; exact KW.out.size
      have KWN := hide KW.out
      have LT1 : Hid (∀ k, (Value.slice ua UL.length uc).ownBlock = some k → k < B2 ∧ k ≠ C) := fun k e => by
        obtain ⟨cu, hcu⟩ := own_typ O1.out e
        refine ⟨by rw [hB2]; exact blk_lt hcu, fun q => ?_⟩
        have z := CB1.out
        rw [← q, hcu] at z
        simp at z
      obtain ⟨e15, -⟩ := (HC0.out WA KWN.out).1
      clear KK CB OU hul KB KW hin hi hB2 HBW HBC BW B2A A1 C1
      go_wp2_with fail
      clear e15
      go_loopw [6] (fun vi wy => ∃ (i : Nat), i ≤ n2 ∧ vi = .int .i64 (i : Int) ∧ ∃ (va : Option Addr) (vc : Nat) (VL : List Int), MS.take i = VL ∧ wy.heap[C]? = some (.cells (toA la (.slice ua UL.length uc) (.slice va VL.length vc)) 57) ∧ wy.ownsRow B2 3 1 (.slice va VL.length vc) VL.length (ints VL) ∧ Hid (Kp w wy non) ∧ VL.length ≤ i ∧ (Kp WA wy (fun k => k = C ∨ B2 ≤ k))) (fun vi _ => n2 - (intOf vi).toNat)
      case atStart => exact ⟨0, Nat.zero_le _, rfl, none, 0, [], rfl, CB1.out, World.ownsRow_nil _ _ _ _, KWN.out, Nat.le_refl _, Kp.refl _ _⟩
      case round =>
        obtain ⟨i, hi, rfl, va, vc, VL, KK, cb, ou, KW, hul, KB⟩ := hrel
        have CB := hide cb
        have OU := hide ou
        clear cb ou
        by_cases hin : i < n2
        case pos =>
          have HC : Hid (∀ X : World, Kp w X non → X.cell? ⟨Y, 16, none⟩ = some (.slice lma n2 lmc) ∧ X.ownsRow 0 3 1 (.slice lma n2 lmc) n2 (ints MS)) := fun X hk => (HC0.out X hk).2
          have HNN := hide HN.out.2
          have HNB := hide NB.out.2
          have BAX : Hid (∀ X, Kp wr X non → ∀ {V : World}, Kp X V (fun k => k = C ∨ (Value.slice va VL.length vc).ownBlock = some k) → Kp WA V (fun k => k = C ∨ B2 ≤ k)) := fun X hx V hv => (KB.trans hx (fun _ f => f.elim)).trans hv (fun k e => Or.inl (by rcases e with e | e; exact Or.inl e; exact Or.inr (own_ge OU.out e)))
          clear HC0
          obtain ⟨e15, ro⟩ := HC.out wr KW.out
          obtain ⟨pg, pc', hpg⟩ := own_g ro (by omega)
          injection hpg with hpg _ hpcc
          subst hpg
          subst hpcc
          have hiL : i < MS.length := by rw [← HNN.out]; exact hin
          have hii : (i : Int) < (n2 : Int) := by omega
          obtain ⟨pr, hpr⟩ : ∃ pr, pr = MS[i] := ⟨_, rfl⟩
          have RGE : Hid (∀ X : World, Kp w X non → X.cell? ⟨pg, i, none⟩ = some (.int .i64 pr) ∧ X.cell? ⟨Y, 16, none⟩ = some (.slice (some ⟨pg, 0, none⟩) n2 lmc)) := fun X hk => by
            obtain ⟨e15, ro2⟩ := HC.out X hk
            have z := ro2.cellAt i (by omega)
            rw [ints_at2 MS i hiL, ← hpr] at z
            exact ⟨z, e15⟩
          have HKK : Hid (MS.take (i + 1) = VL ++ [pr]) := by rw [List.take_succ_eq_append_getElem hiL, ← hpr, ← KK]; rfl
          have ULB : Hid (VL.length ≤ 100000) := by show _ ≤ _; have := HNB.out; omega
          have ULI := hide hul
          have hnb : n2 ≤ 99999 := HNB.out
          obtain ⟨W4, hW4⟩ : ∃ W4, W4 = (wr.alloc (.cells #[.int .i64 pr] 3)).drew := ⟨_, rfl⟩
          obtain ⟨G4, hG4⟩ : ∃ G4, G4 = wr.heap.size := ⟨_, rfl⟩
          have KD : Hid (Kp wr wr.drew non) := (Kp.refl wr non).drew
          have K4 : Hid (Kp wr W4 non) := by rw [hW4]; first | exact ((Kp.refl wr non).drew).alloc _ | exact ((Kp.refl wr non).alloc _).drew
          have KW4 : Hid (Kp w W4 non) := KW.out.trans K4.out (fun _ f => f.elim)
          have O4 : Hid (W4.ownsRow B2 3 1 (.slice va VL.length vc) VL.length (ints VL)) := own_kp OU.out K4.out (fun _ _ f => f)
          have N4 : Hid (W4.ownsRow G4 3 1 (.slice (some ⟨G4, 0, none⟩) 1 1) 1 [.int .i64 pr]) := by rw [hW4, hG4]; exact ⟨rfl, Or.inr ⟨_, 1, _, rfl, Nat.le_refl _, (heap_last wr _ : (wr.alloc _).heap[wr.heap.size]? = _), Nat.le_refl _, by unfold maxLen; omega, rfl, rfl⟩⟩
          have BS : Hid (B2 ≤ W4.heap.size) := by have := K4.out.size; have := HBW2.out; have := KB.size; show _ ≤ _; omega
          have CBW : Hid (∀ X, Kp wr X non → X.heap[C]? = some (.cells (toA la (.slice ua UL.length uc) (.slice va VL.length vc)) 57)) := fun X hk => hk.blk0 CB.out
          have HW4 := hide hW4
          have HG4 := hide hG4
          have HI := hide (And.intro hi hin)
          clear ro hpr hiL KK hW4 hG4 hul OU hin
          go_wp2_with fail
          clear e15
          refine wp_region_held_drew (S := fun X => Kp w X non) (by kernel_rfl) (KW.out.trans ((Kp.refl wr non).drew) (fun _ f => f.elim)) (fun hHeld => ?_)
          refine wTk (i := 0) (v := (.pointer (some ⟨C, 3, none⟩))) rfl ?_ ?_
          · intro w' hSw
            (try dsimp only at hSw)
            go_simp
          (try simp only [Act.put, List.getElem_toArray, List.getElem_cons_zero, List.getElem_cons_succ, List.setIfInBounds_toArray, List.set_cons_zero, List.set_cons_succ])
          refine wTk (i := 2) (v := (.pointer (some ⟨Y, 0, none⟩))) rfl ?_ ?_
          · intro w' hSw
            (try dsimp only at hSw)
            go_simp
          (try simp only [Act.put, List.getElem_toArray, List.getElem_cons_zero, List.getElem_cons_succ, List.setIfInBounds_toArray, List.set_cons_zero, List.set_cons_succ])
          refine wTk (i := 3) (v := (.pointer (some ⟨Y, 0, none⟩))) rfl ?_ ?_
          · intro w' hSw
            (try dsimp only at hSw)
            go_simp
          (try simp only [Act.put, List.getElem_toArray, List.getElem_cons_zero, List.getElem_cons_succ, List.setIfInBounds_toArray, List.set_cons_zero, List.set_cons_succ])
          refine wTk (i := 4) (v := (.pointer (some ⟨Y, 13, none⟩))) rfl ?_ ?_
          · intro w' hSw
            (try dsimp only at hSw)
            go_simp
          (try simp only [Act.put, List.getElem_toArray, List.getElem_cons_zero, List.getElem_cons_succ, List.setIfInBounds_toArray, List.set_cons_zero, List.set_cons_succ])
          refine wTk (i := 5) (v := (.pointer (some ⟨Y, 16, none⟩))) rfl ?_ ?_
          · intro w' hSw
            (try dsimp only at hSw)
            go_simp
          (try simp only [Act.put, List.getElem_toArray, List.getElem_cons_zero, List.getElem_cons_succ, List.setIfInBounds_toArray, List.set_cons_zero, List.set_cons_succ])
          refine wTk (i := 6) (v := (.slice (some ⟨pg, 0, none⟩) n2 lmc)) rfl ?_ ?_
          · intro w' hSw
            (try dsimp only at hSw)
            (have z := (RGE.out _ hSw).2; go_simp)
          (try simp only [Act.put, List.getElem_toArray, List.getElem_cons_zero, List.getElem_cons_succ, List.setIfInBounds_toArray, List.set_cons_zero, List.set_cons_succ])
          refine wTk (i := 7) (v := (.int .i64 (i : Int))) rfl ?_ ?_
          · intro w' hSw
            (try dsimp only at hSw)
            go_simp
          (try simp only [Act.put, List.getElem_toArray, List.getElem_cons_zero, List.getElem_cons_succ, List.setIfInBounds_toArray, List.set_cons_zero, List.set_cons_succ])
          refine wTk (i := 8) (v := (.pointer (some ⟨pg, i, none⟩))) rfl ?_ ?_
          · intro w' hSw
            (try dsimp only at hSw)
            go_simp
          (try simp only [Act.put, List.getElem_toArray, List.getElem_cons_zero, List.getElem_cons_succ, List.setIfInBounds_toArray, List.set_cons_zero, List.set_cons_succ])
          refine wTk (i := 9) (v := (.int .i64 pr)) rfl ?_ ?_
          · intro w' hSw
            (try dsimp only at hSw)
            (have z := (RGE.out _ hSw).1; go_simp)
          (try simp only [Act.put, List.getElem_toArray, List.getElem_cons_zero, List.getElem_cons_succ, List.setIfInBounds_toArray, List.set_cons_zero, List.set_cons_succ])
          refine wpAnyH_ready (rs := [1, 10]) (by kernel_rfl) (by simp) ?_
          refine AllReadyH.cons rfl (fun K hK => ?_) (AllReadyH.cons rfl (fun K hK => ?_) AllReadyH.nil)
          · skip
            have cA : wr.drew.cell? ⟨C, 3, none⟩ = some (.slice va VL.length vc) := by rw [cell_row (CBW.out _ (KD.out))]; rfl
            have cA2 : wr.cell? ⟨C, 3, none⟩ = some (.slice va VL.length vc) := cA
            go_simp
            clear cA cA2
            refine hK.out _ _ ((KW.out.trans ((Kp.refl wr non).drew) (fun _ f => f.elim))) (fun hHeld => ?_)
            clear hK
            (try simp only [Act.put, List.setIfInBounds_toArray, List.set_cons_zero, List.set_cons_succ])
            refine wpAnyH_ready (rs := [10]) (by kernel_rfl) (by simp) ?_
            refine AllReadyH.cons rfl (fun K hK => ?_) AllReadyH.nil
            go_simp
            rw [← HW4.out, ← HG4.out]
            clear HW4
            refine hK.out _ _ (KW4.out) (fun hHeld => ?_)
            clear hK
            (try simp only [Act.put, List.setIfInBounds_toArray, List.set_cons_zero, List.set_cons_succ])
            refine wpAnyH_ready (rs := [11]) (by kernel_rfl) (by simp) ?_
            refine AllReadyH.cons rfl (fun K hK => ?_) AllReadyH.nil
            refine wp_apRow (.tmp 61) (.tmp 70) 48 rfl B2 3 Tryd.underlying48 int_infos rfl (by decide) (.slice va VL.length vc) VL.length (ints VL) rfl O4.out G4 (.slice (some ⟨G4, 0, none⟩) 1 1) 1 [.int .i64 pr] (by first | rfl | (rw [HG4.out]; rfl)) N4.out (by simp [Value.oneCell']) (by unfold maxLen; have := ULB.out; omega) (by have := ULB.out; omega) BS.out ?_
            intro v' w5 o5 g5 n5
            obtain ⟨na, nc, rfl⟩ := own_sl o5
            obtain ⟨b5, b6, o6, k6⟩ := rep_fin (CBW.out _ K4.out) HBC2.out o5 g5 (fun k e => own_ge O4.out e) 3
            have c5 : w5.cell? ⟨C, 3, none⟩ = some (.slice va VL.length vc) := by rw [cell_row b5]; rfl
            have f5 := fz_row b5 3
            have S5 : Hid (Kp w w5 non) := (KW4.out).trans (Kp.of_grown g5) (fun k e => Or.inr (by have := own_ge O4.out e.symm; have := BW2.out; omega))
            obtain ⟨W6, hW6⟩ : ∃ W6, W6 = w5.setCell ⟨C, 3, none⟩ (.slice na (VL.length + 1) nc) := ⟨_, rfl⟩
            rw [← hW6] at b6 o6 k6
            have H6 := hide (And.intro b6 (And.intro o6 k6))
            have HW6 := hide hW6
            clear o5 g5 n5 b5 b6 o6 k6 hW6
            refine hK.out _ _ (S5.out) (fun hHeld => ?_)
            clear hK
            (try simp only [Act.put, List.setIfInBounds_toArray, List.set_cons_zero, List.set_cons_succ])
            refine wTk (i := 12) (v := (.pointer (some ⟨C, 3, none⟩))) rfl ?_ ?_
            · intro w' hSw
              (try dsimp only at hSw)
              go_simp
            (try simp only [Act.put, List.getElem_toArray, List.getElem_cons_zero, List.getElem_cons_succ, List.setIfInBounds_toArray, List.set_cons_zero, List.set_cons_succ])
            refine wpAnyH_ready (rs := [13]) (by kernel_rfl) (by simp) ?_
            refine AllReadyH.cons rfl (fun K hK => ?_) AllReadyH.nil
            go_simp
            rw [← HW6.out]
            clear c5 f5 HW6
            have S6 : Hid (Kp w W6 non) := KW4.out.trans H6.out.2.2 (fun k e => Or.inr (Or.elim e (fun e => by have := HCW.out; omega) (fun e => by have := own_ge O4.out e; have := BW2.out; omega)))
            refine hK.out _ _ (S6.out) (fun hHeld => ?_)
            clear hK
            (try simp only [Act.put, List.setIfInBounds_toArray, List.set_cons_zero, List.set_cons_succ])
            refine wpAnyH_done (by kernel_rfl) ?_ _
            clear hHeld
            go_wp2_with fail
            go_roundw
            case rel => exact ⟨i + 1, by omega, by go_num, na, nc, VL ++ [pr], HKK.out, by have z := H6.out.1; rw [List.length_append, List.length_singleton]; exact z, by have z := H6.out.2.1; rw [List.length_append, List.length_singleton, ints_append]; exact z, S6.out, by rw [List.length_append, List.length_singleton]; exact Nat.le_trans (show (VL.length + 1) ≤ i + 1 by have := ULI.out; omega) (Nat.le_refl _), BAX.out _ K4.out H6.out.2.2⟩
            case measure => simp [intOf]; omega
          · skip
            go_simp
            rw [← HW4.out, ← HG4.out]
            clear HW4
            refine hK.out _ _ (KW4.out) (fun hHeld => ?_)
            clear hK
            (try simp only [Act.put, List.setIfInBounds_toArray, List.set_cons_zero, List.set_cons_succ])
            refine wpAnyH_ready (rs := [1]) (by kernel_rfl) (by simp) ?_
            refine AllReadyH.cons rfl (fun K hK => ?_) AllReadyH.nil
            have cA : W4.cell? ⟨C, 3, none⟩ = some (.slice va VL.length vc) := by rw [cell_row (CBW.out _ (K4.out))]; rfl
            go_simp
            clear cA
            refine hK.out _ _ (KW4.out) (fun hHeld => ?_)
            clear hK
            (try simp only [Act.put, List.setIfInBounds_toArray, List.set_cons_zero, List.set_cons_succ])
            refine wpAnyH_ready (rs := [11]) (by kernel_rfl) (by simp) ?_
            refine AllReadyH.cons rfl (fun K hK => ?_) AllReadyH.nil
            refine wp_apRow (.tmp 61) (.tmp 70) 48 rfl B2 3 Tryd.underlying48 int_infos rfl (by decide) (.slice va VL.length vc) VL.length (ints VL) rfl O4.out G4 (.slice (some ⟨G4, 0, none⟩) 1 1) 1 [.int .i64 pr] (by first | rfl | (rw [HG4.out]; rfl)) N4.out (by simp [Value.oneCell']) (by unfold maxLen; have := ULB.out; omega) (by have := ULB.out; omega) BS.out ?_
            intro v' w5 o5 g5 n5
            obtain ⟨na, nc, rfl⟩ := own_sl o5
            obtain ⟨b5, b6, o6, k6⟩ := rep_fin (CBW.out _ K4.out) HBC2.out o5 g5 (fun k e => own_ge O4.out e) 3
            have c5 : w5.cell? ⟨C, 3, none⟩ = some (.slice va VL.length vc) := by rw [cell_row b5]; rfl
            have f5 := fz_row b5 3
            have S5 : Hid (Kp w w5 non) := (KW4.out).trans (Kp.of_grown g5) (fun k e => Or.inr (by have := own_ge O4.out e.symm; have := BW2.out; omega))
            obtain ⟨W6, hW6⟩ : ∃ W6, W6 = w5.setCell ⟨C, 3, none⟩ (.slice na (VL.length + 1) nc) := ⟨_, rfl⟩
            rw [← hW6] at b6 o6 k6
            have H6 := hide (And.intro b6 (And.intro o6 k6))
            have HW6 := hide hW6
            clear o5 g5 n5 b5 b6 o6 k6 hW6
            refine hK.out _ _ (S5.out) (fun hHeld => ?_)
            clear hK
            (try simp only [Act.put, List.setIfInBounds_toArray, List.set_cons_zero, List.set_cons_succ])
            refine wTk (i := 12) (v := (.pointer (some ⟨C, 3, none⟩))) rfl ?_ ?_
            · intro w' hSw
              (try dsimp only at hSw)
              go_simp
            (try simp only [Act.put, List.getElem_toArray, List.getElem_cons_zero, List.getElem_cons_succ, List.setIfInBounds_toArray, List.set_cons_zero, List.set_cons_succ])
            refine wpAnyH_ready (rs := [13]) (by kernel_rfl) (by simp) ?_
            refine AllReadyH.cons rfl (fun K hK => ?_) AllReadyH.nil
            go_simp
            rw [← HW6.out]
            clear c5 f5 HW6
            have S6 : Hid (Kp w W6 non) := KW4.out.trans H6.out.2.2 (fun k e => Or.inr (Or.elim e (fun e => by have := HCW.out; omega) (fun e => by have := own_ge O4.out e; have := BW2.out; omega)))
            refine hK.out _ _ (S6.out) (fun hHeld => ?_)
            clear hK
            (try simp only [Act.put, List.setIfInBounds_toArray, List.set_cons_zero, List.set_cons_succ])
            refine wpAnyH_done (by kernel_rfl) ?_ _
            clear hHeld
            go_wp2_with fail
            go_roundw
            case rel => exact ⟨i + 1, by omega, by go_num, na, nc, VL ++ [pr], HKK.out, by have z := H6.out.1; rw [List.length_append, List.length_singleton]; exact z, by have z := H6.out.2.1; rw [List.length_append, List.length_singleton, ints_append]; exact z, S6.out, by rw [List.length_append, List.length_singleton]; exact Nat.le_trans (show (VL.length + 1) ≤ i + 1 by have := ULI.out; omega) (Nat.le_refl _), BAX.out _ K4.out H6.out.2.2⟩
            case measure => simp [intOf]; omega
        case neg =>
          obtain rfl : i = n2 := by omega
          have eV : VL = MS := by rw [← KK, HN.out.2, List.take_length]
          subst eV
          have O2 := hide OU.out
          have CB2 := hide CB.out
          have O1' : Hid (wr.ownsRow B 89 2 (.slice ua UL.length uc) UL.length (prs UL)) := own_kp O1.out KB (fun k e q => by have := LT1.out k e; rcases q with q | q; exact this.2 q; omega)
          have AY : Hid (wr.heap[A]? = some (.cells (toA rp0 nilV nilV) 57)) := (KB.block _ (blk_lt AX.out) (fun q => by have := HAC.out; have := HBC2.out; rcases q with q | q <;> omega)).trans AX.out
          have ON2 : Hid ((toA la (.slice ua UL.length uc) (.slice va VL.length vc)).all (·.oneCell') = true) := to_one la ⟨_, _, _, rfl⟩ ⟨_, _, _, rfl⟩
          obtain ⟨V3, hV3⟩ : ∃ V, V = wr.setRow A (toA la (.slice ua UL.length uc) (.slice va VL.length vc)) := ⟨_, rfl⟩
          have kr : Kp wr V3 (fun k => k = A) := by rw [hV3]; exact (Kp.refl wr (fun k => k = A)).row (Or.inl rfl) _
          have B3 : Hid (V3.heap[A]? = some (.cells (toA la (.slice ua UL.length uc) (.slice va VL.length vc)) 57)) := by rw [hV3]; exact setRow_heap _ _ _ _ _ _ AY.out
          have K3 : Hid (Kp w V3 non) := KW.out.trans kr (fun k e => Or.inr (by rw [e, HAC.out.1]; exact Nat.le_refl _))
          have Q1 : Hid (V3.ownsRow w.heap.size 89 2 (.slice ua UL.length uc) UL.length (prs UL)) := own_base (own_kp O1'.out kr (fun k e q => by obtain ⟨c, hc⟩ := own_typ O1'.out e; have e2 := AY.out; rw [← q, hc] at e2; simp at e2)) BW1.out
          have Q2 : Hid (V3.ownsRow w.heap.size 3 1 (.slice va VL.length vc) VL.length (ints VL)) := own_base (own_kp O2.out kr (fun k e q => by obtain ⟨c, hc⟩ := own_typ O2.out e; have e2 := AY.out; rw [← q, hc] at e2; simp at e2)) BW2.out
          obtain ⟨e16, -⟩ := (HC0.out wr KW.out).2
          have HV3 := hide hV3
          clear kr hV3 KB KK CB OU hul hin hi O1' O1
          go_wp2_with (first | refine wpList_ldR rfl 57 (.tmp 4) rfl C rfl _ (toA la (.slice ua UL.length uc) (.slice va VL.length vc)) CB2.out Tryd.underlying57 TI.out ?_ | (refine wpList_stR rfl 57 (.tmp 2) (.tmp 73) rfl A rfl (toA la (.slice ua UL.length uc) (.slice va VL.length vc)) (toA rp0 nilV nilV) rfl _ AY.out TI.out rfl ON2.out ?_; rw [← HV3.out]))
          refine bodyPost_ret (v := .tuple #[.agg (toA la (.slice ua UL.length uc) (.slice va VL.length vc)), .int .i64 0]) (res_row2 Tryd.results19 _ _ V3 A rfl _ rfl _ B3.out Tryd.underlying57 TI.out) rfl ?_
          obtain ⟨f1, f2, f3⟩ := HEQ.out
          rw [← f2, ← f3, ← f1]
          exact ⟨_, _, rfl, Q1.out, Q2.out, K3.out⟩
end Go.Proofs.YtpoegknmkbnjlaaDoor.Cn
