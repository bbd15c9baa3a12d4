import Derived.Test.YthihmgdefbahpaaPart11
import Derived.Test.YthihmgdefbahpaaRkEdit
import Derived.Test.YthihmgdefbahpaaPart14
namespace Go.Proofs.Ythihmgdefbahpaa
open Go.RowKit
theorem shB_false {a b : ByteArray} (h : b.extract 0 a.size = a → a.size = b.size) : shB a b = false := by
  unfold shB
  by_cases e : b.extract 0 a.size = a
  · have := h e
    simp [this]
  · simp [e]
theorem via {R G : Prop} (h : R → G) (r : R) : G := h r
theorem shB_self (a : ByteArray) : shB a a = false := by unfold shB; simp
theorem eg_len {k : Int} {gs : List GR} (h : egE k gs = 0) : gs.length ≤ 32768 ∧ ∀ g ∈ gs, 0 < g.2.length ∧ g.2.length ≤ 512 := by
  obtain ⟨_, hin, hD⟩ := eg_inv h
  have := encD_two gs
  refine ⟨by omega, fun g hg => ?_⟩
  obtain ⟨i, hi, rfl⟩ := List.getElem_of_mem hg
  obtain ⟨a, b, _⟩ := fine (hin i hi).2.1
  exact ⟨b, a⟩
theorem set_two {w : World} {b : Nat} {u v X Y : Value} (hb : b < w.heap.size) (h0 : w.cell? ⟨b, 0, none⟩ = some u) (h1 : w.cell? ⟨b, 1, none⟩ = some v) : b < ((w.setCell ⟨b, 0, none⟩ X).setCell ⟨b, 1, none⟩ Y).heap.size ∧ ((w.setCell ⟨b, 0, none⟩ X).setCell ⟨b, 1, none⟩ Y).cell? ⟨b, 0, none⟩ = some X ∧ ((w.setCell ⟨b, 0, none⟩ X).setCell ⟨b, 1, none⟩ Y).cell? ⟨b, 1, none⟩ = some Y := by
  have k1 : (w.setCell ⟨b, 0, none⟩ X).cell? ⟨b, 1, none⟩ = some v := by rw [World.cell?_setCell_other _ _ _ _ (by simp)]; exact h1
  have k0 : (w.setCell ⟨b, 0, none⟩ X).cell? ⟨b, 0, none⟩ = some X := World.cell?_setCell_same _ _ _ h0
  refine ⟨by simpa [World.setCell] using hb, ?_, ?_⟩
  · rw [World.cell?_setCell_other _ _ _ _ (by simp)]; exact k0
  · exact World.cell?_setCell_same _ _ _ k1
theorem chunk_there {w w' : World} (h : Below (w.alloc (.cells #[.string ⟨#[]⟩, .string ⟨#[]⟩] 23)).heap.size (w.alloc (.cells #[.string ⟨#[]⟩, .string ⟨#[]⟩] 23)) w') : w'.cell? ⟨w.heap.size, 0, none⟩ = some (.string ⟨#[]⟩) ∧ w'.cell? ⟨w.heap.size, 1, none⟩ = some (.string ⟨#[]⟩) ∧ w'.frozen? ⟨w.heap.size, 0, none⟩ = false ∧ w'.frozen? ⟨w.heap.size, 1, none⟩ = false := by
  have i : w.heap.size < (w.alloc (.cells #[.string ⟨#[]⟩, .string ⟨#[]⟩] 23)).heap.size := by simp
  rw [h.cell (by exact i), h.cell (by exact i), h.frozen (by exact i), h.frozen (by exact i)]
  exact ⟨by simp, by simp, by simp, by simp⟩
set_option maxHeartbeats 8000000 in
set_option maxRecDepth 100000 in
set_option linter.unusedSimpArgs false in
/-- the law RecordOnly -/
theorem only_any (m : Int) (v : Value) (A1 C1 A2 C2 : Int) (P1 P2 : ByteArray) (ps : List PU) (w : World) (hp : PutsAt w v ps) (hlen : ps.length ≤ 9223372036854775807) (hp1 : P1.size ≤ 1048576) (hp2 : P2.size ≤ 1048576) :
    Calls Try.prog 6 #[.int .i64 m, v, .agg #[.int .i64 A1, .int .i64 C1, .string P1], .agg #[.int .i64 A2, .int .i64 C2, .string P2]] w fun e w' => e = .returned (.bool true) ∧ Below w.heap.size w w' := by
  obtain ⟨k, hk, hk1, hk2⟩ := btw_nat m
  have MK := hide (mkG_ok k ps)
  have hml := MK.out.len
  have EG := hide (MK.out.enc ⟨hk1, hk2⟩)
  obtain ⟨WA, hWA⟩ : ∃ WA, WA = (w.alloc (.cells #[.int .i64 A1, .int .i64 C1, .string P1] 57)).alloc (.cells #[.int .i64 A2, .int .i64 C2, .string P2] 57) := ⟨_, rfl⟩
  have bA : Below w.heap.size w WA := by
    rw [hWA]
    have b1 := (Below.refl _ w).alloc (Nat.le_refl _) (.cells #[.int .i64 A1, .int .i64 C1, .string P1] 57)
    exact b1.alloc b1.size _
  have sA : WA.heap.size = w.heap.size + 2 := by rw [hWA]; simp
  have HBA := hide bA
  have KA : Hid (∀ w', Below WA.heap.size WA w' → (w'.cell? ⟨w.heap.size, 0, none⟩ = some (.int .i64 A1) ∧ w'.cell? ⟨w.heap.size, 1, none⟩ = some (.int .i64 C1) ∧ w'.cell? ⟨w.heap.size, 2, none⟩ = some (.string P1)) ∧ (w'.cell? ⟨w.heap.size + 1, 0, none⟩ = some (.int .i64 A2) ∧ w'.cell? ⟨w.heap.size + 1, 1, none⟩ = some (.int .i64 C2) ∧ w'.cell? ⟨w.heap.size + 1, 2, none⟩ = some (.string P2))) := fun w' hw => by
    have i1 : w.heap.size < WA.heap.size := by rw [sA]; omega
    have i2 : w.heap.size + 1 < WA.heap.size := by rw [sA]; omega
    rw [hw.cell (by exact i1), hw.cell (by exact i1), hw.cell (by exact i1), hw.cell (by exact i2), hw.cell (by exact i2), hw.cell (by exact i2), hWA]
    exact ⟨⟨by simp, by simp, by simp⟩, ⟨by simp, by simp, by simp⟩⟩
  have C1m := hide (made_any k v ps WA hk2 (hp.below bA) hlen)
  have BT := hide (between_any m WA)
  rw [hk] at BT
  clear bA
  obtain ⟨eI, eD, sI, sD⟩ := eg_shape EG.out
  obtain ⟨bk1, bk2⟩ := back EG.out
  have hdl := MK.out.2.1
  have eC : egC (k : Int) (mkG k ps) = .agg #[.string (egI (k : Int) (mkG k ps)), .string (egD (k : Int) (mkG k ps))] := rfl
  have CP := hide (fun lv w' (hg : GLies w' lv (mkG k ps)) => copied_any lv (mkG k ps) w' hg (fun g hg => List.length_pos_iff.2 (MK.out.1.2 g hg).2.1) (by omega) (fun g hg => Nat.le_trans (MK.out.pairs g hg) (by omega)))
  have CE := hide (fun cv w' (hg : GLies w' cv (mkG k ps)) => encode_any (k : Int) cv (mkG k ps) w' hg (by omega) (fun g hg => Nat.le_trans (MK.out.pairs g hg) (by omega)))
  rw [EG.out, eC] at CE
  have hdz : (egD (k : Int) (mkG k ps)).size ≤ 65536 := by rw [sD]; exact hdl
  have hiz : (egI (k : Int) (mkG k ps)).size ≤ 655360 := by
    rw [sI]
    have : (mkG k ps).length * (k + 4) ≤ 32768 * 20 := Nat.mul_le_mul hml (by omega)
    omega
  have MP := hide (fun g (hg : g ∈ mkG k ps) => MK.out.pairs g hg)
  obtain ⟨I, hI⟩ : ∃ I, I = egI (k : Int) (mkG k ps) := ⟨_, rfl⟩
  obtain ⟨D, hD⟩ : ∃ D, D = egD (k : Int) (mkG k ps) := ⟨_, rfl⟩
  rw [← hI, ← hD] at CE
  rw [← hD] at hdz
  rw [← hI] at hiz
  rw [← hI, ← hD] at bk1 bk2
  -- an edited chunk that is taken
  have OK2 : Hid (∀ X Y, dcE (k : Int) X Y = 0 → (egE (k : Int) (dcG (k : Int) X Y) = 0 ∧ egI (k : Int) (dcG (k : Int) X Y) = X ∧ egD (k : Int) (dcG (k : Int) X Y) = Y) ∧ (X = I → shB Y D = false ∧ shB D Y = false) ∧ (Y = D → shB X I = false ∧ shB I X = false) ∧ (dcG (k : Int) X Y = mkG k ps → X = I ∧ Y = D)) := by
    intro X Y h0
    obtain ⟨q1, q2, q3⟩ := dec_enc h0
    refine ⟨⟨q1, q2, q3⟩, fun e => ⟨?_, ?_⟩, fun e => ⟨?_, ?_⟩, fun e => ?_⟩
    · refine shB_false (fun z => ?_)
      rw [hD, ← q3] at z ⊢
      exact index_data EG.out q1 (by rw [q2, e, hI]) z
    · refine shB_false (fun z => ?_)
      rw [hD, ← q3] at z ⊢
      exact index_data q1 EG.out (by rw [q2, e, hI]) z
    · refine shB_false (fun _ => ?_)
      rw [hI, ← q2]
      exact data_index q1 EG.out (by rw [q3, e, hD])
    · refine shB_false (fun _ => ?_)
      rw [hI, ← q2]
      exact data_index EG.out q1 (by rw [q3, e, hD])
    · rw [e] at q2 q3
      exact ⟨by rw [hI, q2], by rw [hD, q3]⟩
  clear eI eD eC sI sD hdl hI hD
  generalize mkG k ps = gs at *
  go_enter Try.func6, Try.ntmps6
  go_wp2_with fail
  rw [← hWA]
  clear hWA
  refine Calls.mono BT.out ?_
  rintro e wx ⟨rfl, rfl⟩
  go_wp2_with fail
  refine Calls.mono C1m.out ?_
  rintro e w1 ⟨lv, rfl, g1, b1⟩
  have B1 := hide b1
  have G1 := hide (g1.groups (Nat.le_refl _) (Nat.le_refl _))
  clear b1 g1 C1m hp sA
  go_wp2_with fail
  refine Calls.mono (CP.out _ _ G1.out.lies) ?_
  rintro e w2 ⟨cv, rfl, g2, b2⟩
  have B2 := hide b2
  have G2 := hide (g2.groups (Nat.le_refl _) (Nat.le_refl _)).lies
  clear b2 g2
  go_wp2_with fail
  refine Calls.mono (CE.out _ _ G2.out) ?_
  rintro e w3 ⟨rfl, b3⟩
  have B3 := hide (B2.out.trans (b3.mono B2.out.size))
  have hs3 := B3.out.size
  clear b3
  go_wp2_with fail
  obtain ⟨W0, hW0⟩ : ∃ W0, W0 = w3.alloc (.cells #[.string I, .string D] 23) := ⟨_, rfl⟩
  have s0 : W0.heap.size = w3.heap.size + 1 := by rw [hW0]; simp
  have KC : Hid (∀ w', Below W0.heap.size W0 w' → w'.cell? ⟨w3.heap.size, 0, none⟩ = some (.string I) ∧ w'.cell? ⟨w3.heap.size, 1, none⟩ = some (.string D)) := fun w' hw => by
    rw [hw.cell (by rw [s0]; exact Nat.lt_succ_self _), hw.cell (by rw [s0]; exact Nat.lt_succ_self _), hW0]; exact ⟨by simp, by simp⟩
  have b0 : Below w1.heap.size w1 W0 := by rw [hW0]; exact B3.out.alloc hs3 _
  have BA : Hid (∀ w', Below W0.heap.size W0 w' → Below WA.heap.size WA w') := fun w' hw => B1.out.trans ((b0.trans (hw.mono b0.size)).mono B1.out.size)
  have FIN : Hid (∀ w', Below W0.heap.size W0 w' → Below w.heap.size w w') := fun w' hw => HBA.out.trans ((BA.out w' hw).mono HBA.out.size)
  have GL : Hid (∀ w', Below W0.heap.size W0 w' → GroupsAt w' WA.heap.size lv gs) := fun w' hw => G1.out.below (b0.trans (hw.mono b0.size))
  rw [← hW0]
  refine Calls.mono (num_any _ _) ?_
  rintro e wx ⟨rfl, rfl⟩
  obtain ⟨kc0, kc1⟩ := KC.out W0 (Below.refl _ _)
  obtain ⟨⟨ka0, ka1, ka2⟩, ⟨ka3, ka4, ka5⟩⟩ := KA.out W0 (BA.out _ (Below.refl _ _))
  clear hW0 b0 s0 hs3 B3 B2 B1 CP CE G2 G1
  go_wp2_with fail
  have HS : Hid (∀ w', Below W0.heap.size W0 w' → w'.cell? ⟨w3.heap.size, 0, none⟩ = some (.string I) ∧ w'.cell? ⟨w3.heap.size, 1, none⟩ = some (.string D) ∧ w'.cell? ⟨w.heap.size, 0, none⟩ = some (.int .i64 A1) ∧ w'.cell? ⟨w.heap.size, 1, none⟩ = some (.int .i64 C1) ∧ w'.cell? ⟨w.heap.size, 2, none⟩ = some (.string P1) ∧ w'.cell? ⟨w.heap.size + 1, 0, none⟩ = some (.int .i64 A2) ∧ w'.cell? ⟨w.heap.size + 1, 1, none⟩ = some (.int .i64 C2) ∧ w'.cell? ⟨w.heap.size + 1, 2, none⟩ = some (.string P2)) := fun w' hw => ⟨(KC.out w' hw).1, (KC.out w' hw).2, (KA.out w' (BA.out w' hw)).1.1, (KA.out w' (BA.out w' hw)).1.2.1, (KA.out w' (BA.out w' hw)).1.2.2, (KA.out w' (BA.out w' hw)).2.1, (KA.out w' (BA.out w' hw)).2.2.1, (KA.out w' (BA.out w' hw)).2.2.2⟩
  have E1 := hide (fun w' => edited_any I A1 C1 P1 w' (by omega) (by omega))
  have E2 := hide (fun w' => edited_any D A2 C2 P2 w' (by omega) (by omega))
  refine wp_region_held_drew (S := fun w' => w'.cell? ⟨w3.heap.size, 0, none⟩ = some (.string I) ∧ w'.cell? ⟨w3.heap.size, 1, none⟩ = some (.string D) ∧ w'.cell? ⟨w.heap.size, 0, none⟩ = some (.int .i64 A1) ∧ w'.cell? ⟨w.heap.size, 1, none⟩ = some (.int .i64 C1) ∧ w'.cell? ⟨w.heap.size, 2, none⟩ = some (.string P1) ∧ w'.cell? ⟨w.heap.size + 1, 0, none⟩ = some (.int .i64 A2) ∧ w'.cell? ⟨w.heap.size + 1, 1, none⟩ = some (.int .i64 C2) ∧ w'.cell? ⟨w.heap.size + 1, 2, none⟩ = some (.string P2)) (by kernel_rfl) (HS.out _ (Below.refl _ _).drew) (fun hHeld => ?_)
  refine wpAnyH_take (i := 0) (v := (.pointer (some ⟨w3.heap.size, 0, none⟩))) rfl (by kernel_rfl) (by kernel_rfl) (by kernel_rfl) (fun _ _ _ h => h) (Or.inl ⟨by rfl, ?_⟩) (by assumption) ?_
  · intro w' hSw
    (try dsimp only at hSw)
    go_simp <;> first | exact i64_in (by omega) (by omega) | exact u32_in (by omega) (by omega) | exact u32_add _ _ | (rw [Int.tmod_eq_emod_of_nonneg (by omega)]; omega) | (rw [Int.tdiv_eq_ediv_of_nonneg (by omega)]; omega) | omega
  (try simp only [Act.put, List.setIfInBounds_toArray, List.set_cons_zero, List.set_cons_succ])
  refine wpAnyH_take (i := 1) (v := (.string I)) rfl (by kernel_rfl) (by kernel_rfl) (by kernel_rfl) (fun _ _ _ h => h) (Or.inl ⟨by rfl, ?_⟩) (by assumption) ?_
  · intro w' hSw
    (try dsimp only at hSw)
    (obtain ⟨hS1, hS2, hS3, hS4, hS5, hS6, hS7, hS8⟩ := hSw; go_simp)
  (try simp only [Act.put, List.setIfInBounds_toArray, List.set_cons_zero, List.set_cons_succ])
  refine wpAnyH_take (i := 2) (v := (.agg #[.int .i64 A1, .int .i64 C1, .string P1])) rfl (by kernel_rfl) (by kernel_rfl) (by kernel_rfl) (fun _ _ _ h => h) (Or.inl ⟨by rfl, ?_⟩) (by assumption) ?_
  · intro w' hSw
    (try dsimp only at hSw)
    (obtain ⟨hS1, hS2, hS3, hS4, hS5, hS6, hS7, hS8⟩ := hSw; go_simp)
  (try simp only [Act.put, List.setIfInBounds_toArray, List.set_cons_zero, List.set_cons_succ])
  refine wpAnyH_take (i := 4) (v := (.pointer (some ⟨w3.heap.size, 1, none⟩))) rfl (by kernel_rfl) (by kernel_rfl) (by kernel_rfl) (fun _ _ _ h => h) (Or.inl ⟨by rfl, ?_⟩) (by assumption) ?_
  · intro w' hSw
    (try dsimp only at hSw)
    go_simp <;> first | exact i64_in (by omega) (by omega) | exact u32_in (by omega) (by omega) | exact u32_add _ _ | (rw [Int.tmod_eq_emod_of_nonneg (by omega)]; omega) | (rw [Int.tdiv_eq_ediv_of_nonneg (by omega)]; omega) | omega
  (try simp only [Act.put, List.setIfInBounds_toArray, List.set_cons_zero, List.set_cons_succ])
  refine wpAnyH_take (i := 5) (v := (.string D)) rfl (by kernel_rfl) (by kernel_rfl) (by kernel_rfl) (fun _ _ _ h => h) (Or.inl ⟨by rfl, ?_⟩) (by assumption) ?_
  · intro w' hSw
    (try dsimp only at hSw)
    (obtain ⟨hS1, hS2, hS3, hS4, hS5, hS6, hS7, hS8⟩ := hSw; go_simp)
  (try simp only [Act.put, List.setIfInBounds_toArray, List.set_cons_zero, List.set_cons_succ])
  refine wpAnyH_take (i := 6) (v := (.agg #[.int .i64 A2, .int .i64 C2, .string P2])) rfl (by kernel_rfl) (by kernel_rfl) (by kernel_rfl) (fun _ _ _ h => h) (Or.inl ⟨by rfl, ?_⟩) (by assumption) ?_
  · intro w' hSw
    (try dsimp only at hSw)
    (obtain ⟨hS1, hS2, hS3, hS4, hS5, hS6, hS7, hS8⟩ := hSw; go_simp)
  (try simp only [Act.put, List.setIfInBounds_toArray, List.set_cons_zero, List.set_cons_succ])
  have B0 := hide ((Below.refl W0.heap.size W0).drew)
  refine' via (R := _) (fun REST => ?_) ?_
  rotate_left 1
  refine wpAnyH_ready (rs := [3, 9]) (by kernel_rfl) (by simp) ?_
  refine AllReadyH.cons rfl (fun K hK => ?_) (AllReadyH.cons rfl (fun K hK => ?_) AllReadyH.nil)
  · skip
    go_simp
    refine Calls.mono (E1.out _) ?_
    rintro e w4 ⟨X, rfl, hX, b4⟩
    have B4 := hide (B0.out.trans (b4.mono B0.out.size))
    have BL4 := hide b4
    clear b4
    refine hK.out _ _ (HS.out _ B4.out) (fun hHeld => ?_)
    clear hK
    (try simp only [Act.put, List.setIfInBounds_toArray, List.set_cons_zero, List.set_cons_succ])
    refine wpAnyH_ready (rs := [7, 9]) (by kernel_rfl) (by simp) ?_
    refine AllReadyH.cons rfl (fun K hK => ?_) (AllReadyH.cons rfl (fun K hK => ?_) AllReadyH.nil)
    · skip
      go_simp
      refine Calls.mono (E2.out _) ?_
      rintro e w5 ⟨Y, rfl, hY, b5⟩
      have B5 := hide (B4.out.trans (b5.mono B4.out.size))
      have BL5 := hide b5
      clear b5
      refine hK.out _ _ (HS.out _ B5.out) (fun hHeld => ?_)
      clear hK
      (try simp only [Act.put, List.setIfInBounds_toArray, List.set_cons_zero, List.set_cons_succ])
      refine wpAnyH_take (i := 8) (v := (.agg #[.string X, .string Y])) rfl (by kernel_rfl) (by kernel_rfl) (by kernel_rfl) (fun _ _ _ h => h) (Or.inl ⟨by rfl, ?_⟩) (by assumption) ?_
      · intro w' hSw
        (try dsimp only at hSw)
        go_simp <;> first | exact i64_in (by omega) (by omega) | exact u32_in (by omega) (by omega) | exact u32_add _ _ | (rw [Int.tmod_eq_emod_of_nonneg (by omega)]; omega) | (rw [Int.tdiv_eq_ediv_of_nonneg (by omega)]; omega) | omega
      (try simp only [Act.put, List.setIfInBounds_toArray, List.set_cons_zero, List.set_cons_succ])
      refine wpAnyH_ready (rs := [9]) (by kernel_rfl) (by simp) ?_
      refine AllReadyH.cons rfl (fun K hK => ?_) AllReadyH.nil
      go_simp
      have B6 := hide (B5.out.alloc B5.out.size (.cells #[.string ⟨#[]⟩, .string ⟨#[]⟩] 23))
      refine hK.out _ _ (HS.out _ B6.out) (fun hHeld => ?_)
      clear hK
      (try simp only [Act.put, List.setIfInBounds_toArray, List.set_cons_zero, List.set_cons_succ])
      refine wpAnyH_ready (rs := [10]) (by kernel_rfl) (by simp) ?_
      refine AllReadyH.cons rfl (fun K hK => ?_) AllReadyH.nil
      go_simp
      have BX := hide (B5.out.alloc B5.out.size (.cells #[.string X, .string Y] 23))
      refine hK.out _ _ (HS.out _ BX.out) (fun hHeld => ?_)
      clear hK
      (try simp only [Act.put, List.setIfInBounds_toArray, List.set_cons_zero, List.set_cons_succ])
      refine wpAnyH_done (by kernel_rfl) ?_ _
      clear hHeld
      obtain ⟨w6, hw6⟩ : ∃ w6, w6 = w5.alloc (.cells #[.string X, .string Y] 23) := ⟨_, rfl⟩
      obtain ⟨xb, hxb⟩ : ∃ xb, xb = w5.heap.size := ⟨_, rfl⟩
      have XF : Hid (xb < w6.heap.size ∧ w6.cell? ⟨xb, 0, none⟩ = some (.string X) ∧ w6.cell? ⟨xb, 1, none⟩ = some (.string Y)) := by
        rw [hw6, hxb]
        exact ⟨by simp, by simp, by simp⟩
      have BY : Hid (Below W0.heap.size W0 w6) := by rw [hw6]; exact BX.out
      rw [← hw6, ← hxb]
      clear hw6 hxb BX
      revert X hX Y hY w6 xb XF BY
      exact REST
    · skip
      go_simp
      have B5 := hide (B4.out.alloc B4.out.size (.cells #[.string ⟨#[]⟩, .string ⟨#[]⟩] 23))
      refine hK.out _ _ (HS.out _ B5.out) (fun hHeld => ?_)
      clear hK
      (try simp only [Act.put, List.setIfInBounds_toArray, List.set_cons_zero, List.set_cons_succ])
      refine wpAnyH_ready (rs := [7]) (by kernel_rfl) (by simp) ?_
      refine AllReadyH.cons rfl (fun K hK => ?_) AllReadyH.nil
      go_simp
      refine Calls.mono (E2.out _) ?_
      rintro e w5 ⟨Y, rfl, hY, b5⟩
      have B6 := hide (B5.out.trans (b5.mono B5.out.size))
      have BL5 := hide b5
      clear b5
      refine hK.out _ _ (HS.out _ B6.out) (fun hHeld => ?_)
      clear hK
      (try simp only [Act.put, List.setIfInBounds_toArray, List.set_cons_zero, List.set_cons_succ])
      refine wpAnyH_take (i := 8) (v := (.agg #[.string X, .string Y])) rfl (by kernel_rfl) (by kernel_rfl) (by kernel_rfl) (fun _ _ _ h => h) (Or.inl ⟨by rfl, ?_⟩) (by assumption) ?_
      · intro w' hSw
        (try dsimp only at hSw)
        go_simp <;> first | exact i64_in (by omega) (by omega) | exact u32_in (by omega) (by omega) | exact u32_add _ _ | (rw [Int.tmod_eq_emod_of_nonneg (by omega)]; omega) | (rw [Int.tdiv_eq_ediv_of_nonneg (by omega)]; omega) | omega
      (try simp only [Act.put, List.setIfInBounds_toArray, List.set_cons_zero, List.set_cons_succ])
      obtain ⟨f0, f1, f2, f3⟩ := chunk_there BL5.out
      have hlb : w4.heap.size < w5.heap.size := Nat.lt_of_lt_of_le (by simp) BL5.out.size
      have hwb : W0.heap.size ≤ w4.heap.size := B4.out.size
      refine wpAnyH_ready (rs := [10]) (by kernel_rfl) (by simp) ?_
      refine AllReadyH.cons rfl (fun K hK => ?_) AllReadyH.nil
      go_simp
      have BX := hide ((B6.out.setCell (p := ⟨w4.heap.size, 0, none⟩) hwb (.string X)).setCell (p := ⟨w4.heap.size, 1, none⟩) hwb (.string Y))
      refine hK.out _ _ (HS.out _ BX.out) (fun hHeld => ?_)
      clear hK
      (try simp only [Act.put, List.setIfInBounds_toArray, List.set_cons_zero, List.set_cons_succ])
      refine wpAnyH_done (by kernel_rfl) ?_ _
      clear hHeld
      obtain ⟨w6, hw6⟩ : ∃ w6, w6 = (w5.setCell ⟨w4.heap.size, 0, none⟩ (.string X)).setCell ⟨w4.heap.size, 1, none⟩ (.string Y) := ⟨_, rfl⟩
      obtain ⟨xb, hxb⟩ : ∃ xb, xb = w4.heap.size := ⟨_, rfl⟩
      have XF : Hid (xb < w6.heap.size ∧ w6.cell? ⟨xb, 0, none⟩ = some (.string X) ∧ w6.cell? ⟨xb, 1, none⟩ = some (.string Y)) := by
        rw [hw6, hxb]
        exact set_two hlb f0 f1
      have BY : Hid (Below W0.heap.size W0 w6) := by rw [hw6]; exact BX.out
      rw [← hw6, ← hxb]
      clear hw6 hxb BX f0 f1 f2 f3 hlb hwb
      revert X hX Y hY w6 xb XF BY
      exact REST
  · skip
    go_simp
    have B4 := hide (B0.out.alloc B0.out.size (.cells #[.string ⟨#[]⟩, .string ⟨#[]⟩] 23))
    refine hK.out _ _ (HS.out _ B4.out) (fun hHeld => ?_)
    clear hK
    (try simp only [Act.put, List.setIfInBounds_toArray, List.set_cons_zero, List.set_cons_succ])
    refine wpAnyH_ready (rs := [3]) (by kernel_rfl) (by simp) ?_
    refine AllReadyH.cons rfl (fun K hK => ?_) AllReadyH.nil
    go_simp
    refine Calls.mono (E1.out _) ?_
    rintro e w4 ⟨X, rfl, hX, b4⟩
    have B5 := hide (B4.out.trans (b4.mono B4.out.size))
    have BL4 := hide b4
    clear b4
    refine hK.out _ _ (HS.out _ B5.out) (fun hHeld => ?_)
    clear hK
    (try simp only [Act.put, List.setIfInBounds_toArray, List.set_cons_zero, List.set_cons_succ])
    refine wpAnyH_ready (rs := [7]) (by kernel_rfl) (by simp) ?_
    refine AllReadyH.cons rfl (fun K hK => ?_) AllReadyH.nil
    go_simp
    refine Calls.mono (E2.out _) ?_
    rintro e w5 ⟨Y, rfl, hY, b5⟩
    have B6 := hide (B5.out.trans (b5.mono B5.out.size))
    have BL5 := hide b5
    clear b5
    refine hK.out _ _ (HS.out _ B6.out) (fun hHeld => ?_)
    clear hK
    (try simp only [Act.put, List.setIfInBounds_toArray, List.set_cons_zero, List.set_cons_succ])
    refine wpAnyH_take (i := 8) (v := (.agg #[.string X, .string Y])) rfl (by kernel_rfl) (by kernel_rfl) (by kernel_rfl) (fun _ _ _ h => h) (Or.inl ⟨by rfl, ?_⟩) (by assumption) ?_
    · intro w' hSw
      (try dsimp only at hSw)
      go_simp <;> first | exact i64_in (by omega) (by omega) | exact u32_in (by omega) (by omega) | exact u32_add _ _ | (rw [Int.tmod_eq_emod_of_nonneg (by omega)]; omega) | (rw [Int.tdiv_eq_ediv_of_nonneg (by omega)]; omega) | omega
    (try simp only [Act.put, List.setIfInBounds_toArray, List.set_cons_zero, List.set_cons_succ])
    have BLx := ((Below.refl _ (W0.alloc (.cells #[.string ⟨#[]⟩, .string ⟨#[]⟩] 23))).drew.trans BL4.out).trans (BL5.out.mono BL4.out.size)
    obtain ⟨f0, f1, f2, f3⟩ : w5.cell? ⟨W0.heap.size, 0, none⟩ = some (.string ⟨#[]⟩) ∧ w5.cell? ⟨W0.heap.size, 1, none⟩ = some (.string ⟨#[]⟩) ∧ w5.frozen? ⟨W0.heap.size, 0, none⟩ = false ∧ w5.frozen? ⟨W0.heap.size, 1, none⟩ = false := chunk_there BLx
    have hlb : W0.heap.size < w5.heap.size := Nat.lt_of_lt_of_le (by simp) BLx.size
    have hwb : W0.heap.size ≤ W0.heap.size := Nat.le_refl _
    clear BLx
    refine wpAnyH_ready (rs := [10]) (by kernel_rfl) (by simp) ?_
    refine AllReadyH.cons rfl (fun K hK => ?_) AllReadyH.nil
    go_simp
    have BX := hide ((B6.out.setCell (p := ⟨W0.heap.size, 0, none⟩) hwb (.string X)).setCell (p := ⟨W0.heap.size, 1, none⟩) hwb (.string Y))
    refine hK.out _ _ (HS.out _ BX.out) (fun hHeld => ?_)
    clear hK
    (try simp only [Act.put, List.setIfInBounds_toArray, List.set_cons_zero, List.set_cons_succ])
    refine wpAnyH_done (by kernel_rfl) ?_ _
    clear hHeld
    obtain ⟨w6, hw6⟩ : ∃ w6, w6 = (w5.setCell ⟨W0.heap.size, 0, none⟩ (.string X)).setCell ⟨W0.heap.size, 1, none⟩ (.string Y) := ⟨_, rfl⟩
    obtain ⟨xb, hxb⟩ : ∃ xb, xb = W0.heap.size := ⟨_, rfl⟩
    have XF : Hid (xb < w6.heap.size ∧ w6.cell? ⟨xb, 0, none⟩ = some (.string X) ∧ w6.cell? ⟨xb, 1, none⟩ = some (.string Y)) := by
      rw [hw6, hxb]
      exact set_two hlb f0 f1
    have BY : Hid (Below W0.heap.size W0 w6) := by rw [hw6]; exact BX.out
    rw [← hw6, ← hxb]
    clear hw6 hxb BX f0 f1 f2 f3 hlb hwb
    revert X hX Y hY w6 xb XF BY
    exact REST
  intro X hX Y hY w6 xb XF BY
  clear E1 E2 HS kc0 kc1 ka0 ka1 ka2 ka3 ka4 ka5
  obtain ⟨hxl, cx0, cx1⟩ := XF.out
  have hXs : X.size ≤ 1703936 := by omega
  have hYs : Y.size ≤ 1114112 := by omega
  have CD := hide (decode_any (k : Int) X Y (by omega) (by omega) w6)
  have KX : Hid (∀ w', Below w6.heap.size w6 w' → w'.cell? ⟨xb, 0, none⟩ = some (.string X) ∧ w'.cell? ⟨xb, 1, none⟩ = some (.string Y) ∧ w'.cell? ⟨w3.heap.size, 0, none⟩ = some (.string I) ∧ w'.cell? ⟨w3.heap.size, 1, none⟩ = some (.string D)) := fun w' hw => by
    rw [hw.cell (by exact hxl), hw.cell (by exact hxl)]
    exact ⟨cx0, cx1, KC.out w' (BY.out.trans (hw.mono BY.out.size))⟩
  have FX : Hid (∀ w', Below w6.heap.size w6 w' → Below w.heap.size w w') := fun w' hw => FIN.out w' (BY.out.trans (hw.mono BY.out.size))
  have GX : Hid (∀ w', Below w6.heap.size w6 w' → GroupsAt w' WA.heap.size lv gs) := fun w' hw => GL.out w' (BY.out.trans (hw.mono BY.out.size))
  have OKXY := hide (OK2.out X Y)
  have BKX : Hid (X = I ∧ Y = D → dcE (k : Int) X Y = 0 ∧ dcG (k : Int) X Y = gs) := fun ⟨a, b⟩ => by subst a b; exact ⟨bk1, bk2⟩
  have NOX : Hid (dcE (k : Int) X Y ≠ 0 → dcG (k : Int) X Y = []) := fun h => dc_none h
  clear hxl XF KC FIN GL BA hX hY bk1 bk2 OK2
  generalize dcG (k : Int) X Y = hs at *
  generalize dcE (k : Int) X Y = E at *
  go_wp2_with fail
  refine Calls.mono CD.out ?_
  rintro e w7 ⟨bv, rfl, g7, b7⟩
  have B7 := hide b7
  have G7 := hide g7
  obtain ⟨ab, cb, rfl⟩ : ∃ a c, bv = .slice a hs.length c := by
    obtain ⟨ts, rfl, r, _⟩ := g7
    rw [List.length_map]
    exact own_shape r
  obtain ⟨kx0, kx1, kx2, kx3⟩ := KX.out w7 b7
  clear g7 b7 CD
  by_cases eX : X = I
  · by_cases eY : Y = D
    · obtain ⟨e1, e2⟩ := BKX.out ⟨eX, eY⟩
      subst e1
      subst e2
      subst eX
      subst eY
      have SG := hide (sameGroups_dec _ _ _ _ hs hs w7 G7.out (GX.out _ B7.out) (by omega) (by omega) (fun g hg => Nat.le_trans (MP.out g hg) (by omega)) (fun g hg => Nat.le_trans (MP.out g hg) (by omega)))
      rw [decide_eq_true rfl] at SG
      go_wp2_with fail
      refine Calls.mono (num_any _ _) ?_
      rintro e wx ⟨rfl, rfl⟩
      go_wp2_with fail
      refine Calls.mono SG.out ?_
      rintro e w8 ⟨rfl, b8⟩
      have B8 := hide (B7.out.trans (b8.mono B7.out.size))
      clear b8 SG
      go_wp2_with fail
      go_ret
      exact ⟨rfl, FX.out _ B8.out⟩
    · skip
      have ybF : (Y.toList == D.toList) = false := by rw [eq_beq]; exact decide_eq_false eY
      have ybF2 : (D.toList == Y.toList) = false := by rw [eq_beq]; exact decide_eq_false (fun q => eY q.symm)
      have xbT : (X.toList == I.toList) = true := by rw [eq_beq]; exact decide_eq_true eX
      by_cases hE : E = 0
      · skip
        subst hE
        obtain ⟨⟨q1, q2, q3⟩, qX, qY, qg⟩ := OKXY.out rfl
        obtain ⟨hl1, hl2⟩ := eg_len q1
        have CPb := hide (copied_any _ hs w7 G7.out.lies (fun g hg => (hl2 g hg).1) (by omega) (fun g hg => Nat.le_trans (hl2 g hg).2 (by omega)))
        have CEb := hide (fun cv w' (hg : GLies w' cv hs) => encode_any (k : Int) cv hs w' hg (by omega) (fun g hg => Nat.le_trans (hl2 g hg).2 (by omega)))
        have eCb : egC (k : Int) hs = .agg #[.string (egI (k : Int) hs), .string (egD (k : Int) hs)] := rfl
        rw [q1, eCb, q2, q3] at CEb
        have hne : ¬ hs = gs := fun q => eY (qg q).2
        have SG := hide (fun w' (ha : GroupsAt w' w6.heap.size (.slice ab hs.length cb) hs) (hb : GroupsAt w' WA.heap.size lv gs) => sameGroups_dec _ _ _ _ hs gs w' ha hb (by omega) (by omega) (fun g hg => Nat.le_trans (hl2 g hg).2 (by omega)) (fun g hg => Nat.le_trans (MP.out g hg) (by omega)))
        rw [decide_eq_false hne] at SG
        have S1 := hide (fun w' => shorter_any Y D w')
        have S2 := hide (fun w' => shorter_any D Y w')
        have T1 := hide (fun w' => shorter_any X I w')
        have T2 := hide (fun w' => shorter_any I X w')
        rw [(qX eX).1] at S1
        rw [(qX eX).2] at S2
        rw [show shB X I = false by rw [eX]; exact shB_self _] at T1
        rw [show shB I X = false by rw [eX]; exact shB_self _] at T2
        clear q1 q2 q3 qX qY qg eCb hne OKXY BKX NOX eX eY hl1 hl2
        go_wp2_with fail
        refine Calls.mono (num_any _ _) ?_
        rintro e wx ⟨rfl, rfl⟩
        go_wp2_with fail
        refine Calls.mono CPb.out ?_
        rintro e w8 ⟨cb2, rfl, g8, b8⟩
        have B8 := hide (B7.out.trans (b8.mono B7.out.size))
        have G8 := hide (g8.groups (Nat.le_refl _) (Nat.le_refl _)).lies
        have G7b := hide (G7.out.below b8)
        clear b8 g8 CPb
        go_wp2_with fail
        refine Calls.mono (CEb.out _ _ G8.out) ?_
        rintro e w9 ⟨rfl, b9⟩
        have B9 := hide (B8.out.trans (b9.mono B8.out.size))
        have G7c := hide (G7b.out.below b9)
        have hs9 := B9.out.size
        clear b9 CEb G8 G7b
        go_wp2_with fail
        obtain ⟨W9, hW9⟩ : ∃ W9, W9 = w9.alloc (.cells #[.string X, .string Y] 23) := ⟨_, rfl⟩
        have KY : w9.heap.size < W9.heap.size ∧ W9.cell? ⟨w9.heap.size, 0, none⟩ = some (.string X) ∧ W9.cell? ⟨w9.heap.size, 1, none⟩ = some (.string Y) := by rw [hW9]; exact ⟨by simp, by simp, by simp⟩
        have B10 : Hid (Below w6.heap.size w6 W9) := by rw [hW9]; exact B9.out.alloc hs9 _
        have G7d : Hid (GroupsAt W9 w6.heap.size (.slice ab hs.length cb) hs) := by rw [hW9]; exact G7c.out.below ((Below.refl _ w9).alloc (Nat.le_refl _) _)
        rw [← hW9]
        clear hW9 hs9 G7c
        refine Calls.mono (num_any _ _) ?_
        rintro e wx ⟨rfl, rfl⟩
        obtain ⟨ky0, ky1, ky2, ky3⟩ := KX.out W9 B10.out
        obtain ⟨ky4, ky5, ky6⟩ := KY
        have SGd := hide (SG.out _ G7d.out (GX.out _ B10.out))
        clear kx0 kx1 kx2 kx3
        go_wp2_with fail
        refine Calls.mono SGd.out ?_
        rintro e w11 ⟨rfl, b11⟩
        have B11 := hide (B10.out.trans (b11.mono B10.out.size))
        obtain ⟨kz0, kz1, kz2, kz3⟩ := KX.out w11 B11.out
        clear b11 SGd SG ky0 ky1 ky2 ky3 ky4 ky5 ky6
        go_wp2_with fail
        refine Calls.mono (S1.out _) ?_
        rintro e u1 ⟨rfl, bu1⟩
        have B12 := hide (B11.out.trans (bu1.mono B11.out.size))
        obtain ⟨ku10, ku11, ku12, ku13⟩ := KX.out u1 B12.out
        clear bu1
        go_wp2_with fail
        refine Calls.mono (S2.out _) ?_
        rintro e u2 ⟨rfl, bu2⟩
        have B13 := hide (B12.out.trans (bu2.mono B12.out.size))
        obtain ⟨ku20, ku21, ku22, ku23⟩ := KX.out u2 B13.out
        clear bu2
        go_wp2_with fail
        refine Calls.mono (T1.out _) ?_
        rintro e u3 ⟨rfl, bu3⟩
        have B14 := hide (B13.out.trans (bu3.mono B13.out.size))
        obtain ⟨ku30, ku31, ku32, ku33⟩ := KX.out u3 B14.out
        clear bu3
        go_wp2_with fail
        refine Calls.mono (T2.out _) ?_
        rintro e u4 ⟨rfl, bu4⟩
        have B15 := hide (B14.out.trans (bu4.mono B14.out.size))
        obtain ⟨ku40, ku41, ku42, ku43⟩ := KX.out u4 B15.out
        clear bu4
        go_wp2_with fail
        go_ret
        exact ⟨rfl, FX.out _ B15.out⟩
      · skip
        have hn := NOX.out hE
        subst hn
        clear OKXY BKX NOX eX eY
        go_wp2_with fail
        refine Calls.mono (num_any _ _) ?_
        rintro e wx ⟨rfl, rfl⟩
        go_wp2_with fail
        go_ret
        exact ⟨rfl, FX.out _ B7.out⟩
  · by_cases eY : Y = D
    · skip
      have xbF : (X.toList == I.toList) = false := by rw [eq_beq]; exact decide_eq_false eX
      have ybT : (Y.toList == D.toList) = true := by rw [eq_beq]; exact decide_eq_true eY
      by_cases hE : E = 0
      · skip
        subst hE
        obtain ⟨⟨q1, q2, q3⟩, qX, qY, qg⟩ := OKXY.out rfl
        obtain ⟨hl1, hl2⟩ := eg_len q1
        have CPb := hide (copied_any _ hs w7 G7.out.lies (fun g hg => (hl2 g hg).1) (by omega) (fun g hg => Nat.le_trans (hl2 g hg).2 (by omega)))
        have CEb := hide (fun cv w' (hg : GLies w' cv hs) => encode_any (k : Int) cv hs w' hg (by omega) (fun g hg => Nat.le_trans (hl2 g hg).2 (by omega)))
        have eCb : egC (k : Int) hs = .agg #[.string (egI (k : Int) hs), .string (egD (k : Int) hs)] := rfl
        rw [q1, eCb, q2, q3] at CEb
        have hne : ¬ hs = gs := fun q => eX (qg q).1
        have SG := hide (fun w' (ha : GroupsAt w' w6.heap.size (.slice ab hs.length cb) hs) (hb : GroupsAt w' WA.heap.size lv gs) => sameGroups_dec _ _ _ _ hs gs w' ha hb (by omega) (by omega) (fun g hg => Nat.le_trans (hl2 g hg).2 (by omega)) (fun g hg => Nat.le_trans (MP.out g hg) (by omega)))
        rw [decide_eq_false hne] at SG
        have S1 := hide (fun w' => shorter_any Y D w')
        have S2 := hide (fun w' => shorter_any D Y w')
        have T1 := hide (fun w' => shorter_any X I w')
        have T2 := hide (fun w' => shorter_any I X w')
        rw [(qY eY).1] at T1
        rw [(qY eY).2] at T2
        rw [show shB Y D = false by rw [eY]; exact shB_self _] at S1
        rw [show shB D Y = false by rw [eY]; exact shB_self _] at S2
        clear q1 q2 q3 qX qY qg eCb hne OKXY BKX NOX eX eY hl1 hl2
        go_wp2_with fail
        refine Calls.mono (num_any _ _) ?_
        rintro e wx ⟨rfl, rfl⟩
        go_wp2_with fail
        refine Calls.mono CPb.out ?_
        rintro e w8 ⟨cb2, rfl, g8, b8⟩
        have B8 := hide (B7.out.trans (b8.mono B7.out.size))
        have G8 := hide (g8.groups (Nat.le_refl _) (Nat.le_refl _)).lies
        have G7b := hide (G7.out.below b8)
        clear b8 g8 CPb
        go_wp2_with fail
        refine Calls.mono (CEb.out _ _ G8.out) ?_
        rintro e w9 ⟨rfl, b9⟩
        have B9 := hide (B8.out.trans (b9.mono B8.out.size))
        have G7c := hide (G7b.out.below b9)
        have hs9 := B9.out.size
        clear b9 CEb G8 G7b
        go_wp2_with fail
        obtain ⟨W9, hW9⟩ : ∃ W9, W9 = w9.alloc (.cells #[.string X, .string Y] 23) := ⟨_, rfl⟩
        have KY : w9.heap.size < W9.heap.size ∧ W9.cell? ⟨w9.heap.size, 0, none⟩ = some (.string X) ∧ W9.cell? ⟨w9.heap.size, 1, none⟩ = some (.string Y) := by rw [hW9]; exact ⟨by simp, by simp, by simp⟩
        have B10 : Hid (Below w6.heap.size w6 W9) := by rw [hW9]; exact B9.out.alloc hs9 _
        have G7d : Hid (GroupsAt W9 w6.heap.size (.slice ab hs.length cb) hs) := by rw [hW9]; exact G7c.out.below ((Below.refl _ w9).alloc (Nat.le_refl _) _)
        rw [← hW9]
        clear hW9 hs9 G7c
        refine Calls.mono (num_any _ _) ?_
        rintro e wx ⟨rfl, rfl⟩
        obtain ⟨ky0, ky1, ky2, ky3⟩ := KX.out W9 B10.out
        obtain ⟨ky4, ky5, ky6⟩ := KY
        have SGd := hide (SG.out _ G7d.out (GX.out _ B10.out))
        clear kx0 kx1 kx2 kx3
        go_wp2_with fail
        refine Calls.mono SGd.out ?_
        rintro e w11 ⟨rfl, b11⟩
        have B11 := hide (B10.out.trans (b11.mono B10.out.size))
        obtain ⟨kz0, kz1, kz2, kz3⟩ := KX.out w11 B11.out
        clear b11 SGd SG ky0 ky1 ky2 ky3 ky4 ky5 ky6
        go_wp2_with fail
        refine Calls.mono (S1.out _) ?_
        rintro e u1 ⟨rfl, bu1⟩
        have B12 := hide (B11.out.trans (bu1.mono B11.out.size))
        obtain ⟨ku10, ku11, ku12, ku13⟩ := KX.out u1 B12.out
        clear bu1
        go_wp2_with fail
        refine Calls.mono (S2.out _) ?_
        rintro e u2 ⟨rfl, bu2⟩
        have B13 := hide (B12.out.trans (bu2.mono B12.out.size))
        obtain ⟨ku20, ku21, ku22, ku23⟩ := KX.out u2 B13.out
        clear bu2
        go_wp2_with fail
        refine Calls.mono (T1.out _) ?_
        rintro e u3 ⟨rfl, bu3⟩
        have B14 := hide (B13.out.trans (bu3.mono B13.out.size))
        obtain ⟨ku30, ku31, ku32, ku33⟩ := KX.out u3 B14.out
        clear bu3
        go_wp2_with fail
        refine Calls.mono (T2.out _) ?_
        rintro e u4 ⟨rfl, bu4⟩
        have B15 := hide (B14.out.trans (bu4.mono B14.out.size))
        obtain ⟨ku40, ku41, ku42, ku43⟩ := KX.out u4 B15.out
        clear bu4
        go_wp2_with fail
        go_ret
        exact ⟨rfl, FX.out _ B15.out⟩
      · skip
        have hn := NOX.out hE
        subst hn
        clear OKXY BKX NOX eX eY
        go_wp2_with fail
        refine Calls.mono (num_any _ _) ?_
        rintro e wx ⟨rfl, rfl⟩
        go_wp2_with fail
        go_ret
        exact ⟨rfl, FX.out _ B7.out⟩
    · skip
      have xbF : (X.toList == I.toList) = false := by rw [eq_beq]; exact decide_eq_false eX
      have ybF : (Y.toList == D.toList) = false := by rw [eq_beq]; exact decide_eq_false eY
      by_cases hE : E = 0
      · skip
        subst hE
        obtain ⟨⟨q1, q2, q3⟩, qX, qY, qg⟩ := OKXY.out rfl
        obtain ⟨hl1, hl2⟩ := eg_len q1
        have CPb := hide (copied_any _ hs w7 G7.out.lies (fun g hg => (hl2 g hg).1) (by omega) (fun g hg => Nat.le_trans (hl2 g hg).2 (by omega)))
        have CEb := hide (fun cv w' (hg : GLies w' cv hs) => encode_any (k : Int) cv hs w' hg (by omega) (fun g hg => Nat.le_trans (hl2 g hg).2 (by omega)))
        have eCb : egC (k : Int) hs = .agg #[.string (egI (k : Int) hs), .string (egD (k : Int) hs)] := rfl
        rw [q1, eCb, q2, q3] at CEb
        have hne : ¬ hs = gs := fun q => eX (qg q).1
        have SG := hide (fun w' (ha : GroupsAt w' w6.heap.size (.slice ab hs.length cb) hs) (hb : GroupsAt w' WA.heap.size lv gs) => sameGroups_dec _ _ _ _ hs gs w' ha hb (by omega) (by omega) (fun g hg => Nat.le_trans (hl2 g hg).2 (by omega)) (fun g hg => Nat.le_trans (MP.out g hg) (by omega)))
        rw [decide_eq_false hne] at SG
        have S1 := hide (fun w' => shorter_any Y D w')
        have S2 := hide (fun w' => shorter_any D Y w')
        have T1 := hide (fun w' => shorter_any X I w')
        have T2 := hide (fun w' => shorter_any I X w')
        generalize shB Y D = s1 at *
        generalize shB D Y = s2 at *
        generalize shB X I = t1 at *
        generalize shB I X = t2 at *
        clear q1 q2 q3 qX qY qg eCb hne OKXY BKX NOX eX eY hl1 hl2
        go_wp2_with fail
        refine Calls.mono (num_any _ _) ?_
        rintro e wx ⟨rfl, rfl⟩
        go_wp2_with fail
        refine Calls.mono CPb.out ?_
        rintro e w8 ⟨cb2, rfl, g8, b8⟩
        have B8 := hide (B7.out.trans (b8.mono B7.out.size))
        have G8 := hide (g8.groups (Nat.le_refl _) (Nat.le_refl _)).lies
        have G7b := hide (G7.out.below b8)
        clear b8 g8 CPb
        go_wp2_with fail
        refine Calls.mono (CEb.out _ _ G8.out) ?_
        rintro e w9 ⟨rfl, b9⟩
        have B9 := hide (B8.out.trans (b9.mono B8.out.size))
        have G7c := hide (G7b.out.below b9)
        have hs9 := B9.out.size
        clear b9 CEb G8 G7b
        go_wp2_with fail
        obtain ⟨W9, hW9⟩ : ∃ W9, W9 = w9.alloc (.cells #[.string X, .string Y] 23) := ⟨_, rfl⟩
        have KY : w9.heap.size < W9.heap.size ∧ W9.cell? ⟨w9.heap.size, 0, none⟩ = some (.string X) ∧ W9.cell? ⟨w9.heap.size, 1, none⟩ = some (.string Y) := by rw [hW9]; exact ⟨by simp, by simp, by simp⟩
        have B10 : Hid (Below w6.heap.size w6 W9) := by rw [hW9]; exact B9.out.alloc hs9 _
        have G7d : Hid (GroupsAt W9 w6.heap.size (.slice ab hs.length cb) hs) := by rw [hW9]; exact G7c.out.below ((Below.refl _ w9).alloc (Nat.le_refl _) _)
        rw [← hW9]
        clear hW9 hs9 G7c
        refine Calls.mono (num_any _ _) ?_
        rintro e wx ⟨rfl, rfl⟩
        obtain ⟨ky0, ky1, ky2, ky3⟩ := KX.out W9 B10.out
        obtain ⟨ky4, ky5, ky6⟩ := KY
        have SGd := hide (SG.out _ G7d.out (GX.out _ B10.out))
        clear kx0 kx1 kx2 kx3
        go_wp2_with fail
        refine Calls.mono SGd.out ?_
        rintro e w11 ⟨rfl, b11⟩
        have B11 := hide (B10.out.trans (b11.mono B10.out.size))
        obtain ⟨kz0, kz1, kz2, kz3⟩ := KX.out w11 B11.out
        clear b11 SGd SG ky0 ky1 ky2 ky3 ky4 ky5 ky6
        go_wp2_with fail
        cases s1 with
        | true =>
          refine Calls.mono (S1.out _) ?_
          rintro e u1 ⟨rfl, bu1⟩
          have B12 := hide (B11.out.trans (bu1.mono B11.out.size))
          obtain ⟨ku10, ku11, ku12, ku13⟩ := KX.out u1 B12.out
          clear bu1
          go_wp2_with fail
          cases t1 with
          | true =>
            refine Calls.mono (T1.out _) ?_
            rintro e u3 ⟨rfl, bu3⟩
            have B14 := hide (B12.out.trans (bu3.mono B12.out.size))
            obtain ⟨ku30, ku31, ku32, ku33⟩ := KX.out u3 B14.out
            clear bu3
            go_wp2_with fail
            go_ret
            exact ⟨rfl, FX.out _ B14.out⟩
          | false =>
            refine Calls.mono (T1.out _) ?_
            rintro e u3 ⟨rfl, bu3⟩
            have B14 := hide (B12.out.trans (bu3.mono B12.out.size))
            obtain ⟨ku30, ku31, ku32, ku33⟩ := KX.out u3 B14.out
            clear bu3
            go_wp2_with fail
            refine Calls.mono (T2.out _) ?_
            rintro e u4 ⟨rfl, bu4⟩
            have B15 := hide (B14.out.trans (bu4.mono B14.out.size))
            obtain ⟨ku40, ku41, ku42, ku43⟩ := KX.out u4 B15.out
            clear bu4
            go_wp2_with fail
            go_ret
            exact ⟨rfl, FX.out _ B15.out⟩
        | false =>
          refine Calls.mono (S1.out _) ?_
          rintro e u1 ⟨rfl, bu1⟩
          have B12 := hide (B11.out.trans (bu1.mono B11.out.size))
          obtain ⟨ku10, ku11, ku12, ku13⟩ := KX.out u1 B12.out
          clear bu1
          go_wp2_with fail
          refine Calls.mono (S2.out _) ?_
          rintro e u2 ⟨rfl, bu2⟩
          have B13 := hide (B12.out.trans (bu2.mono B12.out.size))
          obtain ⟨ku20, ku21, ku22, ku23⟩ := KX.out u2 B13.out
          clear bu2
          go_wp2_with fail
          cases t1 with
          | true =>
            refine Calls.mono (T1.out _) ?_
            rintro e u3 ⟨rfl, bu3⟩
            have B14 := hide (B13.out.trans (bu3.mono B13.out.size))
            obtain ⟨ku30, ku31, ku32, ku33⟩ := KX.out u3 B14.out
            clear bu3
            go_wp2_with fail
            go_ret
            exact ⟨rfl, FX.out _ B14.out⟩
          | false =>
            refine Calls.mono (T1.out _) ?_
            rintro e u3 ⟨rfl, bu3⟩
            have B14 := hide (B13.out.trans (bu3.mono B13.out.size))
            obtain ⟨ku30, ku31, ku32, ku33⟩ := KX.out u3 B14.out
            clear bu3
            go_wp2_with fail
            refine Calls.mono (T2.out _) ?_
            rintro e u4 ⟨rfl, bu4⟩
            have B15 := hide (B14.out.trans (bu4.mono B14.out.size))
            obtain ⟨ku40, ku41, ku42, ku43⟩ := KX.out u4 B15.out
            clear bu4
            go_wp2_with fail
            go_ret
            exact ⟨rfl, FX.out _ B15.out⟩
      · skip
        have hn := NOX.out hE
        subst hn
        clear OKXY BKX NOX eX eY
        go_wp2_with fail
        refine Calls.mono (num_any _ _) ?_
        rintro e wx ⟨rfl, rfl⟩
        go_wp2_with fail
        go_ret
        exact ⟨rfl, FX.out _ B7.out⟩
end Go.Proofs.Ythihmgdefbahpaa
