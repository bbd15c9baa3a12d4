import Derived.Test.YtanceiiaecbknaaDoorGGnRead
import Derived.Deep.DeepCutAuto
namespace Go.Proofs.YtanceiiaecbknaaDoor
open Go.RowKit Go.Shelf
theorem getD_at (l : List (List UInt8)) (j : Nat) (h : j < l.length) : l[j] = l.getD j [] := by simp [List.getD_eq_getElem?_getD, List.getElem?_eq_getElem h]
set_option maxHeartbeats 4000000 in
set_option maxRecDepth 100000 in
set_option linter.unusedSimpArgs false in
/-- the document's ReadName: a name that is too long -/
theorem rreadName_long (s : ByteArray) (w : World) (h : 14 < s.size) (hs : s.size ≤ 4294967280) :
    Calls Tryd.prog 8 #[.string s] w fun x w' => x = .returned (.tuple #[fvZero, .int .i64 63]) ∧ Below w.heap.size w w' := by
  have h' : (14 : Int) < (s.size : Int) := by omega
  unfold fvZero
  go_enter Tryd.func8, Tryd.ntmps8
  go_wp2_with fail
  refine bodyPost_ret (v := .tuple #[.agg #[.int .i64 0, .int .i64 0, .int .i64 0, .bool false], .int .i64 63]) (by simp [results, Tryd.results8, go_sem]) rfl ⟨rfl, ?_⟩
  exact (Below.refl _ _).alloc (Nat.le_refl _) _
set_option maxHeartbeats 4000000 in
set_option maxRecDepth 100000 in
set_option linter.unusedSimpArgs false in
theorem rreadName_few (s : ByteArray) (w : World) (h : s.size ≤ 14) (hb : ¬ ((sW s.data.toList).length = 2 ∧ (sN s.data.toList).length = 3)) :
    Calls Tryd.prog 8 #[.string s] w fun x w' => x = .returned (.tuple #[fvZero, .int .i64 63]) ∧ Below w.heap.size w w' := by
  have h' : ¬ (14 : Int) < (s.size : Int) := by omega
  have hp := splitL_pos 46 s.data.toList []
  have hp2 := splitL_pos 95 ((sW s.data.toList).getD 0 []) []
  have hm := splitL_sum 46 s.data.toList []
  have hl1 := splitL_len 46 s.data.toList []
  have hw0 : (sW s.data.toList).getD 0 [] = (splitL 46 [] s.data.toList)[0]'hp := by
    unfold sW; rw [List.getD_eq_getElem?_getD, List.getElem?_eq_getElem hp]; rfl
  have hz0 : ((sW s.data.toList).getD 0 []).length ≤ 14 := by
    rw [hw0]; have := hm _ (List.getElem_mem hp); rw [size_data] at this; simp at this; omega
  have hl2 := splitL_len 95 ((sW s.data.toList).getD 0 []) []
  rw [size_data] at hl1
  have C1 : Hid (∀ w', Calls Tryd.prog 15 #[.string s, .int .u8 46] w' fun e w'' => ∃ v, e = .returned v ∧ w''.ownsRow w'.heap.size 9 1 v (sW s.data.toList).length ((sW s.data.toList).map fun l => Value.string (strOf l)) ∧ Below w'.heap.size w' w'') := fun w' => split_any s 46 w' (by omega)
  have C2 : Hid (∀ w', Calls Tryd.prog 15 #[.string (strOf ((sW s.data.toList).getD 0 [])), .int .u8 95] w' fun e w'' => ∃ v, e = .returned v ∧ w''.ownsRow w'.heap.size 9 1 v (sN s.data.toList).length ((sN s.data.toList).map fun l => Value.string (strOf l)) ∧ Below w'.heap.size w' w'') := fun w' => split_any (strOf ((sW s.data.toList).getD 0 [])) 95 w' (by rw [strOf_size]; omega)
  have hw0' : ∀ hq : 0 < (sW s.data.toList).length, (sW s.data.toList)[0]'hq = (sW s.data.toList).getD 0 [] := fun hq => by rw [hw0]; rfl
  have eN : splitL 95 [] ((sW s.data.toList).getD 0 []) = sN s.data.toList := rfl
  have eW : splitL 46 [] s.data.toList = sW s.data.toList := rfl
  rw [eN] at hp2 hl2
  simp only [eW] at hp hl1
  clear hm hw0 eN eW
  obtain ⟨XW, hXW⟩ : ∃ XW, XW = strOf ((sW s.data.toList).getD 0 []) := ⟨_, rfl⟩
  have hw1 : Hid (∀ hq : 0 < (sW s.data.toList).length, strOf ((sW s.data.toList)[0]'hq) = XW) := fun hq => by rw [hw0' hq, hXW]
  rw [← hXW] at C2
  clear hw0' hXW
  unfold fvZero
  obtain ⟨W0, hW0⟩ : ∃ W0, W0 = w.alloc (.cells #[.int .i64 0, .int .i64 0, .int .i64 0, .bool false] 23) := ⟨_, rfl⟩
  have B0 : Hid (Below w.heap.size w W0) := by rw [hW0]; exact (Below.refl _ w).alloc (Nat.le_refl _) _
  have s0 : w.heap.size < W0.heap.size := by rw [hW0]; simp
  have km : Hid (∀ w', Below W0.heap.size W0 w' → w'.cell? ⟨w.heap.size, 0, none⟩ = some (.int .i64 0) ∧ w'.cell? ⟨w.heap.size, 1, none⟩ = some (.int .i64 0) ∧ w'.cell? ⟨w.heap.size, 2, none⟩ = some (.int .i64 0) ∧ w'.cell? ⟨w.heap.size, 3, none⟩ = some (.bool false) ∧ w'.frozen? ⟨w.heap.size, 0, none⟩ = false ∧ w'.frozen? ⟨w.heap.size, 1, none⟩ = false ∧ w'.frozen? ⟨w.heap.size, 2, none⟩ = false ∧ w'.frozen? ⟨w.heap.size, 3, none⟩ = false) := fun w' hb => by
    rw [hb.cell (by exact s0), hb.cell (by exact s0), hb.cell (by exact s0), hb.cell (by exact s0), hb.frozen (by exact s0), hb.frozen (by exact s0), hb.frozen (by exact s0), hb.frozen (by exact s0), hW0]
    exact ⟨by simp, by simp, by simp, by simp, by simp, by simp, by simp, by simp⟩
  go_enter Tryd.func8, Tryd.ntmps8
  go_wp2_with fail
  rw [← hW0]
  clear hW0
  refine Calls.mono (C1.out _) ?_
  rintro x w1 ⟨v, rfl, ho, b1⟩
  obtain ⟨g1, c1, rfl, hg1, hg2, hc1⟩ := own_strs ho hp
  have k1 := hc1 0 hp
  rw [hw1.out hp] at k1
  have B1 := hide (B0.out.trans (b1.mono B0.out.size))
  have R1 := hide b1
  have HC1 := hide hc1
  clear b1 hc1 ho C1
  have hpi : (0 : Int) < ((sW s.data.toList).length : Int) := by omega
  go_wp2_with fail
  refine Calls.mono (C2.out _) ?_
  rintro x w2 ⟨v2, rfl, ho2, b2⟩
  obtain ⟨g3, c3, rfl, hg3, hg4, hc3⟩ := own_strs ho2 hp2
  have B2 := hide (B1.out.trans (b2.mono B1.out.size))
  have R2 := hide (R1.out.trans (b2.mono R1.out.size))
  have T2 := hide b2
  have HC3 := hide hc3
  clear b2 hc3 ho2 C2 k1
  obtain ⟨j0, j1, j2, j3, f0, f1, f2, f3⟩ := km.out _ R2.out
  clear HC1 HC3 hw1 hz0 hl2
  generalize (sW s.data.toList).length = N1 at *
  generalize (sN s.data.toList).length = N2 at *
  by_cases q1 : N1 = 2
  case neg =>
    have q1' : ¬ (N1 : Int) = 2 := by omega
    go_wp2_with fail
    refine bodyPost_ret (v := .tuple #[.agg #[.int .i64 0, .int .i64 0, .int .i64 0, .bool false], .int .i64 63]) (by simp [results, Tryd.results8, go_sem, j0, j1, j2, j3]) rfl ⟨rfl, ?_⟩
    exact (((B2.out.setCell (Nat.le_refl _) _).setCell (Nat.le_refl _) _).setCell (Nat.le_refl _) _).setCell (Nat.le_refl _) _
  case pos =>
    have q2' : ¬ (N2 : Int) = 3 := fun e => hb ⟨q1, by omega⟩
    have q1' : (N1 : Int) = 2 := by omega
    go_wp2_with fail
    refine bodyPost_ret (v := .tuple #[.agg #[.int .i64 0, .int .i64 0, .int .i64 0, .bool false], .int .i64 63]) (by simp [results, Tryd.results8, go_sem, j0, j1, j2, j3]) rfl ⟨rfl, ?_⟩
    exact (((B2.out.setCell (Nat.le_refl _) _).setCell (Nat.le_refl _) _).setCell (Nat.le_refl _) _).setCell (Nat.le_refl _) _
set_option maxHeartbeats 4000000 in
set_option maxRecDepth 100000 in
set_option linter.unusedSimpArgs false in
theorem rreadName_full (s : ByteArray) (w : World) (h : s.size ≤ 14) (e1 : (sW s.data.toList).length = 2) (e2 : (sN s.data.toList).length = 3) (V0 V1 V2 : Int) (D : Bool) (v0 : V0 = numV ((sN s.data.toList).getD 0 [])) (v1 : V1 = numV ((sN s.data.toList).getD 1 [])) (v2 : V2 = numV ((sN s.data.toList).getD 2 [])) (hD : D = decide ((sW s.data.toList).getD 1 [] = dataW)) (Z : ByteArray) (E : Int) (FN : ∀ w', Calls Tryd.prog 5 #[.agg #[.int .i64 V0, .int .i64 V1, .int .i64 V2, .bool D]] w' fun x w'' => x = .returned (.tuple #[.string Z, .int .i64 E]) ∧ Below w'.heap.size w' w'') :
    Calls Tryd.prog 8 #[.string s] w fun x w' => x = .returned (if E = 0 ∧ Z = s then .tuple #[.agg #[.int .i64 V0, .int .i64 V1, .int .i64 V2, .bool D], .int .i64 0] else .tuple #[.agg #[.int .i64 0, .int .i64 0, .int .i64 0, .bool false], .int .i64 63]) ∧ Below w.heap.size w w' := by
  have FN := hide FN
  obtain ⟨RV, hRV⟩ : ∃ RV : Value, RV = (if E = 0 ∧ Z = s then .tuple #[.agg #[.int .i64 V0, .int .i64 V1, .int .i64 V2, .bool D], .int .i64 0] else .tuple #[.agg #[.int .i64 0, .int .i64 0, .int .i64 0, .bool false], .int .i64 63]) := ⟨_, rfl⟩
  rw [← hRV]
  have HRV := hide hRV
  clear hRV
  have h' : ¬ (14 : Int) < (s.size : Int) := by omega
  have hp := splitL_pos 46 s.data.toList []
  have hp2 := splitL_pos 95 ((sW s.data.toList).getD 0 []) []
  have hm := splitL_sum 46 s.data.toList []
  have hl1 := splitL_len 46 s.data.toList []
  have hw0 : (sW s.data.toList).getD 0 [] = (splitL 46 [] s.data.toList)[0]'hp := by
    unfold sW; rw [List.getD_eq_getElem?_getD, List.getElem?_eq_getElem hp]; rfl
  have hz0 : ((sW s.data.toList).getD 0 []).length ≤ 14 := by
    rw [hw0]; have := hm _ (List.getElem_mem hp); rw [size_data] at this; simp at this; omega
  have hl2 := splitL_len 95 ((sW s.data.toList).getD 0 []) []
  rw [size_data] at hl1
  have C1 : Hid (∀ w', Calls Tryd.prog 15 #[.string s, .int .u8 46] w' fun e w'' => ∃ v, e = .returned v ∧ w''.ownsRow w'.heap.size 9 1 v (sW s.data.toList).length ((sW s.data.toList).map fun l => Value.string (strOf l)) ∧ Below w'.heap.size w' w'') := fun w' => split_any s 46 w' (by omega)
  have C2 : Hid (∀ w', Calls Tryd.prog 15 #[.string (strOf ((sW s.data.toList).getD 0 [])), .int .u8 95] w' fun e w'' => ∃ v, e = .returned v ∧ w''.ownsRow w'.heap.size 9 1 v (sN s.data.toList).length ((sN s.data.toList).map fun l => Value.string (strOf l)) ∧ Below w'.heap.size w' w'') := fun w' => split_any (strOf ((sW s.data.toList).getD 0 [])) 95 w' (by rw [strOf_size]; omega)
  have hw0' : ∀ hq : 0 < (sW s.data.toList).length, (sW s.data.toList)[0]'hq = (sW s.data.toList).getD 0 [] := fun hq => by rw [hw0]; rfl
  have eN : splitL 95 [] ((sW s.data.toList).getD 0 []) = sN s.data.toList := rfl
  have eW : splitL 46 [] s.data.toList = sW s.data.toList := rfl
  rw [eN] at hp2 hl2
  simp only [eW] at hp hl1
  have hs3 : ∀ j, ((sN s.data.toList).getD j []).length ≤ 1000 := fun j => by
    by_cases hj : j < (sN s.data.toList).length
    · rw [← getD_at _ j hj]
      have := splitL_sum 95 ((sW s.data.toList).getD 0 []) [] _ (List.getElem_mem hj)
      simp only [List.length_nil] at this
      omega
    · rw [List.getD_eq_getElem?_getD, List.getElem?_eq_none (by omega)]; simp
  have NU : ∀ j w', Calls Tryd.prog 16 #[.string (strOf ((sN s.data.toList).getD j []))] w' fun e w'' => e = .returned (.int .i64 (numV ((sN s.data.toList).getD j []))) ∧ w' = w'' := fun j w' => number_any (strOf ((sN s.data.toList).getD j [])) w' (by rw [strOf_size]; exact hs3 j)
  have N0 := hide (NU 0)
  have N1 := hide (NU 1)
  have N2 := hide (NU 2)
  rw [← v0] at N0
  rw [← v1] at N1
  rw [← v2] at N2
  clear NU hs3 v0 v1 v2
  clear hm hw0 eN eW
  obtain ⟨XW, hXW⟩ : ∃ XW, XW = strOf ((sW s.data.toList).getD 0 []) := ⟨_, rfl⟩
  have hw1 : Hid (∀ hq : 0 < (sW s.data.toList).length, strOf ((sW s.data.toList)[0]'hq) = XW) := fun hq => by rw [hw0' hq, hXW]
  rw [← hXW] at C2
  clear hw0' hXW
  obtain ⟨W0, hW0⟩ : ∃ W0, W0 = w.alloc (.cells #[.int .i64 0, .int .i64 0, .int .i64 0, .bool false] 23) := ⟨_, rfl⟩
  have B0 : Hid (Below w.heap.size w W0) := by rw [hW0]; exact (Below.refl _ w).alloc (Nat.le_refl _) _
  have s0 : w.heap.size < W0.heap.size := by rw [hW0]; simp
  have km : Hid (∀ w', Below W0.heap.size W0 w' → w'.cell? ⟨w.heap.size, 0, none⟩ = some (.int .i64 0) ∧ w'.cell? ⟨w.heap.size, 1, none⟩ = some (.int .i64 0) ∧ w'.cell? ⟨w.heap.size, 2, none⟩ = some (.int .i64 0) ∧ w'.cell? ⟨w.heap.size, 3, none⟩ = some (.bool false) ∧ w'.frozen? ⟨w.heap.size, 0, none⟩ = false ∧ w'.frozen? ⟨w.heap.size, 1, none⟩ = false ∧ w'.frozen? ⟨w.heap.size, 2, none⟩ = false ∧ w'.frozen? ⟨w.heap.size, 3, none⟩ = false) := fun w' hb => by
    rw [hb.cell (by exact s0), hb.cell (by exact s0), hb.cell (by exact s0), hb.cell (by exact s0), hb.frozen (by exact s0), hb.frozen (by exact s0), hb.frozen (by exact s0), hb.frozen (by exact s0), hW0]
    exact ⟨by simp, by simp, by simp, by simp, by simp, by simp, by simp, by simp⟩
  go_enter Tryd.func8, Tryd.ntmps8
  go_wp2_with fail
  rw [← hW0]
  clear hW0
  refine Calls.mono (C1.out _) ?_
  rintro x w1 ⟨v, rfl, ho, b1⟩
  obtain ⟨g1, c1, rfl, hg1, hg2, hc1⟩ := own_strs ho hp
  have k1 := hc1 0 hp
  rw [hw1.out hp] at k1
  have B1 := hide (B0.out.trans (b1.mono B0.out.size))
  have R1 := hide b1
  have HC1 := hide hc1
  clear b1 hc1 ho C1
  have hpi : (0 : Int) < ((sW s.data.toList).length : Int) := by omega
  go_wp2_with fail
  refine Calls.mono (C2.out _) ?_
  rintro x w2 ⟨v2, rfl, ho2, b2⟩
  obtain ⟨g3, c3, rfl, hg3, hg4, hc3⟩ := own_strs ho2 hp2
  have B2 := hide (B1.out.trans (b2.mono B1.out.size))
  have R2 := hide (R1.out.trans (b2.mono R1.out.size))
  have T2 := hide b2
  have HC3 := hide hc3
  clear b2 hc3 ho2 C2 k1
  have k0 := HC3.out 0 (by omega)
  have k1 := HC3.out 1 (by omega)
  have k2 := HC3.out 2 (by omega)
  have k3 := (T2.out.cell (p := ⟨g1, 1, none⟩) (by exact hg2)).trans (HC1.out 1 (by omega))
  rw [getD_at] at k0 k1 k2 k3
  obtain ⟨A0, hA0⟩ : ∃ A0, A0 = strOf ((sN s.data.toList).getD 0 []) := ⟨_, rfl⟩
  obtain ⟨A1, hA1⟩ : ∃ A1, A1 = strOf ((sN s.data.toList).getD 1 []) := ⟨_, rfl⟩
  obtain ⟨A2, hA2⟩ : ∃ A2, A2 = strOf ((sN s.data.toList).getD 2 []) := ⟨_, rfl⟩
  obtain ⟨A3, hA3⟩ : ∃ A3, A3 = strOf ((sW s.data.toList).getD 1 []) := ⟨_, rfl⟩
  rw [← hA0] at k0 N0
  rw [← hA1] at k1 N1
  rw [← hA2] at k2 N2
  rw [← hA3] at k3
  have hE2 : (A3.toList == [100, 97, 116, 97]) = D := by
    rw [hD, hA3, toList_data, strOf_data, Bool.eq_iff_iff, beq_iff_eq, decide_eq_true_eq]; rfl
  have Q2 : Hid (∀ w', Below w2.heap.size w2 w' → w'.cell? ⟨g3, 0, none⟩ = some (.string A0) ∧ w'.cell? ⟨g3, 1, none⟩ = some (.string A1) ∧ w'.cell? ⟨g3, 2, none⟩ = some (.string A2) ∧ w'.cell? ⟨g1, 1, none⟩ = some (.string A3)) := fun w' hb => by
    rw [hb.cell (by exact hg4), hb.cell (by exact hg4), hb.cell (by exact hg4), hb.cell (by exact Nat.lt_of_lt_of_le hg2 T2.out.size)]
    exact ⟨k0, k1, k2, k3⟩
  have BW := hide (Below.refl w2.heap.size w2).drew
  have BA := hide (BW.out.alloc (Nat.le_refl _) (.cells #[.int .i64 0, .int .i64 0, .int .i64 0, .bool false] 23))
  have BF := hide (BW.out.alloc (Nat.le_refl _) (.cells #[.int .i64 V0, .int .i64 V1, .int .i64 V2, .bool D] 23))
  clear hA0 hA1 hA2 hA3 hD k0 k1 k2 k3 HC1 HC3 hw1 hp hp2 hl1 hl2 hz0 hpi
  rw [e2]
  clear e1 e2
  go_wp2_with fail
  refine wp_region_held_drew (S := fun w' => w'.cell? ⟨g3, 0, none⟩ = some (.string A0) ∧ w'.cell? ⟨g3, 1, none⟩ = some (.string A1) ∧ w'.cell? ⟨g3, 2, none⟩ = some (.string A2) ∧ w'.cell? ⟨g1, 1, none⟩ = some (.string A3)) (by kernel_rfl) (Q2.out _ BW.out) (fun hHeld => ?_)
  refine wpAnyH_take (i := 0) (v := (.slice (some ⟨g3, 0, none⟩) 3 c3)) rfl (by kernel_rfl) (by kernel_rfl) (by kernel_rfl) (fun _ _ _ h => h) (Or.inl ⟨by rfl, ?_⟩) (by assumption) ?_
  · intro w' hSw
    (try dsimp only at hSw)
    go_simp <;> first | exact i64_in (by omega) (by omega) | exact u32_in (by omega) (by omega) | exact u32_add _ _ | (rw [Int.tmod_eq_emod_of_nonneg (by omega)]; omega) | (rw [Int.tdiv_eq_ediv_of_nonneg (by omega)]; omega) | omega
  (try simp only [Act.put, List.setIfInBounds_toArray, List.set_cons_zero, List.set_cons_succ])
  refine wpAnyH_take (i := 1) (v := (.pointer (some ⟨g3, 0, none⟩))) rfl (by kernel_rfl) (by kernel_rfl) (by kernel_rfl) (fun _ _ _ h => h) (Or.inl ⟨by rfl, ?_⟩) (by assumption) ?_
  · intro w' hSw
    (try dsimp only at hSw)
    go_simp <;> first | exact i64_in (by omega) (by omega) | exact u32_in (by omega) (by omega) | exact u32_add _ _ | (rw [Int.tmod_eq_emod_of_nonneg (by omega)]; omega) | (rw [Int.tdiv_eq_ediv_of_nonneg (by omega)]; omega) | omega
  (try simp only [Act.put, List.setIfInBounds_toArray, List.set_cons_zero, List.set_cons_succ])
  refine wpAnyH_take (i := 2) (v := (.string A0)) rfl (by kernel_rfl) (by kernel_rfl) (by kernel_rfl) (fun _ _ _ h => h) (Or.inl ⟨by rfl, ?_⟩) (by assumption) ?_
  · intro w' hSw
    (try dsimp only at hSw)
    (obtain ⟨hS1, hS2, hS3, hS4⟩ := hSw; go_simp)
  (try simp only [Act.put, List.setIfInBounds_toArray, List.set_cons_zero, List.set_cons_succ])
  refine wpAnyH_take (i := 4) (v := (.slice (some ⟨g3, 0, none⟩) 3 c3)) rfl (by kernel_rfl) (by kernel_rfl) (by kernel_rfl) (fun _ _ _ h => h) (Or.inl ⟨by rfl, ?_⟩) (by assumption) ?_
  · intro w' hSw
    (try dsimp only at hSw)
    go_simp <;> first | exact i64_in (by omega) (by omega) | exact u32_in (by omega) (by omega) | exact u32_add _ _ | (rw [Int.tmod_eq_emod_of_nonneg (by omega)]; omega) | (rw [Int.tdiv_eq_ediv_of_nonneg (by omega)]; omega) | omega
  (try simp only [Act.put, List.setIfInBounds_toArray, List.set_cons_zero, List.set_cons_succ])
  refine wpAnyH_take (i := 5) (v := (.pointer (some ⟨g3, 1, none⟩))) rfl (by kernel_rfl) (by kernel_rfl) (by kernel_rfl) (fun _ _ _ h => h) (Or.inl ⟨by rfl, ?_⟩) (by assumption) ?_
  · intro w' hSw
    (try dsimp only at hSw)
    go_simp <;> first | exact i64_in (by omega) (by omega) | exact u32_in (by omega) (by omega) | exact u32_add _ _ | (rw [Int.tmod_eq_emod_of_nonneg (by omega)]; omega) | (rw [Int.tdiv_eq_ediv_of_nonneg (by omega)]; omega) | omega
  (try simp only [Act.put, List.setIfInBounds_toArray, List.set_cons_zero, List.set_cons_succ])
  refine wpAnyH_take (i := 6) (v := (.string A1)) rfl (by kernel_rfl) (by kernel_rfl) (by kernel_rfl) (fun _ _ _ h => h) (Or.inl ⟨by rfl, ?_⟩) (by assumption) ?_
  · intro w' hSw
    (try dsimp only at hSw)
    (obtain ⟨hS1, hS2, hS3, hS4⟩ := hSw; go_simp)
  (try simp only [Act.put, List.setIfInBounds_toArray, List.set_cons_zero, List.set_cons_succ])
  refine wpAnyH_take (i := 8) (v := (.slice (some ⟨g3, 0, none⟩) 3 c3)) rfl (by kernel_rfl) (by kernel_rfl) (by kernel_rfl) (fun _ _ _ h => h) (Or.inl ⟨by rfl, ?_⟩) (by assumption) ?_
  · intro w' hSw
    (try dsimp only at hSw)
    go_simp <;> first | exact i64_in (by omega) (by omega) | exact u32_in (by omega) (by omega) | exact u32_add _ _ | (rw [Int.tmod_eq_emod_of_nonneg (by omega)]; omega) | (rw [Int.tdiv_eq_ediv_of_nonneg (by omega)]; omega) | omega
  (try simp only [Act.put, List.setIfInBounds_toArray, List.set_cons_zero, List.set_cons_succ])
  refine wpAnyH_take (i := 9) (v := (.pointer (some ⟨g3, 2, none⟩))) rfl (by kernel_rfl) (by kernel_rfl) (by kernel_rfl) (fun _ _ _ h => h) (Or.inl ⟨by rfl, ?_⟩) (by assumption) ?_
  · intro w' hSw
    (try dsimp only at hSw)
    go_simp <;> first | exact i64_in (by omega) (by omega) | exact u32_in (by omega) (by omega) | exact u32_add _ _ | (rw [Int.tmod_eq_emod_of_nonneg (by omega)]; omega) | (rw [Int.tdiv_eq_ediv_of_nonneg (by omega)]; omega) | omega
  (try simp only [Act.put, List.setIfInBounds_toArray, List.set_cons_zero, List.set_cons_succ])
  refine wpAnyH_take (i := 10) (v := (.string A2)) rfl (by kernel_rfl) (by kernel_rfl) (by kernel_rfl) (fun _ _ _ h => h) (Or.inl ⟨by rfl, ?_⟩) (by assumption) ?_
  · intro w' hSw
    (try dsimp only at hSw)
    (obtain ⟨hS1, hS2, hS3, hS4⟩ := hSw; go_simp)
  (try simp only [Act.put, List.setIfInBounds_toArray, List.set_cons_zero, List.set_cons_succ])
  refine wpAnyH_take (i := 12) (v := (.slice (some ⟨g1, 0, none⟩) 2 c1)) rfl (by kernel_rfl) (by kernel_rfl) (by kernel_rfl) (fun _ _ _ h => h) (Or.inl ⟨by rfl, ?_⟩) (by assumption) ?_
  · intro w' hSw
    (try dsimp only at hSw)
    go_simp <;> first | exact i64_in (by omega) (by omega) | exact u32_in (by omega) (by omega) | exact u32_add _ _ | (rw [Int.tmod_eq_emod_of_nonneg (by omega)]; omega) | (rw [Int.tdiv_eq_ediv_of_nonneg (by omega)]; omega) | omega
  (try simp only [Act.put, List.setIfInBounds_toArray, List.set_cons_zero, List.set_cons_succ])
  refine wpAnyH_take (i := 13) (v := (.pointer (some ⟨g1, 1, none⟩))) rfl (by kernel_rfl) (by kernel_rfl) (by kernel_rfl) (fun _ _ _ h => h) (Or.inl ⟨by rfl, ?_⟩) (by assumption) ?_
  · intro w' hSw
    (try dsimp only at hSw)
    go_simp <;> first | exact i64_in (by omega) (by omega) | exact u32_in (by omega) (by omega) | exact u32_add _ _ | (rw [Int.tmod_eq_emod_of_nonneg (by omega)]; omega) | (rw [Int.tdiv_eq_ediv_of_nonneg (by omega)]; omega) | omega
  (try simp only [Act.put, List.setIfInBounds_toArray, List.set_cons_zero, List.set_cons_succ])
  refine wpAnyH_take (i := 14) (v := (.string A3)) rfl (by kernel_rfl) (by kernel_rfl) (by kernel_rfl) (fun _ _ _ h => h) (Or.inl ⟨by rfl, ?_⟩) (by assumption) ?_
  · intro w' hSw
    (try dsimp only at hSw)
    (obtain ⟨hS1, hS2, hS3, hS4⟩ := hSw; go_simp)
  (try simp only [Act.put, List.setIfInBounds_toArray, List.set_cons_zero, List.set_cons_succ])
  refine wpAnyH_take (i := 15) (v := (.bool D)) rfl (by kernel_rfl) (by kernel_rfl) (by kernel_rfl) (fun _ _ _ h => h) (Or.inl ⟨by rfl, ?_⟩) (by assumption) ?_
  · intro w' hSw
    (try dsimp only at hSw)
    (go_simp)
  (try simp only [Act.put, List.setIfInBounds_toArray, List.set_cons_zero, List.set_cons_succ])
  refine wpAnyH_ready (rs := [3, 17]) (by kernel_rfl) (by simp) ?_
  refine AllReadyH.cons rfl (fun K hK => ?_) (AllReadyH.cons rfl (fun K hK => ?_) AllReadyH.nil)
  · go_simp
    refine Calls.mono (N0.out _) ?_
    rintro x wn ⟨rfl, rfl⟩
    refine hK.out _ _ (Q2.out _ BW.out) (fun hHeld => ?_)
    clear hK
    (try simp only [Act.put, List.setIfInBounds_toArray, List.set_cons_zero, List.set_cons_succ])
    refine wpAnyH_ready (rs := [7, 17]) (by kernel_rfl) (by simp) ?_
    refine AllReadyH.cons rfl (fun K hK => ?_) (AllReadyH.cons rfl (fun K hK => ?_) AllReadyH.nil)
    · go_simp
      refine Calls.mono (N1.out _) ?_
      rintro x wn ⟨rfl, rfl⟩
      refine hK.out _ _ (Q2.out _ BW.out) (fun hHeld => ?_)
      clear hK
      (try simp only [Act.put, List.setIfInBounds_toArray, List.set_cons_zero, List.set_cons_succ])
      refine wpAnyH_ready (rs := [11, 17]) (by kernel_rfl) (by simp) ?_
      refine AllReadyH.cons rfl (fun K hK => ?_) (AllReadyH.cons rfl (fun K hK => ?_) AllReadyH.nil)
      · go_simp
        refine Calls.mono (N2.out _) ?_
        rintro x wn ⟨rfl, rfl⟩
        refine hK.out _ _ (Q2.out _ BW.out) (fun hHeld => ?_)
        clear hK
        (try simp only [Act.put, List.setIfInBounds_toArray, List.set_cons_zero, List.set_cons_succ])
        refine wpAnyH_take (i := 16) (v := (.agg #[.int .i64 V0, .int .i64 V1, .int .i64 V2, .bool D])) rfl (by kernel_rfl) (by kernel_rfl) (by kernel_rfl) (fun _ _ _ h => h) (Or.inl ⟨by rfl, ?_⟩) (by assumption) ?_
        · intro w' hSw
          (try dsimp only at hSw)
          go_simp <;> first | exact i64_in (by omega) (by omega) | exact u32_in (by omega) (by omega) | exact u32_add _ _ | (rw [Int.tmod_eq_emod_of_nonneg (by omega)]; omega) | (rw [Int.tdiv_eq_ediv_of_nonneg (by omega)]; omega) | omega
        (try simp only [Act.put, List.setIfInBounds_toArray, List.set_cons_zero, List.set_cons_succ])
        refine wpAnyH_ready (rs := [17]) (by kernel_rfl) (by simp) ?_
        refine AllReadyH.cons rfl (fun K hK => ?_) AllReadyH.nil
        go_simp
        refine hK.out _ _ (Q2.out _ BA.out) (fun hHeld => ?_)
        clear hK
        (try simp only [Act.put, List.setIfInBounds_toArray, List.set_cons_zero, List.set_cons_succ])
        refine wpAnyH_ready (rs := [18]) (by kernel_rfl) (by simp) ?_
        refine AllReadyH.cons rfl (fun K hK => ?_) AllReadyH.nil
        go_simp
        refine hK.out _ _ (Q2.out _ BF.out) (fun hHeld => ?_)
        clear hK
        (try simp only [Act.put, List.setIfInBounds_toArray, List.set_cons_zero, List.set_cons_succ])
        refine wpAnyH_done (by kernel_rfl) ?_ _
        clear hHeld
        obtain ⟨W5, hW5⟩ : ∃ W5, W5 = (w2.alloc (.cells #[.int .i64 V0, .int .i64 V1, .int .i64 V2, .bool D] 23)).drew := ⟨_, rfl⟩
        have b5 : Below w2.heap.size w2 W5 := by rw [hW5]; exact BF.out
        have s5 : w2.heap.size < W5.heap.size := by rw [hW5]; simp
        have kf : Hid (∀ w', Below W5.heap.size W5 w' → w'.cell? ⟨w2.heap.size, 0, none⟩ = some (.int .i64 V0) ∧ w'.cell? ⟨w2.heap.size, 1, none⟩ = some (.int .i64 V1) ∧ w'.cell? ⟨w2.heap.size, 2, none⟩ = some (.int .i64 V2) ∧ w'.cell? ⟨w2.heap.size, 3, none⟩ = some (.bool D)) := fun w' hb => by
          rw [hb.cell (by exact s5), hb.cell (by exact s5), hb.cell (by exact s5), hb.cell (by exact s5), hW5]
          exact ⟨by simp, by simp, by simp, by simp⟩
        have G5 := hide (B2.out.trans (b5.mono B2.out.size))
        have R5 := hide (R2.out.trans (b5.mono R2.out.size))
        go_wp2_with fail
        rw [← hW5]
        clear hW5 b5 BA BF BW
        refine Calls.mono (FN.out _) ?_
        rintro x w6 ⟨rfl, b6⟩
        have G6 := hide (G5.out.trans (b6.mono G5.out.size))
        have R6 := hide (R5.out.trans (b6.mono R5.out.size))
        obtain ⟨q0, q1, q2, q3⟩ := kf.out _ b6
        obtain ⟨j0, j1, j2, j3, f0, f1, f2, f3⟩ := km.out _ R6.out
        clear b6
        by_cases hE : E = 0
        case neg =>
          go_wp2_with fail
          refine bodyPost_ret (v := .tuple #[.agg #[.int .i64 0, .int .i64 0, .int .i64 0, .bool false], .int .i64 63]) (by simp [results, Tryd.results8, go_sem, j0, j1, j2, j3]) rfl ⟨by rw [HRV.out, if_neg (fun h => hE h.1)], ?_⟩
          exact (((G6.out.setCell (Nat.le_refl _) _).setCell (Nat.le_refl _) _).setCell (Nat.le_refl _) _).setCell (Nat.le_refl _) _
        case pos =>
          by_cases hZ : Z = s
          case neg =>
            have hZ' : (Z.toList == s.toList) = false := by rw [eq_beq]; exact decide_eq_false hZ
            go_wp2_with fail
            refine bodyPost_ret (v := .tuple #[.agg #[.int .i64 0, .int .i64 0, .int .i64 0, .bool false], .int .i64 63]) (by simp [results, Tryd.results8, go_sem, j0, j1, j2, j3]) rfl ⟨by rw [HRV.out, if_neg (fun h => hZ h.2)], ?_⟩
            exact (((G6.out.setCell (Nat.le_refl _) _).setCell (Nat.le_refl _) _).setCell (Nat.le_refl _) _).setCell (Nat.le_refl _) _
          case pos =>
            subst hE hZ
            go_wp2_with fail
            refine bodyPost_ret (v := .tuple #[.agg #[.int .i64 V0, .int .i64 V1, .int .i64 V2, .bool D], .int .i64 0]) (by simp [results, Tryd.results8, go_sem, j0, j1, j2, j3]) rfl ⟨by rw [HRV.out]; simp, ?_⟩
            exact (((G6.out.setCell (Nat.le_refl _) _).setCell (Nat.le_refl _) _).setCell (Nat.le_refl _) _).setCell (Nat.le_refl _) _
      · go_simp
        refine hK.out _ _ (Q2.out _ BA.out) (fun hHeld => ?_)
        clear hK
        (try simp only [Act.put, List.setIfInBounds_toArray, List.set_cons_zero, List.set_cons_succ])
        refine wpAnyH_ready (rs := [11]) (by kernel_rfl) (by simp) ?_
        refine AllReadyH.cons rfl (fun K hK => ?_) AllReadyH.nil
        go_simp
        refine Calls.mono (N2.out _) ?_
        rintro x wn ⟨rfl, rfl⟩
        refine hK.out _ _ (Q2.out _ BA.out) (fun hHeld => ?_)
        clear hK
        (try simp only [Act.put, List.setIfInBounds_toArray, List.set_cons_zero, List.set_cons_succ])
        refine wpAnyH_take (i := 16) (v := (.agg #[.int .i64 V0, .int .i64 V1, .int .i64 V2, .bool D])) rfl (by kernel_rfl) (by kernel_rfl) (by kernel_rfl) (fun _ _ _ h => h) (Or.inl ⟨by rfl, ?_⟩) (by assumption) ?_
        · intro w' hSw
          (try dsimp only at hSw)
          go_simp <;> first | exact i64_in (by omega) (by omega) | exact u32_in (by omega) (by omega) | exact u32_add _ _ | (rw [Int.tmod_eq_emod_of_nonneg (by omega)]; omega) | (rw [Int.tdiv_eq_ediv_of_nonneg (by omega)]; omega) | omega
        (try simp only [Act.put, List.setIfInBounds_toArray, List.set_cons_zero, List.set_cons_succ])
        refine wpAnyH_ready (rs := [18]) (by kernel_rfl) (by simp) ?_
        refine AllReadyH.cons rfl (fun K hK => ?_) AllReadyH.nil
        go_simp
        refine hK.out _ _ (Q2.out _ BF.out) (fun hHeld => ?_)
        clear hK
        (try simp only [Act.put, List.setIfInBounds_toArray, List.set_cons_zero, List.set_cons_succ])
        refine wpAnyH_done (by kernel_rfl) ?_ _
        clear hHeld
        obtain ⟨W5, hW5⟩ : ∃ W5, W5 = (w2.alloc (.cells #[.int .i64 V0, .int .i64 V1, .int .i64 V2, .bool D] 23)).drew := ⟨_, rfl⟩
        have b5 : Below w2.heap.size w2 W5 := by rw [hW5]; exact BF.out
        have s5 : w2.heap.size < W5.heap.size := by rw [hW5]; simp
        have kf : Hid (∀ w', Below W5.heap.size W5 w' → w'.cell? ⟨w2.heap.size, 0, none⟩ = some (.int .i64 V0) ∧ w'.cell? ⟨w2.heap.size, 1, none⟩ = some (.int .i64 V1) ∧ w'.cell? ⟨w2.heap.size, 2, none⟩ = some (.int .i64 V2) ∧ w'.cell? ⟨w2.heap.size, 3, none⟩ = some (.bool D)) := fun w' hb => by
          rw [hb.cell (by exact s5), hb.cell (by exact s5), hb.cell (by exact s5), hb.cell (by exact s5), hW5]
          exact ⟨by simp, by simp, by simp, by simp⟩
        have G5 := hide (B2.out.trans (b5.mono B2.out.size))
        have R5 := hide (R2.out.trans (b5.mono R2.out.size))
        go_wp2_with fail
        rw [← hW5]
        clear hW5 b5 BA BF BW
        refine Calls.mono (FN.out _) ?_
        rintro x w6 ⟨rfl, b6⟩
        have G6 := hide (G5.out.trans (b6.mono G5.out.size))
        have R6 := hide (R5.out.trans (b6.mono R5.out.size))
        obtain ⟨q0, q1, q2, q3⟩ := kf.out _ b6
        obtain ⟨j0, j1, j2, j3, f0, f1, f2, f3⟩ := km.out _ R6.out
        clear b6
        by_cases hE : E = 0
        case neg =>
          go_wp2_with fail
          refine bodyPost_ret (v := .tuple #[.agg #[.int .i64 0, .int .i64 0, .int .i64 0, .bool false], .int .i64 63]) (by simp [results, Tryd.results8, go_sem, j0, j1, j2, j3]) rfl ⟨by rw [HRV.out, if_neg (fun h => hE h.1)], ?_⟩
          exact (((G6.out.setCell (Nat.le_refl _) _).setCell (Nat.le_refl _) _).setCell (Nat.le_refl _) _).setCell (Nat.le_refl _) _
        case pos =>
          by_cases hZ : Z = s
          case neg =>
            have hZ' : (Z.toList == s.toList) = false := by rw [eq_beq]; exact decide_eq_false hZ
            go_wp2_with fail
            refine bodyPost_ret (v := .tuple #[.agg #[.int .i64 0, .int .i64 0, .int .i64 0, .bool false], .int .i64 63]) (by simp [results, Tryd.results8, go_sem, j0, j1, j2, j3]) rfl ⟨by rw [HRV.out, if_neg (fun h => hZ h.2)], ?_⟩
            exact (((G6.out.setCell (Nat.le_refl _) _).setCell (Nat.le_refl _) _).setCell (Nat.le_refl _) _).setCell (Nat.le_refl _) _
          case pos =>
            subst hE hZ
            go_wp2_with fail
            refine bodyPost_ret (v := .tuple #[.agg #[.int .i64 V0, .int .i64 V1, .int .i64 V2, .bool D], .int .i64 0]) (by simp [results, Tryd.results8, go_sem, j0, j1, j2, j3]) rfl ⟨by rw [HRV.out]; simp, ?_⟩
            exact (((G6.out.setCell (Nat.le_refl _) _).setCell (Nat.le_refl _) _).setCell (Nat.le_refl _) _).setCell (Nat.le_refl _) _
    · go_simp
      refine hK.out _ _ (Q2.out _ BA.out) (fun hHeld => ?_)
      clear hK
      (try simp only [Act.put, List.setIfInBounds_toArray, List.set_cons_zero, List.set_cons_succ])
      refine wpAnyH_ready (rs := [7]) (by kernel_rfl) (by simp) ?_
      refine AllReadyH.cons rfl (fun K hK => ?_) AllReadyH.nil
      go_simp
      refine Calls.mono (N1.out _) ?_
      rintro x wn ⟨rfl, rfl⟩
      refine hK.out _ _ (Q2.out _ BA.out) (fun hHeld => ?_)
      clear hK
      (try simp only [Act.put, List.setIfInBounds_toArray, List.set_cons_zero, List.set_cons_succ])
      refine wpAnyH_ready (rs := [11]) (by kernel_rfl) (by simp) ?_
      refine AllReadyH.cons rfl (fun K hK => ?_) AllReadyH.nil
      go_simp
      refine Calls.mono (N2.out _) ?_
      rintro x wn ⟨rfl, rfl⟩
      refine hK.out _ _ (Q2.out _ BA.out) (fun hHeld => ?_)
      clear hK
      (try simp only [Act.put, List.setIfInBounds_toArray, List.set_cons_zero, List.set_cons_succ])
      refine wpAnyH_take (i := 16) (v := (.agg #[.int .i64 V0, .int .i64 V1, .int .i64 V2, .bool D])) rfl (by kernel_rfl) (by kernel_rfl) (by kernel_rfl) (fun _ _ _ h => h) (Or.inl ⟨by rfl, ?_⟩) (by assumption) ?_
      · intro w' hSw
        (try dsimp only at hSw)
        go_simp <;> first | exact i64_in (by omega) (by omega) | exact u32_in (by omega) (by omega) | exact u32_add _ _ | (rw [Int.tmod_eq_emod_of_nonneg (by omega)]; omega) | (rw [Int.tdiv_eq_ediv_of_nonneg (by omega)]; omega) | omega
      (try simp only [Act.put, List.setIfInBounds_toArray, List.set_cons_zero, List.set_cons_succ])
      refine wpAnyH_ready (rs := [18]) (by kernel_rfl) (by simp) ?_
      refine AllReadyH.cons rfl (fun K hK => ?_) AllReadyH.nil
      go_simp
      refine hK.out _ _ (Q2.out _ BF.out) (fun hHeld => ?_)
      clear hK
      (try simp only [Act.put, List.setIfInBounds_toArray, List.set_cons_zero, List.set_cons_succ])
      refine wpAnyH_done (by kernel_rfl) ?_ _
      clear hHeld
      obtain ⟨W5, hW5⟩ : ∃ W5, W5 = (w2.alloc (.cells #[.int .i64 V0, .int .i64 V1, .int .i64 V2, .bool D] 23)).drew := ⟨_, rfl⟩
      have b5 : Below w2.heap.size w2 W5 := by rw [hW5]; exact BF.out
      have s5 : w2.heap.size < W5.heap.size := by rw [hW5]; simp
      have kf : Hid (∀ w', Below W5.heap.size W5 w' → w'.cell? ⟨w2.heap.size, 0, none⟩ = some (.int .i64 V0) ∧ w'.cell? ⟨w2.heap.size, 1, none⟩ = some (.int .i64 V1) ∧ w'.cell? ⟨w2.heap.size, 2, none⟩ = some (.int .i64 V2) ∧ w'.cell? ⟨w2.heap.size, 3, none⟩ = some (.bool D)) := fun w' hb => by
        rw [hb.cell (by exact s5), hb.cell (by exact s5), hb.cell (by exact s5), hb.cell (by exact s5), hW5]
        exact ⟨by simp, by simp, by simp, by simp⟩
      have G5 := hide (B2.out.trans (b5.mono B2.out.size))
      have R5 := hide (R2.out.trans (b5.mono R2.out.size))
      go_wp2_with fail
      rw [← hW5]
      clear hW5 b5 BA BF BW
      refine Calls.mono (FN.out _) ?_
      rintro x w6 ⟨rfl, b6⟩
      have G6 := hide (G5.out.trans (b6.mono G5.out.size))
      have R6 := hide (R5.out.trans (b6.mono R5.out.size))
      obtain ⟨q0, q1, q2, q3⟩ := kf.out _ b6
      obtain ⟨j0, j1, j2, j3, f0, f1, f2, f3⟩ := km.out _ R6.out
      clear b6
      by_cases hE : E = 0
      case neg =>
        go_wp2_with fail
        refine bodyPost_ret (v := .tuple #[.agg #[.int .i64 0, .int .i64 0, .int .i64 0, .bool false], .int .i64 63]) (by simp [results, Tryd.results8, go_sem, j0, j1, j2, j3]) rfl ⟨by rw [HRV.out, if_neg (fun h => hE h.1)], ?_⟩
        exact (((G6.out.setCell (Nat.le_refl _) _).setCell (Nat.le_refl _) _).setCell (Nat.le_refl _) _).setCell (Nat.le_refl _) _
      case pos =>
        by_cases hZ : Z = s
        case neg =>
          have hZ' : (Z.toList == s.toList) = false := by rw [eq_beq]; exact decide_eq_false hZ
          go_wp2_with fail
          refine bodyPost_ret (v := .tuple #[.agg #[.int .i64 0, .int .i64 0, .int .i64 0, .bool false], .int .i64 63]) (by simp [results, Tryd.results8, go_sem, j0, j1, j2, j3]) rfl ⟨by rw [HRV.out, if_neg (fun h => hZ h.2)], ?_⟩
          exact (((G6.out.setCell (Nat.le_refl _) _).setCell (Nat.le_refl _) _).setCell (Nat.le_refl _) _).setCell (Nat.le_refl _) _
        case pos =>
          subst hE hZ
          go_wp2_with fail
          refine bodyPost_ret (v := .tuple #[.agg #[.int .i64 V0, .int .i64 V1, .int .i64 V2, .bool D], .int .i64 0]) (by simp [results, Tryd.results8, go_sem, j0, j1, j2, j3]) rfl ⟨by rw [HRV.out]; simp, ?_⟩
          exact (((G6.out.setCell (Nat.le_refl _) _).setCell (Nat.le_refl _) _).setCell (Nat.le_refl _) _).setCell (Nat.le_refl _) _
  · go_simp
    refine hK.out _ _ (Q2.out _ BA.out) (fun hHeld => ?_)
    clear hK
    (try simp only [Act.put, List.setIfInBounds_toArray, List.set_cons_zero, List.set_cons_succ])
    refine wpAnyH_ready (rs := [3]) (by kernel_rfl) (by simp) ?_
    refine AllReadyH.cons rfl (fun K hK => ?_) AllReadyH.nil
    go_simp
    refine Calls.mono (N0.out _) ?_
    rintro x wn ⟨rfl, rfl⟩
    refine hK.out _ _ (Q2.out _ BA.out) (fun hHeld => ?_)
    clear hK
    (try simp only [Act.put, List.setIfInBounds_toArray, List.set_cons_zero, List.set_cons_succ])
    refine wpAnyH_ready (rs := [7]) (by kernel_rfl) (by simp) ?_
    refine AllReadyH.cons rfl (fun K hK => ?_) AllReadyH.nil
    go_simp
    refine Calls.mono (N1.out _) ?_
    rintro x wn ⟨rfl, rfl⟩
    refine hK.out _ _ (Q2.out _ BA.out) (fun hHeld => ?_)
    clear hK
    (try simp only [Act.put, List.setIfInBounds_toArray, List.set_cons_zero, List.set_cons_succ])
    refine wpAnyH_ready (rs := [11]) (by kernel_rfl) (by simp) ?_
    refine AllReadyH.cons rfl (fun K hK => ?_) AllReadyH.nil
    go_simp
    refine Calls.mono (N2.out _) ?_
    rintro x wn ⟨rfl, rfl⟩
    refine hK.out _ _ (Q2.out _ BA.out) (fun hHeld => ?_)
    clear hK
    (try simp only [Act.put, List.setIfInBounds_toArray, List.set_cons_zero, List.set_cons_succ])
    refine wpAnyH_take (i := 16) (v := (.agg #[.int .i64 V0, .int .i64 V1, .int .i64 V2, .bool D])) rfl (by kernel_rfl) (by kernel_rfl) (by kernel_rfl) (fun _ _ _ h => h) (Or.inl ⟨by rfl, ?_⟩) (by assumption) ?_
    · intro w' hSw
      (try dsimp only at hSw)
      go_simp <;> first | exact i64_in (by omega) (by omega) | exact u32_in (by omega) (by omega) | exact u32_add _ _ | (rw [Int.tmod_eq_emod_of_nonneg (by omega)]; omega) | (rw [Int.tdiv_eq_ediv_of_nonneg (by omega)]; omega) | omega
    (try simp only [Act.put, List.setIfInBounds_toArray, List.set_cons_zero, List.set_cons_succ])
    refine wpAnyH_ready (rs := [18]) (by kernel_rfl) (by simp) ?_
    refine AllReadyH.cons rfl (fun K hK => ?_) AllReadyH.nil
    go_simp
    refine hK.out _ _ (Q2.out _ BF.out) (fun hHeld => ?_)
    clear hK
    (try simp only [Act.put, List.setIfInBounds_toArray, List.set_cons_zero, List.set_cons_succ])
    refine wpAnyH_done (by kernel_rfl) ?_ _
    clear hHeld
    obtain ⟨W5, hW5⟩ : ∃ W5, W5 = (w2.alloc (.cells #[.int .i64 V0, .int .i64 V1, .int .i64 V2, .bool D] 23)).drew := ⟨_, rfl⟩
    have b5 : Below w2.heap.size w2 W5 := by rw [hW5]; exact BF.out
    have s5 : w2.heap.size < W5.heap.size := by rw [hW5]; simp
    have kf : Hid (∀ w', Below W5.heap.size W5 w' → w'.cell? ⟨w2.heap.size, 0, none⟩ = some (.int .i64 V0) ∧ w'.cell? ⟨w2.heap.size, 1, none⟩ = some (.int .i64 V1) ∧ w'.cell? ⟨w2.heap.size, 2, none⟩ = some (.int .i64 V2) ∧ w'.cell? ⟨w2.heap.size, 3, none⟩ = some (.bool D)) := fun w' hb => by
      rw [hb.cell (by exact s5), hb.cell (by exact s5), hb.cell (by exact s5), hb.cell (by exact s5), hW5]
      exact ⟨by simp, by simp, by simp, by simp⟩
    have G5 := hide (B2.out.trans (b5.mono B2.out.size))
    have R5 := hide (R2.out.trans (b5.mono R2.out.size))
    go_wp2_with fail
    rw [← hW5]
    clear hW5 b5 BA BF BW
    refine Calls.mono (FN.out _) ?_
    rintro x w6 ⟨rfl, b6⟩
    have G6 := hide (G5.out.trans (b6.mono G5.out.size))
    have R6 := hide (R5.out.trans (b6.mono R5.out.size))
    obtain ⟨q0, q1, q2, q3⟩ := kf.out _ b6
    obtain ⟨j0, j1, j2, j3, f0, f1, f2, f3⟩ := km.out _ R6.out
    clear b6
    by_cases hE : E = 0
    case neg =>
      go_wp2_with fail
      refine bodyPost_ret (v := .tuple #[.agg #[.int .i64 0, .int .i64 0, .int .i64 0, .bool false], .int .i64 63]) (by simp [results, Tryd.results8, go_sem, j0, j1, j2, j3]) rfl ⟨by rw [HRV.out, if_neg (fun h => hE h.1)], ?_⟩
      exact (((G6.out.setCell (Nat.le_refl _) _).setCell (Nat.le_refl _) _).setCell (Nat.le_refl _) _).setCell (Nat.le_refl _) _
    case pos =>
      by_cases hZ : Z = s
      case neg =>
        have hZ' : (Z.toList == s.toList) = false := by rw [eq_beq]; exact decide_eq_false hZ
        go_wp2_with fail
        refine bodyPost_ret (v := .tuple #[.agg #[.int .i64 0, .int .i64 0, .int .i64 0, .bool false], .int .i64 63]) (by simp [results, Tryd.results8, go_sem, j0, j1, j2, j3]) rfl ⟨by rw [HRV.out, if_neg (fun h => hZ h.2)], ?_⟩
        exact (((G6.out.setCell (Nat.le_refl _) _).setCell (Nat.le_refl _) _).setCell (Nat.le_refl _) _).setCell (Nat.le_refl _) _
      case pos =>
        subst hE hZ
        go_wp2_with fail
        refine bodyPost_ret (v := .tuple #[.agg #[.int .i64 V0, .int .i64 V1, .int .i64 V2, .bool D], .int .i64 0]) (by simp [results, Tryd.results8, go_sem, j0, j1, j2, j3]) rfl ⟨by rw [HRV.out]; simp, ?_⟩
        exact (((G6.out.setCell (Nat.le_refl _) _).setCell (Nat.le_refl _) _).setCell (Nat.le_refl _) _).setCell (Nat.le_refl _) _
end Go.Proofs.YtanceiiaecbknaaDoor
namespace Go.Proofs.YtanceiiaecbknaaDoor
open Go.RowKit Go.Shelf
def rnV : Option FV → Value
  | some f => .tuple #[fvVal f, .int .i64 0]
  | none => .tuple #[fvZero, .int .i64 63]
theorem rnV_some (p r c : Nat) (d : Bool) : rnV (some (p, r, c, d)) = .tuple #[.agg #[.int .i64 (p : Int), .int .i64 (r : Int), .int .i64 (c : Int), .bool d], .int .i64 0] := rfl
theorem rnV_none : rnV none = .tuple #[.agg #[.int .i64 0, .int .i64 0, .int .i64 0, .bool false], .int .i64 63] := rfl
theorem strOf_iff {l : List UInt8} {s : ByteArray} : strOf l = s ↔ l = s.data.toList := ⟨fun h => by rw [← h, strOf_data], fun h => by rw [h, strOf_toList]⟩
set_option maxHeartbeats 1000000 in
/-- the document's ReadName -/
theorem rreadName_any (s : ByteArray) (w : World) (hs : s.size ≤ 4294967280) :
    Calls Tryd.prog 8 #[.string s] w fun x w' => x = .returned (rnV (readD s.data.toList)) ∧ Below w.heap.size w w' := by
  by_cases h14 : 14 < s.size
  · have e : readD s.data.toList = none := by unfold readD; rw [if_neg (fun h => by have := h.1; rw [size_data] at this; omega)]
    rw [e]
    exact rreadName_long s w h14 hs
  by_cases hb : (sW s.data.toList).length = 2 ∧ (sN s.data.toList).length = 3
  case neg =>
    have e : readD s.data.toList = none := by unfold readD; rw [if_neg (fun h => hb ⟨h.2.1, h.2.2.1⟩)]
    rw [e]
    exact rreadName_few s w (by omega) hb
  case pos =>
  obtain ⟨e1, e2⟩ := hb
  by_cases hv : isVal (numV ((sN s.data.toList).getD 0 [])) (numV ((sN s.data.toList).getD 1 [])) (numV ((sN s.data.toList).getD 2 [])) = true
  case neg =>
    have e : readD s.data.toList = none := by unfold readD; rw [if_neg (fun h => hv h.2.2.2.1)]
    rw [e]
    refine (rreadName_full s w (by omega) e1 e2 _ _ _ _ rfl rfl rfl rfl ⟨#[]⟩ 1 (fun w' => rfileName_no _ _ _ _ w' (by simpa using hv))).mono ?_
    rintro x w' ⟨rfl, hb⟩
    exact ⟨rfl, hb⟩
  case pos =>
    have hi := isVal_iff hv
    obtain ⟨p, hp⟩ : ∃ p : Nat, numV ((sN s.data.toList).getD 0 []) = (p : Int) := ⟨_, (Int.toNat_of_nonneg hi.1).symm⟩
    obtain ⟨r, hr⟩ : ∃ r : Nat, numV ((sN s.data.toList).getD 1 []) = (r : Int) := ⟨_, (Int.toNat_of_nonneg hi.2.2.1).symm⟩
    obtain ⟨c, hc⟩ : ∃ c : Nat, numV ((sN s.data.toList).getD 2 []) = (c : Int) := ⟨_, (Int.toNat_of_nonneg hi.2.2.2.2.1).symm⟩
    have e : readD s.data.toList = if fnL (p, r, c, decide ((sW s.data.toList).getD 1 [] = dataW)) = s.data.toList then some (p, r, c, decide ((sW s.data.toList).getD 1 [] = dataW)) else none := by
      unfold readD
      rw [hp, hr, hc] at hv ⊢
      simp only [Int.toNat_natCast]
      by_cases hq : fnL (p, r, c, decide ((sW s.data.toList).getD 1 [] = dataW)) = s.data.toList
      · rw [if_pos ⟨by rw [size_data]; omega, e1, e2, hv, hq⟩, if_pos hq]
      · rw [if_neg (fun h => hq h.2.2.2.2), if_neg hq]
    rw [hp, hr, hc] at hi
    refine (rreadName_full s w (by omega) e1 e2 (p : Int) (r : Int) (c : Int) _ hp.symm hr.symm hc.symm rfl (strOf (fnL (p, r, c, decide ((sW s.data.toList).getD 1 [] = dataW)))) 0 (fun w' => rfileName_ok p r c _ w' ⟨by simp only; omega, by simp only; omega, by simp only; omega⟩)).mono ?_
    rintro x w' ⟨rfl, hb⟩
    refine ⟨?_, hb⟩
    rw [e]
    by_cases hq : fnL (p, r, c, decide ((sW s.data.toList).getD 1 [] = dataW)) = s.data.toList
    · rw [if_pos ⟨rfl, strOf_iff.2 hq⟩, if_pos hq]; rfl
    · rw [if_neg (fun h => hq (strOf_iff.1 h.2)), if_neg hq]; rfl
set_option maxHeartbeats 1000000 in
/-- the program's ReadName -/
theorem readName_any (s : ByteArray) (w : World) (hs : s.size ≤ 4294967280) (he : Env w) :
    Calls Tryd.prog 7 #[.string s] w fun x w' => x = .returned (rnV (readP s.data.toList)) ∧ Below w.heap.size w w' := by
  by_cases hv : isVal (av (wds s.data.toList).1) (av (wds s.data.toList).2.1) (av (wds s.data.toList).2.2.1) = true
  case neg =>
    have e : readP s.data.toList = none := by unfold readP; rw [if_neg (fun h => hv h.1)]
    rw [e]
    exact readName_no s hs w he (by simpa using hv)
  case pos =>
    have hi := isVal_iff hv
    obtain ⟨p, hp⟩ : ∃ p : Nat, av (wds s.data.toList).1 = (p : Int) := ⟨_, (Int.toNat_of_nonneg hi.1).symm⟩
    obtain ⟨r, hr⟩ : ∃ r : Nat, av (wds s.data.toList).2.1 = (r : Int) := ⟨_, (Int.toNat_of_nonneg hi.2.2.1).symm⟩
    obtain ⟨c, hc⟩ : ∃ c : Nat, av (wds s.data.toList).2.2.1 = (c : Int) := ⟨_, (Int.toNat_of_nonneg hi.2.2.2.2.1).symm⟩
    have hi' := hi
    rw [hp, hr, hc] at hi'
    refine (readName_yes s hs w he p r c (by omega) (by omega) (by omega) _ rfl hp hr hc).mono ?_
    rintro x w' ⟨rfl, hb⟩
    refine ⟨?_, hb⟩
    unfold readP
    rw [hp, hr, hc] at hv ⊢
    simp only [Int.toNat_natCast]
    by_cases hq : dd p = (wds s.data.toList).1 ∧ dd r = (wds s.data.toList).2.1 ∧ dd c = (wds s.data.toList).2.2.1 ∧ endW (decide ((wds s.data.toList).2.2.2 = dataW)) = (wds s.data.toList).2.2.2
    · rw [if_pos ⟨by rw [hq.1], by rw [hq.2.1], by rw [hq.2.2.1], by rw [hq.2.2.2]⟩, if_pos ⟨hv, hq⟩]; rfl
    · rw [if_neg (fun h => hq ⟨strOf_inj h.1, strOf_inj h.2.1, strOf_inj h.2.2.1, strOf_inj h.2.2.2⟩), if_neg (fun h => hq h.2)]; rfl
set_option maxRecDepth 100000 in
theorem num_any (n : Int) (w : World) : Calls Tryd.prog 6 #[.int .i64 n] w fun e w' => e = .returned (.int .i64 n) ∧ w = w' := by
  go_enter Tryd.func6, Tryd.ntmps6
  go_wp2
  go_ret
  exact ⟨rfl, rfl⟩
end Go.Proofs.YtanceiiaecbknaaDoor
namespace Go.Proofs.YtanceiiaecbknaaDoor
open Go.RowKit Go.Shelf
set_option maxHeartbeats 8000000 in
set_option maxRecDepth 100000 in
set_option linter.unusedSimpArgs false in
/-- the law, where both FileNames answer Z, E, and ReadName of Z answers M, ME -/
theorem ringNames_if (p r c : Int) (d : Bool) (nm Z : ByteArray) (E : Int) (N0 N1 N2 : Int) (ND : Bool) (NE : Int) (M0 M1 M2 : Int) (MD : Bool) (ME : Int) (w : World) (he : Env w)
    (F1 : ∀ w', Calls Tryd.prog 4 #[.agg #[.int .i64 p, .int .i64 r, .int .i64 c, .bool d]] w' fun x w'' => x = .returned (.tuple #[.string Z, .int .i64 E]) ∧ Below w'.heap.size w' w'')
    (F2 : ∀ w', Calls Tryd.prog 5 #[.agg #[.int .i64 p, .int .i64 r, .int .i64 c, .bool d]] w' fun x w'' => x = .returned (.tuple #[.string Z, .int .i64 E]) ∧ Below w'.heap.size w' w'')
    (R1 : ∀ w', Env w' → Calls Tryd.prog 7 #[.string nm] w' fun x w'' => x = .returned (.tuple #[.agg #[.int .i64 N0, .int .i64 N1, .int .i64 N2, .bool ND], .int .i64 NE]) ∧ Below w'.heap.size w' w'')
    (R2 : ∀ w', Calls Tryd.prog 8 #[.string nm] w' fun x w'' => x = .returned (.tuple #[.agg #[.int .i64 N0, .int .i64 N1, .int .i64 N2, .bool ND], .int .i64 NE]) ∧ Below w'.heap.size w' w'')
    (R3 : ∀ w', Env w' → Calls Tryd.prog 7 #[.string Z] w' fun x w'' => x = .returned (.tuple #[.agg #[.int .i64 M0, .int .i64 M1, .int .i64 M2, .bool MD], .int .i64 ME]) ∧ Below w'.heap.size w' w'')
    (hM : (E = 0 ∧ ME = 0 ∧ M0 = p ∧ M1 = r ∧ M2 = c ∧ MD = d) ∨ (E = 1 ∧ ME = 63)) :
    Calls Tryd.prog 3 #[.agg #[.int .i64 p, .int .i64 r, .int .i64 c, .bool d], .string nm] w fun x w' => x = .returned (.bool true) ∧ Below w.heap.size w w' := by
  obtain ⟨W0, hW0⟩ : ∃ W0, W0 = w.alloc (.cells #[.int .i64 p, .int .i64 r, .int .i64 c, .bool d] 23) := ⟨_, rfl⟩
  have B0 : Hid (Below w.heap.size w W0) := by rw [hW0]; exact (Below.refl _ w).alloc (Nat.le_refl _) _
  have s0 : w.heap.size < W0.heap.size := by rw [hW0]; simp
  have km : Hid (∀ w', Below W0.heap.size W0 w' → w'.cell? ⟨w.heap.size, 0, none⟩ = some (.int .i64 p) ∧ w'.cell? ⟨w.heap.size, 1, none⟩ = some (.int .i64 r) ∧ w'.cell? ⟨w.heap.size, 2, none⟩ = some (.int .i64 c) ∧ w'.cell? ⟨w.heap.size, 3, none⟩ = some (.bool d)) := fun w' hb => by
    rw [hb.cell (by exact s0), hb.cell (by exact s0), hb.cell (by exact s0), hb.cell (by exact s0), hW0]
    exact ⟨by simp, by simp, by simp, by simp⟩
  have HE := hide he
  have F1 := hide F1
  have F2 := hide F2
  have R1 := hide R1
  have R2 := hide R2
  have R3 := hide R3
  have HM := hide hM
  clear hM he
  go_enter Tryd.func3, Tryd.ntmps3
  go_wp2_with fail
  rw [← hW0]
  clear hW0
  refine Calls.mono (F1.out _) ?_
  rintro x w1 ⟨rfl, b1⟩
  have B1 := hide (B0.out.trans (b1.mono B0.out.size))
  have Q1 := hide b1
  obtain ⟨j0, j1, j2, j3⟩ := km.out _ b1
  clear b1
  go_wp2_with fail
  refine Calls.mono (F2.out _) ?_
  rintro x w2 ⟨rfl, b2⟩
  have B2 := hide (B1.out.trans (b2.mono B1.out.size))
  have Q2 := hide (Q1.out.trans (b2.mono Q1.out.size))
  clear b2 j0 j1 j2 j3
  go_wp2_with (go_at_call 6; refine Calls.mono (num_any _ _) ?_; rintro e wn ⟨rfl, rfl⟩)
  refine Calls.mono (R1.out _ (HE.out.below B2.out)) ?_
  rintro x w3 ⟨rfl, b3⟩
  have B3 := hide (B2.out.trans (b3.mono B2.out.size))
  have Q3 := hide (Q2.out.trans (b3.mono Q2.out.size))
  clear b3
  go_wp2_with fail
  obtain ⟨W4, hW4⟩ : ∃ W4, W4 = w3.alloc (.cells #[.int .i64 N0, .int .i64 N1, .int .i64 N2, .bool ND] 23) := ⟨_, rfl⟩
  have b4 : Below w3.heap.size w3 W4 := by rw [hW4]; exact (Below.refl _ w3).alloc (Nat.le_refl _) _
  have s4 : w3.heap.size < W4.heap.size := by rw [hW4]; simp
  have B4 := hide (B3.out.trans (b4.mono B3.out.size))
  have Q4 := hide (Q3.out.trans (b4.mono Q3.out.size))
  have k4 : Hid (∀ w', Below W4.heap.size W4 w' → w'.cell? ⟨w3.heap.size, 0, none⟩ = some (.int .i64 N0) ∧ w'.cell? ⟨w3.heap.size, 1, none⟩ = some (.int .i64 N1) ∧ w'.cell? ⟨w3.heap.size, 2, none⟩ = some (.int .i64 N2) ∧ w'.cell? ⟨w3.heap.size, 3, none⟩ = some (.bool ND)) := fun w' hb => by
    rw [hb.cell (by exact s4), hb.cell (by exact s4), hb.cell (by exact s4), hb.cell (by exact s4), hW4]
    exact ⟨by simp, by simp, by simp, by simp⟩
  rw [← hW4]
  clear hW4 b4
  refine Calls.mono (R2.out _) ?_
  rintro x w5 ⟨rfl, b5⟩
  have B5 := hide (B4.out.trans (b5.mono B4.out.size))
  have Q5 := hide (Q4.out.trans (b5.mono Q4.out.size))
  have T5 := hide b5
  clear b5
  obtain ⟨W6, hW6⟩ : ∃ W6, W6 = w5.alloc (.cells #[.int .i64 N0, .int .i64 N1, .int .i64 N2, .bool ND] 23) := ⟨_, rfl⟩
  have b6 : Below w5.heap.size w5 W6 := by rw [hW6]; exact (Below.refl _ w5).alloc (Nat.le_refl _) _
  have s6 : w5.heap.size < W6.heap.size := by rw [hW6]; simp
  have B6 := hide (B5.out.trans (b6.mono B5.out.size))
  have Q6 := hide (Q5.out.trans (b6.mono Q5.out.size))
  have T6 := hide (T5.out.trans (b6.mono T5.out.size))
  have k6 : Hid (∀ w', Below W6.heap.size W6 w' → w'.cell? ⟨w5.heap.size, 0, none⟩ = some (.int .i64 N0) ∧ w'.cell? ⟨w5.heap.size, 1, none⟩ = some (.int .i64 N1) ∧ w'.cell? ⟨w5.heap.size, 2, none⟩ = some (.int .i64 N2) ∧ w'.cell? ⟨w5.heap.size, 3, none⟩ = some (.bool ND)) := fun w' hb => by
    rw [hb.cell (by exact s6), hb.cell (by exact s6), hb.cell (by exact s6), hb.cell (by exact s6), hW6]
    exact ⟨by simp, by simp, by simp, by simp⟩
  obtain ⟨t0, t1, t2, t3⟩ := k4.out _ T6.out
  obtain ⟨u0, u1, u2, u3⟩ := k6.out _ (Below.refl _ _)
  go_upto_region 7 with fail
  rw [← hW6]
  clear hW6 b6
  go_wp2_with (go_at_call 6; refine Calls.mono (num_any _ _) ?_; rintro e wn ⟨rfl, rfl⟩)
  refine Calls.mono (R3.out _ (HE.out.below B6.out)) ?_
  rintro x w7 ⟨rfl, b7⟩
  have B7 := hide (B6.out.trans (b7.mono B6.out.size))
  have Q7 := hide (Q6.out.trans (b7.mono Q6.out.size))
  clear b7 t0 t1 t2 t3 u0 u1 u2 u3
  rcases HM.out with ⟨rfl, rfl, rfl, rfl, rfl, rfl⟩ | ⟨rfl, rfl⟩
  case inl =>
    obtain ⟨j0, j1, j2, j3⟩ := km.out _ Q7.out
    have hlt := Nat.lt_of_lt_of_le s0 Q7.out.size
    have hne : ¬ w.heap.size = w7.heap.size := by omega
    go_wp2_with (go_at_call 6; refine Calls.mono (num_any _ _) ?_; rintro e wn ⟨rfl, rfl⟩)
    go_ret
    exact ⟨rfl, B7.out.alloc B7.out.size _⟩
  case inr =>
    go_wp2_with (go_at_call 6; refine Calls.mono (num_any _ _) ?_; rintro e wn ⟨rfl, rfl⟩)
    go_ret
    exact ⟨rfl, B7.out.alloc B7.out.size _⟩
end Go.Proofs.YtanceiiaecbknaaDoor
namespace Go.Proofs.YtanceiiaecbknaaDoor
open Go.RowKit Go.Shelf
theorem rnV_way (o : Option FV) : ∃ (N0 N1 N2 : Int) (ND : Bool) (NE : Int), rnV o = .tuple #[.agg #[.int .i64 N0, .int .i64 N1, .int .i64 N2, .bool ND], .int .i64 NE] := by
  cases o with
  | none => exact ⟨_, _, _, _, _, rnV_none⟩
  | some f => obtain ⟨p, r, c, d⟩ := f; exact ⟨_, _, _, _, _, rnV_some p r c d⟩
set_option maxHeartbeats 1000000 in
/-- the law RingNames -/
theorem ringNames_any (p r c : Int) (d : Bool) (nm : ByteArray) (w : World) (hn : nm.size ≤ 4294967280) (he : Env w) :
    Calls Tryd.prog 3 #[.agg #[.int .i64 p, .int .i64 r, .int .i64 c, .bool d], .string nm] w fun x w' => x = .returned (.bool true) ∧ Below w.heap.size w w' := by
  obtain ⟨N0, N1, N2, ND, NE, hN⟩ := rnV_way (readP nm.data.toList)
  have A1 : ∀ w', Env w' → _ := fun w' h => readName_any nm w' hn h
  have A2 : ∀ w', _ := fun w' => rreadName_any nm w' hn
  rw [← readP_D] at A2
  rw [hN] at A1 A2
  by_cases hv : isVal p r c = true
  case pos =>
    have hi := isVal_iff hv
    obtain ⟨p, rfl⟩ : ∃ p' : Nat, p = (p' : Int) := ⟨_, (Int.toNat_of_nonneg hi.1).symm⟩
    obtain ⟨r, rfl⟩ : ∃ p' : Nat, r = (p' : Int) := ⟨_, (Int.toNat_of_nonneg hi.2.2.1).symm⟩
    obtain ⟨c, rfl⟩ : ∃ p' : Nat, c = (p' : Int) := ⟨_, (Int.toNat_of_nonneg hi.2.2.2.2.1).symm⟩
    have hV : Val (p, r, c, d) := ⟨by simp only; omega, by simp only; omega, by simp only; omega⟩
    have hz := fnL_len hV
    have A3 : ∀ w', Env w' → _ := fun w' h => readName_any (strOf (fnL (p, r, c, d))) w' (by rw [strOf_size]; omega) h
    rw [strOf_data, (readP_spec _ _).2 ⟨hV, rfl⟩, rnV_some] at A3
    exact ringNames_if _ _ _ _ _ _ _ _ _ _ _ _ _ _ _ _ _ w he (fun w' => fileName_ok p r c d w' hV) (fun w' => rfileName_ok p r c d w' hV) A1 A2 A3 (Or.inl ⟨rfl, rfl, rfl, rfl, rfl, rfl⟩)
  case neg =>
    have hv' : isVal p r c = false := by simpa using hv
    have A3 : ∀ w', Env w' → _ := fun w' h => readName_any ⟨#[]⟩ w' (by decide) h
    have e : readP (⟨#[]⟩ : ByteArray).data.toList = none := by
      cases h : readP (⟨#[]⟩ : ByteArray).data.toList with
      | none => rfl
      | some f => exact absurd ((readP_spec _ _).1 h).2 (fnL_ne f)
    rw [e, rnV_none] at A3
    exact ringNames_if _ _ _ _ _ _ _ _ _ _ _ _ _ _ _ _ _ w he (fun w' => fileName_no p r c d w' hv') (fun w' => rfileName_no p r c d w' hv') A1 A2 A3 (Or.inr ⟨rfl, rfl⟩)
end Go.Proofs.YtanceiiaecbknaaDoor
