import Derived.Test.YtanceiiaecbknaaDoorGDgPlain
namespace Go.Proofs.YtanceiiaecbknaaDoor
open Go.RowKit Go.Shelf
/-- what the tables and the variables of the library hold -/
structure Env (w : World) : Prop where
  m : ∃ m, w.cell? ⟨1, 0, none⟩ = some (.int .i64 m)
  s : ∃ te pe, w.cell? ⟨2, 0, none⟩ = some (.iface te pe)
  r : ∃ te pe, w.cell? ⟨3, 0, none⟩ = some (.iface te pe)
theorem Env.below {w w' : World} (h : Env w) (hb : Below w.heap.size w w') : Env w' := by
  obtain ⟨m, hm⟩ := h.m
  obtain ⟨t1, p1, h1⟩ := h.s
  obtain ⟨t2, p2, h2⟩ := h.r
  exact ⟨⟨m, (hb.cell (by exact World.block_lt_of_cell? w _ hm)).trans hm⟩, ⟨t1, p1, (hb.cell (by exact World.block_lt_of_cell? w _ h1)).trans h1⟩, ⟨t2, p2, (hb.cell (by exact World.block_lt_of_cell? w _ h2)).trans h2⟩⟩
theorem wds_small (s : List UInt8) : (wds s).1.length ≤ s.length ∧ (wds s).2.1.length ≤ s.length ∧ (wds s).2.2.1.length ≤ s.length := by
  have g1 := cut_small s 95
  have g2 := cut_small (Lib.cut s [95]).2.1 95
  have g3 := cut_small (Lib.cut (Lib.cut s [95]).2.1 [95]).2.1 46
  unfold wds
  simp only
  omega
theorem tl_eq {u v : ByteArray} (h : u.toList = v.toList) : u = v := ba_eq (by rw [← ByteArray.toList_eq, ← ByteArray.toList_eq, h])
def fvVal (f : FV) : Value := .agg #[.int .i64 (f.1 : Int), .int .i64 (f.2.1 : Int), .int .i64 (f.2.2.1 : Int), .bool f.2.2.2]
def fvZero : Value := .agg #[.int .i64 0, .int .i64 0, .int .i64 0, .bool false]
set_option maxHeartbeats 4000000 in
set_option maxRecDepth 100000 in
set_option linter.unusedSimpArgs false in
/-- ReadName -/
theorem readName_no (s : ByteArray) (hs : s.size ≤ 4294967280) (w : World) (he : Env w) (h : isVal (av (wds s.data.toList).1) (av (wds s.data.toList).2.1) (av (wds s.data.toList).2.2.1) = false) :
    Calls Tryd.prog 7 #[.string s] w fun x w' => x = .returned (.tuple #[fvZero, .int .i64 63]) ∧ Below w.heap.size w w' := by
  have hz := wds_small s.data.toList
  rw [size_data] at hz
  have C := hide (fun w' (hb : Below w.heap.size w w') => by
    obtain ⟨m, hm⟩ := (he.below hb).m
    exact cutN_any s m w' (by omega) hm)
  have F : Hid (∀ w', Below w.heap.size w w' → Calls Tryd.prog 14 #[.agg #[.string (strOf (wds s.data.toList).1), .string (strOf (wds s.data.toList).2.1), .string (strOf (wds s.data.toList).2.2.1), .string (strOf (wds s.data.toList).2.2.2)]] w' fun x w'' => x = .returned (.agg #[.int .i64 (av (wds s.data.toList).1), .int .i64 (av (wds s.data.toList).2.1), .int .i64 (av (wds s.data.toList).2.2.1), .bool (decide ((wds s.data.toList).2.2.2 = dataW))]) ∧ Below w'.heap.size w' w'') := fun w' hb => by
    obtain ⟨t1, p1, h1⟩ := (he.below hb).s
    obtain ⟨t2, p2, h2⟩ := (he.below hb).r
    exact file_any (strOf (wds s.data.toList).1) (strOf (wds s.data.toList).2.1) (strOf (wds s.data.toList).2.2.1) (strOf (wds s.data.toList).2.2.2) (by rw [strOf_size]; omega) (by rw [strOf_size]; omega) (by rw [strOf_size]; omega) _ _ w' h1 h2 ⟨_, _, rfl⟩ ⟨_, _, rfl⟩
  have M := hide (fun w' D => mayBe_any (av (wds s.data.toList).1) (av (wds s.data.toList).2.1) (av (wds s.data.toList).2.2.1) D w')
  rw [h] at M
  generalize av (wds s.data.toList).1 = V1 at *
  generalize av (wds s.data.toList).2.1 = V2 at *
  generalize av (wds s.data.toList).2.2.1 = V3 at *
  obtain ⟨D, hD⟩ : ∃ D : Bool, D = decide ((wds s.data.toList).2.2.2 = dataW) := ⟨_, rfl⟩
  rw [← hD] at F
  clear hD
  generalize strOf (wds s.data.toList).1 = X1 at *
  generalize strOf (wds s.data.toList).2.1 = X2 at *
  generalize strOf (wds s.data.toList).2.2.1 = X3 at *
  generalize strOf (wds s.data.toList).2.2.2 = X4 at *
  obtain ⟨W0, hW0⟩ : ∃ W0, W0 = w.alloc (.cells #[.int .i64 0, .int .i64 0, .int .i64 0, .bool false] 23) := ⟨_, rfl⟩
  have B0 : Hid (Below w.heap.size w W0) := by rw [hW0]; exact (Below.refl _ w).alloc (Nat.le_refl _) _
  have s0 : w.heap.size < W0.heap.size := by rw [hW0]; simp
  have km : Hid (∀ w', Below W0.heap.size W0 w' → w'.cell? ⟨w.heap.size, 0, none⟩ = some (.int .i64 0) ∧ w'.cell? ⟨w.heap.size, 1, none⟩ = some (.int .i64 0) ∧ w'.cell? ⟨w.heap.size, 2, none⟩ = some (.int .i64 0) ∧ w'.cell? ⟨w.heap.size, 3, none⟩ = some (.bool false) ∧ w'.frozen? ⟨w.heap.size, 0, none⟩ = false ∧ w'.frozen? ⟨w.heap.size, 1, none⟩ = false ∧ w'.frozen? ⟨w.heap.size, 2, none⟩ = false ∧ w'.frozen? ⟨w.heap.size, 3, none⟩ = false) := fun w' hb => by
    rw [hb.cell (by exact s0), hb.cell (by exact s0), hb.cell (by exact s0), hb.cell (by exact s0), hb.frozen (by exact s0), hb.frozen (by exact s0), hb.frozen (by exact s0), hb.frozen (by exact s0), hW0]
    exact ⟨by simp, by simp, by simp, by simp, by simp, by simp, by simp, by simp⟩
  unfold fvZero
  clear hz he h
  go_enter Tryd.func7, Tryd.ntmps7
  go_wp2_with fail
  rw [← hW0]
  clear hW0
  refine Calls.mono (C.out _ B0.out) ?_
  rintro x w1 ⟨rfl, b1⟩
  have B1 := hide (B0.out.trans (b1.mono B0.out.size))
  have R1 := hide b1
  clear b1
  go_wp2_with fail
  obtain ⟨W2, hW2⟩ : ∃ W2, W2 = w1.alloc (.cells #[.string X1, .string X2, .string X3, .string X4] 37) := ⟨_, rfl⟩
  have r2 : Below w1.heap.size w1 W2 := by rw [hW2]; exact (Below.refl _ w1).alloc (Nat.le_refl _) _
  have s2 : w1.heap.size < W2.heap.size := by rw [hW2]; simp
  have B2 := hide (B1.out.trans (r2.mono B1.out.size))
  have R2 := hide (R1.out.trans (r2.mono R1.out.size))
  have kt : Hid (∀ w', Below W2.heap.size W2 w' → w'.cell? ⟨w1.heap.size, 0, none⟩ = some (.string X1) ∧ w'.cell? ⟨w1.heap.size, 1, none⟩ = some (.string X2) ∧ w'.cell? ⟨w1.heap.size, 2, none⟩ = some (.string X3) ∧ w'.cell? ⟨w1.heap.size, 3, none⟩ = some (.string X4)) := fun w' hb => by
    rw [hb.cell (by exact s2), hb.cell (by exact s2), hb.cell (by exact s2), hb.cell (by exact s2), hW2]
    exact ⟨by simp, by simp, by simp, by simp⟩
  rw [← hW2]
  clear hW2 r2
  refine Calls.mono (F.out _ B2.out) ?_
  rintro x w3 ⟨rfl, b3⟩
  have B3 := hide (B2.out.trans (b3.mono B2.out.size))
  have R3 := hide (R2.out.trans (b3.mono R2.out.size))
  have T3 := hide b3
  clear b3
  go_wp2_with fail
  obtain ⟨W4, hW4⟩ : ∃ W4, W4 = w3.alloc (.cells #[.int .i64 V1, .int .i64 V2, .int .i64 V3, .bool D] 23) := ⟨_, rfl⟩
  have r4 : Below w3.heap.size w3 W4 := by rw [hW4]; exact (Below.refl _ w3).alloc (Nat.le_refl _) _
  have s4 : w3.heap.size < W4.heap.size := by rw [hW4]; simp
  have B4 := hide (B3.out.trans (r4.mono B3.out.size))
  have R4 := hide (R3.out.trans (r4.mono R3.out.size))
  have T4 := hide (T3.out.trans (r4.mono T3.out.size))
  have kf : Hid (∀ w', Below W4.heap.size W4 w' → w'.cell? ⟨w3.heap.size, 0, none⟩ = some (.int .i64 V1) ∧ w'.cell? ⟨w3.heap.size, 1, none⟩ = some (.int .i64 V2) ∧ w'.cell? ⟨w3.heap.size, 2, none⟩ = some (.int .i64 V3) ∧ w'.cell? ⟨w3.heap.size, 3, none⟩ = some (.bool D)) := fun w' hb => by
    rw [hb.cell (by exact s4), hb.cell (by exact s4), hb.cell (by exact s4), hb.cell (by exact s4), hW4]
    exact ⟨by simp, by simp, by simp, by simp⟩
  rw [← hW4]
  clear hW4 r4
  have KA : Hid (∀ w', Below W4.heap.size W4 w' → w'.cell? ⟨w3.heap.size, 0, none⟩ = some (.int .i64 V1) ∧ w'.cell? ⟨w3.heap.size, 1, none⟩ = some (.int .i64 V2) ∧ w'.cell? ⟨w3.heap.size, 2, none⟩ = some (.int .i64 V3) ∧ w'.cell? ⟨w3.heap.size, 3, none⟩ = some (.bool D) ∧ w'.cell? ⟨w1.heap.size, 0, none⟩ = some (.string X1) ∧ w'.cell? ⟨w1.heap.size, 1, none⟩ = some (.string X2) ∧ w'.cell? ⟨w1.heap.size, 2, none⟩ = some (.string X3) ∧ w'.cell? ⟨w1.heap.size, 3, none⟩ = some (.string X4)) := fun w' hb => by
    obtain ⟨a0, a1, a2, a3⟩ := kf.out w' hb
    obtain ⟨c0, c1, c2, c3⟩ := kt.out w' (T4.out.trans (hb.mono T4.out.size))
    exact ⟨a0, a1, a2, a3, c0, c1, c2, c3⟩
  have BW := hide (Below.refl W4.heap.size W4).drew
  refine wp_region_held_drew (S := fun w' => w'.cell? ⟨w3.heap.size, 0, none⟩ = some (.int .i64 V1) ∧ w'.cell? ⟨w3.heap.size, 1, none⟩ = some (.int .i64 V2) ∧ w'.cell? ⟨w3.heap.size, 2, none⟩ = some (.int .i64 V3) ∧ w'.cell? ⟨w3.heap.size, 3, none⟩ = some (.bool D) ∧ w'.cell? ⟨w1.heap.size, 0, none⟩ = some (.string X1) ∧ w'.cell? ⟨w1.heap.size, 1, none⟩ = some (.string X2) ∧ w'.cell? ⟨w1.heap.size, 2, none⟩ = some (.string X3) ∧ w'.cell? ⟨w1.heap.size, 3, none⟩ = some (.string X4)) (by kernel_rfl) (KA.out _ BW.out) (fun hHeld => ?_)
  refine wpAnyH_take (i := 0) (v := (.agg #[.int .i64 V1, .int .i64 V2, .int .i64 V3, .bool D])) rfl (by kernel_rfl) (by kernel_rfl) (by kernel_rfl) (fun _ _ _ h => h) (Or.inl ⟨by rfl, ?_⟩) (by assumption) ?_
  · intro w' hSw
    (try dsimp only at hSw)
    (obtain ⟨hS1, hS2, hS3, hS4, hS5, hS6, hS7, hS8⟩ := hSw; go_simp)
  (try simp only [Act.put, List.setIfInBounds_toArray, List.set_cons_zero, List.set_cons_succ])
  refine wpAnyH_ready (rs := [1]) (by kernel_rfl) (by simp) ?_
  refine AllReadyH.cons rfl (fun K hK => ?_) AllReadyH.nil
  go_simp
  refine Calls.mono (M.out _ _) ?_
  rintro x w5 ⟨rfl, b5⟩
  have B5 := hide (BW.out.trans (b5.mono BW.out.size))
  clear b5
  refine hK.out _ _ (KA.out _ B5.out) (fun hHeld => ?_)
  clear hK
  (try simp only [Act.put, List.setIfInBounds_toArray, List.set_cons_zero, List.set_cons_succ])
  refine wpAnyH_take (i := 2) (v := (.bool true)) rfl (by kernel_rfl) (by kernel_rfl) (by kernel_rfl) (fun _ _ _ h => h) (Or.inl ⟨by rfl, ?_⟩) (by assumption) ?_
  · intro w' hSw
    (try dsimp only at hSw)
    go_simp <;> first | exact i64_in (by omega) (by omega) | exact u32_in (by omega) (by omega) | exact u32_add _ _ | (rw [Int.tmod_eq_emod_of_nonneg (by omega)]; omega) | (rw [Int.tdiv_eq_ediv_of_nonneg (by omega)]; omega) | omega
  (try simp only [Act.put, List.setIfInBounds_toArray, List.set_cons_zero, List.set_cons_succ])
  refine wpAnyH_take (i := 3) (v := (.bool true)) rfl (by kernel_rfl) (by kernel_rfl) (by kernel_rfl) (fun _ _ _ h => h) (Or.inl ⟨by rfl, ?_⟩) (by assumption) ?_
  · intro w' hSw
    (try dsimp only at hSw)
    go_simp <;> first | exact i64_in (by omega) (by omega) | exact u32_in (by omega) (by omega) | exact u32_add _ _ | (rw [Int.tmod_eq_emod_of_nonneg (by omega)]; omega) | (rw [Int.tdiv_eq_ediv_of_nonneg (by omega)]; omega) | omega
  (try simp only [Act.put, List.setIfInBounds_toArray, List.set_cons_zero, List.set_cons_succ])
  refine wpAnyH_take (i := 4) (v := undef) rfl (by kernel_rfl) (by kernel_rfl) (by kernel_rfl) (fun _ _ _ h => h) (Or.inr ⟨by kernel_rfl, rfl⟩) (by assumption) ?_
  (try simp only [Act.put, List.setIfInBounds_toArray, List.set_cons_zero, List.set_cons_succ])
  refine wpAnyH_take (i := 5) (v := undef) rfl (by kernel_rfl) (by kernel_rfl) (by kernel_rfl) (fun _ _ _ h => h) (Or.inr ⟨by kernel_rfl, rfl⟩) (by assumption) ?_
  (try simp only [Act.put, List.setIfInBounds_toArray, List.set_cons_zero, List.set_cons_succ])
  refine wpAnyH_take (i := 6) (v := undef) rfl (by kernel_rfl) (by kernel_rfl) (by kernel_rfl) (fun _ _ _ h => h) (Or.inr ⟨by kernel_rfl, rfl⟩) (by assumption) ?_
  (try simp only [Act.put, List.setIfInBounds_toArray, List.set_cons_zero, List.set_cons_succ])
  refine wpAnyH_take (i := 7) (v := undef) rfl (by kernel_rfl) (by kernel_rfl) (by kernel_rfl) (fun _ _ _ h => h) (Or.inr ⟨by kernel_rfl, rfl⟩) (by assumption) ?_
  (try simp only [Act.put, List.setIfInBounds_toArray, List.set_cons_zero, List.set_cons_succ])
  refine wpAnyH_take (i := 8) (v := (.bool true)) rfl (by kernel_rfl) (by kernel_rfl) (by kernel_rfl) (fun _ _ _ h => h) (Or.inl ⟨by rfl, ?_⟩) (by assumption) ?_
  · intro w' hSw
    (try dsimp only at hSw)
    go_simp <;> first | exact i64_in (by omega) (by omega) | exact u32_in (by omega) (by omega) | exact u32_add _ _ | (rw [Int.tmod_eq_emod_of_nonneg (by omega)]; omega) | (rw [Int.tdiv_eq_ediv_of_nonneg (by omega)]; omega) | omega
  (try simp only [Act.put, List.setIfInBounds_toArray, List.set_cons_zero, List.set_cons_succ])
  refine wpAnyH_done (by kernel_rfl) ?_ _
  clear hHeld
  have R5 := hide (R4.out.trans (B5.out.mono R4.out.size))
  have G5 := hide (B4.out.trans (B5.out.mono B4.out.size))
  obtain ⟨j0, j1, j2, j3, f0, f1, f2, f3⟩ := km.out _ R5.out
  go_wp2_with fail
  refine bodyPost_ret (v := .tuple #[.agg #[.int .i64 0, .int .i64 0, .int .i64 0, .bool false], .int .i64 63]) (by simp [results, Tryd.results7, go_sem, j0, j1, j2, j3]) rfl ⟨rfl, ?_⟩
  exact (((G5.out.setCell (Nat.le_refl _) _).setCell (Nat.le_refl _) _).setCell (Nat.le_refl _) _).setCell (Nat.le_refl _) _

set_option maxHeartbeats 4000000 in
set_option maxRecDepth 100000 in
set_option linter.unusedSimpArgs false in
theorem readName_yes (s : ByteArray) (hs : s.size ≤ 4294967280) (w : World) (he : Env w) (p r c : Nat) (hp : p < 64) (hr : r < 16) (hc : c < 16) (D : Bool) (hD : D = decide ((wds s.data.toList).2.2.2 = dataW)) (a1 : av (wds s.data.toList).1 = (p : Int)) (a2 : av (wds s.data.toList).2.1 = (r : Int)) (a3 : av (wds s.data.toList).2.2.1 = (c : Int)) :
    Calls Tryd.prog 7 #[.string s] w fun x w' => x = .returned (if strOf (dd p) = strOf (wds s.data.toList).1 ∧ strOf (dd r) = strOf (wds s.data.toList).2.1 ∧ strOf (dd c) = strOf (wds s.data.toList).2.2.1 ∧ strOf (endW D) = strOf (wds s.data.toList).2.2.2 then .tuple #[fvVal (p, r, c, D), .int .i64 0] else .tuple #[fvZero, .int .i64 63]) ∧ Below w.heap.size w w' := by
  have hz := wds_small s.data.toList
  rw [size_data] at hz
  have C := hide (fun w' (hb : Below w.heap.size w w') => by
    obtain ⟨m, hm⟩ := (he.below hb).m
    exact cutN_any s m w' (by omega) hm)
  have F : Hid (∀ w', Below w.heap.size w w' → Calls Tryd.prog 14 #[.agg #[.string (strOf (wds s.data.toList).1), .string (strOf (wds s.data.toList).2.1), .string (strOf (wds s.data.toList).2.2.1), .string (strOf (wds s.data.toList).2.2.2)]] w' fun x w'' => x = .returned (.agg #[.int .i64 (av (wds s.data.toList).1), .int .i64 (av (wds s.data.toList).2.1), .int .i64 (av (wds s.data.toList).2.2.1), .bool (decide ((wds s.data.toList).2.2.2 = dataW))]) ∧ Below w'.heap.size w' w'') := fun w' hb => by
    obtain ⟨t1, p1, h1⟩ := (he.below hb).s
    obtain ⟨t2, p2, h2⟩ := (he.below hb).r
    exact file_any (strOf (wds s.data.toList).1) (strOf (wds s.data.toList).2.1) (strOf (wds s.data.toList).2.2.1) (strOf (wds s.data.toList).2.2.2) (by rw [strOf_size]; omega) (by rw [strOf_size]; omega) (by rw [strOf_size]; omega) _ _ w' h1 h2 ⟨_, _, rfl⟩ ⟨_, _, rfl⟩
  have M := hide (fun w' D => mayBe_any (av (wds s.data.toList).1) (av (wds s.data.toList).2.1) (av (wds s.data.toList).2.2.1) D w')
  have h : isVal (p : Int) (r : Int) (c : Int) = true := decide_eq_true (by omega)
  rw [a1, a2, a3] at F M
  rw [h] at M
  rw [← hD] at F
  have T := hide (fun w' => titleOf_any p r c D (by omega) (by omega) (by omega) w')
  obtain ⟨V1, hV1⟩ : ∃ V1 : Int, V1 = (p : Int) := ⟨_, rfl⟩
  obtain ⟨V2, hV2⟩ : ∃ V2 : Int, V2 = (r : Int) := ⟨_, rfl⟩
  obtain ⟨V3, hV3⟩ : ∃ V3 : Int, V3 = (c : Int) := ⟨_, rfl⟩
  unfold fvVal
  simp only
  rw [← hV1, ← hV2, ← hV3] at F M T ⊢
  clear hV1 hV2 hV3 a1 a2 a3 hD
  generalize strOf (dd p) = Z1 at *
  generalize strOf (dd r) = Z2 at *
  generalize strOf (dd c) = Z3 at *
  generalize strOf (endW D) = Z4 at *
  generalize strOf (wds s.data.toList).1 = X1 at *
  generalize strOf (wds s.data.toList).2.1 = X2 at *
  generalize strOf (wds s.data.toList).2.2.1 = X3 at *
  generalize strOf (wds s.data.toList).2.2.2 = X4 at *
  obtain ⟨W0, hW0⟩ : ∃ W0, W0 = w.alloc (.cells #[.int .i64 0, .int .i64 0, .int .i64 0, .bool false] 23) := ⟨_, rfl⟩
  have B0 : Hid (Below w.heap.size w W0) := by rw [hW0]; exact (Below.refl _ w).alloc (Nat.le_refl _) _
  have s0 : w.heap.size < W0.heap.size := by rw [hW0]; simp
  have km : Hid (∀ w', Below W0.heap.size W0 w' → w'.cell? ⟨w.heap.size, 0, none⟩ = some (.int .i64 0) ∧ w'.cell? ⟨w.heap.size, 1, none⟩ = some (.int .i64 0) ∧ w'.cell? ⟨w.heap.size, 2, none⟩ = some (.int .i64 0) ∧ w'.cell? ⟨w.heap.size, 3, none⟩ = some (.bool false) ∧ w'.frozen? ⟨w.heap.size, 0, none⟩ = false ∧ w'.frozen? ⟨w.heap.size, 1, none⟩ = false ∧ w'.frozen? ⟨w.heap.size, 2, none⟩ = false ∧ w'.frozen? ⟨w.heap.size, 3, none⟩ = false) := fun w' hb => by
    rw [hb.cell (by exact s0), hb.cell (by exact s0), hb.cell (by exact s0), hb.cell (by exact s0), hb.frozen (by exact s0), hb.frozen (by exact s0), hb.frozen (by exact s0), hb.frozen (by exact s0), hW0]
    exact ⟨by simp, by simp, by simp, by simp, by simp, by simp, by simp, by simp⟩
  unfold fvZero
  clear hz he h
  go_enter Tryd.func7, Tryd.ntmps7
  go_wp2_with fail
  rw [← hW0]
  clear hW0
  refine Calls.mono (C.out _ B0.out) ?_
  rintro x w1 ⟨rfl, b1⟩
  have B1 := hide (B0.out.trans (b1.mono B0.out.size))
  have R1 := hide b1
  clear b1
  go_wp2_with fail
  obtain ⟨W2, hW2⟩ : ∃ W2, W2 = w1.alloc (.cells #[.string X1, .string X2, .string X3, .string X4] 37) := ⟨_, rfl⟩
  have r2 : Below w1.heap.size w1 W2 := by rw [hW2]; exact (Below.refl _ w1).alloc (Nat.le_refl _) _
  have s2 : w1.heap.size < W2.heap.size := by rw [hW2]; simp
  have B2 := hide (B1.out.trans (r2.mono B1.out.size))
  have R2 := hide (R1.out.trans (r2.mono R1.out.size))
  have kt : Hid (∀ w', Below W2.heap.size W2 w' → w'.cell? ⟨w1.heap.size, 0, none⟩ = some (.string X1) ∧ w'.cell? ⟨w1.heap.size, 1, none⟩ = some (.string X2) ∧ w'.cell? ⟨w1.heap.size, 2, none⟩ = some (.string X3) ∧ w'.cell? ⟨w1.heap.size, 3, none⟩ = some (.string X4)) := fun w' hb => by
    rw [hb.cell (by exact s2), hb.cell (by exact s2), hb.cell (by exact s2), hb.cell (by exact s2), hW2]
    exact ⟨by simp, by simp, by simp, by simp⟩
  rw [← hW2]
  clear hW2 r2
  refine Calls.mono (F.out _ B2.out) ?_
  rintro x w3 ⟨rfl, b3⟩
  have B3 := hide (B2.out.trans (b3.mono B2.out.size))
  have R3 := hide (R2.out.trans (b3.mono R2.out.size))
  have T3 := hide b3
  clear b3
  go_wp2_with fail
  obtain ⟨W4, hW4⟩ : ∃ W4, W4 = w3.alloc (.cells #[.int .i64 V1, .int .i64 V2, .int .i64 V3, .bool D] 23) := ⟨_, rfl⟩
  have r4 : Below w3.heap.size w3 W4 := by rw [hW4]; exact (Below.refl _ w3).alloc (Nat.le_refl _) _
  have s4 : w3.heap.size < W4.heap.size := by rw [hW4]; simp
  have B4 := hide (B3.out.trans (r4.mono B3.out.size))
  have R4 := hide (R3.out.trans (r4.mono R3.out.size))
  have T4 := hide (T3.out.trans (r4.mono T3.out.size))
  have kf : Hid (∀ w', Below W4.heap.size W4 w' → w'.cell? ⟨w3.heap.size, 0, none⟩ = some (.int .i64 V1) ∧ w'.cell? ⟨w3.heap.size, 1, none⟩ = some (.int .i64 V2) ∧ w'.cell? ⟨w3.heap.size, 2, none⟩ = some (.int .i64 V3) ∧ w'.cell? ⟨w3.heap.size, 3, none⟩ = some (.bool D)) := fun w' hb => by
    rw [hb.cell (by exact s4), hb.cell (by exact s4), hb.cell (by exact s4), hb.cell (by exact s4), hW4]
    exact ⟨by simp, by simp, by simp, by simp⟩
  rw [← hW4]
  clear hW4 r4
  have KA : Hid (∀ w', Below W4.heap.size W4 w' → w'.cell? ⟨w3.heap.size, 0, none⟩ = some (.int .i64 V1) ∧ w'.cell? ⟨w3.heap.size, 1, none⟩ = some (.int .i64 V2) ∧ w'.cell? ⟨w3.heap.size, 2, none⟩ = some (.int .i64 V3) ∧ w'.cell? ⟨w3.heap.size, 3, none⟩ = some (.bool D) ∧ w'.cell? ⟨w1.heap.size, 0, none⟩ = some (.string X1) ∧ w'.cell? ⟨w1.heap.size, 1, none⟩ = some (.string X2) ∧ w'.cell? ⟨w1.heap.size, 2, none⟩ = some (.string X3) ∧ w'.cell? ⟨w1.heap.size, 3, none⟩ = some (.string X4)) := fun w' hb => by
    obtain ⟨a0, a1, a2, a3⟩ := kf.out w' hb
    obtain ⟨c0, c1, c2, c3⟩ := kt.out w' (T4.out.trans (hb.mono T4.out.size))
    exact ⟨a0, a1, a2, a3, c0, c1, c2, c3⟩
  have BW := hide (Below.refl W4.heap.size W4).drew
  refine wp_region_held_drew (S := fun w' => w'.cell? ⟨w3.heap.size, 0, none⟩ = some (.int .i64 V1) ∧ w'.cell? ⟨w3.heap.size, 1, none⟩ = some (.int .i64 V2) ∧ w'.cell? ⟨w3.heap.size, 2, none⟩ = some (.int .i64 V3) ∧ w'.cell? ⟨w3.heap.size, 3, none⟩ = some (.bool D) ∧ w'.cell? ⟨w1.heap.size, 0, none⟩ = some (.string X1) ∧ w'.cell? ⟨w1.heap.size, 1, none⟩ = some (.string X2) ∧ w'.cell? ⟨w1.heap.size, 2, none⟩ = some (.string X3) ∧ w'.cell? ⟨w1.heap.size, 3, none⟩ = some (.string X4)) (by kernel_rfl) (KA.out _ BW.out) (fun hHeld => ?_)
  refine wpAnyH_take (i := 0) (v := (.agg #[.int .i64 V1, .int .i64 V2, .int .i64 V3, .bool D])) rfl (by kernel_rfl) (by kernel_rfl) (by kernel_rfl) (fun _ _ _ h => h) (Or.inl ⟨by rfl, ?_⟩) (by assumption) ?_
  · intro w' hSw
    (try dsimp only at hSw)
    (obtain ⟨hS1, hS2, hS3, hS4, hS5, hS6, hS7, hS8⟩ := hSw; go_simp)
  (try simp only [Act.put, List.setIfInBounds_toArray, List.set_cons_zero, List.set_cons_succ])
  refine wpAnyH_ready (rs := [1]) (by kernel_rfl) (by simp) ?_
  refine AllReadyH.cons rfl (fun K hK => ?_) AllReadyH.nil
  go_simp
  refine Calls.mono (M.out _ _) ?_
  rintro x w5 ⟨rfl, b5⟩
  have B5 := hide (BW.out.trans (b5.mono BW.out.size))
  clear b5
  refine hK.out _ _ (KA.out _ B5.out) (fun hHeld => ?_)
  clear hK
  (try simp only [Act.put, List.setIfInBounds_toArray, List.set_cons_zero, List.set_cons_succ])
  refine wpAnyH_take (i := 2) (v := (.bool false)) rfl (by kernel_rfl) (by kernel_rfl) (by kernel_rfl) (fun _ _ _ h => h) (Or.inl ⟨by rfl, ?_⟩) (by assumption) ?_
  · intro w' hSw
    (try dsimp only at hSw)
    go_simp <;> first | exact i64_in (by omega) (by omega) | exact u32_in (by omega) (by omega) | exact u32_add _ _ | (rw [Int.tmod_eq_emod_of_nonneg (by omega)]; omega) | (rw [Int.tdiv_eq_ediv_of_nonneg (by omega)]; omega) | omega
  (try simp only [Act.put, List.setIfInBounds_toArray, List.set_cons_zero, List.set_cons_succ])
  refine wpAnyH_take (i := 3) (v := (.bool false)) rfl (by kernel_rfl) (by kernel_rfl) (by kernel_rfl) (fun _ _ _ h => h) (Or.inl ⟨by rfl, ?_⟩) (by assumption) ?_
  · intro w' hSw
    (try dsimp only at hSw)
    go_simp <;> first | exact i64_in (by omega) (by omega) | exact u32_in (by omega) (by omega) | exact u32_add _ _ | (rw [Int.tmod_eq_emod_of_nonneg (by omega)]; omega) | (rw [Int.tdiv_eq_ediv_of_nonneg (by omega)]; omega) | omega
  (try simp only [Act.put, List.setIfInBounds_toArray, List.set_cons_zero, List.set_cons_succ])
  refine wpAnyH_take (i := 4) (v := (.agg #[.int .i64 V1, .int .i64 V2, .int .i64 V3, .bool D])) rfl (by kernel_rfl) (by kernel_rfl) (by kernel_rfl) (fun _ _ _ h => h) (Or.inl ⟨by kernel_rfl, ?_⟩) (by assumption) ?_
  · intro w' hSw
    (try dsimp only at hSw)
    (obtain ⟨hS1, hS2, hS3, hS4, hS5, hS6, hS7, hS8⟩ := hSw; go_simp)
  (try simp only [Act.put, List.setIfInBounds_toArray, List.set_cons_zero, List.set_cons_succ])
  refine wpAnyH_take (i := 6) (v := (.agg #[.string X1, .string X2, .string X3, .string X4])) rfl (by kernel_rfl) (by kernel_rfl) (by kernel_rfl) (fun _ _ _ h => h) (Or.inl ⟨by kernel_rfl, ?_⟩) (by assumption) ?_
  · intro w' hSw
    (try dsimp only at hSw)
    (obtain ⟨hS1, hS2, hS3, hS4, hS5, hS6, hS7, hS8⟩ := hSw; go_simp)
  (try simp only [Act.put, List.setIfInBounds_toArray, List.set_cons_zero, List.set_cons_succ])
  refine wpAnyH_ready (rs := [5]) (by kernel_rfl) (by simp) ?_
  refine AllReadyH.cons rfl (fun K hK => ?_) AllReadyH.nil
  go_simp
  refine Calls.mono (T.out _) ?_
  rintro x w6 ⟨rfl, b6⟩
  have B6 := hide (B5.out.trans (b6.mono B5.out.size))
  clear b6
  refine hK.out _ _ (KA.out _ B6.out) (fun hHeld => ?_)
  clear hK
  (try simp only [Act.put, List.setIfInBounds_toArray, List.set_cons_zero, List.set_cons_succ])
  by_cases hq : Z1 = X1 ∧ Z2 = X2 ∧ Z3 = X3 ∧ Z4 = X4
  case pos =>
    refine wpAnyH_take (i := 7) (v := (.bool false)) rfl (by kernel_rfl) (by kernel_rfl) (by kernel_rfl) (fun _ _ _ h => h) (Or.inl ⟨by kernel_rfl, ?_⟩) (by assumption) ?_
    · intro w' hSw
      (try dsimp only at hSw)
      go_simp
    (try simp only [Act.put, List.setIfInBounds_toArray, List.set_cons_zero, List.set_cons_succ])
    refine wpAnyH_take (i := 8) (v := (.bool false)) rfl (by kernel_rfl) (by kernel_rfl) (by kernel_rfl) (fun _ _ _ h => h) (Or.inl ⟨by rfl, ?_⟩) (by assumption) ?_
    · intro w' hSw
      (try dsimp only at hSw)
      go_simp <;> first | exact i64_in (by omega) (by omega) | exact u32_in (by omega) (by omega) | exact u32_add _ _ | (rw [Int.tmod_eq_emod_of_nonneg (by omega)]; omega) | (rw [Int.tdiv_eq_ediv_of_nonneg (by omega)]; omega) | omega
    (try simp only [Act.put, List.setIfInBounds_toArray, List.set_cons_zero, List.set_cons_succ])
    refine wpAnyH_done (by kernel_rfl) ?_ _
    clear hHeld
    have R5 := hide (R4.out.trans (B6.out.mono R4.out.size))
    have G5 := hide (B4.out.trans (B6.out.mono B4.out.size))
    obtain ⟨j0, j1, j2, j3, f0, f1, f2, f3⟩ := km.out _ R5.out
    obtain ⟨q0, q1, q2, q3, _⟩ := KA.out _ B6.out
    go_wp2_with fail
    refine bodyPost_ret (v := .tuple #[.agg #[.int .i64 V1, .int .i64 V2, .int .i64 V3, .bool D], .int .i64 0]) (by simp [results, Tryd.results7, go_sem, j0, j1, j2, j3]) rfl ⟨by first | rfl | (rw [if_pos hq]; rfl), ?_⟩
    exact (((G5.out.setCell (Nat.le_refl _) _).setCell (Nat.le_refl _) _).setCell (Nat.le_refl _) _).setCell (Nat.le_refl _) _
  case neg =>
    refine wpAnyH_take (i := 7) (v := (.bool true)) rfl (by kernel_rfl) (by kernel_rfl) (by kernel_rfl) (fun _ _ _ h => h) (Or.inl ⟨by kernel_rfl, ?_⟩) (by assumption) ?_
    · intro w' hSw
      (try dsimp only at hSw)
      (go_simp; intro g1 g2 g3 g4; exact hq ⟨tl_eq g1, tl_eq g2, tl_eq g3, tl_eq g4⟩)
    (try simp only [Act.put, List.setIfInBounds_toArray, List.set_cons_zero, List.set_cons_succ])
    refine wpAnyH_take (i := 8) (v := (.bool true)) rfl (by kernel_rfl) (by kernel_rfl) (by kernel_rfl) (fun _ _ _ h => h) (Or.inl ⟨by rfl, ?_⟩) (by assumption) ?_
    · intro w' hSw
      (try dsimp only at hSw)
      go_simp <;> first | exact i64_in (by omega) (by omega) | exact u32_in (by omega) (by omega) | exact u32_add _ _ | (rw [Int.tmod_eq_emod_of_nonneg (by omega)]; omega) | (rw [Int.tdiv_eq_ediv_of_nonneg (by omega)]; omega) | omega
    (try simp only [Act.put, List.setIfInBounds_toArray, List.set_cons_zero, List.set_cons_succ])
    refine wpAnyH_done (by kernel_rfl) ?_ _
    clear hHeld
    have R5 := hide (R4.out.trans (B6.out.mono R4.out.size))
    have G5 := hide (B4.out.trans (B6.out.mono B4.out.size))
    obtain ⟨j0, j1, j2, j3, f0, f1, f2, f3⟩ := km.out _ R5.out
    obtain ⟨q0, q1, q2, q3, _⟩ := KA.out _ B6.out
    go_wp2_with fail
    refine bodyPost_ret (v := .tuple #[.agg #[.int .i64 0, .int .i64 0, .int .i64 0, .bool false], .int .i64 63]) (by simp [results, Tryd.results7, go_sem, j0, j1, j2, j3]) rfl ⟨by first | rfl | (rw [if_neg hq]; rfl), ?_⟩
    exact (((G5.out.setCell (Nat.le_refl _) _).setCell (Nat.le_refl _) _).setCell (Nat.le_refl _) _).setCell (Nat.le_refl _) _

end Go.Proofs.YtanceiiaecbknaaDoor
namespace Go.Proofs.YtanceiiaecbknaaDoor
open Go.RowKit Go.Shelf
theorem fnD_eq (p r c : Nat) : strOf (dd p) ++ us ++ strOf (dd r) ++ us ++ strOf (dd c) = strOf (dd p ++ 95 :: (dd r ++ 95 :: dd c)) := by
  apply ba_eq
  have e1 : us.data.toList = [95] := rfl
  simp only [ba_app, strOf_data, e1, List.append_assoc, List.cons_append, List.nil_append]
theorem fnE_eq (p r c : Nat) (d : Bool) : strOf (dd p) ++ us ++ strOf (dd r) ++ us ++ strOf (dd c) ++ strOf (46 :: endW d) = strOf (fnL (p, r, c, d)) := by
  apply ba_eq
  have e1 : us.data.toList = [95] := rfl
  unfold fnL
  simp only [ba_app, strOf_data, e1, List.append_assoc, List.cons_append, List.nil_append]
set_option maxHeartbeats 4000000 in
set_option maxRecDepth 100000 in
set_option linter.unusedSimpArgs false in
/-- the document's FileName -/
theorem rfileName_no (p r c : Int) (d : Bool) (w : World) (h : isVal p r c = false) :
    Calls Tryd.prog 5 #[.agg #[.int .i64 p, .int .i64 r, .int .i64 c, .bool d]] w fun x w' => x = .returned (.tuple #[.string ⟨#[]⟩, .int .i64 1]) ∧ Below w.heap.size w w' := by
  by_cases h1 : p < 0
  case pos =>
    go_enter Tryd.func5, Tryd.ntmps5
    go_wp2_with fail
    go_ret2
    exact ⟨rfl, (Below.refl _ _).alloc (Nat.le_refl _) _⟩
  case neg =>
  by_cases h2 : 64 ≤ p
  case pos =>
    go_enter Tryd.func5, Tryd.ntmps5
    go_wp2_with fail
    go_ret2
    exact ⟨rfl, (Below.refl _ _).alloc (Nat.le_refl _) _⟩
  case neg =>
  by_cases h3 : r < 0
  case pos =>
    go_enter Tryd.func5, Tryd.ntmps5
    go_wp2_with fail
    go_ret2
    exact ⟨rfl, (Below.refl _ _).alloc (Nat.le_refl _) _⟩
  case neg =>
  by_cases h4 : 16 ≤ r
  case pos =>
    go_enter Tryd.func5, Tryd.ntmps5
    go_wp2_with fail
    go_ret2
    exact ⟨rfl, (Below.refl _ _).alloc (Nat.le_refl _) _⟩
  case neg =>
  by_cases h5 : c < 0
  case pos =>
    go_enter Tryd.func5, Tryd.ntmps5
    go_wp2_with fail
    go_ret2
    exact ⟨rfl, (Below.refl _ _).alloc (Nat.le_refl _) _⟩
  case neg =>
  by_cases h6 : 16 ≤ c
  case pos =>
    go_enter Tryd.func5, Tryd.ntmps5
    go_wp2_with fail
    go_ret2
    exact ⟨rfl, (Below.refl _ _).alloc (Nat.le_refl _) _⟩
  case neg =>
  exact absurd h (by unfold isVal; rw [decide_eq_true (by omega)]; simp)
set_option maxHeartbeats 4000000 in
set_option maxRecDepth 100000 in
set_option linter.unusedSimpArgs false in
theorem rfileName_ok (p r c : Nat) (d : Bool) (w : World) (h : Val (p, r, c, d)) :
    Calls Tryd.prog 5 #[.agg #[.int .i64 (p : Int), .int .i64 (r : Int), .int .i64 (c : Int), .bool d]] w fun x w' => x = .returned (.tuple #[.string (strOf (fnL (p, r, c, d))), .int .i64 0]) ∧ Below w.heap.size w w' := by
  obtain ⟨h1, h2, h3⟩ := h
  simp only at h1 h2 h3
  have g1 : ¬ (p : Int) < 0 := by omega
  have g2 : ¬ (64 : Int) ≤ (p : Int) := by omega
  have g3 : ¬ (r : Int) < 0 := by omega
  have g4 : ¬ (16 : Int) ≤ (r : Int) := by omega
  have g5 : ¬ (c : Int) < 0 := by omega
  have g6 : ¬ (16 : Int) ≤ (c : Int) := by omega
  have I1 : Hid (∀ w', Calls Tryd.prog 12 #[.int .i64 (p : Int)] w' fun e w'' => e = .returned (.string (strOf (dd p))) ∧ w'' = w') := fun w' => Tryd.strconv_Itoa_small p (by omega) w'
  have I2 : Hid (∀ w', Calls Tryd.prog 12 #[.int .i64 (r : Int)] w' fun e w'' => e = .returned (.string (strOf (dd r))) ∧ w'' = w') := fun w' => Tryd.strconv_Itoa_small r (by omega) w'
  have I3 : Hid (∀ w', Calls Tryd.prog 12 #[.int .i64 (c : Int)] w' fun e w'' => e = .returned (.string (strOf (dd c))) ∧ w'' = w') := fun w' => Tryd.strconv_Itoa_small c (by omega) w'
  have z1 : (strOf (dd p)).size ≤ 2 := by rw [strOf_size]; exact dd_len h1
  have z2 : (strOf (dd r)).size ≤ 2 := by rw [strOf_size]; exact dd_len16 h2
  have z3 : (strOf (dd c)).size ≤ 2 := by rw [strOf_size]; exact dd_len16 h3
  have y1 : us.size = 1 := rfl
  have hus : (⟨#[95]⟩ : ByteArray) = us := rfl
  cases d with
  | true =>
    obtain ⟨W0, hW0⟩ : ∃ W0, W0 = w.alloc (.cells #[.int .i64 (p : Int), .int .i64 (r : Int), .int .i64 (c : Int), .bool true] 23) := ⟨_, rfl⟩
    have B0 : Hid (Below w.heap.size w W0) := by rw [hW0]; exact (Below.refl _ w).alloc (Nat.le_refl _) _
    have s0 : w.heap.size < W0.heap.size := by rw [hW0]; simp
    have Q0 : Hid (∀ w', Below W0.heap.size W0 w' → w'.cell? ⟨w.heap.size, 0, none⟩ = some (.int .i64 (p : Int)) ∧ w'.cell? ⟨w.heap.size, 1, none⟩ = some (.int .i64 (r : Int)) ∧ w'.cell? ⟨w.heap.size, 2, none⟩ = some (.int .i64 (c : Int)) ∧ w'.cell? ⟨w.heap.size, 3, none⟩ = some (.bool true)) := fun w' hb => by
      rw [hb.cell (by exact s0), hb.cell (by exact s0), hb.cell (by exact s0), hb.cell (by exact s0), hW0]
      exact ⟨by simp, by simp, by simp, by simp⟩
    rw [← fnE_eq]
    have e0 : strOf (46 :: endW true) = ⟨#[46, 100, 97, 116, 97]⟩ := rfl
    rw [e0]
    have y3 : (⟨#[46, 100, 97, 116, 97]⟩ : ByteArray).size ≤ 6 := by decide
    generalize strOf (dd p) = X1 at *
    generalize strOf (dd r) = X2 at *
    generalize strOf (dd c) = X3 at *
    go_enter Tryd.func5, Tryd.ntmps5
    go_wp2_with fail
    rw [← hW0]
    clear hW0
    have BW := hide (Below.refl W0.heap.size W0).drew
    refine wp_region_held_drew (S := fun w' => w'.cell? ⟨w.heap.size, 0, none⟩ = some (.int .i64 (p : Int)) ∧ w'.cell? ⟨w.heap.size, 1, none⟩ = some (.int .i64 (r : Int)) ∧ w'.cell? ⟨w.heap.size, 2, none⟩ = some (.int .i64 (c : Int)) ∧ w'.cell? ⟨w.heap.size, 3, none⟩ = some (.bool true)) (by kernel_rfl) (Q0.out _ BW.out) (fun hHeld => ?_)
    refine wpAnyH_take (i := 0) (v := (.pointer (some ⟨w.heap.size, 0, none⟩))) rfl (by kernel_rfl) (by kernel_rfl) (by kernel_rfl) (fun _ _ _ h => h) (Or.inl ⟨by rfl, ?_⟩) (by assumption) ?_
    · intro w' hSw
      (try dsimp only at hSw)
      go_simp <;> first | exact i64_in (by omega) (by omega) | exact u32_in (by omega) (by omega) | exact u32_add _ _ | (rw [Int.tmod_eq_emod_of_nonneg (by omega)]; omega) | (rw [Int.tdiv_eq_ediv_of_nonneg (by omega)]; omega) | omega
    (try simp only [Act.put, List.setIfInBounds_toArray, List.set_cons_zero, List.set_cons_succ])
    refine wpAnyH_take (i := 1) (v := (.int .i64 (p : Int))) rfl (by kernel_rfl) (by kernel_rfl) (by kernel_rfl) (fun _ _ _ h => h) (Or.inl ⟨by rfl, ?_⟩) (by assumption) ?_
    · intro w' hSw
      (try dsimp only at hSw)
      (obtain ⟨hS1, hS2, hS3, hS4⟩ := hSw; go_simp)
    (try simp only [Act.put, List.setIfInBounds_toArray, List.set_cons_zero, List.set_cons_succ])
    refine wpAnyH_take (i := 4) (v := (.pointer (some ⟨w.heap.size, 1, none⟩))) rfl (by kernel_rfl) (by kernel_rfl) (by kernel_rfl) (fun _ _ _ h => h) (Or.inl ⟨by rfl, ?_⟩) (by assumption) ?_
    · intro w' hSw
      (try dsimp only at hSw)
      go_simp <;> first | exact i64_in (by omega) (by omega) | exact u32_in (by omega) (by omega) | exact u32_add _ _ | (rw [Int.tmod_eq_emod_of_nonneg (by omega)]; omega) | (rw [Int.tdiv_eq_ediv_of_nonneg (by omega)]; omega) | omega
    (try simp only [Act.put, List.setIfInBounds_toArray, List.set_cons_zero, List.set_cons_succ])
    refine wpAnyH_take (i := 5) (v := (.int .i64 (r : Int))) rfl (by kernel_rfl) (by kernel_rfl) (by kernel_rfl) (fun _ _ _ h => h) (Or.inl ⟨by rfl, ?_⟩) (by assumption) ?_
    · intro w' hSw
      (try dsimp only at hSw)
      (obtain ⟨hS1, hS2, hS3, hS4⟩ := hSw; go_simp)
    (try simp only [Act.put, List.setIfInBounds_toArray, List.set_cons_zero, List.set_cons_succ])
    refine wpAnyH_take (i := 9) (v := (.pointer (some ⟨w.heap.size, 2, none⟩))) rfl (by kernel_rfl) (by kernel_rfl) (by kernel_rfl) (fun _ _ _ h => h) (Or.inl ⟨by rfl, ?_⟩) (by assumption) ?_
    · intro w' hSw
      (try dsimp only at hSw)
      go_simp <;> first | exact i64_in (by omega) (by omega) | exact u32_in (by omega) (by omega) | exact u32_add _ _ | (rw [Int.tmod_eq_emod_of_nonneg (by omega)]; omega) | (rw [Int.tdiv_eq_ediv_of_nonneg (by omega)]; omega) | omega
    (try simp only [Act.put, List.setIfInBounds_toArray, List.set_cons_zero, List.set_cons_succ])
    refine wpAnyH_take (i := 10) (v := (.int .i64 (c : Int))) rfl (by kernel_rfl) (by kernel_rfl) (by kernel_rfl) (fun _ _ _ h => h) (Or.inl ⟨by rfl, ?_⟩) (by assumption) ?_
    · intro w' hSw
      (try dsimp only at hSw)
      (obtain ⟨hS1, hS2, hS3, hS4⟩ := hSw; go_simp)
    (try simp only [Act.put, List.setIfInBounds_toArray, List.set_cons_zero, List.set_cons_succ])
    refine wpAnyH_ready (rs := [2]) (by kernel_rfl) (by simp) ?_
    refine AllReadyH.cons rfl (fun K hK => ?_) AllReadyH.nil
    go_simp
    refine Calls.mono (I1.out _) ?_
    rintro x w2 ⟨rfl, rfl⟩
    refine hK.out _ _ (Q0.out _ BW.out) (fun hHeld => ?_)
    clear hK
    (try simp only [Act.put, List.setIfInBounds_toArray, List.set_cons_zero, List.set_cons_succ])
    refine wpAnyH_take (i := 3) (v := (.string (X1 ++ us))) rfl (by kernel_rfl) (by kernel_rfl) (by kernel_rfl) (fun _ _ _ h => h) (Or.inl ⟨by rfl, ?_⟩) (by assumption) ?_
    · intro w' hSw
      (try dsimp only at hSw)
      (go_simp; first | omega | (rw [if_neg (by (try simp only [ByteArray.size_append]); omega)]; rfl))
    (try simp only [Act.put, List.setIfInBounds_toArray, List.set_cons_zero, List.set_cons_succ])
    refine wpAnyH_ready (rs := [6]) (by kernel_rfl) (by simp) ?_
    refine AllReadyH.cons rfl (fun K hK => ?_) AllReadyH.nil
    go_simp
    refine Calls.mono (I2.out _) ?_
    rintro x w3 ⟨rfl, rfl⟩
    refine hK.out _ _ (Q0.out _ BW.out) (fun hHeld => ?_)
    clear hK
    (try simp only [Act.put, List.setIfInBounds_toArray, List.set_cons_zero, List.set_cons_succ])
    refine wpAnyH_take (i := 7) (v := (.string (X1 ++ us ++ X2))) rfl (by kernel_rfl) (by kernel_rfl) (by kernel_rfl) (fun _ _ _ h => h) (Or.inl ⟨by rfl, ?_⟩) (by assumption) ?_
    · intro w' hSw
      (try dsimp only at hSw)
      (go_simp; first | omega | (rw [if_neg (by (try simp only [ByteArray.size_append]); omega)]; rfl))
    (try simp only [Act.put, List.setIfInBounds_toArray, List.set_cons_zero, List.set_cons_succ])
    refine wpAnyH_take (i := 8) (v := (.string (X1 ++ us ++ X2 ++ us))) rfl (by kernel_rfl) (by kernel_rfl) (by kernel_rfl) (fun _ _ _ h => h) (Or.inl ⟨by rfl, ?_⟩) (by assumption) ?_
    · intro w' hSw
      (try dsimp only at hSw)
      (go_simp; first | omega | (rw [if_neg (by (try simp only [ByteArray.size_append]); omega)]; rfl))
    (try simp only [Act.put, List.setIfInBounds_toArray, List.set_cons_zero, List.set_cons_succ])
    refine wpAnyH_ready (rs := [11]) (by kernel_rfl) (by simp) ?_
    refine AllReadyH.cons rfl (fun K hK => ?_) AllReadyH.nil
    go_simp
    refine Calls.mono (I3.out _) ?_
    rintro x w4 ⟨rfl, rfl⟩
    refine hK.out _ _ (Q0.out _ BW.out) (fun hHeld => ?_)
    clear hK
    (try simp only [Act.put, List.setIfInBounds_toArray, List.set_cons_zero, List.set_cons_succ])
    refine wpAnyH_take (i := 12) (v := (.string (X1 ++ us ++ X2 ++ us ++ X3))) rfl (by kernel_rfl) (by kernel_rfl) (by kernel_rfl) (fun _ _ _ h => h) (Or.inl ⟨by rfl, ?_⟩) (by assumption) ?_
    · intro w' hSw
      (try dsimp only at hSw)
      (go_simp; first | omega | (rw [if_neg (by (try simp only [ByteArray.size_append]); omega)]; rfl))
    (try simp only [Act.put, List.setIfInBounds_toArray, List.set_cons_zero, List.set_cons_succ])
    refine wpAnyH_ready (rs := [13]) (by kernel_rfl) (by simp) ?_
    refine AllReadyH.cons rfl (fun K hK => ?_) AllReadyH.nil
    go_simp
    refine hK.out _ _ (Q0.out _ BW.out) (fun hHeld => ?_)
    clear hK
    (try simp only [Act.put, List.setIfInBounds_toArray, List.set_cons_zero, List.set_cons_succ])
    refine wpAnyH_done (by kernel_rfl) ?_ _
    clear hHeld
    obtain ⟨q0, q1, q2, q3⟩ := Q0.out _ BW.out
    have hsz : (X1 ++ us ++ X2 ++ us ++ X3).size ≤ 100 := by (try simp only [ByteArray.size_append]); omega
    obtain ⟨Y, hY⟩ : ∃ Y, Y = X1 ++ us ++ X2 ++ us ++ X3 := ⟨_, rfl⟩
    rw [← hY] at hsz ⊢
    have HY := hide hY
    clear hY
    go_wp2_with fail
    go_ret2
    refine ⟨?_, B0.out.trans (BW.out.mono B0.out.size)⟩
    have hY := HY.out
    subst hY
    exact rfl
  | false =>
    obtain ⟨W0, hW0⟩ : ∃ W0, W0 = w.alloc (.cells #[.int .i64 (p : Int), .int .i64 (r : Int), .int .i64 (c : Int), .bool false] 23) := ⟨_, rfl⟩
    have B0 : Hid (Below w.heap.size w W0) := by rw [hW0]; exact (Below.refl _ w).alloc (Nat.le_refl _) _
    have s0 : w.heap.size < W0.heap.size := by rw [hW0]; simp
    have Q0 : Hid (∀ w', Below W0.heap.size W0 w' → w'.cell? ⟨w.heap.size, 0, none⟩ = some (.int .i64 (p : Int)) ∧ w'.cell? ⟨w.heap.size, 1, none⟩ = some (.int .i64 (r : Int)) ∧ w'.cell? ⟨w.heap.size, 2, none⟩ = some (.int .i64 (c : Int)) ∧ w'.cell? ⟨w.heap.size, 3, none⟩ = some (.bool false)) := fun w' hb => by
      rw [hb.cell (by exact s0), hb.cell (by exact s0), hb.cell (by exact s0), hb.cell (by exact s0), hW0]
      exact ⟨by simp, by simp, by simp, by simp⟩
    rw [← fnE_eq]
    have e0 : strOf (46 :: endW false) = ⟨#[46, 105, 110, 100, 101, 120]⟩ := rfl
    rw [e0]
    have y3 : (⟨#[46, 105, 110, 100, 101, 120]⟩ : ByteArray).size ≤ 6 := by decide
    generalize strOf (dd p) = X1 at *
    generalize strOf (dd r) = X2 at *
    generalize strOf (dd c) = X3 at *
    go_enter Tryd.func5, Tryd.ntmps5
    go_wp2_with fail
    rw [← hW0]
    clear hW0
    have BW := hide (Below.refl W0.heap.size W0).drew
    refine wp_region_held_drew (S := fun w' => w'.cell? ⟨w.heap.size, 0, none⟩ = some (.int .i64 (p : Int)) ∧ w'.cell? ⟨w.heap.size, 1, none⟩ = some (.int .i64 (r : Int)) ∧ w'.cell? ⟨w.heap.size, 2, none⟩ = some (.int .i64 (c : Int)) ∧ w'.cell? ⟨w.heap.size, 3, none⟩ = some (.bool false)) (by kernel_rfl) (Q0.out _ BW.out) (fun hHeld => ?_)
    refine wpAnyH_take (i := 0) (v := (.pointer (some ⟨w.heap.size, 0, none⟩))) rfl (by kernel_rfl) (by kernel_rfl) (by kernel_rfl) (fun _ _ _ h => h) (Or.inl ⟨by rfl, ?_⟩) (by assumption) ?_
    · intro w' hSw
      (try dsimp only at hSw)
      go_simp <;> first | exact i64_in (by omega) (by omega) | exact u32_in (by omega) (by omega) | exact u32_add _ _ | (rw [Int.tmod_eq_emod_of_nonneg (by omega)]; omega) | (rw [Int.tdiv_eq_ediv_of_nonneg (by omega)]; omega) | omega
    (try simp only [Act.put, List.setIfInBounds_toArray, List.set_cons_zero, List.set_cons_succ])
    refine wpAnyH_take (i := 1) (v := (.int .i64 (p : Int))) rfl (by kernel_rfl) (by kernel_rfl) (by kernel_rfl) (fun _ _ _ h => h) (Or.inl ⟨by rfl, ?_⟩) (by assumption) ?_
    · intro w' hSw
      (try dsimp only at hSw)
      (obtain ⟨hS1, hS2, hS3, hS4⟩ := hSw; go_simp)
    (try simp only [Act.put, List.setIfInBounds_toArray, List.set_cons_zero, List.set_cons_succ])
    refine wpAnyH_take (i := 4) (v := (.pointer (some ⟨w.heap.size, 1, none⟩))) rfl (by kernel_rfl) (by kernel_rfl) (by kernel_rfl) (fun _ _ _ h => h) (Or.inl ⟨by rfl, ?_⟩) (by assumption) ?_
    · intro w' hSw
      (try dsimp only at hSw)
      go_simp <;> first | exact i64_in (by omega) (by omega) | exact u32_in (by omega) (by omega) | exact u32_add _ _ | (rw [Int.tmod_eq_emod_of_nonneg (by omega)]; omega) | (rw [Int.tdiv_eq_ediv_of_nonneg (by omega)]; omega) | omega
    (try simp only [Act.put, List.setIfInBounds_toArray, List.set_cons_zero, List.set_cons_succ])
    refine wpAnyH_take (i := 5) (v := (.int .i64 (r : Int))) rfl (by kernel_rfl) (by kernel_rfl) (by kernel_rfl) (fun _ _ _ h => h) (Or.inl ⟨by rfl, ?_⟩) (by assumption) ?_
    · intro w' hSw
      (try dsimp only at hSw)
      (obtain ⟨hS1, hS2, hS3, hS4⟩ := hSw; go_simp)
    (try simp only [Act.put, List.setIfInBounds_toArray, List.set_cons_zero, List.set_cons_succ])
    refine wpAnyH_take (i := 9) (v := (.pointer (some ⟨w.heap.size, 2, none⟩))) rfl (by kernel_rfl) (by kernel_rfl) (by kernel_rfl) (fun _ _ _ h => h) (Or.inl ⟨by rfl, ?_⟩) (by assumption) ?_
    · intro w' hSw
      (try dsimp only at hSw)
      go_simp <;> first | exact i64_in (by omega) (by omega) | exact u32_in (by omega) (by omega) | exact u32_add _ _ | (rw [Int.tmod_eq_emod_of_nonneg (by omega)]; omega) | (rw [Int.tdiv_eq_ediv_of_nonneg (by omega)]; omega) | omega
    (try simp only [Act.put, List.setIfInBounds_toArray, List.set_cons_zero, List.set_cons_succ])
    refine wpAnyH_take (i := 10) (v := (.int .i64 (c : Int))) rfl (by kernel_rfl) (by kernel_rfl) (by kernel_rfl) (fun _ _ _ h => h) (Or.inl ⟨by rfl, ?_⟩) (by assumption) ?_
    · intro w' hSw
      (try dsimp only at hSw)
      (obtain ⟨hS1, hS2, hS3, hS4⟩ := hSw; go_simp)
    (try simp only [Act.put, List.setIfInBounds_toArray, List.set_cons_zero, List.set_cons_succ])
    refine wpAnyH_ready (rs := [2]) (by kernel_rfl) (by simp) ?_
    refine AllReadyH.cons rfl (fun K hK => ?_) AllReadyH.nil
    go_simp
    refine Calls.mono (I1.out _) ?_
    rintro x w2 ⟨rfl, rfl⟩
    refine hK.out _ _ (Q0.out _ BW.out) (fun hHeld => ?_)
    clear hK
    (try simp only [Act.put, List.setIfInBounds_toArray, List.set_cons_zero, List.set_cons_succ])
    refine wpAnyH_take (i := 3) (v := (.string (X1 ++ us))) rfl (by kernel_rfl) (by kernel_rfl) (by kernel_rfl) (fun _ _ _ h => h) (Or.inl ⟨by rfl, ?_⟩) (by assumption) ?_
    · intro w' hSw
      (try dsimp only at hSw)
      (go_simp; first | omega | (rw [if_neg (by (try simp only [ByteArray.size_append]); omega)]; rfl))
    (try simp only [Act.put, List.setIfInBounds_toArray, List.set_cons_zero, List.set_cons_succ])
    refine wpAnyH_ready (rs := [6]) (by kernel_rfl) (by simp) ?_
    refine AllReadyH.cons rfl (fun K hK => ?_) AllReadyH.nil
    go_simp
    refine Calls.mono (I2.out _) ?_
    rintro x w3 ⟨rfl, rfl⟩
    refine hK.out _ _ (Q0.out _ BW.out) (fun hHeld => ?_)
    clear hK
    (try simp only [Act.put, List.setIfInBounds_toArray, List.set_cons_zero, List.set_cons_succ])
    refine wpAnyH_take (i := 7) (v := (.string (X1 ++ us ++ X2))) rfl (by kernel_rfl) (by kernel_rfl) (by kernel_rfl) (fun _ _ _ h => h) (Or.inl ⟨by rfl, ?_⟩) (by assumption) ?_
    · intro w' hSw
      (try dsimp only at hSw)
      (go_simp; first | omega | (rw [if_neg (by (try simp only [ByteArray.size_append]); omega)]; rfl))
    (try simp only [Act.put, List.setIfInBounds_toArray, List.set_cons_zero, List.set_cons_succ])
    refine wpAnyH_take (i := 8) (v := (.string (X1 ++ us ++ X2 ++ us))) rfl (by kernel_rfl) (by kernel_rfl) (by kernel_rfl) (fun _ _ _ h => h) (Or.inl ⟨by rfl, ?_⟩) (by assumption) ?_
    · intro w' hSw
      (try dsimp only at hSw)
      (go_simp; first | omega | (rw [if_neg (by (try simp only [ByteArray.size_append]); omega)]; rfl))
    (try simp only [Act.put, List.setIfInBounds_toArray, List.set_cons_zero, List.set_cons_succ])
    refine wpAnyH_ready (rs := [11]) (by kernel_rfl) (by simp) ?_
    refine AllReadyH.cons rfl (fun K hK => ?_) AllReadyH.nil
    go_simp
    refine Calls.mono (I3.out _) ?_
    rintro x w4 ⟨rfl, rfl⟩
    refine hK.out _ _ (Q0.out _ BW.out) (fun hHeld => ?_)
    clear hK
    (try simp only [Act.put, List.setIfInBounds_toArray, List.set_cons_zero, List.set_cons_succ])
    refine wpAnyH_take (i := 12) (v := (.string (X1 ++ us ++ X2 ++ us ++ X3))) rfl (by kernel_rfl) (by kernel_rfl) (by kernel_rfl) (fun _ _ _ h => h) (Or.inl ⟨by rfl, ?_⟩) (by assumption) ?_
    · intro w' hSw
      (try dsimp only at hSw)
      (go_simp; first | omega | (rw [if_neg (by (try simp only [ByteArray.size_append]); omega)]; rfl))
    (try simp only [Act.put, List.setIfInBounds_toArray, List.set_cons_zero, List.set_cons_succ])
    refine wpAnyH_ready (rs := [13]) (by kernel_rfl) (by simp) ?_
    refine AllReadyH.cons rfl (fun K hK => ?_) AllReadyH.nil
    go_simp
    refine hK.out _ _ (Q0.out _ BW.out) (fun hHeld => ?_)
    clear hK
    (try simp only [Act.put, List.setIfInBounds_toArray, List.set_cons_zero, List.set_cons_succ])
    refine wpAnyH_done (by kernel_rfl) ?_ _
    clear hHeld
    obtain ⟨q0, q1, q2, q3⟩ := Q0.out _ BW.out
    have hsz : (X1 ++ us ++ X2 ++ us ++ X3).size ≤ 100 := by (try simp only [ByteArray.size_append]); omega
    obtain ⟨Y, hY⟩ : ∃ Y, Y = X1 ++ us ++ X2 ++ us ++ X3 := ⟨_, rfl⟩
    rw [← hY] at hsz ⊢
    have HY := hide hY
    clear hY
    go_wp2_with fail
    go_ret2
    refine ⟨?_, B0.out.trans (BW.out.mono B0.out.size)⟩
    have hY := HY.out
    subst hY
    exact rfl
theorem own_strs {w : World} {base : Nat} {v : Value} {l : List (List UInt8)} (h : w.ownsRow base 9 1 v l.length (l.map fun l => Value.string (strOf l))) (hp : 0 < l.length) : ∃ g cap, v = .slice (some ⟨g, 0, none⟩) l.length cap ∧ base ≤ g ∧ g < w.heap.size ∧ ∀ j (hj : j < l.length), w.cell? ⟨g, j, none⟩ = some (.string (strOf l[j])) := by
  rcases h.2 with ⟨_, hz⟩ | ⟨g, cap, cur, hv, hg, hblk, hn, hc, hcs, htake⟩
  · omega
  · subst hv
    refine ⟨g, cap, rfl, hg, ?_, fun j hj => ?_⟩
    · rcases Nat.lt_or_ge g w.heap.size with h' | h'
      · exact h'
      · rw [Array.getElem?_eq_none h'] at hblk; simp at hblk
    · rw [h.cellAt j (by omega)]
      simp [List.getElem?_eq_getElem hj]
theorem splitL_sum (c : UInt8) : ∀ (a cur : List UInt8), ∀ x ∈ splitL c cur a, x.length ≤ cur.length + a.length := by
  intro a
  induction a with
  | nil => intro cur x hx; simp [splitL] at hx; subst hx; simp
  | cons b l ih =>
    intro cur x hx
    rw [splitL] at hx
    split at hx
    · rcases List.mem_cons.1 hx with rfl | hx
      · simp
      · have := ih [] x hx; simp at this ⊢; omega
    · have := ih _ x hx; simp at this ⊢; omega
theorem splitL_len (c : UInt8) : ∀ (a cur : List UInt8), (splitL c cur a).length ≤ a.length + 1 := by
  intro a
  induction a with
  | nil => intro cur; simp [splitL]
  | cons b l ih =>
    intro cur
    rw [splitL]
    split
    · have := ih []; simp; omega
    · have := ih (cur ++ [b]); simp; omega
end Go.Proofs.YtanceiiaecbknaaDoor
