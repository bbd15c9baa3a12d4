import Derived.Test.YtioiphonajinmaaGreatDoorGGnProg
namespace Go.Proofs.YtioiphonajinmaaGreatDoor
open Go.RowKit Go.Shelf
theorem fnS_eq (p r c : Nat) (d : Bool) : strOf (dd p) ++ us ++ strOf (dd r) ++ us ++ strOf (dd c) ++ dot ++ strOf (endW d) = strOf (fnL (p, r, c, d)) := by
  apply ba_eq
  have e1 : us.data.toList = [95] := rfl
  have e2 : dot.data.toList = [46] := rfl
  unfold fnL
  simp only [ba_app, strOf_data, e1, e2, List.append_assoc, List.cons_append, List.nil_append]
theorem isVal_iff {p r c : Int} (h : isVal p r c = true) : 0 ≤ p ∧ p < 64 ∧ 0 ≤ r ∧ r < 16 ∧ 0 ≤ c ∧ c < 16 := of_decide_eq_true h
set_option maxHeartbeats 2000000 in
set_option maxRecDepth 100000 in
/-- FileName -/
theorem fileName_no (p r c : Int) (d : Bool) (w : World) (h : isVal p r c = false) :
    Calls Tryz.prog 32 #[.agg #[.int .i64 p, .int .i64 r, .int .i64 c, .bool d]] w fun x w' => x = .returned (.tuple #[.string ⟨#[]⟩, .int .i64 1]) ∧ Below w.heap.size w w' := by
  have C := hide (fun w' => mayBe_any p r c d w')
  rw [h] at C
  obtain ⟨W0, hW0⟩ : ∃ W0, W0 = w.alloc (.cells #[.int .i64 p, .int .i64 r, .int .i64 c, .bool d] 45) := ⟨_, rfl⟩
  have B0 : Hid (Below w.heap.size w W0) := by rw [hW0]; exact (Below.refl _ w).alloc (Nat.le_refl _) _
  go_enter Tryz.func32, Tryz.ntmps32
  go_wp2_with fail
  rw [← hW0]
  clear hW0
  refine Calls.mono (C.out _) ?_
  rintro x w1 ⟨rfl, b1⟩
  have B1 := hide (B0.out.trans (b1.mono B0.out.size))
  clear b1
  go_wp2_with fail
  go_ret2
  exact ⟨rfl, B1.out⟩
set_option maxHeartbeats 2000000 in
set_option maxRecDepth 100000 in
theorem fileName_ok (p r c : Nat) (d : Bool) (w : World) (h : Val (p, r, c, d)) :
    Calls Tryz.prog 32 #[.agg #[.int .i64 (p : Int), .int .i64 (r : Int), .int .i64 (c : Int), .bool d]] w fun x w' => x = .returned (.tuple #[.string (strOf (fnL (p, r, c, d))), .int .i64 0]) ∧ Below w.heap.size w w' := by
  obtain ⟨h1, h2, h3⟩ := h
  simp only at h1 h2 h3
  have hv : isVal (p : Int) (r : Int) (c : Int) = true := decide_eq_true (by omega)
  have C := hide (fun w' => mayBe_any p r c d w')
  rw [hv] at C
  have T := hide (fun w' => titleOf_any p r c d (by omega) (by omega) (by omega) w')
  have N := hide (fun w' => name_any (strOf (dd p)) (strOf (dd r)) (strOf (dd c)) (strOf (endW d)) (by rw [strOf_size]; have := dd_len h1; omega) (by rw [strOf_size]; have := dd_len16 h2; omega) (by rw [strOf_size]; have := dd_len16 h3; omega) (by rw [strOf_size]; have := endW_len d; omega) w')
  rw [fnS_eq] at N
  generalize strOf (fnL (p, r, c, d)) = Z at *
  generalize strOf (dd p) = X1 at *
  generalize strOf (dd r) = X2 at *
  generalize strOf (dd c) = X3 at *
  generalize strOf (endW d) = X4 at *
  obtain ⟨W0, hW0⟩ : ∃ W0, W0 = w.alloc (.cells #[.int .i64 (p : Int), .int .i64 (r : Int), .int .i64 (c : Int), .bool d] 45) := ⟨_, rfl⟩
  have B0 : Hid (Below w.heap.size w W0) := by rw [hW0]; exact (Below.refl _ w).alloc (Nat.le_refl _) _
  have s0 : w.heap.size < W0.heap.size := by rw [hW0]; simp
  have km : Hid (∀ w', Below W0.heap.size W0 w' → w'.cell? ⟨w.heap.size, 0, none⟩ = some (.int .i64 (p : Int)) ∧ w'.cell? ⟨w.heap.size, 1, none⟩ = some (.int .i64 (r : Int)) ∧ w'.cell? ⟨w.heap.size, 2, none⟩ = some (.int .i64 (c : Int)) ∧ w'.cell? ⟨w.heap.size, 3, none⟩ = some (.bool d)) := fun w' hb => by
    rw [hb.cell (by exact s0), hb.cell (by exact s0), hb.cell (by exact s0), hb.cell (by exact s0), hW0]
    exact ⟨by simp, by simp, by simp, by simp⟩
  go_enter Tryz.func32, Tryz.ntmps32
  go_wp2_with fail
  rw [← hW0]
  clear hW0
  refine Calls.mono (C.out _) ?_
  rintro x w1 ⟨rfl, b1⟩
  obtain ⟨j0, j1, j2, j3⟩ := km.out _ b1
  have B1 := hide (B0.out.trans (b1.mono B0.out.size))
  clear b1
  go_wp2_with fail
  refine Calls.mono (T.out _) ?_
  rintro x w2 ⟨rfl, b2⟩
  have B2 := hide (B1.out.trans (b2.mono B1.out.size))
  clear b2
  go_wp2_with fail
  refine Calls.mono (N.out _) ?_
  rintro x w3 ⟨rfl, b3⟩
  have B3 := hide (B2.out.trans (b3.mono B2.out.size))
  clear b3
  go_wp2_with fail
  go_ret2
  exact ⟨rfl, B3.out⟩
theorem cut_small (s : List UInt8) (c : UInt8) : (Lib.cut s [c]).1.length ≤ s.length ∧ (Lib.cut s [c]).2.1.length ≤ s.length := by
  rcases cut_way c s with e | ⟨a, r, e, e'⟩
  · rw [e]; exact ⟨Nat.le_refl _, Nat.zero_le _⟩
  · rw [e', e]; simp only [List.length_append, List.length_cons]; omega
set_option maxHeartbeats 2000000 in
set_option maxRecDepth 100000 in
/-- strings.Cut, with one letter -/
theorem cutS_any (s : ByteArray) (c : UInt8) (m : Int) (w : World) (hs : s.size < 4294967281) (hm : w.cell? ⟨0, 0, none⟩ = some (.int .i64 m)) :
    Calls Tryz.prog 42 #[.string s, .string ⟨#[c]⟩] w fun e w' => e = .returned (.tuple #[.string (strOf (Lib.cut s.data.toList [c]).1), .string (strOf (Lib.cut s.data.toList [c]).2.1), .bool (Lib.cut s.data.toList [c]).2.2]) ∧ Below w.heap.size w w' := by
  refine (Tryz.strings_Cut s ⟨#[c]⟩ m w hs hm).mono ?_
  rintro e w' ⟨rfl, n, rfl⟩
  exact ⟨rfl, below_drewN (Below.refl _ _) n⟩
set_option maxHeartbeats 2000000 in
set_option maxRecDepth 100000 in
/-- cut -/
theorem cutN_any (s : ByteArray) (m : Int) (w : World) (hs : s.size < 4294967281) (hm : w.cell? ⟨0, 0, none⟩ = some (.int .i64 m)) :
    Calls Tryz.prog 28 #[.string s] w fun e w' => e = .returned (.agg #[.string (strOf (wds s.data.toList).1), .string (strOf (wds s.data.toList).2.1), .string (strOf (wds s.data.toList).2.2.1), .string (strOf (wds s.data.toList).2.2.2)]) ∧ Below w.heap.size w w' := by
  have hml := World.block_lt_of_cell? w _ hm
  obtain ⟨W0, hW0⟩ : ∃ W0, W0 = w.alloc (.cells #[.string ⟨#[]⟩, .string ⟨#[]⟩, .string ⟨#[]⟩, .string ⟨#[]⟩] 62) := ⟨_, rfl⟩
  have B0 : Hid (Below w.heap.size w W0) := by rw [hW0]; exact (Below.refl _ w).alloc (Nat.le_refl _) _
  have s0 : w.heap.size < W0.heap.size := by rw [hW0]; simp
  have km : Hid (∀ w', Below W0.heap.size W0 w' → w'.cell? ⟨w.heap.size, 0, none⟩ = some (.string ⟨#[]⟩) ∧ w'.cell? ⟨w.heap.size, 1, none⟩ = some (.string ⟨#[]⟩) ∧ w'.cell? ⟨w.heap.size, 2, none⟩ = some (.string ⟨#[]⟩) ∧ w'.cell? ⟨w.heap.size, 3, none⟩ = some (.string ⟨#[]⟩) ∧ w'.frozen? ⟨w.heap.size, 0, none⟩ = false ∧ w'.frozen? ⟨w.heap.size, 1, none⟩ = false ∧ w'.frozen? ⟨w.heap.size, 2, none⟩ = false ∧ w'.frozen? ⟨w.heap.size, 3, none⟩ = false) := fun w' hb => by
    rw [hb.cell (by exact s0), hb.cell (by exact s0), hb.cell (by exact s0), hb.cell (by exact s0), hb.frozen (by exact s0), hb.frozen (by exact s0), hb.frozen (by exact s0), hb.frozen (by exact s0), hW0]
    exact ⟨by simp, by simp, by simp, by simp, by simp, by simp, by simp, by simp⟩
  have C1 := hide (fun w' (hb : Below w.heap.size w w') => cutS_any s 95 m w' hs ((hb.cell (by exact hml)).trans hm))
  have g1 := cut_small s.data.toList 95
  rw [size_data] at g1
  have C2 := hide (fun w' (hb : Below w.heap.size w w') => cutS_any (strOf (Lib.cut s.data.toList [95]).2.1) 95 m w' (by rw [strOf_size]; omega) ((hb.cell (by exact hml)).trans hm))
  have g2 := cut_small (Lib.cut s.data.toList [95]).2.1 95
  have C3 := hide (fun w' (hb : Below w.heap.size w w') => cutS_any (strOf (Lib.cut (Lib.cut s.data.toList [95]).2.1 [95]).2.1) 46 m w' (by rw [strOf_size]; omega) ((hb.cell (by exact hml)).trans hm))
  simp only [strOf_data] at C2 C3
  unfold wds
  generalize Lib.cut (Lib.cut (Lib.cut s.data.toList [95]).2.1 [95]).2.1 [46] = K3 at *
  generalize Lib.cut (Lib.cut s.data.toList [95]).2.1 [95] = K2 at *
  generalize Lib.cut s.data.toList [95] = K1 at *
  obtain ⟨x1, y1, z1⟩ := K1
  obtain ⟨x2, y2, z2⟩ := K2
  obtain ⟨x3, y3, z3⟩ := K3
  simp only at C1 C2 C3 ⊢
  generalize strOf x1 = X1 at *
  generalize strOf y1 = Y1 at *
  generalize strOf x2 = X2 at *
  generalize strOf y2 = Y2 at *
  generalize strOf x3 = X3 at *
  generalize strOf y3 = Y3 at *
  clear g1 g2 hm hml
  go_enter Tryz.func28, Tryz.ntmps28
  go_wp2_with fail
  rw [← hW0]
  clear hW0
  refine Calls.mono (C1.out _ B0.out) ?_
  rintro x w1 ⟨rfl, b1⟩
  have B1 := hide (B0.out.trans (b1.mono B0.out.size))
  have R1 := hide b1
  clear b1
  go_wp2_with fail
  refine Calls.mono (C2.out _ B1.out) ?_
  rintro x w2 ⟨rfl, b2⟩
  have B2 := hide (B1.out.trans (b2.mono B1.out.size))
  have R2 := hide (R1.out.trans (b2.mono R1.out.size))
  clear b2
  go_wp2_with fail
  refine Calls.mono (C3.out _ B2.out) ?_
  rintro x w3 ⟨rfl, b3⟩
  have B3 := hide (B2.out.trans (b3.mono B2.out.size))
  have R3 := hide (R2.out.trans (b3.mono R2.out.size))
  clear b3
  obtain ⟨j0, j1, j2, j3, f0, f1, f2, f3⟩ := km.out _ R3.out
  go_wp2_with fail
  refine bodyPost_ret (v := .agg #[.string X1, .string X2, .string X3, .string Y3]) (by simp [results, Tryz.results28, go_sem, j0, j1, j2, j3]) rfl ⟨rfl, ?_⟩
  exact (((B3.out.setCell (Nat.le_refl _) _).setCell (Nat.le_refl _) _).setCell (Nat.le_refl _) _).setCell (Nat.le_refl _) _
set_option maxHeartbeats 2000000 in
set_option maxRecDepth 100000 in
/-- file -/
theorem file_any (a b c e : ByteArray) (ha : a.size ≤ 4294967281) (hb : b.size ≤ 4294967281) (hc : c.size ≤ 4294967281) (e1 e2 : Value) (w : World) (h1 : w.cell? ⟨1, 0, none⟩ = some e1) (h2 : w.cell? ⟨2, 0, none⟩ = some e2) (k1 : ∃ te pe, e1 = .iface te pe) (k2 : ∃ te pe, e2 = .iface te pe) :
    Calls Tryz.prog 29 #[.agg #[.string a, .string b, .string c, .string e]] w fun x w' => x = .returned (.agg #[.int .i64 (av a.data.toList), .int .i64 (av b.data.toList), .int .i64 (av c.data.toList), .bool (decide (e.data.toList = dataW))]) ∧ Below w.heap.size w w' := by
  have g1 := World.block_lt_of_cell? w _ h1
  have g2 := World.block_lt_of_cell? w _ h2
  have A : Hid (∀ (s : ByteArray) (hs : s.size ≤ 4294967281) w', Below w.heap.size w w' → Calls Tryz.prog 43 #[.string s] w' fun e w'' => ∃ v, e = .returned (.tuple #[.int .i64 (av s.data.toList), v]) ∧ (v = .nilIface ∨ ∃ te pe, v = .iface te pe) ∧ Below w'.heap.size w' w'') := fun s hs w' hb' => atoi_any s (by omega) e1 e2 w' ((hb'.cell (by exact g1)).trans h1) ((hb'.cell (by exact g2)).trans h2) k1 k2
  have A1 := hide (A.out a ha)
  have A2 := hide (A.out b hb)
  have A3 := hide (A.out c hc)
  have hE : (e.toList == (⟨#[100, 97, 116, 97]⟩ : ByteArray).toList) = decide (e.data.toList = dataW) := by
    rw [eq_beq]
    refine decide_eq_decide.2 ⟨fun h => by rw [h]; rfl, fun h => ba_eq (by rw [h]; rfl)⟩
  have hE2 : (e.toList == [100, 97, 116, 97]) = decide (e.data.toList = dataW) := by
    rw [← hE, show (⟨#[100, 97, 116, 97]⟩ : ByteArray).toList = [100, 97, 116, 97] by rw [ByteArray.toList_eq]]
  generalize av a.data.toList = V1 at *
  generalize av b.data.toList = V2 at *
  generalize av c.data.toList = V3 at *
  generalize decide (e.data.toList = dataW) = D at *
  obtain ⟨W0, hW0⟩ : ∃ W0, W0 = (w.alloc (.cells #[.string a, .string b, .string c, .string e] 62)).alloc (.cells #[.int .i64 0, .int .i64 0, .int .i64 0, .bool false] 45) := ⟨_, rfl⟩
  have B0 : Hid (Below w.heap.size w W0) := by rw [hW0]; exact ((Below.refl _ w).alloc (Nat.le_refl _) _).alloc (by simp) _
  have s0 : w.heap.size + 1 < W0.heap.size := by rw [hW0]; simp
  have s1 : w.heap.size < W0.heap.size := by omega
  have km : Hid (∀ w', Below W0.heap.size W0 w' → w'.cell? ⟨w.heap.size, 0, none⟩ = some (.string a) ∧ w'.cell? ⟨w.heap.size, 1, none⟩ = some (.string b) ∧ w'.cell? ⟨w.heap.size, 2, none⟩ = some (.string c) ∧ w'.cell? ⟨w.heap.size, 3, none⟩ = some (.string e)) := fun w' hb => by
    rw [hb.cell (by exact s1), hb.cell (by exact s1), hb.cell (by exact s1), hb.cell (by exact s1), hW0]
    exact ⟨by simp, by simp, by simp, by simp⟩
  have kz : Hid (∀ w', Below W0.heap.size W0 w' → w'.cell? ⟨w.heap.size + 1, 0, none⟩ = some (.int .i64 0) ∧ w'.cell? ⟨w.heap.size + 1, 1, none⟩ = some (.int .i64 0) ∧ w'.cell? ⟨w.heap.size + 1, 2, none⟩ = some (.int .i64 0) ∧ w'.cell? ⟨w.heap.size + 1, 3, none⟩ = some (.bool false) ∧ w'.frozen? ⟨w.heap.size + 1, 0, none⟩ = false ∧ w'.frozen? ⟨w.heap.size + 1, 1, none⟩ = false ∧ w'.frozen? ⟨w.heap.size + 1, 2, none⟩ = false ∧ w'.frozen? ⟨w.heap.size + 1, 3, none⟩ = false) := fun w' hb => by
    rw [hb.cell (by exact s0), hb.cell (by exact s0), hb.cell (by exact s0), hb.cell (by exact s0), hb.frozen (by exact s0), hb.frozen (by exact s0), hb.frozen (by exact s0), hb.frozen (by exact s0), hW0]
    exact ⟨by simp, by simp, by simp, by simp, by simp, by simp, by simp, by simp⟩
  clear A h1 h2 k1 k2 g1 g2 ha hb hc
  go_enter Tryz.func29, Tryz.ntmps29
  go_wp2_with fail
  rw [← hW0]
  clear hW0
  refine Calls.mono (A1.out _ B0.out) ?_
  rintro x w1 ⟨v, rfl, _, b1⟩
  have B1 := hide (B0.out.trans (b1.mono B0.out.size))
  have R1 := hide b1
  obtain ⟨j0, j1, j2, j3⟩ := km.out _ b1
  clear b1
  go_wp2_with fail
  refine Calls.mono (A2.out _ B1.out) ?_
  rintro x w2 ⟨v2, rfl, _, b2⟩
  have B2 := hide (B1.out.trans (b2.mono B1.out.size))
  have R2 := hide (R1.out.trans (b2.mono R1.out.size))
  clear j0 j1 j2 j3
  obtain ⟨j0, j1, j2, j3⟩ := km.out _ R2.out
  clear b2
  go_wp2_with fail
  refine Calls.mono (A3.out _ B2.out) ?_
  rintro x w3 ⟨v3, rfl, _, b3⟩
  have B3 := hide (B2.out.trans (b3.mono B2.out.size))
  have R3 := hide (R2.out.trans (b3.mono R2.out.size))
  clear j0 j1 j2 j3
  obtain ⟨j0, j1, j2, j3⟩ := km.out _ R3.out
  obtain ⟨y0, y1, y2, y3, f0, f1, f2, f3⟩ := kz.out _ R3.out
  clear b3
  go_wp2_with fail
  refine bodyPost_ret (v := .agg #[.int .i64 V1, .int .i64 V2, .int .i64 V3, .bool D]) (by simp [results, Tryz.results29, go_sem, y0, y1, y2, y3]) rfl ⟨rfl, ?_⟩
  exact (((B3.out.setCell (Nat.le_add_right _ _) _).setCell (Nat.le_add_right _ _) _).setCell (Nat.le_add_right _ _) _).setCell (Nat.le_add_right _ _) _
end Go.Proofs.YtioiphonajinmaaGreatDoor
namespace Go.Proofs.YtioiphonajinmaaGreatDoor
open Go.RowKit Go.Shelf
/-- what the tables and the variables of the library hold -/
structure NEnv (w : World) : Prop where
  m : ∃ m, w.cell? ⟨0, 0, none⟩ = some (.int .i64 m)
  s : ∃ te pe, w.cell? ⟨1, 0, none⟩ = some (.iface te pe)
  r : ∃ te pe, w.cell? ⟨2, 0, none⟩ = some (.iface te pe)
theorem NEnv.below {w w' : World} (h : NEnv w) (hb : Below w.heap.size w w') : NEnv w' := by
  obtain ⟨m, hm⟩ := h.m
  obtain ⟨t1, p1, h1⟩ := h.s
  obtain ⟨t2, p2, h2⟩ := h.r
  exact ⟨⟨m, (hb.cell (by exact World.block_lt_of_cell? w _ hm)).trans hm⟩, ⟨t1, p1, (hb.cell (by exact World.block_lt_of_cell? w _ h1)).trans h1⟩, ⟨t2, p2, (hb.cell (by exact World.block_lt_of_cell? w _ h2)).trans h2⟩⟩
theorem wds_small (s : List UInt8) : (wds s).1.length ≤ s.length ∧ (wds s).2.1.length ≤ s.length ∧ (wds s).2.2.1.length ≤ s.length := by
  have g1 := cut_small s 95
  have g2 := cut_small (Lib.cut s [95]).2.1 95
  have g3 := cut_small (Lib.cut (Lib.cut s [95]).2.1 [95]).2.1 46
  unfold wds
  simp only
  omega
theorem tl_eq {u v : ByteArray} (h : u.toList = v.toList) : u = v := ba_eq (by rw [← ByteArray.toList_eq, ← ByteArray.toList_eq, h])
def fvVal (f : FV) : Value := .agg #[.int .i64 (f.1 : Int), .int .i64 (f.2.1 : Int), .int .i64 (f.2.2.1 : Int), .bool f.2.2.2]
def fvZero : Value := .agg #[.int .i64 0, .int .i64 0, .int .i64 0, .bool false]
set_option maxHeartbeats 4000000 in
set_option maxRecDepth 100000 in
set_option linter.unusedSimpArgs false in
/-- ReadName -/
theorem readName_no (s : ByteArray) (hs : s.size ≤ 4294967280) (w : World) (he : NEnv w) (h : isVal (av (wds s.data.toList).1) (av (wds s.data.toList).2.1) (av (wds s.data.toList).2.2.1) = false) :
    Calls Tryz.prog 14 #[.string s] w fun x w' => x = .returned (.tuple #[fvZero, .int .i64 63]) ∧ Below w.heap.size w w' := by
  have hz := wds_small s.data.toList
  rw [size_data] at hz
  have C := hide (fun w' (hb : Below w.heap.size w w') => by
    obtain ⟨m, hm⟩ := (he.below hb).m
    exact cutN_any s m w' (by omega) hm)
  have F : Hid (∀ w', Below w.heap.size w w' → Calls Tryz.prog 29 #[.agg #[.string (strOf (wds s.data.toList).1), .string (strOf (wds s.data.toList).2.1), .string (strOf (wds s.data.toList).2.2.1), .string (strOf (wds s.data.toList).2.2.2)]] w' fun x w'' => x = .returned (.agg #[.int .i64 (av (wds s.data.toList).1), .int .i64 (av (wds s.data.toList).2.1), .int .i64 (av (wds s.data.toList).2.2.1), .bool (decide ((wds s.data.toList).2.2.2 = dataW))]) ∧ Below w'.heap.size w' w'') := fun w' hb => by
    obtain ⟨t1, p1, h1⟩ := (he.below hb).s
    obtain ⟨t2, p2, h2⟩ := (he.below hb).r
    exact file_any (strOf (wds s.data.toList).1) (strOf (wds s.data.toList).2.1) (strOf (wds s.data.toList).2.2.1) (strOf (wds s.data.toList).2.2.2) (by rw [strOf_size]; omega) (by rw [strOf_size]; omega) (by rw [strOf_size]; omega) _ _ w' h1 h2 ⟨_, _, rfl⟩ ⟨_, _, rfl⟩
  have M := hide (fun w' D => mayBe_any (av (wds s.data.toList).1) (av (wds s.data.toList).2.1) (av (wds s.data.toList).2.2.1) D w')
  rw [h] at M
  generalize av (wds s.data.toList).1 = V1 at *
  generalize av (wds s.data.toList).2.1 = V2 at *
  generalize av (wds s.data.toList).2.2.1 = V3 at *
  obtain ⟨D, hD⟩ : ∃ D : Bool, D = decide ((wds s.data.toList).2.2.2 = dataW) := ⟨_, rfl⟩
  rw [← hD] at F
  clear hD
  generalize strOf (wds s.data.toList).1 = X1 at *
  generalize strOf (wds s.data.toList).2.1 = X2 at *
  generalize strOf (wds s.data.toList).2.2.1 = X3 at *
  generalize strOf (wds s.data.toList).2.2.2 = X4 at *
  obtain ⟨W0, hW0⟩ : ∃ W0, W0 = w.alloc (.cells #[.int .i64 0, .int .i64 0, .int .i64 0, .bool false] 45) := ⟨_, rfl⟩
  have B0 : Hid (Below w.heap.size w W0) := by rw [hW0]; exact (Below.refl _ w).alloc (Nat.le_refl _) _
  have s0 : w.heap.size < W0.heap.size := by rw [hW0]; simp
  have km : Hid (∀ w', Below W0.heap.size W0 w' → w'.cell? ⟨w.heap.size, 0, none⟩ = some (.int .i64 0) ∧ w'.cell? ⟨w.heap.size, 1, none⟩ = some (.int .i64 0) ∧ w'.cell? ⟨w.heap.size, 2, none⟩ = some (.int .i64 0) ∧ w'.cell? ⟨w.heap.size, 3, none⟩ = some (.bool false) ∧ w'.frozen? ⟨w.heap.size, 0, none⟩ = false ∧ w'.frozen? ⟨w.heap.size, 1, none⟩ = false ∧ w'.frozen? ⟨w.heap.size, 2, none⟩ = false ∧ w'.frozen? ⟨w.heap.size, 3, none⟩ = false) := fun w' hb => by
    rw [hb.cell (by exact s0), hb.cell (by exact s0), hb.cell (by exact s0), hb.cell (by exact s0), hb.frozen (by exact s0), hb.frozen (by exact s0), hb.frozen (by exact s0), hb.frozen (by exact s0), hW0]
    exact ⟨by simp, by simp, by simp, by simp, by simp, by simp, by simp, by simp⟩
  unfold fvZero
  clear hz he h
  go_enter Tryz.func14, Tryz.ntmps14
  go_wp2_with fail
  rw [← hW0]
  clear hW0
  refine Calls.mono (C.out _ B0.out) ?_
  rintro x w1 ⟨rfl, b1⟩
  have B1 := hide (B0.out.trans (b1.mono B0.out.size))
  have R1 := hide b1
  clear b1
  go_wp2_with fail
  obtain ⟨W2, hW2⟩ : ∃ W2, W2 = w1.alloc (.cells #[.string X1, .string X2, .string X3, .string X4] 62) := ⟨_, rfl⟩
  have r2 : Below w1.heap.size w1 W2 := by rw [hW2]; exact (Below.refl _ w1).alloc (Nat.le_refl _) _
  have s2 : w1.heap.size < W2.heap.size := by rw [hW2]; simp
  have B2 := hide (B1.out.trans (r2.mono B1.out.size))
  have R2 := hide (R1.out.trans (r2.mono R1.out.size))
  have kt : Hid (∀ w', Below W2.heap.size W2 w' → w'.cell? ⟨w1.heap.size, 0, none⟩ = some (.string X1) ∧ w'.cell? ⟨w1.heap.size, 1, none⟩ = some (.string X2) ∧ w'.cell? ⟨w1.heap.size, 2, none⟩ = some (.string X3) ∧ w'.cell? ⟨w1.heap.size, 3, none⟩ = some (.string X4)) := fun w' hb => by
    rw [hb.cell (by exact s2), hb.cell (by exact s2), hb.cell (by exact s2), hb.cell (by exact s2), hW2]
    exact ⟨by simp, by simp, by simp, by simp⟩
  rw [← hW2]
  clear hW2 r2
  refine Calls.mono (F.out _ B2.out) ?_
  rintro x w3 ⟨rfl, b3⟩
  have B3 := hide (B2.out.trans (b3.mono B2.out.size))
  have R3 := hide (R2.out.trans (b3.mono R2.out.size))
  have T3 := hide b3
  clear b3
  go_wp2_with fail
  obtain ⟨W4, hW4⟩ : ∃ W4, W4 = w3.alloc (.cells #[.int .i64 V1, .int .i64 V2, .int .i64 V3, .bool D] 45) := ⟨_, rfl⟩
  have r4 : Below w3.heap.size w3 W4 := by rw [hW4]; exact (Below.refl _ w3).alloc (Nat.le_refl _) _
  have s4 : w3.heap.size < W4.heap.size := by rw [hW4]; simp
  have B4 := hide (B3.out.trans (r4.mono B3.out.size))
  have R4 := hide (R3.out.trans (r4.mono R3.out.size))
  have T4 := hide (T3.out.trans (r4.mono T3.out.size))
  have kf : Hid (∀ w', Below W4.heap.size W4 w' → w'.cell? ⟨w3.heap.size, 0, none⟩ = some (.int .i64 V1) ∧ w'.cell? ⟨w3.heap.size, 1, none⟩ = some (.int .i64 V2) ∧ w'.cell? ⟨w3.heap.size, 2, none⟩ = some (.int .i64 V3) ∧ w'.cell? ⟨w3.heap.size, 3, none⟩ = some (.bool D)) := fun w' hb => by
    rw [hb.cell (by exact s4), hb.cell (by exact s4), hb.cell (by exact s4), hb.cell (by exact s4), hW4]
    exact ⟨by simp, by simp, by simp, by simp⟩
  rw [← hW4]
  clear hW4 r4
  have KA : Hid (∀ w', Below W4.heap.size W4 w' → w'.cell? ⟨w3.heap.size, 0, none⟩ = some (.int .i64 V1) ∧ w'.cell? ⟨w3.heap.size, 1, none⟩ = some (.int .i64 V2) ∧ w'.cell? ⟨w3.heap.size, 2, none⟩ = some (.int .i64 V3) ∧ w'.cell? ⟨w3.heap.size, 3, none⟩ = some (.bool D) ∧ w'.cell? ⟨w1.heap.size, 0, none⟩ = some (.string X1) ∧ w'.cell? ⟨w1.heap.size, 1, none⟩ = some (.string X2) ∧ w'.cell? ⟨w1.heap.size, 2, none⟩ = some (.string X3) ∧ w'.cell? ⟨w1.heap.size, 3, none⟩ = some (.string X4)) := fun w' hb => by
    obtain ⟨a0, a1, a2, a3⟩ := kf.out w' hb
    obtain ⟨c0, c1, c2, c3⟩ := kt.out w' (T4.out.trans (hb.mono T4.out.size))
    exact ⟨a0, a1, a2, a3, c0, c1, c2, c3⟩
  have BW := hide (Below.refl W4.heap.size W4).drew
  refine wp_region_held_drew (S := fun w' => w'.cell? ⟨w3.heap.size, 0, none⟩ = some (.int .i64 V1) ∧ w'.cell? ⟨w3.heap.size, 1, none⟩ = some (.int .i64 V2) ∧ w'.cell? ⟨w3.heap.size, 2, none⟩ = some (.int .i64 V3) ∧ w'.cell? ⟨w3.heap.size, 3, none⟩ = some (.bool D) ∧ w'.cell? ⟨w1.heap.size, 0, none⟩ = some (.string X1) ∧ w'.cell? ⟨w1.heap.size, 1, none⟩ = some (.string X2) ∧ w'.cell? ⟨w1.heap.size, 2, none⟩ = some (.string X3) ∧ w'.cell? ⟨w1.heap.size, 3, none⟩ = some (.string X4)) (by kernel_rfl) (KA.out _ BW.out) (fun hHeld => ?_)
  refine wpAnyH_take (i := 0) (v := (.agg #[.int .i64 V1, .int .i64 V2, .int .i64 V3, .bool D])) rfl (by kernel_rfl) (by kernel_rfl) (by kernel_rfl) (fun _ _ _ h => h) (Or.inl ⟨by rfl, ?_⟩) (by assumption) ?_
  · intro w' hSw
    (try dsimp only at hSw)
    (obtain ⟨hS1, hS2, hS3, hS4, hS5, hS6, hS7, hS8⟩ := hSw; go_simp)
  (try simp only [Act.put, List.setIfInBounds_toArray, List.set_cons_zero, List.set_cons_succ])
  refine wpAnyH_ready (rs := [1]) (by kernel_rfl) (by simp) ?_
  refine AllReadyH.cons rfl (fun K hK => ?_) AllReadyH.nil
  go_simp
  refine Calls.mono (M.out _ _) ?_
  rintro x w5 ⟨rfl, b5⟩
  have B5 := hide (BW.out.trans (b5.mono BW.out.size))
  clear b5
  refine hK.out _ _ (KA.out _ B5.out) (fun hHeld => ?_)
  clear hK
  (try simp only [Act.put, List.setIfInBounds_toArray, List.set_cons_zero, List.set_cons_succ])
  refine wpAnyH_take (i := 2) (v := (.bool true)) rfl (by kernel_rfl) (by kernel_rfl) (by kernel_rfl) (fun _ _ _ h => h) (Or.inl ⟨by rfl, ?_⟩) (by assumption) ?_
  · intro w' hSw
    (try dsimp only at hSw)
    go_simp <;> first | exact i64_in (by omega) (by omega) | exact u32_in (by omega) (by omega) | exact u32_add _ _ | (rw [Int.tmod_eq_emod_of_nonneg (by omega)]; omega) | (rw [Int.tdiv_eq_ediv_of_nonneg (by omega)]; omega) | omega
  (try simp only [Act.put, List.setIfInBounds_toArray, List.set_cons_zero, List.set_cons_succ])
  refine wpAnyH_take (i := 3) (v := (.bool true)) rfl (by kernel_rfl) (by kernel_rfl) (by kernel_rfl) (fun _ _ _ h => h) (Or.inl ⟨by rfl, ?_⟩) (by assumption) ?_
  · intro w' hSw
    (try dsimp only at hSw)
    go_simp <;> first | exact i64_in (by omega) (by omega) | exact u32_in (by omega) (by omega) | exact u32_add _ _ | (rw [Int.tmod_eq_emod_of_nonneg (by omega)]; omega) | (rw [Int.tdiv_eq_ediv_of_nonneg (by omega)]; omega) | omega
  (try simp only [Act.put, List.setIfInBounds_toArray, List.set_cons_zero, List.set_cons_succ])
  refine wpAnyH_take (i := 4) (v := undef) rfl (by kernel_rfl) (by kernel_rfl) (by kernel_rfl) (fun _ _ _ h => h) (Or.inr ⟨by kernel_rfl, rfl⟩) (by assumption) ?_
  (try simp only [Act.put, List.setIfInBounds_toArray, List.set_cons_zero, List.set_cons_succ])
  refine wpAnyH_take (i := 5) (v := undef) rfl (by kernel_rfl) (by kernel_rfl) (by kernel_rfl) (fun _ _ _ h => h) (Or.inr ⟨by kernel_rfl, rfl⟩) (by assumption) ?_
  (try simp only [Act.put, List.setIfInBounds_toArray, List.set_cons_zero, List.set_cons_succ])
  refine wpAnyH_take (i := 6) (v := undef) rfl (by kernel_rfl) (by kernel_rfl) (by kernel_rfl) (fun _ _ _ h => h) (Or.inr ⟨by kernel_rfl, rfl⟩) (by assumption) ?_
  (try simp only [Act.put, List.setIfInBounds_toArray, List.set_cons_zero, List.set_cons_succ])
  refine wpAnyH_take (i := 7) (v := undef) rfl (by kernel_rfl) (by kernel_rfl) (by kernel_rfl) (fun _ _ _ h => h) (Or.inr ⟨by kernel_rfl, rfl⟩) (by assumption) ?_
  (try simp only [Act.put, List.setIfInBounds_toArray, List.set_cons_zero, List.set_cons_succ])
  refine wpAnyH_take (i := 8) (v := (.bool true)) rfl (by kernel_rfl) (by kernel_rfl) (by kernel_rfl) (fun _ _ _ h => h) (Or.inl ⟨by rfl, ?_⟩) (by assumption) ?_
  · intro w' hSw
    (try dsimp only at hSw)
    go_simp <;> first | exact i64_in (by omega) (by omega) | exact u32_in (by omega) (by omega) | exact u32_add _ _ | (rw [Int.tmod_eq_emod_of_nonneg (by omega)]; omega) | (rw [Int.tdiv_eq_ediv_of_nonneg (by omega)]; omega) | omega
  (try simp only [Act.put, List.setIfInBounds_toArray, List.set_cons_zero, List.set_cons_succ])
  refine wpAnyH_done (by kernel_rfl) ?_ _
  clear hHeld
  have R5 := hide (R4.out.trans (B5.out.mono R4.out.size))
  have G5 := hide (B4.out.trans (B5.out.mono B4.out.size))
  obtain ⟨j0, j1, j2, j3, f0, f1, f2, f3⟩ := km.out _ R5.out
  go_wp2_with fail
  refine bodyPost_ret (v := .tuple #[.agg #[.int .i64 0, .int .i64 0, .int .i64 0, .bool false], .int .i64 63]) (by simp [results, Tryz.results14, go_sem, j0, j1, j2, j3]) rfl ⟨rfl, ?_⟩
  exact (((G5.out.setCell (Nat.le_refl _) _).setCell (Nat.le_refl _) _).setCell (Nat.le_refl _) _).setCell (Nat.le_refl _) _

set_option maxHeartbeats 4000000 in
set_option maxRecDepth 100000 in
set_option linter.unusedSimpArgs false in
theorem readName_yes (s : ByteArray) (hs : s.size ≤ 4294967280) (w : World) (he : NEnv w) (p r c : Nat) (hp : p < 64) (hr : r < 16) (hc : c < 16) (D : Bool) (hD : D = decide ((wds s.data.toList).2.2.2 = dataW)) (a1 : av (wds s.data.toList).1 = (p : Int)) (a2 : av (wds s.data.toList).2.1 = (r : Int)) (a3 : av (wds s.data.toList).2.2.1 = (c : Int)) :
    Calls Tryz.prog 14 #[.string s] w fun x w' => x = .returned (if strOf (dd p) = strOf (wds s.data.toList).1 ∧ strOf (dd r) = strOf (wds s.data.toList).2.1 ∧ strOf (dd c) = strOf (wds s.data.toList).2.2.1 ∧ strOf (endW D) = strOf (wds s.data.toList).2.2.2 then .tuple #[fvVal (p, r, c, D), .int .i64 0] else .tuple #[fvZero, .int .i64 63]) ∧ Below w.heap.size w w' := by
  have hz := wds_small s.data.toList
  rw [size_data] at hz
  have C := hide (fun w' (hb : Below w.heap.size w w') => by
    obtain ⟨m, hm⟩ := (he.below hb).m
    exact cutN_any s m w' (by omega) hm)
  have F : Hid (∀ w', Below w.heap.size w w' → Calls Tryz.prog 29 #[.agg #[.string (strOf (wds s.data.toList).1), .string (strOf (wds s.data.toList).2.1), .string (strOf (wds s.data.toList).2.2.1), .string (strOf (wds s.data.toList).2.2.2)]] w' fun x w'' => x = .returned (.agg #[.int .i64 (av (wds s.data.toList).1), .int .i64 (av (wds s.data.toList).2.1), .int .i64 (av (wds s.data.toList).2.2.1), .bool (decide ((wds s.data.toList).2.2.2 = dataW))]) ∧ Below w'.heap.size w' w'') := fun w' hb => by
    obtain ⟨t1, p1, h1⟩ := (he.below hb).s
    obtain ⟨t2, p2, h2⟩ := (he.below hb).r
    exact file_any (strOf (wds s.data.toList).1) (strOf (wds s.data.toList).2.1) (strOf (wds s.data.toList).2.2.1) (strOf (wds s.data.toList).2.2.2) (by rw [strOf_size]; omega) (by rw [strOf_size]; omega) (by rw [strOf_size]; omega) _ _ w' h1 h2 ⟨_, _, rfl⟩ ⟨_, _, rfl⟩
  have M := hide (fun w' D => mayBe_any (av (wds s.data.toList).1) (av (wds s.data.toList).2.1) (av (wds s.data.toList).2.2.1) D w')
  have h : isVal (p : Int) (r : Int) (c : Int) = true := decide_eq_true (by omega)
  rw [a1, a2, a3] at F M
  rw [h] at M
  rw [← hD] at F
  have T := hide (fun w' => titleOf_any p r c D (by omega) (by omega) (by omega) w')
  obtain ⟨V1, hV1⟩ : ∃ V1 : Int, V1 = (p : Int) := ⟨_, rfl⟩
  obtain ⟨V2, hV2⟩ : ∃ V2 : Int, V2 = (r : Int) := ⟨_, rfl⟩
  obtain ⟨V3, hV3⟩ : ∃ V3 : Int, V3 = (c : Int) := ⟨_, rfl⟩
  unfold fvVal
  simp only
  rw [← hV1, ← hV2, ← hV3] at F M T ⊢
  clear hV1 hV2 hV3 a1 a2 a3 hD
  generalize strOf (dd p) = Z1 at *
  generalize strOf (dd r) = Z2 at *
  generalize strOf (dd c) = Z3 at *
  generalize strOf (endW D) = Z4 at *
  generalize strOf (wds s.data.toList).1 = X1 at *
  generalize strOf (wds s.data.toList).2.1 = X2 at *
  generalize strOf (wds s.data.toList).2.2.1 = X3 at *
  generalize strOf (wds s.data.toList).2.2.2 = X4 at *
  obtain ⟨W0, hW0⟩ : ∃ W0, W0 = w.alloc (.cells #[.int .i64 0, .int .i64 0, .int .i64 0, .bool false] 45) := ⟨_, rfl⟩
  have B0 : Hid (Below w.heap.size w W0) := by rw [hW0]; exact (Below.refl _ w).alloc (Nat.le_refl _) _
  have s0 : w.heap.size < W0.heap.size := by rw [hW0]; simp
  have km : Hid (∀ w', Below W0.heap.size W0 w' → w'.cell? ⟨w.heap.size, 0, none⟩ = some (.int .i64 0) ∧ w'.cell? ⟨w.heap.size, 1, none⟩ = some (.int .i64 0) ∧ w'.cell? ⟨w.heap.size, 2, none⟩ = some (.int .i64 0) ∧ w'.cell? ⟨w.heap.size, 3, none⟩ = some (.bool false) ∧ w'.frozen? ⟨w.heap.size, 0, none⟩ = false ∧ w'.frozen? ⟨w.heap.size, 1, none⟩ = false ∧ w'.frozen? ⟨w.heap.size, 2, none⟩ = false ∧ w'.frozen? ⟨w.heap.size, 3, none⟩ = false) := fun w' hb => by
    rw [hb.cell (by exact s0), hb.cell (by exact s0), hb.cell (by exact s0), hb.cell (by exact s0), hb.frozen (by exact s0), hb.frozen (by exact s0), hb.frozen (by exact s0), hb.frozen (by exact s0), hW0]
    exact ⟨by simp, by simp, by simp, by simp, by simp, by simp, by simp, by simp⟩
  unfold fvZero
  clear hz he h
  go_enter Tryz.func14, Tryz.ntmps14
  go_wp2_with fail
  rw [← hW0]
  clear hW0
  refine Calls.mono (C.out _ B0.out) ?_
  rintro x w1 ⟨rfl, b1⟩
  have B1 := hide (B0.out.trans (b1.mono B0.out.size))
  have R1 := hide b1
  clear b1
  go_wp2_with fail
  obtain ⟨W2, hW2⟩ : ∃ W2, W2 = w1.alloc (.cells #[.string X1, .string X2, .string X3, .string X4] 62) := ⟨_, rfl⟩
  have r2 : Below w1.heap.size w1 W2 := by rw [hW2]; exact (Below.refl _ w1).alloc (Nat.le_refl _) _
  have s2 : w1.heap.size < W2.heap.size := by rw [hW2]; simp
  have B2 := hide (B1.out.trans (r2.mono B1.out.size))
  have R2 := hide (R1.out.trans (r2.mono R1.out.size))
  have kt : Hid (∀ w', Below W2.heap.size W2 w' → w'.cell? ⟨w1.heap.size, 0, none⟩ = some (.string X1) ∧ w'.cell? ⟨w1.heap.size, 1, none⟩ = some (.string X2) ∧ w'.cell? ⟨w1.heap.size, 2, none⟩ = some (.string X3) ∧ w'.cell? ⟨w1.heap.size, 3, none⟩ = some (.string X4)) := fun w' hb => by
    rw [hb.cell (by exact s2), hb.cell (by exact s2), hb.cell (by exact s2), hb.cell (by exact s2), hW2]
    exact ⟨by simp, by simp, by simp, by simp⟩
  rw [← hW2]
  clear hW2 r2
  refine Calls.mono (F.out _ B2.out) ?_
  rintro x w3 ⟨rfl, b3⟩
  have B3 := hide (B2.out.trans (b3.mono B2.out.size))
  have R3 := hide (R2.out.trans (b3.mono R2.out.size))
  have T3 := hide b3
  clear b3
  go_wp2_with fail
  obtain ⟨W4, hW4⟩ : ∃ W4, W4 = w3.alloc (.cells #[.int .i64 V1, .int .i64 V2, .int .i64 V3, .bool D] 45) := ⟨_, rfl⟩
  have r4 : Below w3.heap.size w3 W4 := by rw [hW4]; exact (Below.refl _ w3).alloc (Nat.le_refl _) _
  have s4 : w3.heap.size < W4.heap.size := by rw [hW4]; simp
  have B4 := hide (B3.out.trans (r4.mono B3.out.size))
  have R4 := hide (R3.out.trans (r4.mono R3.out.size))
  have T4 := hide (T3.out.trans (r4.mono T3.out.size))
  have kf : Hid (∀ w', Below W4.heap.size W4 w' → w'.cell? ⟨w3.heap.size, 0, none⟩ = some (.int .i64 V1) ∧ w'.cell? ⟨w3.heap.size, 1, none⟩ = some (.int .i64 V2) ∧ w'.cell? ⟨w3.heap.size, 2, none⟩ = some (.int .i64 V3) ∧ w'.cell? ⟨w3.heap.size, 3, none⟩ = some (.bool D)) := fun w' hb => by
    rw [hb.cell (by exact s4), hb.cell (by exact s4), hb.cell (by exact s4), hb.cell (by exact s4), hW4]
    exact ⟨by simp, by simp, by simp, by simp⟩
  rw [← hW4]
  clear hW4 r4
  have KA : Hid (∀ w', Below W4.heap.size W4 w' → w'.cell? ⟨w3.heap.size, 0, none⟩ = some (.int .i64 V1) ∧ w'.cell? ⟨w3.heap.size, 1, none⟩ = some (.int .i64 V2) ∧ w'.cell? ⟨w3.heap.size, 2, none⟩ = some (.int .i64 V3) ∧ w'.cell? ⟨w3.heap.size, 3, none⟩ = some (.bool D) ∧ w'.cell? ⟨w1.heap.size, 0, none⟩ = some (.string X1) ∧ w'.cell? ⟨w1.heap.size, 1, none⟩ = some (.string X2) ∧ w'.cell? ⟨w1.heap.size, 2, none⟩ = some (.string X3) ∧ w'.cell? ⟨w1.heap.size, 3, none⟩ = some (.string X4)) := fun w' hb => by
    obtain ⟨a0, a1, a2, a3⟩ := kf.out w' hb
    obtain ⟨c0, c1, c2, c3⟩ := kt.out w' (T4.out.trans (hb.mono T4.out.size))
    exact ⟨a0, a1, a2, a3, c0, c1, c2, c3⟩
  have BW := hide (Below.refl W4.heap.size W4).drew
  refine wp_region_held_drew (S := fun w' => w'.cell? ⟨w3.heap.size, 0, none⟩ = some (.int .i64 V1) ∧ w'.cell? ⟨w3.heap.size, 1, none⟩ = some (.int .i64 V2) ∧ w'.cell? ⟨w3.heap.size, 2, none⟩ = some (.int .i64 V3) ∧ w'.cell? ⟨w3.heap.size, 3, none⟩ = some (.bool D) ∧ w'.cell? ⟨w1.heap.size, 0, none⟩ = some (.string X1) ∧ w'.cell? ⟨w1.heap.size, 1, none⟩ = some (.string X2) ∧ w'.cell? ⟨w1.heap.size, 2, none⟩ = some (.string X3) ∧ w'.cell? ⟨w1.heap.size, 3, none⟩ = some (.string X4)) (by kernel_rfl) (KA.out _ BW.out) (fun hHeld => ?_)
  refine wpAnyH_take (i := 0) (v := (.agg #[.int .i64 V1, .int .i64 V2, .int .i64 V3, .bool D])) rfl (by kernel_rfl) (by kernel_rfl) (by kernel_rfl) (fun _ _ _ h => h) (Or.inl ⟨by rfl, ?_⟩) (by assumption) ?_
  · intro w' hSw
    (try dsimp only at hSw)
    (obtain ⟨hS1, hS2, hS3, hS4, hS5, hS6, hS7, hS8⟩ := hSw; go_simp)
  (try simp only [Act.put, List.setIfInBounds_toArray, List.set_cons_zero, List.set_cons_succ])
  refine wpAnyH_ready (rs := [1]) (by kernel_rfl) (by simp) ?_
  refine AllReadyH.cons rfl (fun K hK => ?_) AllReadyH.nil
  go_simp
  refine Calls.mono (M.out _ _) ?_
  rintro x w5 ⟨rfl, b5⟩
  have B5 := hide (BW.out.trans (b5.mono BW.out.size))
  clear b5
  refine hK.out _ _ (KA.out _ B5.out) (fun hHeld => ?_)
  clear hK
  (try simp only [Act.put, List.setIfInBounds_toArray, List.set_cons_zero, List.set_cons_succ])
  refine wpAnyH_take (i := 2) (v := (.bool false)) rfl (by kernel_rfl) (by kernel_rfl) (by kernel_rfl) (fun _ _ _ h => h) (Or.inl ⟨by rfl, ?_⟩) (by assumption) ?_
  · intro w' hSw
    (try dsimp only at hSw)
    go_simp <;> first | exact i64_in (by omega) (by omega) | exact u32_in (by omega) (by omega) | exact u32_add _ _ | (rw [Int.tmod_eq_emod_of_nonneg (by omega)]; omega) | (rw [Int.tdiv_eq_ediv_of_nonneg (by omega)]; omega) | omega
  (try simp only [Act.put, List.setIfInBounds_toArray, List.set_cons_zero, List.set_cons_succ])
  refine wpAnyH_take (i := 3) (v := (.bool false)) rfl (by kernel_rfl) (by kernel_rfl) (by kernel_rfl) (fun _ _ _ h => h) (Or.inl ⟨by rfl, ?_⟩) (by assumption) ?_
  · intro w' hSw
    (try dsimp only at hSw)
    go_simp <;> first | exact i64_in (by omega) (by omega) | exact u32_in (by omega) (by omega) | exact u32_add _ _ | (rw [Int.tmod_eq_emod_of_nonneg (by omega)]; omega) | (rw [Int.tdiv_eq_ediv_of_nonneg (by omega)]; omega) | omega
  (try simp only [Act.put, List.setIfInBounds_toArray, List.set_cons_zero, List.set_cons_succ])
  refine wpAnyH_take (i := 4) (v := (.agg #[.int .i64 V1, .int .i64 V2, .int .i64 V3, .bool D])) rfl (by kernel_rfl) (by kernel_rfl) (by kernel_rfl) (fun _ _ _ h => h) (Or.inl ⟨by kernel_rfl, ?_⟩) (by assumption) ?_
  · intro w' hSw
    (try dsimp only at hSw)
    (obtain ⟨hS1, hS2, hS3, hS4, hS5, hS6, hS7, hS8⟩ := hSw; go_simp)
  (try simp only [Act.put, List.setIfInBounds_toArray, List.set_cons_zero, List.set_cons_succ])
  refine wpAnyH_take (i := 6) (v := (.agg #[.string X1, .string X2, .string X3, .string X4])) rfl (by kernel_rfl) (by kernel_rfl) (by kernel_rfl) (fun _ _ _ h => h) (Or.inl ⟨by kernel_rfl, ?_⟩) (by assumption) ?_
  · intro w' hSw
    (try dsimp only at hSw)
    (obtain ⟨hS1, hS2, hS3, hS4, hS5, hS6, hS7, hS8⟩ := hSw; go_simp)
  (try simp only [Act.put, List.setIfInBounds_toArray, List.set_cons_zero, List.set_cons_succ])
  refine wpAnyH_ready (rs := [5]) (by kernel_rfl) (by simp) ?_
  refine AllReadyH.cons rfl (fun K hK => ?_) AllReadyH.nil
  go_simp
  refine Calls.mono (T.out _) ?_
  rintro x w6 ⟨rfl, b6⟩
  have B6 := hide (B5.out.trans (b6.mono B5.out.size))
  clear b6
  refine hK.out _ _ (KA.out _ B6.out) (fun hHeld => ?_)
  clear hK
  (try simp only [Act.put, List.setIfInBounds_toArray, List.set_cons_zero, List.set_cons_succ])
  by_cases hq : Z1 = X1 ∧ Z2 = X2 ∧ Z3 = X3 ∧ Z4 = X4
  case pos =>
    refine wpAnyH_take (i := 7) (v := (.bool false)) rfl (by kernel_rfl) (by kernel_rfl) (by kernel_rfl) (fun _ _ _ h => h) (Or.inl ⟨by kernel_rfl, ?_⟩) (by assumption) ?_
    · intro w' hSw
      (try dsimp only at hSw)
      go_simp
    (try simp only [Act.put, List.setIfInBounds_toArray, List.set_cons_zero, List.set_cons_succ])
    refine wpAnyH_take (i := 8) (v := (.bool false)) rfl (by kernel_rfl) (by kernel_rfl) (by kernel_rfl) (fun _ _ _ h => h) (Or.inl ⟨by rfl, ?_⟩) (by assumption) ?_
    · intro w' hSw
      (try dsimp only at hSw)
      go_simp <;> first | exact i64_in (by omega) (by omega) | exact u32_in (by omega) (by omega) | exact u32_add _ _ | (rw [Int.tmod_eq_emod_of_nonneg (by omega)]; omega) | (rw [Int.tdiv_eq_ediv_of_nonneg (by omega)]; omega) | omega
    (try simp only [Act.put, List.setIfInBounds_toArray, List.set_cons_zero, List.set_cons_succ])
    refine wpAnyH_done (by kernel_rfl) ?_ _
    clear hHeld
    have R5 := hide (R4.out.trans (B6.out.mono R4.out.size))
    have G5 := hide (B4.out.trans (B6.out.mono B4.out.size))
    obtain ⟨j0, j1, j2, j3, f0, f1, f2, f3⟩ := km.out _ R5.out
    obtain ⟨q0, q1, q2, q3, _⟩ := KA.out _ B6.out
    go_wp2_with fail
    refine bodyPost_ret (v := .tuple #[.agg #[.int .i64 V1, .int .i64 V2, .int .i64 V3, .bool D], .int .i64 0]) (by simp [results, Tryz.results14, go_sem, j0, j1, j2, j3]) rfl ⟨by first | rfl | (rw [if_pos hq]; rfl), ?_⟩
    exact (((G5.out.setCell (Nat.le_refl _) _).setCell (Nat.le_refl _) _).setCell (Nat.le_refl _) _).setCell (Nat.le_refl _) _
  case neg =>
    refine wpAnyH_take (i := 7) (v := (.bool true)) rfl (by kernel_rfl) (by kernel_rfl) (by kernel_rfl) (fun _ _ _ h => h) (Or.inl ⟨by kernel_rfl, ?_⟩) (by assumption) ?_
    · intro w' hSw
      (try dsimp only at hSw)
      (go_simp; intro g1 g2 g3 g4; exact hq ⟨tl_eq g1, tl_eq g2, tl_eq g3, tl_eq g4⟩)
    (try simp only [Act.put, List.setIfInBounds_toArray, List.set_cons_zero, List.set_cons_succ])
    refine wpAnyH_take (i := 8) (v := (.bool true)) rfl (by kernel_rfl) (by kernel_rfl) (by kernel_rfl) (fun _ _ _ h => h) (Or.inl ⟨by rfl, ?_⟩) (by assumption) ?_
    · intro w' hSw
      (try dsimp only at hSw)
      go_simp <;> first | exact i64_in (by omega) (by omega) | exact u32_in (by omega) (by omega) | exact u32_add _ _ | (rw [Int.tmod_eq_emod_of_nonneg (by omega)]; omega) | (rw [Int.tdiv_eq_ediv_of_nonneg (by omega)]; omega) | omega
    (try simp only [Act.put, List.setIfInBounds_toArray, List.set_cons_zero, List.set_cons_succ])
    refine wpAnyH_done (by kernel_rfl) ?_ _
    clear hHeld
    have R5 := hide (R4.out.trans (B6.out.mono R4.out.size))
    have G5 := hide (B4.out.trans (B6.out.mono B4.out.size))
    obtain ⟨j0, j1, j2, j3, f0, f1, f2, f3⟩ := km.out _ R5.out
    obtain ⟨q0, q1, q2, q3, _⟩ := KA.out _ B6.out
    go_wp2_with fail
    refine bodyPost_ret (v := .tuple #[.agg #[.int .i64 0, .int .i64 0, .int .i64 0, .bool false], .int .i64 63]) (by simp [results, Tryz.results14, go_sem, j0, j1, j2, j3]) rfl ⟨by first | rfl | (rw [if_neg hq]; rfl), ?_⟩
    exact (((G5.out.setCell (Nat.le_refl _) _).setCell (Nat.le_refl _) _).setCell (Nat.le_refl _) _).setCell (Nat.le_refl _) _

end Go.Proofs.YtioiphonajinmaaGreatDoor
