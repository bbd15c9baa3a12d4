import Derived.Test.YtaclbffacnoddaaGreatDoorPqSame
namespace Go.Proofs.YtaclbffacnoddaaGreatDoor
open Go.RowKit Go.Shelf
set_option maxHeartbeats 4000000 in
set_option maxRecDepth 100000 in
theorem metaAnswers_any (tx : ByteArray) (w : World) (htx : tx.size < 9223372036854775808) (hT4 : Tab4 0 w) :
    Calls Tryz.prog 17 #[.string tx] w fun e w' => e = .returned (.bool true) ∧ Below w.heap.size w w' := by
  have C1 := hide (parseMeta_any tx w htx hT4)
  have C2 := hide (fun w' => rparseMeta_any tx w' htx)
  obtain ⟨e0, e, e1, e2, e3, e4, e5, e6, e7⟩ := meta_err tx
  unfold metaCells at C1 C2
  rw [e0, e, e1, e2, e3, e4, e5, e6, e7] at C2
  clear e0 e e1 e2 e3 e4 e5 e6 e7
  generalize metaPT tx = A0 at *
  generalize metaPV tx 1 = A1 at *
  generalize metaPV tx 2 = A2 at *
  generalize metaPV tx 3 = A3 at *
  generalize metaPV tx 4 = A4 at *
  generalize metaPV tx 5 = A5 at *
  generalize metaPV tx 6 = A6 at *
  generalize metaPV tx 7 = A7 at *
  generalize metaPE tx = E at *
  go_enter Tryz.func17, Tryz.ntmps17
  go_wp2_with fail
  refine Calls.mono C1.out ?_
  rintro e w1 ⟨rfl, b1⟩
  have B1 := hide b1
  clear b1 C1
  obtain ⟨Wm, hWm⟩ : ∃ Wm, Wm = w1.alloc (.cells #[.string A0, .int .i64 A1, .int .i64 A2, .int .i64 A3, .int .i64 A4, .int .i64 A5, .int .i64 A6, .int .i64 A7] 23) := ⟨_, rfl⟩
  have bm : Below w1.heap.size w1 Wm := by rw [hWm]; exact (Below.refl _ _).alloc (Nat.le_refl _) _
  have sm : w1.heap.size < Wm.heap.size := by rw [hWm]; simp
  have km : Hid (∀ w', Below Wm.heap.size Wm w' → w'.cell? ⟨w1.heap.size, 0, none⟩ = some (.string A0) ∧ w'.cell? ⟨w1.heap.size, 1, none⟩ = some (.int .i64 A1) ∧ w'.cell? ⟨w1.heap.size, 2, none⟩ = some (.int .i64 A2) ∧ w'.cell? ⟨w1.heap.size, 3, none⟩ = some (.int .i64 A3) ∧ w'.cell? ⟨w1.heap.size, 4, none⟩ = some (.int .i64 A4) ∧ w'.cell? ⟨w1.heap.size, 5, none⟩ = some (.int .i64 A5) ∧ w'.cell? ⟨w1.heap.size, 6, none⟩ = some (.int .i64 A6) ∧ w'.cell? ⟨w1.heap.size, 7, none⟩ = some (.int .i64 A7)) := fun w' hb => by
    rw [hb.cell (by exact sm), hb.cell (by exact sm), hb.cell (by exact sm), hb.cell (by exact sm), hb.cell (by exact sm), hb.cell (by exact sm), hb.cell (by exact sm), hb.cell (by exact sm), hWm]
    exact ⟨by simp, by simp, by simp, by simp, by simp, by simp, by simp, by simp⟩
  have BM := hide bm
  clear bm
  go_wp2_with fail
  rw [← hWm]
  clear hWm
  refine Calls.mono (C2.out _) ?_
  rintro e w2 ⟨rfl, b2⟩
  obtain ⟨j0, j1, j2, j3, j4, j5, j6, j7⟩ := km.out _ b2
  have hl2 : w1.heap.size < w2.heap.size := Nat.lt_of_lt_of_le sm b2.size
  have B2 := hide ((B1.out.trans (BM.out.mono B1.out.size)).trans (b2.mono (B1.out.trans (BM.out.mono B1.out.size)).size))
  clear b2 C2 km
  go_wp2_with fail
  refine Calls.mono (pnum_any _ _) ?_
  rintro e w3 ⟨rfl, rfl⟩
  go_wp2_with fail
  go_ret
  exact ⟨rfl, B2.out.alloc B2.out.size _⟩
set_option maxHeartbeats 4000000 in
set_option maxRecDepth 100000 in
/-- the law PaperMetas -/
theorem metas_any (st : ByteArray) (n1 n2 n3 n4 n5 n6 n7 : Int) (hst : st.size ≤ 9223372036854775807) (hn : ∀ i, I64 (mN n1 n2 n3 n4 n5 n6 n7 i)) (tx : ByteArray) (w : World) (htx : tx.size < 9223372036854775808) (hT4 : Tab4 0 w) (hP : Pow w) :
    Calls Tryz.prog 4 #[.agg #[.string st, .int .i64 n1, .int .i64 n2, .int .i64 n3, .int .i64 n4, .int .i64 n5, .int .i64 n6, .int .i64 n7], .string tx] w fun x w' => x = .returned (.bool true) ∧ Below w.heap.size w w' := by
  have hz := metaS_len st (mN n1 n2 n3 n4 n5 n6 n7) hn
  obtain ⟨W0, hW0⟩ : ∃ W0, W0 = w.alloc (.cells #[.string st, .int .i64 n1, .int .i64 n2, .int .i64 n3, .int .i64 n4, .int .i64 n5, .int .i64 n6, .int .i64 n7] 23) := ⟨_, rfl⟩
  have b0 : Below w.heap.size w W0 := by rw [hW0]; exact (Below.refl _ w).alloc (Nat.le_refl _) _
  have s0 : w.heap.size < W0.heap.size := by rw [hW0]; simp
  have km : Hid (∀ w', Below W0.heap.size W0 w' → w'.cell? ⟨w.heap.size, 0, none⟩ = some (.string st) ∧ w'.cell? ⟨w.heap.size, 1, none⟩ = some (.int .i64 n1) ∧ w'.cell? ⟨w.heap.size, 2, none⟩ = some (.int .i64 n2) ∧ w'.cell? ⟨w.heap.size, 3, none⟩ = some (.int .i64 n3) ∧ w'.cell? ⟨w.heap.size, 4, none⟩ = some (.int .i64 n4) ∧ w'.cell? ⟨w.heap.size, 5, none⟩ = some (.int .i64 n5) ∧ w'.cell? ⟨w.heap.size, 6, none⟩ = some (.int .i64 n6) ∧ w'.cell? ⟨w.heap.size, 7, none⟩ = some (.int .i64 n7)) := fun w' hb => by
    rw [hb.cell (by exact s0), hb.cell (by exact s0), hb.cell (by exact s0), hb.cell (by exact s0), hb.cell (by exact s0), hb.cell (by exact s0), hb.cell (by exact s0), hb.cell (by exact s0), hW0]
    exact ⟨by simp, by simp, by simp, by simp, by simp, by simp, by simp, by simp⟩
  have C1 : Hid (Calls Tryz.prog 6 #[.agg #[.string st, .int .i64 n1, .int .i64 n2, .int .i64 n3, .int .i64 n4, .int .i64 n5, .int .i64 n6, .int .i64 n7]] W0 fun x w' => x = .returned (.tuple #[.string (metaS st (mN n1 n2 n3 n4 n5 n6 n7)), .int .i64 (metaE st (mN n1 n2 n3 n4 n5 n6 n7))]) ∧ Below W0.heap.size W0 w') := printMeta_any st (mN n1 n2 n3 n4 n5 n6 n7) hst hn W0 (hP.below b0) (hT4.below b0 hT4.lt)
  have C2 := hide (fun w' (hb : Below w.heap.size w w') => rprintMeta_any st n1 n2 n3 n4 n5 n6 n7 hn w' (hP.below hb))
  have C3 := hide (fun w' (hb : Below w.heap.size w w') => metaAnswers_any tx w' htx (hT4.below hb hT4.lt))
  have C4 := hide (fun w' (hb : Below w.heap.size w w') => metaAnswers_any (metaS st (mN n1 n2 n3 n4 n5 n6 n7)) w' hz (hT4.below hb hT4.lt))
  generalize metaS st (mN n1 n2 n3 n4 n5 n6 n7) = S at *
  generalize metaE st (mN n1 n2 n3 n4 n5 n6 n7) = E at *
  have B0 := hide b0
  clear hT4 hP b0 hn hz hst
  go_enter Tryz.func4, Tryz.ntmps4
  go_wp2_with fail
  rw [← hW0]
  clear hW0
  refine Calls.mono C1.out ?_
  rintro x w1 ⟨rfl, b1⟩
  obtain ⟨j0, j1, j2, j3, j4, j5, j6, j7⟩ := km.out _ b1
  have B1 := hide (B0.out.trans (b1.mono B0.out.size))
  have D2 := hide (C2.out w1 B1.out)
  clear b1 C1 C2 km
  go_wp2_with fail
  refine Calls.mono D2.out ?_
  rintro x w2 ⟨rfl, b2⟩
  have B2 := hide (B1.out.trans (b2.mono B1.out.size))
  have D3 := hide (C3.out w2 B2.out)
  clear b2 D2 C3 j0 j1 j2 j3 j4 j5 j6 j7
  go_wp2_with fail
  refine Calls.mono (pnum_any _ _) ?_
  rintro x w3 ⟨rfl, rfl⟩
  go_wp2_with fail
  refine Calls.mono D3.out ?_
  rintro x w4 ⟨rfl, b4⟩
  have B4 := hide (B2.out.trans (b4.mono B2.out.size))
  have D4 := hide (C4.out w4 B4.out)
  clear b4 D3 C4
  go_wp2_with fail
  refine Calls.mono D4.out ?_
  rintro x w5 ⟨rfl, b5⟩
  have B5 := hide (B4.out.trans (b5.mono B4.out.size))
  clear b5 D4
  go_wp2_with fail
  go_ret
  exact ⟨rfl, B5.out⟩
end Go.Proofs.YtaclbffacnoddaaGreatDoor
