import Derived.Test.YtaieeabolcldgaaDoorPaSame
namespace Go.Proofs.YtaieeabolcldgaaDoor
open Go.RowKit Go.Shelf
theorem pnum_any (d : Int) (w : World) :
    Calls Tryd.prog 8 #[.int .i64 d] w fun e w' => e = .returned (.int .i64 d) ∧ w = w' := by
  go_enter Tryd.func8, Tryd.ntmps8
  go_wp2
  go_ret
  exact ⟨rfl, rfl⟩
set_option maxHeartbeats 2000000 in
set_option maxRecDepth 100000 in
theorem pointerAnswers_any (tx : ByteArray) (w : World) (htx : tx.size < 9223372036854775808) (hT4 : Tab4 0 w) :
    Calls Tryd.prog 17 #[.string tx] w fun e w' => e = .returned (.bool true) ∧ Below w.heap.size w w' := by
  have C1 := hide (parsePointer_any tx w htx hT4)
  have C2 := hide (fun w' => rparsePointer_any tx w' htx)
  obtain ⟨e0, e1, e2, e3, e4⟩ := ptr_err tx
  rw [e0, e1, e2, e3, e4] at C2
  clear e0 e1 e2 e3 e4
  generalize ptrPV tx 0 = A0 at *
  generalize ptrPV tx 1 = A1 at *
  generalize ptrPV tx 2 = A2 at *
  generalize ptrPV tx 3 = A3 at *
  generalize ptrPE tx = E at *
  go_enter Tryd.func17, Tryd.ntmps17
  go_wp2_with fail
  refine Calls.mono C1.out ?_
  rintro e w1 ⟨rfl, b1⟩
  have B1 := hide b1
  clear b1 C1
  obtain ⟨Wm, hWm⟩ : ∃ Wm, Wm = w1.alloc (.cells #[.int .i64 A0, .int .i64 A1, .int .i64 A2, .int .i64 A3] 42) := ⟨_, rfl⟩
  have bm : Below w1.heap.size w1 Wm := by rw [hWm]; exact (Below.refl _ _).alloc (Nat.le_refl _) _
  have sm : w1.heap.size < Wm.heap.size := by rw [hWm]; simp
  have km : Hid (∀ w', Below Wm.heap.size Wm w' → w'.cell? ⟨w1.heap.size, 0, none⟩ = some (.int .i64 A0) ∧ w'.cell? ⟨w1.heap.size, 1, none⟩ = some (.int .i64 A1) ∧ w'.cell? ⟨w1.heap.size, 2, none⟩ = some (.int .i64 A2) ∧ w'.cell? ⟨w1.heap.size, 3, none⟩ = some (.int .i64 A3)) := fun w' hb => by
    rw [hb.cell (by exact sm), hb.cell (by exact sm), hb.cell (by exact sm), hb.cell (by exact sm), hWm]
    exact ⟨by simp, by simp, by simp, by simp⟩
  have BM := hide bm
  clear bm
  go_wp2_with fail
  rw [← hWm]
  clear hWm
  refine Calls.mono (C2.out _) ?_
  rintro e w2 ⟨rfl, b2⟩
  obtain ⟨k0, k1, k2, k3⟩ := km.out _ b2
  have hl2 : w1.heap.size < w2.heap.size := Nat.lt_of_lt_of_le sm b2.size
  have B2 := hide ((B1.out.trans (BM.out.mono B1.out.size)).trans (b2.mono (B1.out.trans (BM.out.mono B1.out.size)).size))
  clear b2 C2 km
  go_wp2_with fail
  refine Calls.mono (pnum_any _ _) ?_
  rintro e w3 ⟨rfl, rfl⟩
  go_wp2_with fail
  go_ret
  exact ⟨rfl, B2.out.alloc B2.out.size _⟩
theorem ptrS_len (c p e s : Int) (hc : I64 c) (hp : I64 p) (he : I64 e) (hs : I64 s) : (ptrS c p e s).size < 9223372036854775808 := by
  unfold ptrS
  split
  · unfold paperS
    have z1 := itoa_len c hc.1 hc.2
    have z2 := itoa_len p hp.1 hp.2
    have z3 := itoa_len e he.1 he.2
    have z4 := itoa_len s hs.1 hs.2
    have t : ptrTitle.size = 17 := rfl
    have u : sumWd.size = 4 := rfl
    rw [ByteArray.size_append, ByteArray.size_append, strOf_size, strOf_size, sealL_len, t, u]
    unfold ptrL
    simp only [List.length_append, List.length_cons, List.length_nil]
    omega
  · decide
set_option maxHeartbeats 2000000 in
set_option maxRecDepth 100000 in
/-- the law PaperPointers -/
theorem pointers_any (c p e s : Int) (hc : I64 c) (hp : I64 p) (he : I64 e) (hs : I64 s) (tx : ByteArray) (w : World) (htx : tx.size < 9223372036854775808) (hT4 : Tab4 0 w) (hP : Pow w) :
    Calls Tryd.prog 5 #[.agg #[.int .i64 c, .int .i64 p, .int .i64 e, .int .i64 s], .string tx] w fun x w' => x = .returned (.bool true) ∧ Below w.heap.size w w' := by
  have hz := ptrS_len c p e s hc hp he hs
  obtain ⟨W0, hW0⟩ : ∃ W0, W0 = w.alloc (.cells #[.int .i64 c, .int .i64 p, .int .i64 e, .int .i64 s] 42) := ⟨_, rfl⟩
  have b0 : Below w.heap.size w W0 := by rw [hW0]; exact (Below.refl _ w).alloc (Nat.le_refl _) _
  have s0 : w.heap.size < W0.heap.size := by rw [hW0]; simp
  have km : Hid (∀ w', Below W0.heap.size W0 w' → w'.cell? ⟨w.heap.size, 0, none⟩ = some (.int .i64 c) ∧ w'.cell? ⟨w.heap.size, 1, none⟩ = some (.int .i64 p) ∧ w'.cell? ⟨w.heap.size, 2, none⟩ = some (.int .i64 e) ∧ w'.cell? ⟨w.heap.size, 3, none⟩ = some (.int .i64 s)) := fun w' hb => by
    rw [hb.cell (by exact s0), hb.cell (by exact s0), hb.cell (by exact s0), hb.cell (by exact s0), hW0]
    exact ⟨by simp, by simp, by simp, by simp⟩
  have C1 := hide (printPointer_any c p e s hc hp he hs W0 (hP.below b0) (hT4.below b0 hT4.lt))
  have C2 := hide (fun w' (hb : Below w.heap.size w w') => rprintPointer_any c p e s hc hp he hs w' (hP.below hb))
  have C3 := hide (fun w' (hb : Below w.heap.size w w') => pointerAnswers_any tx w' htx (hT4.below hb hT4.lt))
  have C4 := hide (fun w' (hb : Below w.heap.size w w') => pointerAnswers_any (ptrS c p e s) w' hz (hT4.below hb hT4.lt))
  generalize ptrS c p e s = S at *
  generalize ptrE c p e s = E at *
  have B0 := hide b0
  clear hT4 hP b0 hc hp he hs hz
  go_enter Tryd.func5, Tryd.ntmps5
  go_wp2_with fail
  rw [← hW0]
  clear hW0
  refine Calls.mono C1.out ?_
  rintro x w1 ⟨rfl, b1⟩
  obtain ⟨k0, k1, k2, k3⟩ := km.out _ b1
  have B1 := hide (B0.out.trans (b1.mono B0.out.size))
  have D2 := hide (C2.out w1 B1.out)
  clear b1 C1 C2 km
  go_wp2_with fail
  refine Calls.mono D2.out ?_
  rintro x w2 ⟨rfl, b2⟩
  have B2 := hide (B1.out.trans (b2.mono B1.out.size))
  have D3 := hide (C3.out w2 B2.out)
  clear b2 D2 C3 k0 k1 k2 k3
  go_wp2_with fail
  refine Calls.mono (pnum_any _ _) ?_
  rintro x w3 ⟨rfl, rfl⟩
  go_wp2_with fail
  refine Calls.mono D3.out ?_
  rintro x w4 ⟨rfl, b4⟩
  have B4 := hide (B2.out.trans (b4.mono B2.out.size))
  have D4 := hide (C4.out w4 B4.out)
  clear b4 D3 C4
  go_wp2_with fail
  refine Calls.mono D4.out ?_
  rintro x w5 ⟨rfl, b5⟩
  have B5 := hide (B4.out.trans (b5.mono B4.out.size))
  clear b5 D4
  go_wp2_with fail
  go_ret
  exact ⟨rfl, B5.out⟩
end Go.Proofs.YtaieeabolcldgaaDoor
