import Derived.Test.YtjibhdcnibgegaaRzLookR
namespace Go.Proofs.Ytjibhdcnibgegaa
open Go.RowKit
set_option maxHeartbeats 1000000 in
set_option maxRecDepth 100000 in
set_option linter.unusedSimpArgs false in
/-- the law RecordLookups -/
theorem lookups_any (m : Int) (x d h k : ByteArray) (hx : x.size ≤ 1048576) (hd : d.size ≤ 1048576) (hh : h.size ≤ 1048576) (hkk : k.size ≤ 1048576) (w : World) :
    Calls Try.prog 8 #[.int .i64 m, .agg #[.string x, .string d], .string h, .string k] w fun e w' => e = .returned (.bool true) ∧ Below w.heap.size w w' := by
  obtain ⟨W0, hW0⟩ : ∃ W0, W0 = w.alloc (.cells #[.string x, .string d] 52) := ⟨_, rfl⟩
  have s0 : W0.heap.size = w.heap.size + 1 := by rw [hW0]; simp
  have b0 : Below w.heap.size w W0 := by rw [hW0]; exact (Below.refl _ w).alloc (Nat.le_refl _) _
  have k0 : W0.cell? ⟨w.heap.size, 0, none⟩ = some (.string x) := by rw [hW0]; simp
  have k1 : W0.cell? ⟨w.heap.size, 1, none⟩ = some (.string d) := by rw [hW0]; simp
  have CC : Hid (∀ w', Below W0.heap.size W0 w' → w'.cell? ⟨w.heap.size, 0, none⟩ = some (.string x) ∧ w'.cell? ⟨w.heap.size, 1, none⟩ = some (.string d)) := fun w' hw => by
    rw [hw.cell (by rw [s0]; exact Nat.lt_succ_self _), hw.cell (by rw [s0]; exact Nat.lt_succ_self _)]; exact ⟨k0, k1⟩
  have HB0 := hide b0
  have C1 := hide (lookup_any m x d h k hx hd (by omega) (by omega) W0)
  have C2 := hide (fun w' => rlookup_any m x d h k hx hd (by omega) (by omega) w')
  clear b0
  unfold lkA at C1 C2
  generalize lkE m x d h k = E at *
  generalize (lkO m x d h k).getD ⟨#[]⟩ = LV at *
  generalize (lkO m x d h k).isSome = LB at *
  go_enter Try.func8, Try.ntmps8
  go_wp2_with fail
  rw [← hW0]
  refine Calls.mono C1.out ?_
  rintro e w1 ⟨rfl, hb1⟩
  obtain ⟨c10, c11⟩ := CC.out w1 hb1
  have HB1 := hide hb1
  have s1 := hb1.size
  clear hb1 hW0 k0 k1
  go_wp2_with fail
  refine Calls.mono (C2.out _) ?_
  rintro e w2 ⟨rfl, hb2⟩
  have B2 := hide (HB0.out.trans ((HB1.out.trans (hb2.mono s1)).mono (by omega)))
  clear hb2
  go_wp2_with fail
  refine Calls.mono (num_any _ _) ?_
  rintro e wx ⟨rfl, rfl⟩
  go_wp2
  go_ret
  exact ⟨rfl, B2.out⟩
end Go.Proofs.Ytjibhdcnibgegaa
