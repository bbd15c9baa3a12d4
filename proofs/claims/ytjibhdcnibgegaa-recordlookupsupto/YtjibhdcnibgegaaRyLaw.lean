import Derived.Test.YtjibhdcnibgegaaRyDec
namespace Go.Proofs.Ytjibhdcnibgegaa
open Go.RowKit
theorem dcG_small (m : Int) (x d : ByteArray) : (dcG m x d).length ≤ x.size ∧ ∀ g ∈ dcG m x d, g.2.length ≤ 512 := by
  unfold dcG
  by_cases h : riE m x = 0
  · rw [if_pos h]
    cases hk : dcOk m x d with
    | none => exact ⟨Nat.zero_le _, fun g hg => by cases hg⟩
    | some l =>
      unfold dcOk at hk
      split at hk
      · rename_i l' q h'
        split at hk
        · simp only [Option.some.injEq] at hk
          subst hk
          obtain ⟨_, f2, _, f4⟩ := ch_facts _ _ _ (Nat.le_refl _) (dec_ch _ _ h')
          refine ⟨by rw [Option.getD_some, f2]; exact Nat.div_le_self _ _, fun g hg => ?_⟩
          rw [Option.getD_some] at hg
          obtain ⟨i, hi, rfl⟩ := List.getElem_of_mem hg
          exact (fine (f4 i hi).2).1
        · cases hk
      · cases hk
  · rw [if_neg h]
    exact ⟨Nat.zero_le _, fun g hg => by cases hg⟩
set_option maxHeartbeats 2000000 in
set_option maxRecDepth 100000 in
/-- the law RecordDecodes -/
theorem decodes_any (m : Int) (x d : ByteArray) (hx : x.size ≤ 1048576) (hd : d.size ≤ 1048576) (w : World) :
    Calls Try.prog 7 #[.int .i64 m, .agg #[.string x, .string d]] w fun e w' => e = .returned (.bool true) ∧ Below w.heap.size w w' := by
  obtain ⟨W0, hW0⟩ : ∃ W0, W0 = w.alloc (.cells #[.string x, .string d] 52) := ⟨_, rfl⟩
  have s0 : W0.heap.size = w.heap.size + 1 := by rw [hW0]; simp
  have b0 : Below w.heap.size w W0 := by rw [hW0]; exact (Below.refl _ w).alloc (Nat.le_refl _) _
  have k0 : W0.cell? ⟨w.heap.size, 0, none⟩ = some (.string x) := by rw [hW0]; simp
  have k1 : W0.cell? ⟨w.heap.size, 1, none⟩ = some (.string d) := by rw [hW0]; simp
  have CC : Hid (∀ w', Below W0.heap.size W0 w' → w'.cell? ⟨w.heap.size, 0, none⟩ = some (.string x) ∧ w'.cell? ⟨w.heap.size, 1, none⟩ = some (.string d)) := fun w' hw => by
    rw [hw.cell (by rw [s0]; exact Nat.lt_succ_self _), hw.cell (by rw [s0]; exact Nat.lt_succ_self _)]; exact ⟨k0, k1⟩
  have HB0 := hide b0
  have C1 := hide (decode_any m x d (by omega) (by omega) W0)
  have C2 := hide (fun w' => rdecode_any m x d hx hd w')
  obtain ⟨hs1, hs2⟩ := dcG_small m x d
  have HS2 := hide hs2
  clear b0 hs2
  generalize dcE m x d = E at *
  generalize dcG m x d = G at *
  go_enter Try.func7, Try.ntmps7
  go_wp2_with fail
  rw [← hW0]
  refine Calls.mono C1.out ?_
  rintro e w1 ⟨v1, rfl, o1, hb1⟩
  obtain ⟨c10, c11⟩ := CC.out w1 hb1
  have O1 := hide o1
  have HB1 := hide hb1
  have s1 := hb1.size
  clear o1 hb1 hW0 k0 k1
  go_wp2_with fail
  refine Calls.mono (C2.out _) ?_
  rintro e w2 ⟨v2, rfl, o2, hb2⟩
  have B2 := HB1.out.trans (hb2.mono s1)
  have s2 := B2.size
  have SG := hide (sameGroups_any v1 v2 _ _ G w2 (O1.out.below hb2) o2 (by omega) (fun g hg => by have := HS2.out g hg; omega))
  have HB2 := hide B2
  clear o2 hb2 B2
  go_wp2_with fail
  refine Calls.mono SG.out ?_
  rintro e w3 ⟨rfl, hb3⟩
  have B3 := hide (HB0.out.trans ((HB2.out.trans (hb3.mono s2)).mono (by omega)))
  clear hb3
  go_wp2_with fail
  refine Calls.mono (num_any _ _) ?_
  rintro e wx ⟨rfl, rfl⟩
  go_wp2
  go_ret
  exact ⟨rfl, B3.out⟩
end Go.Proofs.Ytjibhdcnibgegaa
