import Derived.Test.YtaclbffacnoddaaGreatDoorPart44
import Derived.Test.YtaclbffacnoddaaGreatDoorPmBack
namespace Go.Proofs.YtaclbffacnoddaaGreatDoor
open Go.RowKit Go.Shelf
set_option maxHeartbeats 4000000 in
set_option maxRecDepth 100000 in
/-- the document's metaFields -/
theorem rmetaFields_any (st : ByteArray) (n1 n2 n3 n4 n5 n6 n7 : Int) (w : World) :
    Calls Tryz.prog 29 #[.agg #[.string st, .int .i64 n1, .int .i64 n2, .int .i64 n3, .int .i64 n4, .int .i64 n5, .int .i64 n6, .int .i64 n7]] w fun x w' => x = .returned (.int .i64 (metaE st (mN n1 n2 n3 n4 n5 n6 n7))) ∧ Below w.heap.size w w' := by
  have hb : Hid (Below w.heap.size w (w.alloc (.cells #[.string st, .int .i64 n1, .int .i64 n2, .int .i64 n3, .int .i64 n4, .int .i64 n5, .int .i64 n6, .int .i64 n7] 23))) := (Below.refl _ _).alloc (Nat.le_refl _) _
  have L := hide (fun w' => rstore_any st w')
  obtain ⟨B, hB⟩ : ∃ B, B = metaE st (mN n1 n2 n3 n4 n5 n6 n7) := ⟨_, rfl⟩
  rw [← hB]
  have hB' : B = if (stOk st 1 40 && inR n1 1 999999 && inR n2 0 15 && inR n3 1 64 && inR n4 1 16 && inR n5 1 16 && inR n6 1 16 && inR n7 0 9007199254740992) = true then 0 else 42 := by rw [hB]; rfl
  have HB := hide hB'
  clear hB hB'
  generalize stOk st 1 40 = b0 at *
  cases b0 with
  | false =>
    go_enter Tryz.func29, Tryz.ntmps29
    go_wp2_with (first | (go_at_call 78; refine Calls.mono (L.out _) ?_; rintro e w' ⟨rfl, rfl⟩) | (go_at_call 79; refine Calls.mono (rin_any _ _ _ _) ?_; rintro e w' ⟨rfl, rfl⟩))
    go_ret
    exact ⟨ret_i (by rw [HB.out]; rfl), hb.out⟩
  | true =>
    cases h1 : inR n1 1 999999 with
    | false =>
      go_enter Tryz.func29, Tryz.ntmps29
      go_wp2_with (first | (go_at_call 78; refine Calls.mono (L.out _) ?_; rintro e w' ⟨rfl, rfl⟩) | (go_at_call 79; refine Calls.mono (rin_any _ _ _ _) ?_; rintro e w' ⟨rfl, rfl⟩))
      go_ret
      exact ⟨ret_i (by rw [HB.out, h1]; rfl), hb.out⟩
    | true =>
      cases h2 : inR n2 0 15 with
      | false =>
        go_enter Tryz.func29, Tryz.ntmps29
        go_wp2_with (first | (go_at_call 78; refine Calls.mono (L.out _) ?_; rintro e w' ⟨rfl, rfl⟩) | (go_at_call 79; refine Calls.mono (rin_any _ _ _ _) ?_; rintro e w' ⟨rfl, rfl⟩))
        go_ret
        exact ⟨ret_i (by rw [HB.out, h1, h2]; rfl), hb.out⟩
      | true =>
        cases h3 : inR n3 1 64 with
        | false =>
          go_enter Tryz.func29, Tryz.ntmps29
          go_wp2_with (first | (go_at_call 78; refine Calls.mono (L.out _) ?_; rintro e w' ⟨rfl, rfl⟩) | (go_at_call 79; refine Calls.mono (rin_any _ _ _ _) ?_; rintro e w' ⟨rfl, rfl⟩))
          go_ret
          exact ⟨ret_i (by rw [HB.out, h1, h2, h3]; rfl), hb.out⟩
        | true =>
          cases h4 : inR n4 1 16 with
          | false =>
            go_enter Tryz.func29, Tryz.ntmps29
            go_wp2_with (first | (go_at_call 78; refine Calls.mono (L.out _) ?_; rintro e w' ⟨rfl, rfl⟩) | (go_at_call 79; refine Calls.mono (rin_any _ _ _ _) ?_; rintro e w' ⟨rfl, rfl⟩))
            go_ret
            exact ⟨ret_i (by rw [HB.out, h1, h2, h3, h4]; rfl), hb.out⟩
          | true =>
            cases h5 : inR n5 1 16 with
            | false =>
              go_enter Tryz.func29, Tryz.ntmps29
              go_wp2_with (first | (go_at_call 78; refine Calls.mono (L.out _) ?_; rintro e w' ⟨rfl, rfl⟩) | (go_at_call 79; refine Calls.mono (rin_any _ _ _ _) ?_; rintro e w' ⟨rfl, rfl⟩))
              go_ret
              exact ⟨ret_i (by rw [HB.out, h1, h2, h3, h4, h5]; rfl), hb.out⟩
            | true =>
              cases h6 : inR n6 1 16 with
              | false =>
                go_enter Tryz.func29, Tryz.ntmps29
                go_wp2_with (first | (go_at_call 78; refine Calls.mono (L.out _) ?_; rintro e w' ⟨rfl, rfl⟩) | (go_at_call 79; refine Calls.mono (rin_any _ _ _ _) ?_; rintro e w' ⟨rfl, rfl⟩))
                go_ret
                exact ⟨ret_i (by rw [HB.out, h1, h2, h3, h4, h5, h6]; rfl), hb.out⟩
              | true =>
                cases h7 : inR n7 0 9007199254740992 with
                | false =>
                  go_enter Tryz.func29, Tryz.ntmps29
                  go_wp2_with (first | (go_at_call 78; refine Calls.mono (L.out _) ?_; rintro e w' ⟨rfl, rfl⟩) | (go_at_call 79; refine Calls.mono (rin_any _ _ _ _) ?_; rintro e w' ⟨rfl, rfl⟩))
                  go_ret
                  exact ⟨ret_i (by rw [HB.out, h1, h2, h3, h4, h5, h6, h7]; rfl), hb.out⟩
                | true =>
                  go_enter Tryz.func29, Tryz.ntmps29
                  go_wp2_with (first | (go_at_call 78; refine Calls.mono (L.out _) ?_; rintro e w' ⟨rfl, rfl⟩) | (go_at_call 79; refine Calls.mono (rin_any _ _ _ _) ?_; rintro e w' ⟨rfl, rfl⟩))
                  go_ret
                  exact ⟨ret_i (by rw [HB.out, h1, h2, h3, h4, h5, h6, h7]; rfl), hb.out⟩
end Go.Proofs.YtaclbffacnoddaaGreatDoor
