import Derived.Test.YtjibhdcnibgegaaRxEnt
namespace Go.Proofs.Ytjibhdcnibgegaa
open Go.RowKit
theorem row_someE {w : World} {base : Nat} {v : Value} {n e sz : Nat} {xs : List Value} (h : w.ownsRow base e sz v (n + 1) xs) : ∃ g cap, v = .slice (some ⟨g, 0, none⟩) (n + 1) cap := by
  rcases h.2 with ⟨_, h0⟩ | ⟨g, cap, cur, rfl, hg, _⟩
  · omega
  · exact ⟨g, cap, rfl⟩
set_option maxHeartbeats 2000000 in
set_option maxRecDepth 100000 in
/-- readIndex -/
theorem readIndex_any (m : Int) (x : ByteArray) (hx : x.size ≤ 1099511627776) (w : World) :
    Calls Try.prog 44 #[.int .i64 m, .string x] w fun e w' => ∃ v, e = .returned (.tuple #[v, .int .i64 (riE m x)]) ∧ w'.ownsRow w.heap.size 75 2 v (riL m x).length (ec (riL m x)) ∧ Below w.heap.size w w' := by
  have C := countEntries_any m x (by omega) w
  by_cases hm : 1 ≤ m ∧ m ≤ 16
  · by_cases hq : x.size % (m.toNat + 4) = 0
    · rw [if_pos ⟨hm, hq⟩, if_pos hm, if_pos hq] at C
      obtain ⟨i0, hi, hz0, hz1, hz2⟩ := info_parts infoE
      obtain ⟨k, rfl⟩ : ∃ k : Nat, m = (k : Int) := ⟨m.toNat, by omega⟩
      rw [Int.toNat_natCast] at C hq
      have hdv : x.size / (k + 4) ≤ x.size := Nat.div_le_self _ _
      have EA := hide (fun i (hi : i < x.size / (k + 4)) w' => entryAt_any k i x (by omega) (by omega) (by omega) hi w')
      have HC := hide C
      have HQ := hide hq
      clear C hq
      obtain ⟨N, hN⟩ : ∃ N, N = x.size / (k + 4) := ⟨_, rfl⟩
      rw [← hN] at HC EA hdv
      have HN := hide hN
      clear hN
      go_enter Try.func44, Try.ntmps44
      go_wp2_with fail
      refine Calls.mono HC.out ?_
      rintro e w' ⟨rfl, rfl⟩
      go_wp2_with fail
      go_loopw [8, 20] (fun v i wr => ∃ j : Nat, j ≤ N ∧ i = .int .i64 (j : Int) ∧ (∀ t, t < j → upB k x t = true) ∧ wr.ownsRow w.heap.size 75 2 v j (ec (ents k x j)) ∧ Below w.heap.size w wr)
        (fun _ i _ => N - (intOf i).toNat)
      case atStart => exact ⟨0, by omega, rfl, fun t ht => by omega, World.ownsRow_nil _ _ _ _, Below.refl _ _⟩
      case round =>
        obtain ⟨j, hj, rfl, hup, hown, hnx⟩ := hrel
        have hsz := hnx.size
        have HUP := hide hup
        have HOWN := hide hown
        have HNX := hide hnx
        clear hup hown hnx
        by_cases hlt : j < N
        · have hji : (j : Int) < (N : Int) := by omega
          have E1 := hide (EA.out j hlt)
          have HES := hide (ents_succ k x j)
          have RI := hide (fun g cap w' (hb : g < w'.heap.size) (hl : LiesE g 0 w' (ents k x (j + 1))) => riseE_any (some ⟨g, 0, none⟩) g 0 cap (ents k x (j + 1)) j w' (by rw [ents_len]; omega) (by rw [ents_len]; omega) rfl hb hl)
          obtain ⟨Z, hZ⟩ : ∃ Z : Int, Z = if j = 0 then 1 else if rdeH k x j = rdeH k x (j - 1) then 0 else if lessS (rdeH k x j) (rdeH k x (j - 1)) then -1 else 1 := ⟨_, rfl⟩
          have RZ : Hid (∀ g cap w', g < w'.heap.size → LiesE g 0 w' (ents k x (j + 1)) → Calls Try.prog 58 #[.slice (some ⟨g, 0, none⟩) (j + 1) cap, .int .i64 (j : Int), .func (.func 59) #[] #[]] w' fun e w'' => e = .returned (.int .i64 Z) ∧ Below w'.heap.size w' w'') := fun g cap w' hb hl => by
            have := RI.out g cap w' hb hl
            rw [ents_at k x (j + 1) j (by omega)] at this
            rw [hZ]
            by_cases h0 : j = 0
            · rw [if_pos h0, ents_len] at this
              rw [if_pos h0]
              exact this
            · rw [List.getD_eq_getElem?_getD, List.getElem?_eq_getElem (by rw [ents_len]; omega), Option.getD_some, ents_at k x (j + 1) (j - 1) (by omega), ents_len] at this
              exact this
          have UZ := hide (rise_up k x j hZ)
          have HZ := hide hZ
          clear hZ RI
          generalize rdeH k x j = XH at *
          generalize rdeO k x j = XO at *
          obtain ⟨hm1, hm2⟩ : j + 1 ≤ maxLen ∧ (j + 1) * 24 ≤ 140737488355328 := by unfold maxLen; omega
          go_wp2_with fail
          refine Calls.mono (E1.out _) ?_
          rintro e w1 ⟨rfl, hb1⟩
          have B1 := HNX.out.trans (hb1.mono hsz)
          have s1 := B1.size
          have O1 := hide (own_below HOWN.out hb1)
          have HB1 := hide B1
          have CE := hide (cell_ent w1 XH XO)
          clear hb1 B1
          go_wp2_with (at_builtin; refine wpList_append_own _ rfl _ _ 84 rfl w.heap.size 75 i0 (.agg #[.string ⟨#[]⟩, .int .i64 0]) 2 24 Try.underlying84 hi hz0 hz1 hz2 rfl (by decide) _ _ _ rfl (O1.out.alloc _) ⟨w1.heap.size, 0, none⟩ 1 1 (ec [(XH, XO)]) rfl (ec_one_len XH XO) CE.out (ec_one _) hm1 hm2 (le_alloc s1) ?_; intro v2 w2 o2 g2 n2; clear n2; obtain ⟨g', c', rfl⟩ := row_someE o2; have o3 := o2; rw [← ec_append, ← HES.out] at o3; have O3 := hide o3; have B2 := hide ((HB1.out.alloc s1 _).grown g2 (le_alloc s1) (fun t ht => (O1.out.lt t ht).1)); have L3 := hide (row_liesE o3 (by rw [ents_len]; exact Nat.le_refl _)); have lt3 := row_lt o3; clear o2 o3 g2)
          refine Calls.mono (RZ.out g' c' w2 lt3 L3.out) ?_
          rintro e w3 ⟨rfl, hb3⟩
          have B3 := hide (B2.out.trans (hb3.mono B2.out.size))
          have O4 := hide (own_below O3.out hb3)
          clear hb3
          cases hu : upB k x j with
          | true =>
            have hz3 := UZ.out.1 hu
            have HU := hide hu
            clear hu
            go_wp2_with fail
            go_roundw
            case rel =>
              refine ⟨j + 1, by omega, by go_num, fun t ht => ?_, O4.out, B3.out⟩
              rcases Nat.lt_or_ge t j with h | h
              · exact HUP.out t h
              · obtain rfl : t = j := by omega
                exact HU.out
            case measure => simp [intOf]; omega
          | false =>
            have hz3 := UZ.out.2 hu
            have hno : allUp k x = false := allUp_no (by rw [← HN.out]; exact hlt) hu
            have HR := hide (ri_no (m := (k : Int)) (x := x) hm (fun h => by rw [Int.toNat_natCast, hno] at h; exact Bool.noConfusion h.2))
            clear hu hno
            go_wp2_with fail
            go_ret2
            exact ⟨_, by rw [HR.out.1]; rfl, by rw [HR.out.2]; exact World.ownsRow_nil _ _ _ _, B3.out⟩
        · obtain rfl : j = N := by omega
          have HR := hide (ri_yes (m := (k : Int)) (x := x) hm ⟨by rw [Int.toNat_natCast]; exact HQ.out, by rw [Int.toNat_natCast]; exact allUp_yes (fun i hi => HUP.out i (by rw [HN.out]; exact hi))⟩)
          rw [Int.toNat_natCast, ← HN.out] at HR
          go_wp2_with fail
          go_ret2
          exact ⟨_, by rw [HR.out.1]; rfl, by rw [HR.out.2, ents_len]; exact HOWN.out, HNX.out⟩
    · obtain ⟨e1, e2⟩ := ri_no (x := x) hm (fun h => hq h.1)
      rw [e1, e2]
      rw [if_neg (fun h => hq h.2), if_pos hm, if_neg hq] at C
      have HC := hide C
      clear C e1 e2 hq
      go_enter Try.func44, Try.ntmps44
      go_wp2_with fail
      refine Calls.mono HC.out ?_
      rintro e w' ⟨rfl, rfl⟩
      go_wp2_with fail
      go_ret2
      exact ⟨_, rfl, World.ownsRow_nil _ _ _ _, Below.refl _ _⟩
  · obtain ⟨e1, e2⟩ := ri_width (x := x) hm
    rw [e1, e2]
    rw [if_neg (fun h => hm h.1), if_neg hm] at C
    have HC := hide C
    clear C e1 e2
    go_enter Try.func44, Try.ntmps44
    go_wp2_with fail
    refine Calls.mono HC.out ?_
    rintro e w' ⟨rfl, rfl⟩
    go_wp2_with fail
    go_ret2
    exact ⟨_, rfl, World.ownsRow_nil _ _ _ _, Below.refl _ _⟩
end Go.Proofs.Ytjibhdcnibgegaa
