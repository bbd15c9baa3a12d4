import Derived.Test.YtjibhdcnibgegaaRpRef
namespace Go.Proofs.Ytjibhdcnibgegaa
open Go.RowKit
theorem errL_wrong {ps : List KV} (h : wrongL ps ≠ 0) : errL ps = wrongL ps := by unfold errL; rw [if_neg h]
theorem errL_size {ps : List KV} (h : wrongL ps = 0) : errL ps = if 65536 < 2 + sizeL ps then 3 else 0 := by unfold errL; rw [if_pos h]
theorem fine2 {ps : List KV} (h : wrongL ps = 0) : ps.length ≤ 512 ∧ 0 < ps.length ∧ ∀ i (h : i < ps.length), ps[i].1.size ≤ 255 ∧ ps[i].2.size ≤ 4096 := by
  by_cases hg : ps.length = 0 ∨ 512 < ps.length
  · rw [(wrong_group hg).1] at h; omega
  · have hall : ∀ j, j < ps.length → badAt ps j = 0 := by
      intro j
      induction j using Nat.strongRecOn with
      | ind j ih =>
        intro hj
        by_cases hb : badAt ps j = 0
        · exact hb
        · have := (wrong_at hg hj (fun i hi => ih i hi (by omega)) hb).1
          rw [h] at this
          exact this.symm
    exact ⟨by omega, by omega, fun i hi => ⟨(badAt_small hi (hall i hi)).2.1, (badAt_small hi (hall i hi)).2.2⟩⟩
theorem own_below {w w' : World} {base e sz n : Nat} {v : Value} {xs : List Value} (h : w.ownsRow base e sz v n xs) (hb : Below w.heap.size w w') : w'.ownsRow base e sz v n xs := by
  refine h.kept (row := none) ⟨hb.os, hb.tape, hb.output, hb.size, fun k hk _ => hb.block k hk⟩ ?_
  rcases hv : v.ownBlock with _ | _
  · exact .inl rfl
  · exact .inr (by simp)
set_option maxHeartbeats 2000000 in
set_option maxRecDepth 100000 in
/-- the document's Record -/
theorem rrecord_any (ao : Option Addr) (b off cap : Nat) (ps : List KV) (w : World) (hao : 0 < ps.length → ao = some ⟨b, off, none⟩) (hb : 0 < ps.length → b < w.heap.size) (hlen : ps.length ≤ 1099511627776000) (hl : LiesP b off w ps) :
    Calls Try.prog 23 #[.slice ao ps.length cap] w fun e w' => e = .returned (.tuple #[.string (recS ps), .int .i64 (errL ps)]) ∧ Below w.heap.size w w' := by
  have W := hide (rwrong_any ao b off cap ps w hao hb hlen hl)
  by_cases hwr : wrongL ps = 0
  · obtain ⟨h5, hpos, hsm⟩ := fine2 hwr
    obtain rfl := hao hpos
    have hb' := hb hpos
    have HL := hide hl
    have HSM := hide hsm
    rw [hwr] at W
    have Z1 := hide (fun w' (hw : Below w.heap.size w w') => rsize_any b off cap ps w' (Nat.lt_of_lt_of_le hb' hw.size) h5 hsm (hl.below hb' hw))
    by_cases hbig : 65536 < 2 + sizeL ps
    · have he : errL ps = 3 := by rw [errL_size hwr, if_pos hbig]
      rw [recS_bad (by rw [he]; omega), he]
      have hb3 : (65536 : Int) < ((2 + sizeL ps : Nat) : Int) := by omega
      clear hl hsm hao hb he hwr hbig
      generalize sizeL ps = Z at *
      go_enter Try.func23, Try.ntmps23
      go_wp2_with fail
      refine Calls.mono W.out ?_
      rintro e w1 ⟨rfl, hb1⟩
      go_wp2_with fail
      refine Calls.mono (Z1.out w1 hb1) ?_
      rintro e w2 ⟨rfl, hb2⟩
      go_wp2_with fail
      go_ret2
      exact ⟨rfl, hb1.trans (hb2.mono hb1.size)⟩
    · have he : errL ps = 0 := by rw [errL_size hwr, if_neg hbig]
      rw [recS_ok he, he]
      have hb3 : ((2 + sizeL ps : Nat) : Int) ≤ 65536 := by omega
      have hb4 := hbig
      clear hl hsm hao hb he hwr
      obtain ⟨i0, hi, hz0, hz1, hz2⟩ := info_parts info5
      have D0 := hide (fun w' => digits_any ps.length 2 (by omega) (by omega) w')
      go_enter Try.func23, Try.ntmps23
      go_wp2_with fail
      refine Calls.mono W.out ?_
      rintro e w1 ⟨rfl, hb1⟩
      go_wp2_with fail
      refine Calls.mono (Z1.out w1 hb1) ?_
      rintro e w2 ⟨rfl, hb2⟩
      have B2 := hb1.trans (hb2.mono hb1.size)
      have s2 := B2.size
      go_wp2_with fail
      refine Calls.mono (D0.out _) ?_
      rintro e w3 ⟨rfl, hb3'⟩
      have B3 := B2.trans (hb3'.mono s2)
      have s3 := B3.size
      have zD : (strOf (dig 2 ps.length)).size = 2 := by rw [strOf_size, dig_len]
      have hdD : (strOf (dig 2 ps.length)).data.toList = dig 2 ps.length := rfl
      have HDD := hide hdD
      clear hdD
      generalize strOf (dig 2 ps.length) = DD at *
      have hd2 := hide (recL_len ps)
      go_wp2_with (at_builtin; refine Lib.wpList_append_own_string _ rfl _ _ 66 9 rfl w.heap.size 5 i0 Try.underlying66 Try.underlying9 hi hz0 hz1 hz2 _ 0 [] rfl (World.ownsRow_nil _ _ _ _) DD rfl (by unfold maxLen; omega) (by omega) s3 ?_; intro v4 w4 o4 g4 n4)
      have B4 := B3.grown g4 s3 (by intro k hk; cases hk)
      have O4 : w4.ownsRow w.heap.size 5 1 v4 2 ((dig 2 ps.length).map ub) := by
        rw [zD, strCells_ub, HDD.out] at o4
        exact o4
      have BH := hide B4
      have OH := hide O4
      clear o4 g4 n4 O4 B4 B3 B2 hb3' hb2 hb1
      go_loopw [5, 6] (fun vr i wr => ∃ k : Nat, k ≤ ps.length ∧ i = .int .i64 (k : Int) ∧ wr.ownsRow w.heap.size 5 1 vr (2 + sizeL (ps.take k)) ((dig 2 ps.length ++ bodyL (ps.take k)).map ub) ∧ Below w.heap.size w wr)
        (fun _ i _ => ps.length - (intOf i).toNat)
      case atStart => exact ⟨0, by omega, rfl, by simpa [sizeL, bodyL] using OH.out, BH.out⟩
      case round =>
        obtain ⟨k, hk, rfl, hown, hnx⟩ := hrel
        have hsz := hnx.size
        by_cases hlt : k < ps.length
        · have HC : Hid (∀ w', Below w.heap.size w w' → w'.cell? ⟨b, off + k * 2, none⟩ = some (.string ps[k].1) ∧ w'.cell? ⟨b, off + k * 2 + 1, none⟩ = some (.string ps[k].2)) := fun w' hw => HL.out.below hb' hw k hlt
          have hs := HSM.out k hlt
          have hle : sizeL (ps.take (k + 1)) ≤ sizeL ps := by
            have : sizeL ps = sizeL (ps.take (k + 1)) + sizeL (ps.drop (k + 1)) := by rw [← sizeL_append, List.take_append_drop]
            omega
          have hT := sizeL_take ps k hlt
          have hB := bodyL_take ps k hlt
          have hki : (k : Int) < (ps.length : Int) := by omega
          unfold pairL at hB
          generalize ps[k].1 = K1 at *
          generalize ps[k].2 = V1 at *
          have D1 := hide (fun w' => digits_any K1.size 2 (by omega) (by omega) w')
          have D2 := hide (fun w' => digits_any V1.size 4 (by omega) (by omega) w')
          rw [hT] at hle
          have HT := hide hT
          have HB := hide hB
          clear hT hB
          have z1 : (strOf (dig 2 K1.size)).size = 2 := by rw [strOf_size, dig_len]
          have z2 : (strOf (dig 4 V1.size)).size = 4 := by rw [strOf_size, dig_len]
          have d1 : Hid ((strOf (dig 2 K1.size)).data.toList = dig 2 K1.size) := rfl
          have d2 : Hid ((strOf (dig 4 V1.size)).data.toList = dig 4 V1.size) := rfl
          generalize strOf (dig 2 K1.size) = E1 at *
          generalize strOf (dig 4 V1.size) = E2 at *
          generalize sizeL (ps.take k) = Z at *
          generalize hXS : (dig 2 ps.length ++ bodyL (ps.take k)).map ub = XS at *
          have HXS := hide hXS
          clear hXS
          have HOWN := hide hown
          have HNX := hide hnx
          obtain ⟨g0, g1⟩ := HC.out wr hnx
          clear hown hnx
          go_wp2_with fail
          refine Calls.mono (D1.out _) ?_
          rintro e wa ⟨rfl, ha⟩
          have hA := HNX.out.trans (ha.mono hsz)
          have oA := hide (show wa.ownsRow w.heap.size 5 1 u5 (2 + Z) XS from own_below HOWN.out ha)
          have sA := hA.size
          obtain ⟨ga0, ga1⟩ := HC.out wa hA
          have HA := hide hA
          clear hA ha g0 g1
          go_wp2_with (at_builtin; refine Lib.wpList_append_own_string _ rfl _ _ 66 9 rfl w.heap.size 5 i0 Try.underlying66 Try.underlying9 hi hz0 hz1 hz2 _ _ _ rfl oA.out E1 rfl (by unfold maxLen; omega) (by omega) sA ?_; intro vb wb ob gb nb; have hB := HA.out.grown gb sA (fun j hj => (oA.out.lt j hj).1); obtain ⟨gb0, gb1⟩ := HC.out wb hB; have sB := hB.size; have HBB := hide hB; have OB := hide ob; clear hB ob gb nb)
          refine Calls.mono (D2.out _) ?_
          rintro e wc ⟨rfl, hc⟩
          have hC := HBB.out.trans (hc.mono sB)
          have oC := hide (own_below OB.out hc)
          have sC := hC.size
          obtain ⟨gc0, gc1⟩ := HC.out wc hC
          have HCC := hide hC
          clear hC hc gb0 gb1
          go_wp2_with (first
            | (at_builtin; refine Lib.wpList_append_own_string _ rfl _ _ 66 9 rfl w.heap.size 5 i0 Try.underlying66 Try.underlying9 hi hz0 hz1 hz2 _ _ _ rfl oC.out E2 rfl (by unfold maxLen; omega) (by omega) sC ?_; intro vd wd od gd nd; have hB := HCC.out.grown gd sC (fun j hj => (oC.out.lt j hj).1); obtain ⟨gd0, gd1⟩ := HC.out wd hB; have sD := hB.size; have HDDD := hide hB; have OD := hide od; clear hB od gd nd)
            | (at_builtin; refine Lib.wpList_append_own_string _ rfl _ _ 66 9 rfl w.heap.size 5 i0 Try.underlying66 Try.underlying9 hi hz0 hz1 hz2 _ _ _ rfl OD.out K1 rfl (by unfold maxLen; omega) (by omega) sD ?_; intro ve we oe ge ne; have hB := HDDD.out.grown ge sD (fun j hj => (OD.out.lt j hj).1); obtain ⟨ge0, ge1⟩ := HC.out we hB; have sE := hB.size; have HEE := hide hB; have OE := hide oe; clear hB oe ge ne)
            | (at_builtin; refine Lib.wpList_append_own_string _ rfl _ _ 66 9 rfl w.heap.size 5 i0 Try.underlying66 Try.underlying9 hi hz0 hz1 hz2 _ _ _ rfl OE.out V1 rfl (by unfold maxLen; omega) (by omega) sE ?_; intro vf wf of gf nf; have hB := HEE.out.grown gf sE (fun j hj => (OE.out.lt j hj).1); have sF := hB.size; have HFF := hide hB; have OF := hide of; clear hB of gf nf))
          go_roundw
          case rel =>
            refine ⟨k + 1, by omega, by go_num, ?_, HFF.out⟩
            have := OF.out
            rw [HT.out, HB.out]
            rw [← HXS.out, strCells_ub, strCells_ub, strCells_ub, strCells_ub, d1.out, d2.out, z1, z2] at this
            rw [show 2 + (Z + (6 + K1.size + V1.size)) = 2 + Z + 2 + 4 + K1.size + V1.size by omega]
            simp only [List.map_append, List.append_assoc] at this ⊢
            exact this
          case measure => simp [intOf]; omega
        · obtain rfl : k = ps.length := by omega
          rw [List.take_length] at hown
          have hc := own_conv (P := Try.prog) (src := 66) (dst := 9) (l := recL ps) hown (by rw [recL_len]) Try.underlying66 Try.underlying5 Try.underlying9
          have HNX := hide hnx
          clear hown hnx
          go_wp2
          go_ret2
          exact ⟨rfl, HNX.out⟩
  · have he := errL_wrong hwr
    rw [recS_bad (by rw [he]; exact hwr), he]
    have hne : (wrongL ps != 0) = true := by simpa using hwr
    clear hl hao hb he
    generalize wrongL ps = E at *
    clear hwr
    go_enter Try.func23, Try.ntmps23
    go_wp2_with fail
    refine Calls.mono W.out ?_
    rintro e w1 ⟨rfl, hb1⟩
    go_wp2_with fail
    go_ret2
    exact ⟨rfl, hb1⟩
end Go.Proofs.Ytjibhdcnibgegaa
