import Derived.Test.YthihmgdefbahpaaPart2
import Derived.Deep.QuietTactic
import Derived.BigQuiet
import Derived.WalkSmall
import Derived.Laws.AppendOwnNone
namespace Go.Proofs.Ythihmgdefbahpaa
open Go.RowKit
set_option maxHeartbeats 2000000 in
set_option maxRecDepth 100000 in
/-- the document's Size -/
theorem rsize_any (b off cap : Nat) (ps : List KV) (w : World) (hb : b < w.heap.size) (hlen : ps.length ≤ 512) (hsm : ∀ i (h : i < ps.length), ps[i].1.size ≤ 255 ∧ ps[i].2.size ≤ 4096) (hl : LiesP b off w ps) :
    Calls Try.prog 67 #[.slice (some ⟨b, off, none⟩) ps.length cap] w fun e w' => e = .returned (.int .i64 ((2 + sizeL ps : Nat) : Int)) ∧ Below w.heap.size w w' := by
  go_enter Try.func67, Try.ntmps67
  go_wp2
  go_loopw [3, 4] (fun z i wr => ∃ k : Nat, k ≤ ps.length ∧ i = .int .i64 (k : Int) ∧ z = .int .i64 ((2 + sizeL (ps.take k) : Nat) : Int) ∧ sizeL (ps.take k) ≤ k * 4357 ∧ Below w.heap.size w wr)
    (fun _ i _ => ps.length - (intOf i).toNat)
  case atStart => exact ⟨0, by omega, rfl, rfl, by simp [sizeL], Below.refl _ _⟩
  case round =>
    obtain ⟨k, hk, rfl, rfl, hz, hnx⟩ := hrel
    by_cases hlt : k < ps.length
    · obtain ⟨g0, g1⟩ := hl.below hb hnx k hlt
      have hs := hsm k hlt
      have hT := sizeL_take ps k hlt
      have hki : (k : Int) < (ps.length : Int) := by omega
      have HL := hide hl
      have HSM := hide hsm
      clear hl hsm
      generalize ps[k].1 = K1 at *
      generalize ps[k].2 = V1 at *
      have HT := hide hT
      clear hT
      generalize sizeL (ps.take k) = Z at *
      have HNX := hide hnx
      clear hnx
      have w1 : IntKind.i64.wrap (2 + (Z : Int) + 6) = 2 + (Z : Int) + 6 := i64_in (by omega) (by omega)
      have w2 : IntKind.i64.wrap (2 + (Z : Int) + 6 + (K1.size : Int)) = 2 + (Z : Int) + 6 + (K1.size : Int) := i64_in (by omega) (by omega)
      have w3 : IntKind.i64.wrap (2 + (Z : Int) + 6 + (K1.size : Int) + (V1.size : Int)) = 2 + (Z : Int) + 6 + (K1.size : Int) + (V1.size : Int) := i64_in (by omega) (by omega)
      go_wp2_with fail
      go_region_held3 (fun w' => w'.cell? ⟨b, off + k * 2, none⟩ = some (.string K1) ∧ w'.cell? ⟨b, off + k * 2 + 1, none⟩ = some (.string V1)) (go_keep) (fail)
      go_wp2
      go_roundw
      case rel => exact ⟨k + 1, by omega, by go_num, by rw [HT.out]; go_num, by rw [HT.out]; omega, HNX.out.drew⟩
      case measure => simp [intOf]; omega
    · obtain rfl : k = ps.length := by omega
      rw [List.take_length]
      have HNX := hide hnx
      clear hl hsm hnx
      go_wp2
      go_ret
      exact ⟨rfl, HNX.out⟩
theorem emptyS (s : ByteArray) : s.toList.isEmpty = decide (s.size = 0) := by
  rw [ByteArray.toList_eq, Bool.eq_iff_iff, decide_eq_true_eq, List.isEmpty_iff]
  constructor
  · intro h; rw [← size_data, h]; rfl
  · intro h; rw [← size_data] at h; exact List.eq_nil_of_length_eq_zero h
set_option maxHeartbeats 2000000 in
set_option maxRecDepth 100000 in
set_option linter.unusedSimpArgs false in
/-- the document's wrong -/
theorem rwrong_any (ao : Option Addr) (b off cap : Nat) (ps : List KV) (w : World) (hao : 0 < ps.length → ao = some ⟨b, off, none⟩) (hb : 0 < ps.length → b < w.heap.size) (hlen : ps.length ≤ 1099511627776000) (hl : LiesP b off w ps) :
    Calls Try.prog 66 #[.slice ao ps.length cap] w fun e w' => e = .returned (.int .i64 (wrongL ps)) ∧ Below w.heap.size w w' := by
  by_cases hg : ps.length = 0 ∨ 512 < ps.length
  · rw [(wrong_group hg).1]
    have hN : ((ps.length : Int) == 0) = true ∨ (((ps.length : Int) == 0) = false ∧ (512 : Int) < (ps.length : Int)) := by
      rcases Nat.eq_zero_or_pos ps.length with h | h
      · left; rw [h]; rfl
      · right; exact ⟨ne0 h, by omega⟩
    clear hao hb hl hg
    generalize ps.length = N at *
    go_enter Try.func66, Try.ntmps66
    rcases hN with h0 | ⟨h0, h1⟩
    · go_wp2
      go_ret
      exact ⟨rfl, Below.refl _ _⟩
    · go_wp2
      go_ret
      exact ⟨rfl, Below.refl _ _⟩
  · have hpos : 0 < ps.length := by omega
    have h5 : (ps.length : Int) ≤ 512 := by omega
    obtain rfl := hao hpos
    have hb := hb hpos
    have h0 := ne0 hpos
    go_enter Try.func66, Try.ntmps66
    go_wp2
    go_loopw [3] (fun i wr => ∃ k : Nat, k ≤ ps.length ∧ i = .int .i64 (k : Int) ∧ (∀ j, j < k → badAt ps j = 0) ∧ Below w.heap.size w wr)
      (fun i _ => ps.length - (intOf i).toNat)
    case atStart => exact ⟨0, by omega, rfl, fun j hj => by omega, Below.refl _ _⟩
    case round =>
      obtain ⟨k, hk, rfl, hok, hnx⟩ := hrel
      have hsz := hnx.size
      by_cases hlt : k < ps.length
      · have hl' := hl.below hb hnx
        have hb' : b < wr.heap.size := Nat.lt_of_lt_of_le hb hsz
        obtain ⟨g0, g1⟩ := hl' k hlt
        have HA := hide ((Below.refl wr.heap.size wr).alloc (Nat.le_refl _) (.cells #[.string ps[k].1, .string ps[k].2] 65))
        have hki : (k : Int) < (ps.length : Int) := by omega
        have HOK := hide hok
        have HGR := hide hg
        have HNX := hide hnx
        have HL := hide hl
        have HL' := hide hl'
        clear hok hg hnx hl hl' hao
        generalize hK : ps[k].1 = K1 at *
        generalize hV : ps[k].2 = V1 at *
        have HK := hide hK
        have HV := hide hV
        clear hK hV
        by_cases hk0 : K1.size = 0
        · have hem : K1.toList.isEmpty = true := by rw [emptyS]; exact decide_eq_true hk0
          have HF : Hid (wrongL ps = 32) := by
            have hb : badAt ps k = 32 := by unfold badAt badP; rw [getD_at hlt, HK.out, HV.out, if_pos (Or.inl hk0)]
            have := (wrong_at HGR.out hlt HOK.out (by rw [hb]; omega)).1
            rw [hb] at this
            exact this
          go_wp2_with fail
          go_ret
          exact ⟨by rw [HF.out]; rfl, (HNX.out.trans (HA.out.mono hsz))⟩
        · have hem : K1.toList.isEmpty = false := by rw [emptyS]; exact decide_eq_false hk0
          by_cases hk1 : 255 < K1.size
          · have hk2 : (255 : Int) < (K1.size : Int) := by omega
            have HF : Hid (wrongL ps = 32) := by
              have hb : badAt ps k = 32 := by unfold badAt badP; rw [getD_at hlt, HK.out, HV.out, if_pos (Or.inr hk1)]
              have := (wrong_at HGR.out hlt HOK.out (by rw [hb]; omega)).1
              rw [hb] at this
              exact this
            go_wp2_with fail
            go_ret
            exact ⟨by rw [HF.out]; rfl, (HNX.out.trans (HA.out.mono hsz))⟩
          · have hk2 : (K1.size : Int) ≤ 255 := by omega
            by_cases hv1 : 4096 < V1.size
            · have hv2 : (4096 : Int) < (V1.size : Int) := by omega
              have HF : Hid (wrongL ps = 33) := by
                have hb : badAt ps k = 33 := by unfold badAt badP; rw [getD_at hlt, HK.out, HV.out, if_neg (by omega), if_pos hv1]
                have := (wrong_at HGR.out hlt HOK.out (by rw [hb]; omega)).1
                rw [hb] at this
                exact this
              go_wp2_with fail
              go_ret
              exact ⟨by rw [HF.out]; rfl, (HNX.out.trans (HA.out.mono hsz))⟩
            · have hv2 : (V1.size : Int) ≤ 4096 := by omega
              by_cases hz : k = 0
              · have HB : Hid (badAt ps k = 0) := by
                  have hb : badAt ps k = 0 := by unfold badAt badP; rw [getD_at hlt, HK.out, HV.out, if_neg (by omega), if_neg hv1, if_pos hz]; rfl
                  exact hb
                subst hz
                rw [Nat.zero_mul, Nat.add_zero] at g0 g1
                go_wp2_with fail
                generalize wr.alloc (.cells #[.string K1, .string V1] 65) = WA at *
                go_quiet (fail)
                go_wp2_with fail
                go_quiet (fail)
                go_wp2_with fail
                go_roundw
                case rel =>
                  refine ⟨1, by omega, by go_num, fun j hj => ?_, (by first | exact below_drewN (HNX.out.trans (HA.out.mono hsz)) _ | exact below_drewN (below_drewN (HNX.out.trans (HA.out.mono hsz)) _) _)⟩
                  obtain rfl : j = 0 := by omega
                  exact HB.out
                case measure => simp [intOf]; omega
              · obtain ⟨j, hkj⟩ : ∃ j, k = j + 1 := ⟨k - 1, by omega⟩
                have hj : j < ps.length := by omega
                obtain ⟨g2, g3⟩ := HL'.out j hj
                have HQ : Hid (badAt ps k = badQ (some ps[j].1) K1) := by
                  have hb : badAt ps k = badQ (some ps[j].1) K1 := by unfold badAt badP; rw [getD_at hlt, HK.out, HV.out, if_neg (by omega), if_neg hv1, if_neg hz, show k - 1 = j by omega, getD_at hj]
                  exact hb
                generalize ps[j].1 = K0 at *
                generalize ps[j].2 = V0 at *
                have hk3 : decide (0 < k) = true := decide_eq_true (by omega)
                have hk4 : (k : Int) - 1 = (j : Int) := by omega
                have hj2 : (j : Int) < (ps.length : Int) := by omega
                have HKJ := hide hkj
                clear hkj hz
                have cA : (wr.alloc (.cells #[.string K1, .string V1] 65)).cell? ⟨b, off + j * 2, none⟩ = some (.string K0) := by rw [HA.out.cell (by exact hb')]; exact g2
                by_cases hq : K1 = K0
                · have he : (K1.toList == K0.toList) = true := by rw [eq_beq]; exact decide_eq_true hq
                  have HF : Hid (wrongL ps = 35) := by
                    have hb : badAt ps k = 35 := by rw [HQ.out, badQ, if_pos hq]
                    have := (wrong_at HGR.out hlt HOK.out (by rw [hb]; omega)).1
                    rw [hb] at this
                    exact this
                  have HQ2 := hide hq
                  clear hq
                  go_wp2_with fail
                  have c0 : (wr.alloc (.cells #[.string K1, .string V1] 65)).cell? ⟨wr.heap.size, 0, none⟩ = some (.string K1) := by simp
                  generalize wr.alloc (.cells #[.string K1, .string V1] 65) = WA at *
                  go_quiet (fail)
                  go_wp2
                  go_ret
                  exact ⟨by rw [HF.out]; rfl, (by first | exact below_drewN (HNX.out.trans (HA.out.mono hsz)) _ | exact below_drewN (below_drewN (HNX.out.trans (HA.out.mono hsz)) _) _)⟩
                · have he : (K1.toList == K0.toList) = false := by rw [eq_beq]; exact decide_eq_false hq
                  have HQ2 := hide hq
                  clear hq
                  by_cases hls : lessS K1 K0 = true
                  · have HF : Hid (wrongL ps = 37) := by
                      have hb : badAt ps k = 37 := by rw [HQ.out, badQ, if_neg HQ2.out, if_pos hls]
                      have := (wrong_at HGR.out hlt HOK.out (by rw [hb]; omega)).1
                      rw [hb] at this
                      exact this
                    have hle : Op.bytesLess K1.toList K0.toList = true := hls
                    clear hls
                    go_wp2_with fail
                    have c0 : (wr.alloc (.cells #[.string K1, .string V1] 65)).cell? ⟨wr.heap.size, 0, none⟩ = some (.string K1) := by simp
                    generalize wr.alloc (.cells #[.string K1, .string V1] 65) = WA at *
                    go_quiet (fail)
                    go_wp2_with fail
                    go_quiet (fail)
                    go_wp2
                    go_ret
                    exact ⟨by rw [HF.out]; rfl, (by first | exact below_drewN (HNX.out.trans (HA.out.mono hsz)) _ | exact below_drewN (below_drewN (HNX.out.trans (HA.out.mono hsz)) _) _)⟩
                  · have HB : Hid (badAt ps k = 0) := by
                      have hb : badAt ps k = 0 := by rw [HQ.out, badQ, if_neg HQ2.out, if_neg hls]
                      exact hb
                    have hle : Op.bytesLess K1.toList K0.toList = false := by simpa [lessS] using hls
                    clear hls
                    go_wp2_with fail
                    have c0 : (wr.alloc (.cells #[.string K1, .string V1] 65)).cell? ⟨wr.heap.size, 0, none⟩ = some (.string K1) := by simp
                    generalize wr.alloc (.cells #[.string K1, .string V1] 65) = WA at *
                    go_quiet (fail)
                    go_wp2_with fail
                    go_quiet (fail)
                    go_wp2
                    go_roundw
                    case rel =>
                      refine ⟨k + 1, by omega, by go_num, fun j hj => ?_, (by first | exact below_drewN (HNX.out.trans (HA.out.mono hsz)) _ | exact below_drewN (below_drewN (HNX.out.trans (HA.out.mono hsz)) _) _)⟩
                      rcases Nat.lt_or_ge j k with h | h
                      · exact HOK.out j h
                      · obtain rfl : j = k := by omega
                        exact HB.out
                    case measure => simp [intOf]; omega
      · obtain rfl : k = ps.length := by omega
        have HF := hide ((wrong_none hg hok).1)
        have HNX := hide hnx
        clear hok hnx hl hg hao hlt
        go_wp2
        go_ret
        exact ⟨by rw [HF.out]; rfl, HNX.out⟩
end Go.Proofs.Ythihmgdefbahpaa
namespace Go.Proofs.Ythihmgdefbahpaa
open Go.RowKit
theorem errL_wrong {ps : List KV} (h : wrongL ps ≠ 0) : errL ps = wrongL ps := by unfold errL; rw [if_neg h]
theorem errL_size {ps : List KV} (h : wrongL ps = 0) : errL ps = if 65536 < 2 + sizeL ps then 3 else 0 := by unfold errL; rw [if_pos h]
theorem fine2 {ps : List KV} (h : wrongL ps = 0) : ps.length ≤ 512 ∧ 0 < ps.length ∧ ∀ i (h : i < ps.length), ps[i].1.size ≤ 255 ∧ ps[i].2.size ≤ 4096 := by
  by_cases hg : ps.length = 0 ∨ 512 < ps.length
  · rw [(wrong_group hg).1] at h; omega
  · have hall : ∀ j, j < ps.length → badAt ps j = 0 := by
      intro j
      induction j using Nat.strongRecOn with
      | ind j ih =>
        intro hj
        by_cases hb : badAt ps j = 0
        · exact hb
        · have := (wrong_at hg hj (fun i hi => ih i hi (by omega)) hb).1
          rw [h] at this
          exact this.symm
    exact ⟨by omega, by omega, fun i hi => ⟨(badAt_small hi (hall i hi)).2.1, (badAt_small hi (hall i hi)).2.2⟩⟩
theorem own_below {w w' : World} {base e sz n : Nat} {v : Value} {xs : List Value} (h : w.ownsRow base e sz v n xs) (hb : Below w.heap.size w w') : w'.ownsRow base e sz v n xs := by
  refine h.kept (row := none) ⟨hb.os, hb.tape, hb.output, hb.size, fun k hk _ => hb.block k hk⟩ ?_
  rcases hv : v.ownBlock with _ | _
  · exact .inl rfl
  · exact .inr (by simp)
set_option maxHeartbeats 2000000 in
set_option maxRecDepth 100000 in
/-- the document's Record -/
theorem rrecord_any (ao : Option Addr) (b off cap : Nat) (ps : List KV) (w : World) (hao : 0 < ps.length → ao = some ⟨b, off, none⟩) (hb : 0 < ps.length → b < w.heap.size) (hlen : ps.length ≤ 1099511627776000) (hl : LiesP b off w ps) :
    Calls Try.prog 45 #[.slice ao ps.length cap] w fun e w' => e = .returned (.tuple #[.string (recS ps), .int .i64 (errL ps)]) ∧ Below w.heap.size w w' := by
  have W := hide (rwrong_any ao b off cap ps w hao hb hlen hl)
  by_cases hwr : wrongL ps = 0
  · obtain ⟨h5, hpos, hsm⟩ := fine2 hwr
    obtain rfl := hao hpos
    have hb' := hb hpos
    have HL := hide hl
    have HSM := hide hsm
    rw [hwr] at W
    have Z1 := hide (fun w' (hw : Below w.heap.size w w') => rsize_any b off cap ps w' (Nat.lt_of_lt_of_le hb' hw.size) h5 hsm (hl.below hb' hw))
    by_cases hbig : 65536 < 2 + sizeL ps
    · have he : errL ps = 3 := by rw [errL_size hwr, if_pos hbig]
      rw [recS_bad (by rw [he]; omega), he]
      have hb3 : (65536 : Int) < ((2 + sizeL ps : Nat) : Int) := by omega
      clear hl hsm hao hb he hwr hbig
      generalize sizeL ps = Z at *
      go_enter Try.func45, Try.ntmps45
      go_wp2_with fail
      refine Calls.mono W.out ?_
      rintro e w1 ⟨rfl, hb1⟩
      go_wp2_with fail
      refine Calls.mono (Z1.out w1 hb1) ?_
      rintro e w2 ⟨rfl, hb2⟩
      go_wp2_with fail
      go_ret2
      exact ⟨rfl, hb1.trans (hb2.mono hb1.size)⟩
    · have he : errL ps = 0 := by rw [errL_size hwr, if_neg hbig]
      rw [recS_ok he, he]
      have hb3 : ((2 + sizeL ps : Nat) : Int) ≤ 65536 := by omega
      have hb4 := hbig
      clear hl hsm hao hb he hwr
      obtain ⟨i0, hi, hz0, hz1, hz2⟩ := info_parts info5
      have D0 := hide (fun w' => digits_any ps.length 2 (by omega) (by omega) w')
      go_enter Try.func45, Try.ntmps45
      go_wp2_with fail
      refine Calls.mono W.out ?_
      rintro e w1 ⟨rfl, hb1⟩
      go_wp2_with fail
      refine Calls.mono (Z1.out w1 hb1) ?_
      rintro e w2 ⟨rfl, hb2⟩
      have B2 := hb1.trans (hb2.mono hb1.size)
      have s2 := B2.size
      go_wp2_with fail
      refine Calls.mono (D0.out _) ?_
      rintro e w3 ⟨rfl, hb3'⟩
      have B3 := B2.trans (hb3'.mono s2)
      have s3 := B3.size
      have zD : (strOf (dig 2 ps.length)).size = 2 := by rw [strOf_size, dig_len]
      have hdD : (strOf (dig 2 ps.length)).data.toList = dig 2 ps.length := rfl
      have HDD := hide hdD
      clear hdD
      generalize strOf (dig 2 ps.length) = DD at *
      have hd2 := hide (recL_len ps)
      go_wp2_with (at_builtin; refine Lib.wpList_append_own_string _ rfl _ _ 76 9 rfl w.heap.size 5 i0 Try.underlying76 Try.underlying9 hi hz0 hz1 hz2 _ 0 [] rfl (World.ownsRow_nil _ _ _ _) DD rfl (by unfold maxLen; omega) (by omega) s3 ?_; intro v4 w4 o4 g4 n4)
      have B4 := B3.grown g4 s3 (by intro k hk; cases hk)
      have O4 : w4.ownsRow w.heap.size 5 1 v4 2 ((dig 2 ps.length).map ub) := by
        rw [zD, strCells_ub, HDD.out] at o4
        exact o4
      have BH := hide B4
      have OH := hide O4
      clear o4 g4 n4 O4 B4 B3 B2 hb3' hb2 hb1
      go_loopw [5, 6] (fun vr i wr => ∃ k : Nat, k ≤ ps.length ∧ i = .int .i64 (k : Int) ∧ wr.ownsRow w.heap.size 5 1 vr (2 + sizeL (ps.take k)) ((dig 2 ps.length ++ bodyL (ps.take k)).map ub) ∧ Below w.heap.size w wr)
        (fun _ i _ => ps.length - (intOf i).toNat)
      case atStart => exact ⟨0, by omega, rfl, by simpa [sizeL, bodyL] using OH.out, BH.out⟩
      case round =>
        obtain ⟨k, hk, rfl, hown, hnx⟩ := hrel
        have hsz := hnx.size
        by_cases hlt : k < ps.length
        · have HC : Hid (∀ w', Below w.heap.size w w' → w'.cell? ⟨b, off + k * 2, none⟩ = some (.string ps[k].1) ∧ w'.cell? ⟨b, off + k * 2 + 1, none⟩ = some (.string ps[k].2)) := fun w' hw => HL.out.below hb' hw k hlt
          have hs := HSM.out k hlt
          have hle : sizeL (ps.take (k + 1)) ≤ sizeL ps := by
            have : sizeL ps = sizeL (ps.take (k + 1)) + sizeL (ps.drop (k + 1)) := by rw [← sizeL_append, List.take_append_drop]
            omega
          have hT := sizeL_take ps k hlt
          have hB := bodyL_take ps k hlt
          have hki : (k : Int) < (ps.length : Int) := by omega
          unfold pairL at hB
          generalize ps[k].1 = K1 at *
          generalize ps[k].2 = V1 at *
          have D1 := hide (fun w' => digits_any K1.size 2 (by omega) (by omega) w')
          have D2 := hide (fun w' => digits_any V1.size 4 (by omega) (by omega) w')
          rw [hT] at hle
          have HT := hide hT
          have HB := hide hB
          clear hT hB
          have z1 : (strOf (dig 2 K1.size)).size = 2 := by rw [strOf_size, dig_len]
          have z2 : (strOf (dig 4 V1.size)).size = 4 := by rw [strOf_size, dig_len]
          have d1 : Hid ((strOf (dig 2 K1.size)).data.toList = dig 2 K1.size) := rfl
          have d2 : Hid ((strOf (dig 4 V1.size)).data.toList = dig 4 V1.size) := rfl
          generalize strOf (dig 2 K1.size) = E1 at *
          generalize strOf (dig 4 V1.size) = E2 at *
          generalize sizeL (ps.take k) = Z at *
          generalize hXS : (dig 2 ps.length ++ bodyL (ps.take k)).map ub = XS at *
          have HXS := hide hXS
          clear hXS
          have HOWN := hide hown
          have HNX := hide hnx
          obtain ⟨g0, g1⟩ := HC.out wr hnx
          clear hown hnx
          go_wp2_with fail
          refine Calls.mono (D1.out _) ?_
          rintro e wa ⟨rfl, ha⟩
          have hA := HNX.out.trans (ha.mono hsz)
          have oA := hide (show wa.ownsRow w.heap.size 5 1 u5 (2 + Z) XS from own_below HOWN.out ha)
          have sA := hA.size
          obtain ⟨ga0, ga1⟩ := HC.out wa hA
          have HA := hide hA
          clear hA ha g0 g1
          go_wp2_with (at_builtin; refine Lib.wpList_append_own_string _ rfl _ _ 76 9 rfl w.heap.size 5 i0 Try.underlying76 Try.underlying9 hi hz0 hz1 hz2 _ _ _ rfl oA.out E1 rfl (by unfold maxLen; omega) (by omega) sA ?_; intro vb wb ob gb nb; have hB := HA.out.grown gb sA (fun j hj => (oA.out.lt j hj).1); obtain ⟨gb0, gb1⟩ := HC.out wb hB; have sB := hB.size; have HBB := hide hB; have OB := hide ob; clear hB ob gb nb)
          refine Calls.mono (D2.out _) ?_
          rintro e wc ⟨rfl, hc⟩
          have hC := HBB.out.trans (hc.mono sB)
          have oC := hide (own_below OB.out hc)
          have sC := hC.size
          obtain ⟨gc0, gc1⟩ := HC.out wc hC
          have HCC := hide hC
          clear hC hc gb0 gb1
          go_wp2_with (first
            | (at_builtin; refine Lib.wpList_append_own_string _ rfl _ _ 76 9 rfl w.heap.size 5 i0 Try.underlying76 Try.underlying9 hi hz0 hz1 hz2 _ _ _ rfl oC.out E2 rfl (by unfold maxLen; omega) (by omega) sC ?_; intro vd wd od gd nd; have hB := HCC.out.grown gd sC (fun j hj => (oC.out.lt j hj).1); obtain ⟨gd0, gd1⟩ := HC.out wd hB; have sD := hB.size; have HDDD := hide hB; have OD := hide od; clear hB od gd nd)
            | (at_builtin; refine Lib.wpList_append_own_string _ rfl _ _ 76 9 rfl w.heap.size 5 i0 Try.underlying76 Try.underlying9 hi hz0 hz1 hz2 _ _ _ rfl OD.out K1 rfl (by unfold maxLen; omega) (by omega) sD ?_; intro ve we oe ge ne; have hB := HDDD.out.grown ge sD (fun j hj => (OD.out.lt j hj).1); obtain ⟨ge0, ge1⟩ := HC.out we hB; have sE := hB.size; have HEE := hide hB; have OE := hide oe; clear hB oe ge ne)
            | (at_builtin; refine Lib.wpList_append_own_string _ rfl _ _ 76 9 rfl w.heap.size 5 i0 Try.underlying76 Try.underlying9 hi hz0 hz1 hz2 _ _ _ rfl OE.out V1 rfl (by unfold maxLen; omega) (by omega) sE ?_; intro vf wf of gf nf; have hB := HEE.out.grown gf sE (fun j hj => (OE.out.lt j hj).1); have sF := hB.size; have HFF := hide hB; have OF := hide of; clear hB of gf nf))
          go_roundw
          case rel =>
            refine ⟨k + 1, by omega, by go_num, ?_, HFF.out⟩
            have := OF.out
            rw [HT.out, HB.out]
            rw [← HXS.out, strCells_ub, strCells_ub, strCells_ub, strCells_ub, d1.out, d2.out, z1, z2] at this
            rw [show 2 + (Z + (6 + K1.size + V1.size)) = 2 + Z + 2 + 4 + K1.size + V1.size by omega]
            simp only [List.map_append, List.append_assoc] at this ⊢
            exact this
          case measure => simp [intOf]; omega
        · obtain rfl : k = ps.length := by omega
          rw [List.take_length] at hown
          have hc := own_conv (P := Try.prog) (src := 76) (dst := 9) (l := recL ps) hown (by rw [recL_len]) Try.underlying76 Try.underlying5 Try.underlying9
          have HNX := hide hnx
          clear hown hnx
          go_wp2
          go_ret2
          exact ⟨rfl, HNX.out⟩
  · have he := errL_wrong hwr
    rw [recS_bad (by rw [he]; exact hwr), he]
    have hne : (wrongL ps != 0) = true := by simpa using hwr
    clear hl hao hb he
    generalize wrongL ps = E at *
    clear hwr
    go_enter Try.func45, Try.ntmps45
    go_wp2_with fail
    refine Calls.mono W.out ?_
    rintro e w1 ⟨rfl, hb1⟩
    go_wp2_with fail
    go_ret2
    exact ⟨rfl, hb1⟩
end Go.Proofs.Ythihmgdefbahpaa
namespace Go.Proofs.Ythihmgdefbahpaa
open Go.RowKit
/-- the cells of pairs -/
def pc (ps : List KV) : List Value := ps.flatMap fun p => [.string p.1, .string p.2]
theorem pc_len (ps : List KV) : (pc ps).length = ps.length * 2 := by
  induction ps with
  | nil => rfl
  | cons p r ih => unfold pc at ih ⊢; rw [List.flatMap_cons, List.length_append, ih]; simp; omega
theorem pc_append (a b : List KV) : pc (a ++ b) = pc a ++ pc b := by simp [pc]
theorem pc_at (ps : List KV) : ∀ i (h : i < ps.length), (pc ps)[i * 2]? = some (.string ps[i].1) ∧ (pc ps)[i * 2 + 1]? = some (.string ps[i].2) := by
  induction ps with
  | nil => intro i h; simp at h
  | cons p r ih =>
    intro i h
    cases i with
    | zero => exact ⟨rfl, rfl⟩
    | succ i =>
      have := ih i (by simpa using h)
      have e : pc (p :: r) = .string p.1 :: .string p.2 :: pc r := rfl
      rw [e, show (i + 1) * 2 = i * 2 + 1 + 1 by omega]
      simpa using this
theorem pc_one (ps : List KV) : ∀ u ∈ pc ps, u.oneCell' = true := by
  intro u hu
  obtain ⟨p, _, hp⟩ := List.mem_flatMap.1 hu
  simp at hp
  rcases hp with rfl | rfl <;> rfl
theorem lies_cells {b off : Nat} {w : World} {ps : List KV} (h : LiesP b off w ps) : ∀ j u, (pc ps)[j]? = some u → w.cell? ((⟨b, off, none⟩ : Addr).add j) = some u := by
  intro j u hj
  have hlt := (List.getElem?_eq_some_iff.1 hj).1
  rw [pc_len] at hlt
  have ha : (⟨b, off, none⟩ : Addr).add j = ⟨b, off + j, none⟩ := by simp [Addr.add]
  rw [ha]
  obtain ⟨h0, h1⟩ := h (j / 2) (by omega)
  obtain ⟨p0, p1⟩ := pc_at ps (j / 2) (by omega)
  rcases Nat.mod_two_eq_zero_or_one j with e | e
  · have : j = j / 2 * 2 := by omega
    rw [← this] at h0 p0
    rw [h0, ← p0, hj]
  · have : j = j / 2 * 2 + 1 := by omega
    rw [show off + j / 2 * 2 + 1 = off + j by omega] at h1
    rw [← this] at p1
    rw [h1, ← p1, hj]
theorem row_lies {w : World} {base g cap n : Nat} {ps qs : List KV} {e : TypeId} (h : w.ownsRow base e 2 (.slice (some ⟨g, 0, none⟩) n cap) n (pc (ps ++ qs))) (hn : ps.length ≤ n) : LiesP g 0 w ps := by
  intro i hi
  have h0 := h.cellAt (i * 2) (by omega)
  have h1 := h.cellAt (i * 2 + 1) (by omega)
  obtain ⟨p0, p1⟩ := pc_at (ps ++ qs) i (by simp; omega)
  rw [List.getElem_append_left hi] at p0 p1
  rw [Nat.zero_add, h0, h1, p0, p1]
  exact ⟨rfl, rfl⟩
theorem infoP : (Try.prog.info? 65).map (fun i => (i.zero, i.size, i.bytes)) = some (some (.agg #[.string ⟨#[]⟩, .string ⟨#[]⟩]), 2, 32) := by kernel_rfl
def mark1 : KV := (⟨#[98, 101, 104, 105, 110, 100]⟩, ⟨#[49]⟩)
def mark2 : KV := (⟨#[98, 101, 104, 105, 110, 100]⟩, ⟨#[50]⟩)
set_option maxHeartbeats 1000000 in
set_option maxRecDepth 100000 in
/-- samePairs, of two lists that are the same -/
theorem samePairs_any (a1 a2 : Option Addr) (b1 o1 c1 b2 o2 c2 : Nat) (ps : List KV) (w : World) (h1 : 0 < ps.length → a1 = some ⟨b1, o1, none⟩) (h2 : 0 < ps.length → a2 = some ⟨b2, o2, none⟩) (hb1 : 0 < ps.length → b1 < w.heap.size) (hb2 : 0 < ps.length → b2 < w.heap.size) (l1 : LiesP b1 o1 w ps) (l2 : LiesP b2 o2 w ps) (hlen : ps.length ≤ 1099511627776000) :
    Calls Try.prog 22 #[.slice a1 ps.length c1, .slice a2 ps.length c2] w fun e w' => e = .returned (.bool true) ∧ Below w.heap.size w w' := by
  have L1 := hide l1
  have L2 := hide l2
  clear l1 l2
  go_enter Try.func22, Try.ntmps22
  go_wp2_with fail
  go_loopw [5] (fun i wr => ∃ k : Nat, k ≤ ps.length ∧ i = .int .i64 k ∧ Below w.heap.size w wr) (fun i _ => ps.length - (intOf i).toNat)
  case atStart => exact ⟨0, Nat.zero_le _, rfl, Below.refl _ _⟩
  case round =>
    obtain ⟨k, hk, rfl, hnx⟩ := hrel
    by_cases hlt : k < ps.length
    · obtain rfl := h1 (by omega)
      obtain rfl := h2 (by omega)
      obtain ⟨d1, d2⟩ := L1.out.below (hb1 (by omega)) hnx k hlt
      obtain ⟨d3, d4⟩ := L2.out.below (hb2 (by omega)) hnx k hlt
      have hk1 : (k : Int) < (ps.length : Int) := by omega
      have HNX := hide hnx
      clear hnx
      generalize ps[k].1 = X at *
      generalize ps[k].2 = Y at *
      go_wp2_with fail
      go_quiet (fail)
      go_wp2
      go_roundw
      case rel => exact ⟨k + 1, by omega, by go_num, below_drewN HNX.out _⟩
      case measure => simp [intOf]; omega
    · have HNX := hide hnx
      clear hnx
      go_wp2
      go_ret
      exact ⟨rfl, HNX.out⟩
theorem pc_marks : pc [mark1, mark2] = (#[.string ⟨#[98, 101, 104, 105, 110, 100]⟩, .string ⟨#[49]⟩, .string ⟨#[98, 101, 104, 105, 110, 100]⟩, .string ⟨#[50]⟩] : Array Value).toList := rfl
theorem cell_marks (w : World) : ∀ j u, (pc [mark1, mark2])[j]? = some u → (w.alloc (.cells #[.string ⟨#[98, 101, 104, 105, 110, 100]⟩, .string ⟨#[49]⟩, .string ⟨#[98, 101, 104, 105, 110, 100]⟩, .string ⟨#[50]⟩] 65)).cell? ((⟨w.heap.size, 0, none⟩ : Addr).add j) = some u := by
  rw [pc_marks]
  exact (World.ownsRow_lit (base := 0) (e := 65) (size := 2) w _ 2 (by omega) (by unfold maxLen; omega) rfl).cells (g := w.heap.size) rfl
def mk2 : List Value := pc [mark1, mark2]
theorem mk2_len : mk2.length = 2 * 2 := rfl
theorem mk2_one : ∀ u ∈ mk2, u.oneCell' = true := pc_one _
theorem mk2_cells (w : World) : ∀ j u, mk2[j]? = some u → (w.alloc (.cells #[.string ⟨#[98, 101, 104, 105, 110, 100]⟩, .string ⟨#[49]⟩, .string ⟨#[98, 101, 104, 105, 110, 100]⟩, .string ⟨#[50]⟩] 65)).cell? ((⟨w.heap.size, 0, none⟩ : Addr).add j) = some u := cell_marks w
theorem room_facts (n : Nat) (hlen : (n + 2) * 32 ≤ 140737488355328) : 0 + n + 2 ≤ maxLen ∧ (0 + n + 2) * 32 ≤ 140737488355328 ∧ 0 + n ≤ maxLen ∧ (0 + n) * 32 ≤ 140737488355328 := by
  unfold maxLen; omega
theorem le_alloc {B : Nat} {w : World} {o : Obj} (h : B ≤ w.heap.size) : B ≤ (w.alloc o).heap.size := by simp; omega
/-- a slice of pairs as it comes in -/
def PairsAt (w : World) (v : Value) (a : Addr) (b off cap : Nat) (ps : List KV) : Prop := (v = .slice none 0 0 ∧ ps = []) ∨ (v = .slice (some a) ps.length cap ∧ (0 < ps.length → a = ⟨b, off, none⟩ ∧ b < w.heap.size) ∧ LiesP b off w ps)
set_option maxHeartbeats 1000000 in
set_option maxRecDepth 100000 in
/-- roomy -/
theorem roomy_any (v : Value) (a : Addr) (b off cap : Nat) (ps : List KV) (w : World) (hv : PairsAt w v a b off cap ps) (hlen : (ps.length + 2) * 32 ≤ 140737488355328) :
    Calls Try.prog 41 #[v] w fun e w' => ∃ g c, e = .returned (.slice (some ⟨g, 0, none⟩) (ps.length + 2) c) ∧ w'.ownsRow w.heap.size 65 2 (.slice (some ⟨g, 0, none⟩) (ps.length + 2) c) (ps.length + 2) (pc (ps ++ [mark1, mark2])) ∧ Below w.heap.size w w' := by
  obtain ⟨hm1, hm2, hm3, hm4⟩ := room_facts ps.length hlen
  obtain ⟨i0, hi, hz0, hz1, hz2⟩ := info_parts infoP
  have fin : Hid (∀ v2 w2, w2.ownsRow w.heap.size 65 2 v2 (0 + ps.length + 2) ([] ++ pc ps ++ mk2) → Below w.heap.size w w2 → ∃ g c, Ending.returned v2 = .returned (.slice (some ⟨g, 0, none⟩) (ps.length + 2) c) ∧ w2.ownsRow w.heap.size 65 2 (.slice (some ⟨g, 0, none⟩) (ps.length + 2) c) (ps.length + 2) (pc (ps ++ [mark1, mark2])) ∧ Below w.heap.size w w2) := by
    intro v2 w2 o2 hb
    rw [List.nil_append, mk2, ← pc_append, Nat.zero_add] at o2
    rcases o2.2 with ⟨_, h0⟩ | ⟨g, c, cur, rfl, _⟩
    · omega
    · exact ⟨g, c, rfl, o2, hb⟩
  rcases hv with ⟨rfl, rfl⟩ | ⟨rfl, hb, hl⟩
  · go_enter Try.func41, Try.ntmps41
    go_wp2_with (first
      | (at_builtin; refine wpList_append_own_none rfl _ _ 47 rfl w.heap.size 65 i0 2 Try.underlying47 hi _ 0 [] rfl (World.ownsRow_nil _ _ _ _) rfl ?_)
      | (at_builtin; refine wpList_append_own _ rfl _ _ 47 rfl w.heap.size 65 i0 (.agg #[.string ⟨#[]⟩, .string ⟨#[]⟩]) 2 32 Try.underlying47 hi hz0 hz1 hz2 rfl (by decide) _ 0 [] rfl (World.ownsRow_nil _ _ _ _) ⟨w.heap.size, 0, none⟩ 2 2 mk2 rfl mk2_len (mk2_cells w) mk2_one (by unfold maxLen; omega) (by omega) (by simp) ?_; intro v2 w2 o2 g2 n2))
    have hbb := ((Below.refl w.heap.size w).alloc (Nat.le_refl _) _).grown g2 (by simp) (by intro k hk; cases hk)
    go_wp2
    go_ret
    exact fin.out v2 w2 o2 hbb
  · have HL := hide hl
    have C : Hid (∀ j u, (pc ps)[j]? = some u → w.cell? (a.add j) = some u) := fun j u hj => by
      have hlt := (List.getElem?_eq_some_iff.1 hj).1
      rw [pc_len] at hlt
      rw [(hb (by omega)).1]
      exact lies_cells hl j u hj
    clear hl
    go_enter Try.func41, Try.ntmps41
    go_wp2_with (first
      | (at_builtin; have O2 := O1.out.alloc (.cells #[.string ⟨#[98, 101, 104, 105, 110, 100]⟩, .string ⟨#[49]⟩, .string ⟨#[98, 101, 104, 105, 110, 100]⟩, .string ⟨#[50]⟩] 65); refine wpList_append_own (w1.alloc (.cells #[.string ⟨#[98, 101, 104, 105, 110, 100]⟩, .string ⟨#[49]⟩, .string ⟨#[98, 101, 104, 105, 110, 100]⟩, .string ⟨#[50]⟩] 65)) rfl (.tmp 6) (.tmp 9) 47 rfl w.heap.size 65 i0 (.agg #[.string ⟨#[]⟩, .string ⟨#[]⟩]) 2 32 Try.underlying47 hi hz0 hz1 hz2 rfl (by decide) v1 (0 + ps.length) ([] ++ pc ps) rfl O2 ⟨w1.heap.size, 0, none⟩ 2 2 mk2 rfl mk2_len (mk2_cells w1) mk2_one hm1 hm2 (le_alloc s1) ?_; intro v2 w2 o2 g2 n2)
      | (at_builtin; refine wpList_append_own _ rfl _ _ 47 rfl w.heap.size 65 i0 (.agg #[.string ⟨#[]⟩, .string ⟨#[]⟩]) 2 32 Try.underlying47 hi hz0 hz1 hz2 rfl (by decide) _ 0 [] rfl (World.ownsRow_nil _ _ _ _) a ps.length cap (pc ps) rfl (pc_len _) C.out (pc_one _) hm3 hm4 (Nat.le_refl _) ?_; intro v1 w1 o1 g1 n1; have s1 := g1.size; have O1 := hide o1; have G1 := hide g1; clear o1 g1 n1))
    have hb1 := (Below.refl w.heap.size w).grown G1.out (Nat.le_refl _) (by intro k hk; cases hk)
    clear n2
    have hb2 := (hb1.alloc s1 _).grown g2 (le_alloc s1) (fun j hj => (O1.out.lt j hj).1)
    go_wp2
    go_ret
    exact fin.out v2 w2 o2 hb2
end Go.Proofs.Ythihmgdefbahpaa
namespace Go.Proofs.Ythihmgdefbahpaa
open Go.RowKit
theorem PairsAt.split {w : World} {v : Value} {a : Addr} {b off cap : Nat} {ps : List KV} (h : PairsAt w v a b off cap ps) : ∃ ao cp, v = .slice ao ps.length cp ∧ (0 < ps.length → ao = some ⟨b, off, none⟩) ∧ (0 < ps.length → b < w.heap.size) ∧ LiesP b off w ps := by
  rcases h with ⟨rfl, rfl⟩ | ⟨rfl, hb, hl⟩
  · exact ⟨none, 0, rfl, fun h => by simp at h, fun h => by simp at h, fun i hi => by simp at hi⟩
  · exact ⟨_, _, rfl, fun h => by rw [(hb h).1], fun h => (hb h).2, hl⟩
theorem PairsAt.below {w w' : World} {v : Value} {a : Addr} {b off cap : Nat} {ps : List KV} (h : PairsAt w v a b off cap ps) (hb : Below w.heap.size w w') : PairsAt w' v a b off cap ps := by
  rcases h with h | ⟨h, hlt, hl⟩
  · exact .inl h
  · refine .inr ⟨h, fun k => ⟨(hlt k).1, Nat.lt_of_lt_of_le (hlt k).2 hb.size⟩, fun i hi => ?_⟩
    have hb' := (hlt (by omega)).2
    exact hl.below hb' hb i hi
theorem marks_len (ps : List KV) : (ps ++ [mark1, mark2]).length = ps.length + 2 := by simp
theorem row_lt {w : World} {base g cap n e sz : Nat} {xs : List Value} (h : w.ownsRow base e sz (.slice (some ⟨g, 0, none⟩) n cap) n xs) : g < w.heap.size := (h.lt g rfl).2
theorem row_cap {w : World} {base g cap n e sz : Nat} {xs : List Value} (h : w.ownsRow base e sz (.slice (some ⟨g, 0, none⟩) n cap) n xs) : n ≤ cap := by
  rcases h.2 with ⟨h0, _⟩ | ⟨g', cap', cur, h0, _, _, hn, _⟩
  · cases h0
  · injection h0 with h1 h2 h3; subst h3; exact hn
theorem bytes_len {n : Nat} (h : (n + 2) * 32 ≤ 140737488355328) : n ≤ 1099511627776000 ∧ n + 2 ≤ 1099511627776000 := by omega
end Go.Proofs.Ythihmgdefbahpaa
namespace Go.Proofs.Ythihmgdefbahpaa
open Go.RowKit
def kAt (d : ByteArray) (p : Nat) : Nat := val ((d.data.toList.drop p).take 2)
def vAt (d : ByteArray) (p : Nat) : Nat := val ((d.data.toList.drop (p + 2)).take 4)
def pairOf (d : ByteArray) (p : Nat) : KV := (d.extract (p + 6) (p + 6 + kAt d p), d.extract (p + 6 + kAt d p) (p + 6 + kAt d p + vAt d p))
def pairEnd (d : ByteArray) (p : Nat) : Nat := p + 6 + kAt d p + vAt d p
def pairOk (d : ByteArray) (p : Nat) : Prop := p + 6 ≤ d.size ∧ pairEnd d p ≤ d.size
instance (d : ByteArray) (p : Nat) : Decidable (pairOk d p) := by unfold pairOk; exact inferInstance
def pairsAt (d : ByteArray) (p : Nat) : Nat → Option (List KV × Nat)
  | 0 => some ([], p)
  | n + 1 => match pairsAt d p n with
    | none => none
    | some (l, q) => if pairOk d q then some (l ++ [pairOf d q], pairEnd d q) else none
def spellAt (d : ByteArray) (p : Nat) : Option (List KV × Nat) := if p + 2 ≤ d.size then pairsAt d (p + 2) (kAt d p) else none
theorem kAt_lt (d : ByteArray) (p : Nat) : kAt d p < 65536 := by
  unfold kAt
  exact Nat.lt_of_lt_of_le (val_lt _) (Nat.pow_le_pow_right (show 256 > 0 by omega) (show ((d.data.toList.drop p).take 2).length ≤ 2 by rw [List.length_take]; omega))
theorem vAt_lt (d : ByteArray) (p : Nat) : vAt d p < 4294967296 := by
  unfold vAt
  exact Nat.lt_of_lt_of_le (val_lt _) (Nat.pow_le_pow_right (show 256 > 0 by omega) (show ((d.data.toList.drop (p + 2)).take 4).length ≤ 4 by rw [List.length_take]; omega))
theorem pairs_step {d : ByteArray} {p n : Nat} {l : List KV} {q : Nat} (h : pairsAt d p n = some (l, q)) (hk : pairOk d q) : pairsAt d p (n + 1) = some (l ++ [pairOf d q], pairEnd d q) := by
  unfold pairsAt; rw [h]; simp only; rw [if_pos hk]
theorem pairs_stop {d : ByteArray} {p n : Nat} {l : List KV} {q : Nat} (h : pairsAt d p n = some (l, q)) (hk : ¬ pairOk d q) : pairsAt d p (n + 1) = none := by
  unfold pairsAt; rw [h]; simp only; rw [if_neg hk]
theorem pairs_none {d : ByteArray} {p n : Nat} (h : pairsAt d p n = none) (m : Nat) : pairsAt d p (n + m) = none := by
  induction m with
  | zero => exact h
  | succ m ih => rw [show n + (m + 1) = n + m + 1 by omega, pairsAt, ih]
theorem pair_body {d : ByteArray} {q : Nat} (h : pairOk d q) : pairL (pairOf d q) = (d.data.toList.drop q).take (pairEnd d q - q) := by
  obtain ⟨h6, he⟩ := h
  have hz := size_data d
  unfold pairEnd at he
  have s1 : (pairOf d q).1.size = kAt d q := by unfold pairOf; simp; omega
  have s2 : (pairOf d q).2.size = vAt d q := by unfold pairOf; simp; omega
  have e1 : dig 2 (kAt d q) = (d.data.toList.drop q).take 2 := by
    have := dig_val ((d.data.toList.drop q).take 2)
    rw [show ((d.data.toList.drop q).take 2).length = 2 by rw [List.length_take, List.length_drop]; omega] at this
    exact this
  have e2 : dig 4 (vAt d q) = (d.data.toList.drop (q + 2)).take 4 := by
    have := dig_val ((d.data.toList.drop (q + 2)).take 4)
    rw [show ((d.data.toList.drop (q + 2)).take 4).length = 4 by rw [List.length_take, List.length_drop]; omega] at this
    exact this
  have e3 : (pairOf d q).1.data.toList = (d.data.toList.drop (q + 6)).take (kAt d q) := by
    unfold pairOf; simp only; rw [slice_str, show q + 6 + kAt d q - (q + 6) = kAt d q by omega]
  have e4 : (pairOf d q).2.data.toList = (d.data.toList.drop (q + 6 + kAt d q)).take (vAt d q) := by
    unfold pairOf; simp only; rw [slice_str, show q + 6 + kAt d q + vAt d q - (q + 6 + kAt d q) = vAt d q by omega]
  unfold pairL pairEnd
  rw [s1, s2, e1, e2, e3, e4, show q + 6 + kAt d q + vAt d q - q = 2 + (4 + (kAt d q + vAt d q)) by omega, List.take_add, List.take_add, List.take_add]
  simp only [List.drop_drop, List.append_assoc]
theorem pairs_body {d : ByteArray} {p : Nat} (hp : p ≤ d.size) : ∀ n l q, pairsAt d p n = some (l, q) → p ≤ q ∧ q ≤ d.size ∧ l.length = n ∧ bodyL l = (d.data.toList.drop p).take (q - p) := by
  intro n
  induction n with
  | zero => intro l q h; simp [pairsAt] at h; obtain ⟨rfl, rfl⟩ := h; simp [bodyL, hp]
  | succ n ih =>
    intro l q h
    rw [pairsAt] at h
    split at h
    · cases h
    · rename_i l' q' h'
      obtain ⟨i1, i2, i3, i4⟩ := ih l' q' h'
      by_cases hk : pairOk d q'
      · rw [if_pos hk] at h
        simp only [Option.some.injEq, Prod.mk.injEq] at h
        obtain ⟨rfl, rfl⟩ := h
        have hb := pair_body hk
        have hq : q' ≤ pairEnd d q' := by unfold pairEnd; omega
        refine ⟨by omega, hk.2, by simp [i3], ?_⟩
        have : bodyL (l' ++ [pairOf d q']) = bodyL l' ++ pairL (pairOf d q') := by simp [bodyL]
        rw [this, i4, hb, show pairEnd d q' - p = (q' - p) + (pairEnd d q' - q') by omega, List.take_add, List.drop_drop, show p + (q' - p) = q' by omega]
      · rw [if_neg hk] at h; cases h
theorem spell_rec {d : ByteArray} {p : Nat} {l : List KV} {q : Nat} (h : spellAt d p = some (l, q)) : p + 2 ≤ q ∧ q ≤ d.size ∧ l.length < 65536 ∧ recL l = (d.data.toList.drop p).take (q - p) := by
  unfold spellAt at h
  by_cases hp : p + 2 ≤ d.size
  · rw [if_pos hp] at h
    obtain ⟨i1, i2, i3, i4⟩ := pairs_body hp _ _ _ h
    have e1 : dig 2 (kAt d p) = (d.data.toList.drop p).take 2 := by
      have := dig_val ((d.data.toList.drop p).take 2)
      rw [show ((d.data.toList.drop p).take 2).length = 2 by rw [List.length_take, List.length_drop, size_data]; omega] at this
      exact this
    refine ⟨i1, i2, by rw [i3]; exact kAt_lt _ _, ?_⟩
    unfold recL
    rw [i3, i4, e1, show q - p = 2 + (q - (p + 2)) by omega, List.take_add, List.drop_drop]
  · rw [if_neg hp] at h; cases h
theorem spell_text {d : ByteArray} {p : Nat} {l : List KV} {q : Nat} (h : spellAt d p = some (l, q)) : strOf (recL l) = d.extract p q := by
  rw [(spell_rec h).2.2.2, ← slice_str, strOf_toList]
end Go.Proofs.Ythihmgdefbahpaa
namespace Go.Proofs.Ythihmgdefbahpaa
open Go.RowKit
def okB (d : ByteArray) (p : Nat) : Bool := decide (pairOk d p)
def pairV (d : ByteArray) (p : Nat) : Value := if pairOk d p then .agg #[.string (pairOf d p).1, .string (pairOf d p).2] else .agg #[.string ⟨#[]⟩, .string ⟨#[]⟩]
def pairN (d : ByteArray) (p : Nat) : Int := if pairOk d p then (pairEnd d p : Int) else 0
theorem pairV_ok {d : ByteArray} {p : Nat} (h : pairOk d p) : pairV d p = .agg #[.string (pairOf d p).1, .string (pairOf d p).2] ∧ pairN d p = (pairEnd d p : Int) ∧ okB d p = true := by
  unfold pairV pairN okB; rw [if_pos h, if_pos h]; exact ⟨rfl, rfl, decide_eq_true h⟩
theorem pairV_no {d : ByteArray} {p : Nat} (h : ¬ pairOk d p) : pairV d p = .agg #[.string ⟨#[]⟩, .string ⟨#[]⟩] ∧ pairN d p = 0 ∧ okB d p = false := by
  unfold pairV pairN okB; rw [if_neg h, if_neg h]; exact ⟨rfl, rfl, decide_eq_false h⟩
theorem results_c3 (tmps : Array Value) (w : World) (g : Nat) (cs : Array Value) (hg : w.heap[g]? = some (.cells cs 65 (0, 0))) (hp : tmps.getD 4 undef = .pointer (some ⟨g, 0, none⟩)) (hs : cs.size = 2) :
    (results Try.f71 tmps).run Try.prog w = .ok (.tuple #[.agg cs, tmps.getD 5 undef, tmps.getD 6 undef]) w := by
  have hp' : tmps[4]?.getD undef = .pointer (some ⟨g, 0, none⟩) := by simpa using hp
  have hi : (Try.prog.info? 65).map (·.size) = some cs.size := by rw [hs]; kernel_rfl
  have hl := run_loadVar_row (P := Try.prog) w g 65 65 cs (0, 0) _ hg Try.underlying65 rfl hi
  simp [results, Try.results71, hp', asAddr, hl]
set_option maxHeartbeats 2000000 in
set_option maxRecDepth 100000 in
set_option linter.unusedSimpArgs false in
/-- readPair -/
theorem readPair_any (d : ByteArray) (p : Nat) (hd : d.size ≤ 140737488351232) (hp : p ≤ d.size) (w : World) :
    Calls Try.prog 71 #[.string d, .int .i64 (p : Int)] w fun e w' => e = .returned (.tuple #[pairV d p, .int .i64 (pairN d p), .bool (okB d p)]) ∧ Below w.heap.size w w' := by
  by_cases h6 : p + 6 ≤ d.size
  · have C1 := take16_any (d.extract p (p + 2)) (by simp; omega) 
    have C2 := take32_any (d.extract (p + 2) (p + 6)) (by simp; omega)
    rw [slice_str, show p + 2 - p = 2 by omega] at C1
    rw [slice_str, show p + 6 - (p + 2) = 4 by omega] at C2
    have hk := kAt_lt d p
    have hv := vAt_lt d p
    have HC1 : Hid (∀ w', Calls Try.prog 70 #[.string (d.extract p (p + 2))] w' fun e w'' => e = .returned (.int .u16 (kAt d p : Int)) ∧ w' = w'') := C1
    have HC2 : Hid (∀ w', Calls Try.prog 69 #[.string (d.extract (p + 2) (p + 6))] w' fun e w'' => e = .returned (.int .u32 (vAt d p : Int)) ∧ w' = w'') := C2
    clear C1 C2
    have hEnd : pairEnd d p = p + 6 + kAt d p + vAt d p := rfl
    have hF1 : (pairOf d p).1 = d.extract (p + 6) (p + 6 + kAt d p) := rfl
    have hF2 : (pairOf d p).2 = d.extract (p + 6 + kAt d p) (p + 6 + kAt d p + vAt d p) := rfl
    by_cases he : pairEnd d p ≤ d.size
    · obtain ⟨e1, e2, e3⟩ := pairV_ok (d := d) (p := p) ⟨h6, he⟩
      rw [e1, e2, e3, hF1, hF2, hEnd]
      rw [hEnd] at he
      clear e1 e2 e3 hF1 hF2 hEnd
      generalize kAt d p = K at *
      generalize vAt d p = V at *
      go_enter Try.func71, Try.ntmps71
      go_wp2_with fail
      refine Calls.mono (HC1.out _) ?_
      rintro e wx ⟨rfl, rfl⟩
      go_wp2_with fail
      refine Calls.mono (HC2.out _) ?_
      rintro e wx ⟨rfl, rfl⟩
      go_wp2_with fail
      refine wp_region_held_drew (S := fun _ => True) (by kernel_rfl) trivial (fun hHeld => ?_)
      refine wpAnyH_take (i := 0) (v := (.string d)) rfl (by kernel_rfl) (by kernel_rfl) (by kernel_rfl) (fun _ _ _ h => h) (Or.inl ⟨by rfl, ?_⟩) (by assumption) ?_
      · intro w' hSw
        (try dsimp only at hSw)
        go_simp <;> first | exact i64_in (by omega) (by omega) | exact u32_in (by omega) (by omega) | exact u32_add _ _ | (rw [Int.tmod_eq_emod_of_nonneg (by omega)]; omega) | (rw [Int.tdiv_eq_ediv_of_nonneg (by omega)]; omega) | omega
      (try simp only [Act.put, List.setIfInBounds_toArray, List.set_cons_zero, List.set_cons_succ])
      refine wpAnyH_take (i := 1) (v := (.int .i64 ((p : Int) + 6))) rfl (by kernel_rfl) (by kernel_rfl) (by kernel_rfl) (fun _ _ _ h => h) (Or.inl ⟨by rfl, ?_⟩) (by assumption) ?_
      · intro w' hSw
        (try dsimp only at hSw)
        go_simp <;> first | exact i64_in (by omega) (by omega) | exact u32_in (by omega) (by omega) | exact u32_add _ _ | (rw [Int.tmod_eq_emod_of_nonneg (by omega)]; omega) | (rw [Int.tdiv_eq_ediv_of_nonneg (by omega)]; omega) | omega
      (try simp only [Act.put, List.setIfInBounds_toArray, List.set_cons_zero, List.set_cons_succ])
      refine wpAnyH_take (i := 2) (v := (.int .i64 ((p : Int) + 6 + (K : Int)))) rfl (by kernel_rfl) (by kernel_rfl) (by kernel_rfl) (fun _ _ _ h => h) (Or.inl ⟨by rfl, ?_⟩) (by assumption) ?_
      · intro w' hSw
        (try dsimp only at hSw)
        go_simp <;> first | exact i64_in (by omega) (by omega) | exact u32_in (by omega) (by omega) | exact u32_add _ _ | (rw [Int.tmod_eq_emod_of_nonneg (by omega)]; omega) | (rw [Int.tdiv_eq_ediv_of_nonneg (by omega)]; omega) | omega
      (try simp only [Act.put, List.setIfInBounds_toArray, List.set_cons_zero, List.set_cons_succ])
      refine wpAnyH_take (i := 3) (v := (.string (d.extract (p + 6) (p + 6 + K)))) rfl (by kernel_rfl) (by kernel_rfl) (by kernel_rfl) (fun _ _ _ h => h) (Or.inl ⟨by rfl, ?_⟩) (by assumption) ?_
      · intro w' hSw
        (try dsimp only at hSw)
        (go_simp; (repeat rw [if_pos (by first | omega | exact ⟨by omega, by omega⟩)]); (try rw [show ((p : Int) + 6).toNat = p + 6 by omega]); (try rw [show ((p : Int) + 6 + (K : Int)).toNat = p + 6 + K by omega]); (try rw [show ((p : Int) + 6 + (K : Int) + (V : Int)).toNat = p + 6 + K + V by omega]))
      (try simp only [Act.put, List.setIfInBounds_toArray, List.set_cons_zero, List.set_cons_succ])
      refine wpAnyH_take (i := 4) (v := (.string d)) rfl (by kernel_rfl) (by kernel_rfl) (by kernel_rfl) (fun _ _ _ h => h) (Or.inl ⟨by rfl, ?_⟩) (by assumption) ?_
      · intro w' hSw
        (try dsimp only at hSw)
        go_simp <;> first | exact i64_in (by omega) (by omega) | exact u32_in (by omega) (by omega) | exact u32_add _ _ | (rw [Int.tmod_eq_emod_of_nonneg (by omega)]; omega) | (rw [Int.tdiv_eq_ediv_of_nonneg (by omega)]; omega) | omega
      (try simp only [Act.put, List.setIfInBounds_toArray, List.set_cons_zero, List.set_cons_succ])
      refine wpAnyH_take (i := 5) (v := (.int .i64 ((p : Int) + 6 + (K : Int)))) rfl (by kernel_rfl) (by kernel_rfl) (by kernel_rfl) (fun _ _ _ h => h) (Or.inl ⟨by rfl, ?_⟩) (by assumption) ?_
      · intro w' hSw
        (try dsimp only at hSw)
        go_simp <;> first | exact i64_in (by omega) (by omega) | exact u32_in (by omega) (by omega) | exact u32_add _ _ | (rw [Int.tmod_eq_emod_of_nonneg (by omega)]; omega) | (rw [Int.tdiv_eq_ediv_of_nonneg (by omega)]; omega) | omega
      (try simp only [Act.put, List.setIfInBounds_toArray, List.set_cons_zero, List.set_cons_succ])
      refine wpAnyH_take (i := 6) (v := (.int .i64 ((p : Int) + 6 + (K : Int) + (V : Int)))) rfl (by kernel_rfl) (by kernel_rfl) (by kernel_rfl) (fun _ _ _ h => h) (Or.inl ⟨by rfl, ?_⟩) (by assumption) ?_
      · intro w' hSw
        (try dsimp only at hSw)
        go_simp <;> first | exact i64_in (by omega) (by omega) | exact u32_in (by omega) (by omega) | exact u32_add _ _ | (rw [Int.tmod_eq_emod_of_nonneg (by omega)]; omega) | (rw [Int.tdiv_eq_ediv_of_nonneg (by omega)]; omega) | omega
      (try simp only [Act.put, List.setIfInBounds_toArray, List.set_cons_zero, List.set_cons_succ])
      refine wpAnyH_take (i := 7) (v := (.string (d.extract (p + 6 + K) (p + 6 + K + V)))) rfl (by kernel_rfl) (by kernel_rfl) (by kernel_rfl) (fun _ _ _ h => h) (Or.inl ⟨by rfl, ?_⟩) (by assumption) ?_
      · intro w' hSw
        (try dsimp only at hSw)
        (go_simp; (repeat rw [if_pos (by first | omega | exact ⟨by omega, by omega⟩)]); (try rw [show ((p : Int) + 6).toNat = p + 6 by omega]); (try rw [show ((p : Int) + 6 + (K : Int)).toNat = p + 6 + K by omega]); (try rw [show ((p : Int) + 6 + (K : Int) + (V : Int)).toNat = p + 6 + K + V by omega]))
      (try simp only [Act.put, List.setIfInBounds_toArray, List.set_cons_zero, List.set_cons_succ])
      refine wpAnyH_take (i := 8) (v := (.agg #[.string (d.extract (p + 6) (p + 6 + K)), .string (d.extract (p + 6 + K) (p + 6 + K + V))])) rfl (by kernel_rfl) (by kernel_rfl) (by kernel_rfl) (fun _ _ _ h => h) (Or.inl ⟨by rfl, ?_⟩) (by assumption) ?_
      · intro w' hSw
        (try dsimp only at hSw)
        go_simp <;> first | exact i64_in (by omega) (by omega) | exact u32_in (by omega) (by omega) | exact u32_add _ _ | (rw [Int.tmod_eq_emod_of_nonneg (by omega)]; omega) | (rw [Int.tdiv_eq_ediv_of_nonneg (by omega)]; omega) | omega
      (try simp only [Act.put, List.setIfInBounds_toArray, List.set_cons_zero, List.set_cons_succ])
      refine wpAnyH_take (i := 9) (v := (.int .i64 ((p : Int) + 6 + (K : Int) + (V : Int)))) rfl (by kernel_rfl) (by kernel_rfl) (by kernel_rfl) (fun _ _ _ h => h) (Or.inl ⟨by rfl, ?_⟩) (by assumption) ?_
      · intro w' hSw
        (try dsimp only at hSw)
        go_simp <;> first | exact i64_in (by omega) (by omega) | exact u32_in (by omega) (by omega) | exact u32_add _ _ | (rw [Int.tmod_eq_emod_of_nonneg (by omega)]; omega) | (rw [Int.tdiv_eq_ediv_of_nonneg (by omega)]; omega) | omega
      (try simp only [Act.put, List.setIfInBounds_toArray, List.set_cons_zero, List.set_cons_succ])
      refine wpAnyH_ready (rs := [10]) (by kernel_rfl) (by simp) ?_
      refine AllReadyH.cons rfl (fun K hK => ?_) AllReadyH.nil
      go_simp
      refine hK.out _ _ trivial (fun hHeld => ?_)
      clear hK K
      (try simp only [Act.put, List.setIfInBounds_toArray, List.set_cons_zero, List.set_cons_succ])
      refine wpAnyH_ready (rs := [11]) (by kernel_rfl) (by simp) ?_
      refine AllReadyH.cons rfl (fun K hK => ?_) AllReadyH.nil
      go_simp
      refine hK.out _ _ trivial (fun hHeld => ?_)
      clear hK K
      (try simp only [Act.put, List.setIfInBounds_toArray, List.set_cons_zero, List.set_cons_succ])
      refine wpAnyH_ready (rs := [12]) (by kernel_rfl) (by simp) ?_
      refine AllReadyH.cons rfl (fun K hK => ?_) AllReadyH.nil
      go_simp
      refine hK.out _ _ trivial (fun hHeld => ?_)
      clear hK K
      (try simp only [Act.put, List.setIfInBounds_toArray, List.set_cons_zero, List.set_cons_succ])
      refine wpAnyH_done (by kernel_rfl) ?_ _
      go_wp2
      refine bodyPost_ret (results_c3 _ _ w.heap.size _ (heap_alloc_new w _) rfl rfl) rfl ⟨by go_num, ?_⟩
      exact ((Below.refl _ w).alloc (Nat.le_refl _) _).drew
    · obtain ⟨e1, e2, e3⟩ := pairV_no (d := d) (p := p) (fun h => he h.2)
      rw [e1, e2, e3]
      rw [hEnd] at he
      clear e1 e2 e3 hF1 hF2 hEnd
      generalize kAt d p = K at *
      generalize vAt d p = V at *
      have he2 : (d.size : Int) < (p : Int) + 6 + K + V := by omega
      go_enter Try.func71, Try.ntmps71
      go_wp2_with fail
      refine Calls.mono (HC1.out _) ?_
      rintro e wx ⟨rfl, rfl⟩
      go_wp2_with fail
      refine Calls.mono (HC2.out _) ?_
      rintro e wx ⟨rfl, rfl⟩
      go_wp2_with fail
      refine bodyPost_ret (results_c3 _ _ w.heap.size _ (heap_alloc_new w _) rfl rfl) rfl ⟨rfl, ?_⟩
      exact (Below.refl _ w).alloc (Nat.le_refl _) _
  · obtain ⟨e1, e2, e3⟩ := pairV_no (d := d) (p := p) (fun h => h6 h.1)
    rw [e1, e2, e3]
    clear e1 e2 e3
    have h7 : (d.size : Int) < (p : Int) + 6 := by omega
    go_enter Try.func71, Try.ntmps71
    go_wp2_with fail
    refine bodyPost_ret (results_c3 _ _ w.heap.size _ (heap_alloc_new w _) rfl rfl) rfl ⟨rfl, ?_⟩
    exact (Below.refl _ w).alloc (Nat.le_refl _) _
/-- what read gives -/
def spL (d : ByteArray) (p : Nat) : List KV := ((spellAt d p).getD ([], 0)).1
def spN (d : ByteArray) (p : Nat) : Nat := ((spellAt d p).getD ([], 0)).2
theorem spL_some {d : ByteArray} {p : Nat} {l : List KV} {q : Nat} (h : spellAt d p = some (l, q)) : spL d p = l ∧ spN d p = q := by unfold spL spN; rw [h]; exact ⟨rfl, rfl⟩
theorem spL_none {d : ByteArray} {p : Nat} (h : spellAt d p = none) : spL d p = [] ∧ spN d p = 0 := by unfold spL spN; rw [h]; exact ⟨rfl, rfl⟩
theorem pc_two (p : KV) : pc [p] = (#[.string p.1, .string p.2] : Array Value).toList := rfl
theorem cell_pair (w : World) (p : KV) : ∀ j u, (pc [p])[j]? = some u → (w.alloc (.cells #[.string p.1, .string p.2] 65)).cell? ((⟨w.heap.size, 0, none⟩ : Addr).add j) = some u := by
  rw [pc_two]
  exact (World.ownsRow_lit (base := 0) (e := 65) (size := 2) w _ 1 (by omega) (by unfold maxLen; omega) rfl).cells (g := w.heap.size) rfl
theorem cell_pair2 (w : World) (o : Obj) (p : KV) : ∀ j u, (pc [p])[j]? = some u → ((w.alloc o).alloc (.cells #[.string p.1, .string p.2] 65)).cell? ((⟨w.heap.size + 1, 0, none⟩ : Addr).add j) = some u := by
  have := cell_pair (w.alloc o) p
  rwa [show (w.alloc o).heap.size = w.heap.size + 1 by simp] at this
theorem pc_one_len (p : KV) : (pc [p]).length = 1 * 2 := rfl
theorem small_room {k : Nat} (h : k < 65536) : k + 1 ≤ maxLen ∧ (k + 1) * 32 ≤ 140737488355328 := by unfold maxLen; omega
set_option maxHeartbeats 2000000 in
set_option maxRecDepth 100000 in
/-- read -/
theorem read_any (d : ByteArray) (p : Nat) (hd : d.size ≤ 140737488351232) (hp : p ≤ d.size) (w : World) :
    Calls Try.prog 52 #[.string d, .int .i64 (p : Int)] w fun e w' => ∃ v, e = .returned (.tuple #[v, .int .i64 (spN d p : Int)]) ∧ w'.ownsRow w.heap.size 65 2 v (spL d p).length (pc (spL d p)) ∧ Below w.heap.size w w' := by
  obtain ⟨i0, hi, hz0, hz1, hz2⟩ := info_parts infoP
  by_cases h2 : p + 2 ≤ d.size
  · have C1 := take16_any (d.extract p (p + 2)) (by simp; omega)
    rw [slice_str, show p + 2 - p = 2 by omega] at C1
    have HC1 : Hid (∀ w', Calls Try.prog 70 #[.string (d.extract p (p + 2))] w' fun e w'' => e = .returned (.int .u16 (kAt d p : Int)) ∧ w' = w'') := C1
    clear C1
    have hk := kAt_lt d p
    have hsp : spellAt d p = pairsAt d (p + 2) (kAt d p) := by unfold spellAt; rw [if_pos h2]
    have HSP := hide hsp
    clear hsp
    have RP := hide (fun q (hq : q ≤ d.size) w' => readPair_any d q hd hq w')
    generalize hCN : kAt d p = CN at *
    have HCN := hide hCN
    clear hCN
    go_enter Try.func52, Try.ntmps52
    go_wp2_with fail
    refine Calls.mono (HC1.out _) ?_
    rintro e wx ⟨rfl, rfl⟩
    go_wp2_with fail
    go_loopw [1, 7, 26] (fun at' v i wr => ∃ (k : Nat) (l : List KV) (q : Nat), k ≤ CN ∧ i = .int .i64 (k : Int) ∧ at' = .int .i64 (q : Int) ∧ pairsAt d (p + 2) k = some (l, q) ∧ wr.ownsRow w.heap.size 65 2 v l.length (pc l) ∧ Below w.heap.size w wr)
      (fun _ _ i _ => CN - (intOf i).toNat)
    case atStart => exact ⟨0, [], p + 2, by omega, rfl, by go_num, rfl, World.ownsRow_nil _ _ _ _, Below.refl _ _⟩
    case round =>
      obtain ⟨k, l, q, hk2, rfl, rfl, hpa, hown, hnx⟩ := hrel
      have hsz := hnx.size
      obtain ⟨hq1, hq2, hq3, _⟩ := pairs_body h2 k l q hpa
      have HPA := hide hpa
      have HNX := hide hnx
      have HOWN := hide hown
      clear hpa hnx
      by_cases hlt : k < CN
      · have hki : (k : Int) < (CN : Int) := by omega
        have RQ := hide (RP.out q hq2)
        by_cases hok : pairOk d q
        · obtain ⟨e1, e2, e3⟩ := pairV_ok hok
          rw [e1, e2, e3] at RQ
          have HST := hide (pairs_step HPA.out hok)
          have hend := hok.2
          clear e1 e2 e3 hok
          have hx : (pairOf d q).1 = (pairOf d q).1 := rfl
          generalize hPO : pairOf d q = PO at *
          generalize pairEnd d q = PE at *
          clear hx hPO
          obtain ⟨hm1, hm2⟩ := small_room (k := l.length) (by omega)
          clear hown
          go_wp2_with fail
          refine Calls.mono (RQ.out _) ?_
          rintro e w1 ⟨rfl, hb1⟩
          have B1 := HNX.out.trans (hb1.mono hsz)
          have s1 := B1.size
          have O1 := hide (own_below HOWN.out hb1)
          have HB1 := hide B1
          clear hb1 B1
          go_wp2_with (at_builtin; refine wpList_append_own _ rfl _ _ 47 rfl w.heap.size 65 i0 (.agg #[.string ⟨#[]⟩, .string ⟨#[]⟩]) 2 32 Try.underlying47 hi hz0 hz1 hz2 rfl (by decide) _ _ _ rfl ((O1.out.alloc _).alloc _) ⟨w1.heap.size + 1, 0, none⟩ 1 1 (pc [PO]) rfl (pc_one_len PO) (cell_pair2 w1 _ PO) (pc_one _) hm1 hm2 (le_alloc (le_alloc s1)) ?_; intro v2 w2 o2 g2 n2; clear n2)
          go_roundw
          case rel =>
            refine ⟨k + 1, l ++ [PO], PE, by omega, by go_num, rfl, HST.out, ?_, ?_⟩
            · rw [pc_append, List.length_append]
              exact o2
            · exact ((HB1.out.alloc s1 _).alloc (le_alloc s1) _).grown g2 (le_alloc (le_alloc s1)) (fun j hj => (O1.out.lt j hj).1)
          case measure => simp [intOf]; omega
        · obtain ⟨e1, e2, e3⟩ := pairV_no hok
          rw [e1, e2, e3] at RQ
          have hns : spellAt d p = none := by
            rw [HSP.out, show CN = k + 1 + (CN - (k + 1)) by omega]
            exact pairs_none (pairs_stop HPA.out hok) _
          have HS1 := hide (spL_none hns)
          clear hns e1 e2 e3 hok hown
          go_wp2_with fail
          refine Calls.mono (RQ.out _) ?_
          rintro e w1 ⟨rfl, hb1⟩
          have B1 := hide ((HNX.out.trans (hb1.mono hsz)).alloc (Nat.le_trans hsz hb1.size) (.cells #[.string ⟨#[]⟩, .string ⟨#[]⟩] 65))
          go_wp2_with fail
          go_ret2
          exact ⟨_, by rw [HS1.out.2]; rfl, by rw [HS1.out.1]; exact World.ownsRow_nil _ _ _ _, B1.out⟩
      · obtain rfl : k = CN := by omega
        have HS1 := hide (spL_some (HSP.out.trans HPA.out))
        clear hown
        go_wp2_with fail
        go_ret2
        exact ⟨_, by rw [HS1.out.2]; rfl, by rw [HS1.out.1]; exact HOWN.out, HNX.out⟩
  · have hs : spellAt d p = none := by unfold spellAt; rw [if_neg h2]
    rw [(spL_none hs).1, (spL_none hs).2]
    have h3 : (d.size : Int) - (p : Int) < 2 := by omega
    clear hs
    go_enter Try.func52, Try.ntmps52
    go_wp2_with fail
    go_ret2
    exact ⟨_, rfl, World.ownsRow_nil _ _ _ _, Below.refl _ _⟩
end Go.Proofs.Ythihmgdefbahpaa
