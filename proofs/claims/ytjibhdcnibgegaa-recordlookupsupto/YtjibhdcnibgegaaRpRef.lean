import Derived.Test.YtjibhdcnibgegaaRpWrite
import Derived.Test.YtjibhdcnibgegaaRnRef
import Derived.Deep.QuietTactic
import Derived.BigQuiet
import Derived.WalkSmall
namespace Go.Proofs.Ytjibhdcnibgegaa
open Go.RowKit
set_option maxHeartbeats 2000000 in
set_option maxRecDepth 100000 in
/-- the document's Size -/
theorem rsize_any (b off cap : Nat) (ps : List KV) (w : World) (hb : b < w.heap.size) (hlen : ps.length ≤ 512) (hsm : ∀ i (h : i < ps.length), ps[i].1.size ≤ 255 ∧ ps[i].2.size ≤ 4096) (hl : LiesP b off w ps) :
    Calls Try.prog 43 #[.slice (some ⟨b, off, none⟩) ps.length cap] w fun e w' => e = .returned (.int .i64 ((2 + sizeL ps : Nat) : Int)) ∧ Below w.heap.size w w' := by
  go_enter Try.func43, Try.ntmps43
  go_wp2
  go_loopw [3, 4] (fun z i wr => ∃ k : Nat, k ≤ ps.length ∧ i = .int .i64 (k : Int) ∧ z = .int .i64 ((2 + sizeL (ps.take k) : Nat) : Int) ∧ sizeL (ps.take k) ≤ k * 4357 ∧ Below w.heap.size w wr)
    (fun _ i _ => ps.length - (intOf i).toNat)
  case atStart => exact ⟨0, by omega, rfl, rfl, by simp [sizeL], Below.refl _ _⟩
  case round =>
    obtain ⟨k, hk, rfl, rfl, hz, hnx⟩ := hrel
    by_cases hlt : k < ps.length
    · obtain ⟨g0, g1⟩ := hl.below hb hnx k hlt
      have hs := hsm k hlt
      have hT := sizeL_take ps k hlt
      have hki : (k : Int) < (ps.length : Int) := by omega
      have HL := hide hl
      have HSM := hide hsm
      clear hl hsm
      generalize ps[k].1 = K1 at *
      generalize ps[k].2 = V1 at *
      have HT := hide hT
      clear hT
      generalize sizeL (ps.take k) = Z at *
      have HNX := hide hnx
      clear hnx
      have w1 : IntKind.i64.wrap (2 + (Z : Int) + 6) = 2 + (Z : Int) + 6 := i64_in (by omega) (by omega)
      have w2 : IntKind.i64.wrap (2 + (Z : Int) + 6 + (K1.size : Int)) = 2 + (Z : Int) + 6 + (K1.size : Int) := i64_in (by omega) (by omega)
      have w3 : IntKind.i64.wrap (2 + (Z : Int) + 6 + (K1.size : Int) + (V1.size : Int)) = 2 + (Z : Int) + 6 + (K1.size : Int) + (V1.size : Int) := i64_in (by omega) (by omega)
      go_wp2_with fail
      go_region_held3 (fun w' => w'.cell? ⟨b, off + k * 2, none⟩ = some (.string K1) ∧ w'.cell? ⟨b, off + k * 2 + 1, none⟩ = some (.string V1)) (go_keep) (fail)
      go_wp2
      go_roundw
      case rel => exact ⟨k + 1, by omega, by go_num, by rw [HT.out]; go_num, by rw [HT.out]; omega, HNX.out.drew⟩
      case measure => simp [intOf]; omega
    · obtain rfl : k = ps.length := by omega
      rw [List.take_length]
      have HNX := hide hnx
      clear hl hsm hnx
      go_wp2
      go_ret
      exact ⟨rfl, HNX.out⟩
theorem emptyS (s : ByteArray) : s.toList.isEmpty = decide (s.size = 0) := by
  rw [ByteArray.toList_eq, Bool.eq_iff_iff, decide_eq_true_eq, List.isEmpty_iff]
  constructor
  · intro h; rw [← size_data, h]; rfl
  · intro h; rw [← size_data] at h; exact List.eq_nil_of_length_eq_zero h
set_option maxHeartbeats 2000000 in
set_option maxRecDepth 100000 in
set_option linter.unusedSimpArgs false in
/-- the document's wrong -/
theorem rwrong_any (ao : Option Addr) (b off cap : Nat) (ps : List KV) (w : World) (hao : 0 < ps.length → ao = some ⟨b, off, none⟩) (hb : 0 < ps.length → b < w.heap.size) (hlen : ps.length ≤ 1099511627776000) (hl : LiesP b off w ps) :
    Calls Try.prog 42 #[.slice ao ps.length cap] w fun e w' => e = .returned (.int .i64 (wrongL ps)) ∧ Below w.heap.size w w' := by
  by_cases hg : ps.length = 0 ∨ 512 < ps.length
  · rw [(wrong_group hg).1]
    have hN : ((ps.length : Int) == 0) = true ∨ (((ps.length : Int) == 0) = false ∧ (512 : Int) < (ps.length : Int)) := by
      rcases Nat.eq_zero_or_pos ps.length with h | h
      · left; rw [h]; rfl
      · right; exact ⟨ne0 h, by omega⟩
    clear hao hb hl hg
    generalize ps.length = N at *
    go_enter Try.func42, Try.ntmps42
    rcases hN with h0 | ⟨h0, h1⟩
    · go_wp2
      go_ret
      exact ⟨rfl, Below.refl _ _⟩
    · go_wp2
      go_ret
      exact ⟨rfl, Below.refl _ _⟩
  · have hpos : 0 < ps.length := by omega
    have h5 : (ps.length : Int) ≤ 512 := by omega
    obtain rfl := hao hpos
    have hb := hb hpos
    have h0 := ne0 hpos
    go_enter Try.func42, Try.ntmps42
    go_wp2
    go_loopw [3] (fun i wr => ∃ k : Nat, k ≤ ps.length ∧ i = .int .i64 (k : Int) ∧ (∀ j, j < k → badAt ps j = 0) ∧ Below w.heap.size w wr)
      (fun i _ => ps.length - (intOf i).toNat)
    case atStart => exact ⟨0, by omega, rfl, fun j hj => by omega, Below.refl _ _⟩
    case round =>
      obtain ⟨k, hk, rfl, hok, hnx⟩ := hrel
      have hsz := hnx.size
      by_cases hlt : k < ps.length
      · have hl' := hl.below hb hnx
        have hb' : b < wr.heap.size := Nat.lt_of_lt_of_le hb hsz
        obtain ⟨g0, g1⟩ := hl' k hlt
        have HA := hide ((Below.refl wr.heap.size wr).alloc (Nat.le_refl _) (.cells #[.string ps[k].1, .string ps[k].2] 81))
        have hki : (k : Int) < (ps.length : Int) := by omega
        have HOK := hide hok
        have HGR := hide hg
        have HNX := hide hnx
        have HL := hide hl
        have HL' := hide hl'
        clear hok hg hnx hl hl' hao
        generalize hK : ps[k].1 = K1 at *
        generalize hV : ps[k].2 = V1 at *
        have HK := hide hK
        have HV := hide hV
        clear hK hV
        by_cases hk0 : K1.size = 0
        · have hem : K1.toList.isEmpty = true := by rw [emptyS]; exact decide_eq_true hk0
          have HF : Hid (wrongL ps = 32) := by
            have hb : badAt ps k = 32 := by unfold badAt badP; rw [getD_at hlt, HK.out, HV.out, if_pos (Or.inl hk0)]
            have := (wrong_at HGR.out hlt HOK.out (by rw [hb]; omega)).1
            rw [hb] at this
            exact this
          go_wp2_with fail
          go_ret
          exact ⟨by rw [HF.out]; rfl, (HNX.out.trans (HA.out.mono hsz))⟩
        · have hem : K1.toList.isEmpty = false := by rw [emptyS]; exact decide_eq_false hk0
          by_cases hk1 : 255 < K1.size
          · have hk2 : (255 : Int) < (K1.size : Int) := by omega
            have HF : Hid (wrongL ps = 32) := by
              have hb : badAt ps k = 32 := by unfold badAt badP; rw [getD_at hlt, HK.out, HV.out, if_pos (Or.inr hk1)]
              have := (wrong_at HGR.out hlt HOK.out (by rw [hb]; omega)).1
              rw [hb] at this
              exact this
            go_wp2_with fail
            go_ret
            exact ⟨by rw [HF.out]; rfl, (HNX.out.trans (HA.out.mono hsz))⟩
          · have hk2 : (K1.size : Int) ≤ 255 := by omega
            by_cases hv1 : 4096 < V1.size
            · have hv2 : (4096 : Int) < (V1.size : Int) := by omega
              have HF : Hid (wrongL ps = 33) := by
                have hb : badAt ps k = 33 := by unfold badAt badP; rw [getD_at hlt, HK.out, HV.out, if_neg (by omega), if_pos hv1]
                have := (wrong_at HGR.out hlt HOK.out (by rw [hb]; omega)).1
                rw [hb] at this
                exact this
              go_wp2_with fail
              go_ret
              exact ⟨by rw [HF.out]; rfl, (HNX.out.trans (HA.out.mono hsz))⟩
            · have hv2 : (V1.size : Int) ≤ 4096 := by omega
              by_cases hz : k = 0
              · have HB : Hid (badAt ps k = 0) := by
                  have hb : badAt ps k = 0 := by unfold badAt badP; rw [getD_at hlt, HK.out, HV.out, if_neg (by omega), if_neg hv1, if_pos hz]; rfl
                  exact hb
                subst hz
                rw [Nat.zero_mul, Nat.add_zero] at g0 g1
                go_wp2_with fail
                generalize wr.alloc (.cells #[.string K1, .string V1] 81) = WA at *
                go_quiet (fail)
                go_wp2_with fail
                go_quiet (fail)
                go_wp2_with fail
                go_roundw
                case rel =>
                  refine ⟨1, by omega, by go_num, fun j hj => ?_, (by first | exact below_drewN (HNX.out.trans (HA.out.mono hsz)) _ | exact below_drewN (below_drewN (HNX.out.trans (HA.out.mono hsz)) _) _)⟩
                  obtain rfl : j = 0 := by omega
                  exact HB.out
                case measure => simp [intOf]; omega
              · obtain ⟨j, hkj⟩ : ∃ j, k = j + 1 := ⟨k - 1, by omega⟩
                have hj : j < ps.length := by omega
                obtain ⟨g2, g3⟩ := HL'.out j hj
                have HQ : Hid (badAt ps k = badQ (some ps[j].1) K1) := by
                  have hb : badAt ps k = badQ (some ps[j].1) K1 := by unfold badAt badP; rw [getD_at hlt, HK.out, HV.out, if_neg (by omega), if_neg hv1, if_neg hz, show k - 1 = j by omega, getD_at hj]
                  exact hb
                generalize ps[j].1 = K0 at *
                generalize ps[j].2 = V0 at *
                have hk3 : decide (0 < k) = true := decide_eq_true (by omega)
                have hk4 : (k : Int) - 1 = (j : Int) := by omega
                have hj2 : (j : Int) < (ps.length : Int) := by omega
                have HKJ := hide hkj
                clear hkj hz
                have cA : (wr.alloc (.cells #[.string K1, .string V1] 81)).cell? ⟨b, off + j * 2, none⟩ = some (.string K0) := by rw [HA.out.cell (by exact hb')]; exact g2
                by_cases hq : K1 = K0
                · have he : (K1.toList == K0.toList) = true := by rw [eq_beq]; exact decide_eq_true hq
                  have HF : Hid (wrongL ps = 35) := by
                    have hb : badAt ps k = 35 := by rw [HQ.out, badQ, if_pos hq]
                    have := (wrong_at HGR.out hlt HOK.out (by rw [hb]; omega)).1
                    rw [hb] at this
                    exact this
                  have HQ2 := hide hq
                  clear hq
                  go_wp2_with fail
                  have c0 : (wr.alloc (.cells #[.string K1, .string V1] 81)).cell? ⟨wr.heap.size, 0, none⟩ = some (.string K1) := by simp
                  generalize wr.alloc (.cells #[.string K1, .string V1] 81) = WA at *
                  go_quiet (fail)
                  go_wp2
                  go_ret
                  exact ⟨by rw [HF.out]; rfl, (by first | exact below_drewN (HNX.out.trans (HA.out.mono hsz)) _ | exact below_drewN (below_drewN (HNX.out.trans (HA.out.mono hsz)) _) _)⟩
                · have he : (K1.toList == K0.toList) = false := by rw [eq_beq]; exact decide_eq_false hq
                  have HQ2 := hide hq
                  clear hq
                  by_cases hls : lessS K1 K0 = true
                  · have HF : Hid (wrongL ps = 37) := by
                      have hb : badAt ps k = 37 := by rw [HQ.out, badQ, if_neg HQ2.out, if_pos hls]
                      have := (wrong_at HGR.out hlt HOK.out (by rw [hb]; omega)).1
                      rw [hb] at this
                      exact this
                    have hle : Op.bytesLess K1.toList K0.toList = true := hls
                    clear hls
                    go_wp2_with fail
                    have c0 : (wr.alloc (.cells #[.string K1, .string V1] 81)).cell? ⟨wr.heap.size, 0, none⟩ = some (.string K1) := by simp
                    generalize wr.alloc (.cells #[.string K1, .string V1] 81) = WA at *
                    go_quiet (fail)
                    go_wp2_with fail
                    go_quiet (fail)
                    go_wp2
                    go_ret
                    exact ⟨by rw [HF.out]; rfl, (by first | exact below_drewN (HNX.out.trans (HA.out.mono hsz)) _ | exact below_drewN (below_drewN (HNX.out.trans (HA.out.mono hsz)) _) _)⟩
                  · have HB : Hid (badAt ps k = 0) := by
                      have hb : badAt ps k = 0 := by rw [HQ.out, badQ, if_neg HQ2.out, if_neg hls]
                      exact hb
                    have hle : Op.bytesLess K1.toList K0.toList = false := by simpa [lessS] using hls
                    clear hls
                    go_wp2_with fail
                    have c0 : (wr.alloc (.cells #[.string K1, .string V1] 81)).cell? ⟨wr.heap.size, 0, none⟩ = some (.string K1) := by simp
                    generalize wr.alloc (.cells #[.string K1, .string V1] 81) = WA at *
                    go_quiet (fail)
                    go_wp2_with fail
                    go_quiet (fail)
                    go_wp2
                    go_roundw
                    case rel =>
                      refine ⟨k + 1, by omega, by go_num, fun j hj => ?_, (by first | exact below_drewN (HNX.out.trans (HA.out.mono hsz)) _ | exact below_drewN (below_drewN (HNX.out.trans (HA.out.mono hsz)) _) _)⟩
                      rcases Nat.lt_or_ge j k with h | h
                      · exact HOK.out j h
                      · obtain rfl : j = k := by omega
                        exact HB.out
                    case measure => simp [intOf]; omega
      · obtain rfl : k = ps.length := by omega
        have HF := hide ((wrong_none hg hok).1)
        have HNX := hide hnx
        clear hok hnx hl hg hao hlt
        go_wp2
        go_ret
        exact ⟨by rw [HF.out]; rfl, HNX.out⟩
end Go.Proofs.Ytjibhdcnibgegaa
