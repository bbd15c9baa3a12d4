import Derived.Test.YtnphdbmacccblaaMcAo
namespace Go.Proofs.Ytnphdbmacccblaa
open Go.RowKit
set_option maxHeartbeats 8000000 in
set_option maxRecDepth 100000 in
set_option linter.unusedSimpArgs false in
set_option linter.unusedVariables false in
theorem mailAnyOrder_any (ao : Option Addr) (bf of cf : Nat) (fs : List ByteArray) (ap : Option Addr) (bp op cp : Nat) (ps : List Int) (w : World) (hF : TxAt w ao bf of fs) (hP : NmAt w ap bp op ps) :
    Calls Try.prog 3 #[.slice ao fs.length cf, .slice ap ps.length cp] w fun e w' => e = .returned (.bool true) ∧ Below w.heap.size w w' := by
  obtain ⟨pl, hpl'⟩ : ∃ pl, ps.length = pl := ⟨_, rfl⟩
  have HL := hide hpl'
  have HF := hide hF
  have HP := hide hP
  have hfl := hF.len
  have hpl := hP.len
  rw [hpl'] at hpl ⊢
  clear hF hP hpl'
  have NW := hide (new_any 1024 w ⟨by omega, by omega⟩)
  obtain ⟨N, hN⟩ : ∃ N, N = min fs.length 1024 := ⟨_, rfl⟩
  have N1 : N ≤ fs.length := by omega
  have N2 : N ≤ 1024 := by omega
  have HN := hide hN
  clear hN
  obtain ⟨i0, hi0, hz0, hz1, hz2⟩ := info_parts4 infoB
  have HI := hide (And.intro hi0 (And.intro hz0 (And.intro hz1 hz2)))
  clear hi0 hz0 hz1 hz2
  go_enter Try.func3, Try.ntmps3
  go_wp2_with fail
  refine Calls.mono NW.out ?_
  rintro e w1 ⟨rfl, S1, M, v, m1, b1, n1⟩
  obtain ⟨R, hR⟩ : ∃ R, R = w.heap.size + 1 := ⟨_, rfl⟩
  rw [← hR] at m1 ⊢
  clear hR
  have A0 : Hid (A1 w w1 R fs 0) := ⟨⟨S1, ⟨M, v, m1⟩, n1⟩, b1⟩
  clear m1 b1 n1 NW
  go_wp2_with (first | (go_at_call 10; refine Calls.mono (num_any _ _) ?_; rintro e w8 ⟨rfl, rfl⟩))
  go_loopw [7, 8] (fun vn vi wr => ∃ q : Nat, q ≤ N ∧ vi = .int .i64 (q : Int) ∧ vn = .int .i64 (q : Int) ∧ A1 w wr R fs q) (fun _ vi _ => N - (intOf vi).toNat)
  case atStart => exact ⟨0, Nat.zero_le _, rfl, rfl, A0.out⟩
  case round =>
    clear A0
    obtain ⟨q, hq, rfl, rfl, ha⟩ := hrel
    have AQ := hide ha
    clear ha
    go_upto_region 6 with fail
    go_cut [37] (fun v wx => v = .bool (decide (q < N)) ∧ wr = wx)
    case first =>
      have hmin := HN.out
      by_cases h1 : q < fs.length
      · have h1i : (q : Int) < (fs.length : Int) := by omega
        by_cases h2 : q < 1024
        · have h2i : (q : Int) < 1024 := by omega
          have e5 : decide (q < N) = true := decide_eq_true (by omega)
          have E5 := hide e5
          clear e5 hmin
          go_wp2_with fail
          go_meet
          exact ⟨by rw [E5.out], rfl⟩
        · have h2i : ¬ (q : Int) < 1024 := by omega
          have e5 : decide (q < N) = false := decide_eq_false (by omega)
          have E5 := hide e5
          clear e5 hmin
          go_wp2_with fail
          go_meet
          exact ⟨by rw [E5.out], rfl⟩
      · have h1i : ¬ (q : Int) < (fs.length : Int) := by omega
        have e5 : decide (q < N) = false := decide_eq_false (by omega)
        have E5 := hide e5
        clear e5 hmin
        go_wp2_with fail
        go_meet
        exact ⟨by rw [E5.out], rfl⟩
    case rest =>
    obtain ⟨rfl, rfl⟩ := hcut
    by_cases hqN : q < N
    case pos =>
      have hqf : q < fs.length := by omega
      have hao := HF.out.at0 (by omega)
      subst hao
      have hqi : (q : Int) < (fs.length : Int) := by omega
      have hd : decide (q < N) = true := decide_eq_true hqN
      rw [hd]
      have c0 := (AQ.out.bl.cell (HF.out.lt (by omega))).trans (HF.out.c0 q hqf)
      have SE := AQ.out.send hqf (by omega) (HF.out.fit q hqf)
      obtain ⟨f7, m7⟩ : ∃ f7, Int.tmod (q : Int) 7 = f7 := ⟨_, rfl⟩
      obtain ⟨f5, m5⟩ : ∃ f5, Int.tmod (q : Int) 5 = f5 := ⟨_, rfl⟩
      rw [m7, m5] at SE
      have B7 : -7 ≤ f7 ∧ f7 ≤ 7 := by have := tmod_round (q : Int) 7 (by omega); omega
      have B5 : -5 ≤ f5 ∧ f5 ≤ 5 := by have := tmod_round (q : Int) 5 (by omega); omega
      generalize fs[q] = tx at *
      have SE := hide SE
      clear hd
      go_wp2_with fail
      refine Calls.mono SE.out ?_
      rintro e w2 ⟨rfl, a2⟩
      have A2 := hide a2
      clear a2 SE c0 m7 m5 B7 B5 AQ
      go_wp2_with (first | (go_at_call 10; refine Calls.mono (num_any _ _) ?_; rintro e w8 ⟨rfl, rfl⟩))
      go_roundw
      case rel => exact ⟨q + 1, by omega, by go_num, by go_num, A2.out⟩
      case measure => simp [intOf]; omega
    case neg =>
      obtain rfl : q = N := by omega
      have hd : decide (q < q) = false := decide_eq_false (by omega)
      rw [hd]
      clear hd hqN
      go_wp2_with fail
      rename World => w3
      obtain ⟨B, hB⟩ : ∃ B, B = w3.heap.size := ⟨_, rfl⟩
      have HB := hide hB
      clear hB
      go_loopw [11, 12] (fun vs vi wx => ∃ k : Nat, k ≤ q ∧ vi = .int .i64 (k : Int) ∧ wx.ownsRow B 4 1 vs k (blc (List.replicate k false)) ∧ Below B w3 wx) (fun _ vi _ => q - (intOf vi).toNat)
      case atStart => exact ⟨0, Nat.zero_le _, rfl, World.ownsRow_nil _ _ _ _, Below.refl _ _⟩
      case round =>
        rename World => wx
        obtain ⟨k, hk, rfl, ho, hb⟩ := hrel
        have RO := hide ho
        have BO := hide hb
        clear ho hb
        by_cases hkn : k < q
        case pos =>
          have hki : (k : Int) < (q : Int) := by omega
          have sz : Hid (B ≤ wx.heap.size) := by rw [HB.out]; have := BO.out.size; rw [HB.out] at *; exact this
          obtain ⟨hi0, hz0, hz1, hz2⟩ := HI.out
          have hm1 : k + 1 ≤ maxLen := by unfold maxLen; omega
          have hm2 : (k + 1) * 1 ≤ 140737488355328 := by omega
          go_wp2_with (at_builtin; refine wpList_append_own_at _ rfl _ _ 31 rfl B 4 i0 _ 1 1 Try.underlying31 hi0 hz0 hz1 hz2 rfl (by decide) _ _ _ rfl (RO.out.alloc _) ⟨wx.heap.size, 0, none⟩ 1 1 (blc [false]) rfl rfl (bl_cells wx false) (blc_one _) hm1 hm2 (by have := sz.out; simp; omega) ?_; intro v2 w2 o2 g2 n2 a2; clear n2 a2)
          go_roundw
          case rel => exact ⟨k + 1, by omega, by go_num, by rw [List.replicate_succ', show blc (List.replicate k false ++ [false]) = blc (List.replicate k false) ++ blc [false] by simp [blc]]; exact o2, (BO.out.alloc sz.out _).grown g2 (by have := sz.out; simp; omega) (fun j hj => (RO.out.lt j hj).1)⟩
          case measure => simp [intOf]; omega
        case neg =>
          obtain rfl : k = q := by omega
          clear hkn
          obtain ⟨eb, heb⟩ : ∃ eb, eb = decide (pl = 0) := ⟨_, rfl⟩
          have HE := hide heb
          clear heb
          have hB := HB.out
          subst hB
          obtain ⟨bs, cs, hvs⟩ := own_sl RO.out
          subst hvs
          have T0 := hide (AQ.out.three BO.out RO.out (by omega))
          have K0 := hide (Kk.zero k eb)
          clear RO BO AQ HB HI
          generalize w3.heap.size = B at *
          go_wp2_with fail
          go_loopw [13] (fun vi wy => ∃ (i : Nat) (ks : List Nat) (sn : List Bool), i ≤ k ∧ vi = .int .i64 (i : Int) ∧ A3 w wy B R (.slice bs k cs) k fs ks sn ∧ Kk k i eb ks sn) (fun vi _ => k - (intOf vi).toNat)
          case atStart => exact ⟨0, _, _, Nat.zero_le _, rfl, T0.out, K0.out⟩
          case round =>
            clear T0 K0
            obtain ⟨i, ks, sn, hi, rfl, ta, tk⟩ := hrel
            have TA := hide ta
            have TK := hide tk
            clear ta tk
            by_cases hik : i < k
            case pos =>
              have hii : (i : Int) < (k : Int) := by omega
              obtain ⟨dd, hdd⟩ : ∃ dd : Int, (k : Int) - (i : Int) = dd := ⟨_, rfl⟩
              have hd1 : 0 < dd := by omega
              have hd2 : dd ≤ 1024 := by omega
              obtain ⟨j, hj1, hj0, hjx⟩ : ∃ j : Nat, j < k - i ∧ (pl = 0 → j = 0) ∧ ∀ h : 0 < ps.length, (Int.tmod (ps[i % ps.length]'(Nat.mod_lt _ h)) dd + dd) % dd = (j : Int) := by
                by_cases h : 0 < ps.length
                · have t := tmod_round (ps[i % ps.length]'(Nat.mod_lt _ h)) dd hd1
                  obtain ⟨t1, t2, t3, t4, _⟩ := t
                  rw [Int.tmod_eq_emod_of_nonneg t4] at t1
                  refine ⟨((ps[i % ps.length]'(Nat.mod_lt _ h)) % dd).toNat, by omega, fun e => by have := HL.out; omega, fun _ => ?_⟩
                  rw [t1]
                  omega
                · exact ⟨0, by omega, fun _ => rfl, fun h' => absurd h' h⟩
              have HJ := hide hjx
              have HJ0 := hide hj0
              clear hj0 hjx
              go_upto_if 79 with fail
              go_cut [14] (fun v wx => v = .int .i64 (j : Int) ∧ wr = wx)
              case first =>
                by_cases hp' : 0 < pl
                · have hp : 0 < ps.length := by have := HL.out; omega
                  have hap := HP.out.at0 hp
                  subst hap
                  have hjj := HJ.out hp
                  have c0 := (TA.out.bl.cell (HP.out.lt hp)).trans (HP.out.c0 (i % ps.length) (Nat.mod_lt _ hp))
                  have hb := tmod_round (ps[i % ps.length]'(Nat.mod_lt _ hp)) dd hd1
                  clear HJ
                  generalize ps[i % ps.length]'(Nat.mod_lt _ hp) = pp at *
                  have hml : i % ps.length < ps.length := Nat.mod_lt _ hp
                  rw [HL.out] at hml c0
                  have mI : Int.tmod (i : Int) (pl : Int) = ((i % pl : Nat) : Int) := by rw [Int.tmod_eq_emod_of_nonneg (by omega)]; rfl
                  clear hp
                  generalize i % pl = ii at *
                  have hpi : (0 : Int) < (pl : Int) := by omega
                  have hiil : (ii : Int) < (pl : Int) := by omega
                  obtain ⟨t1, ht1⟩ : ∃ t1, Int.tmod pp dd = t1 := ⟨_, rfl⟩
                  rw [ht1] at hb hjj
                  have hb1 : -dd ≤ t1 ∧ t1 < dd := ⟨hb.2.2.2.2.2.1, hb.2.2.2.2.2.2⟩
                  have hb2 : 0 ≤ t1 + dd := hb.2.2.2.1
                  have hb3 : t1 + dd < 2048 := by omega
                  have HJJ := hide hjj
                  clear hb hjj
                  go_wp2_with fail
                  go_meet
                  exact ⟨congrArg (Value.int .i64) HJJ.out, rfl⟩
                · obtain rfl : pl = 0 := by omega
                  have hj0 := HJ0.out rfl
                  subst hj0
                  go_wp2_with fail
                  go_meet
                  exact ⟨rfl, rfl⟩
              case rest =>
              obtain ⟨rfl, rfl⟩ := hcut
              have hjl : j < ks.length := by rw [TK.out.kl]; exact hj1
              obtain ⟨kn, k1, k2, k3⟩ := TK.out.next hik j hjl (fun e => HJ0.out (by have := HE.out; rw [e] at this; exact of_decide_eq_true this.symm))
              have SE := TA.out.deliver j hjl
              generalize ks[j] = m at *
              have KN := hide kn
              have KS := hide k2
              have KI : Hid (pl = 0 → m = i) := fun e => k3 (by rw [HE.out]; exact decide_eq_true e)
              have hmf : m < fs.length := by omega
              have hmk : m < k := k1
              obtain ⟨f7, m7⟩ : ∃ f7, Int.tmod (m : Int) 7 = f7 := ⟨_, rfl⟩
              obtain ⟨f5, m5⟩ : ∃ f5, Int.tmod (m : Int) 5 = f5 := ⟨_, rfl⟩
              have B7 : -7 ≤ f7 ∧ f7 ≤ 7 := by have := tmod_round (m : Int) 7 (by omega); omega
              have B5 : -5 ≤ f5 ∧ f5 ≤ 5 := by have := tmod_round (m : Int) 5 (by omega); omega
              have hao := HF.out.at0 (by omega)
              subst hao
              have CF := hide (HF.out.c0 m hmf)
              have hxL : mkL fs m = ⟨(m : Int) + 1, f7, f5, fs[m]⟩ := by unfold mkL; simp [m7, m5, hmf]
              rw [hxL] at SE
              generalize fs[m] = tx at *
              unfold Lt.v at SE
              have SE := hide SE
              obtain ⟨g, cap, hg⟩ := own_g TA.out.row (by omega)
              have hg2 : bs = some ⟨g, 0, none⟩ ∧ cs = cap := by
                simp only [Value.slice.injEq, true_and] at hg
                exact hg
              obtain ⟨rfl, rfl⟩ := hg2
              clear hg hxL kn k1 k2 k3 TK HJ HJ0 hdd hd1 hd2 hj1
              go_wp2_with fail
              refine Calls.mono SE.out ?_
              rintro e w2 ⟨rfl, a2⟩
              have A2 := hide a2
              clear a2 SE TA
              obtain ⟨W4, hW4⟩ : ∃ W4, W4 = w2.alloc (.cells #[.int .i64 ((m : Int) + 1), .int .i64 f7, .int .i64 f5, .string tx] 33) := ⟨_, rfl⟩
              obtain ⟨J, hJ⟩ : ∃ J, J = w2.heap.size := ⟨_, rfl⟩
              have J4 : Hid (LtAt W4 J ⟨(m : Int) + 1, f7, f5, tx⟩) := by subst hW4; subst hJ; exact heap_last w2 _
              have A4 : Hid (A3 w W4 B R (.slice (some ⟨g, 0, none⟩) k cs) k fs (ks.eraseIdx j) sn) := by subst hW4; exact A2.out.below ((Below.refl _ w2).alloc (Nat.le_refl _) _)
              clear A2
              go_upto_region 24 with fail
              rw [← hW4, ← hJ]
              clear hW4 hJ
              have j0 := J4.out.c0
              have j1 := J4.out.c1
              have j2 := J4.out.c2
              have j3 := J4.out.c3
              dsimp only at j0 j1 j2 j3
              have s0 := (A4.out.cell KS.out hmk).1
              have t0 := (A4.out.bl.cell (HF.out.lt (by omega))).trans CF.out
              have c1 : decide ((m : Int) + 1 < 1) = false := by simp; omega
              have c2 : decide ((k : Int) < (m : Int) + 1) = false := by simp; omega
              have x1 : wrap64 ((m : Int) + 1 - 1) = (m : Int) := by rw [wrap_in (by omega) (by omega)]; omega
              have hki : (m : Int) < (k : Int) := by omega
              have hfi : (m : Int) < (fs.length : Int) := by omega
              go_quiet ((go_at_call 10; exact Calls.quiet_of_same ((num_any _ _).mono fun _ _ ⟨h1, h2⟩ => ⟨h1, h2.symm⟩)))
              have A5 := hide (A4.out.below (show Below W4.heap.size W4 (W4.drewN nq) from ⟨rfl, rfl, rfl, Nat.le_refl _, fun _ _ => rfl⟩))
              have J5 : Hid (LtAt (W4.drewN nq) J ⟨(m : Int) + 1, f7, f5, tx⟩) := J4.out
              generalize W4.drewN nq = W5 at *
              clear j0 j1 j2 j3 s0 t0 A4 J4 m7 m5 c1 c2
              have j0 := J5.out.c0
              dsimp only at j0
              go_upto_region 26 with fail
              go_cut [165] (fun v wx => v = .bool false ∧ W5 = wx)
              case first =>
                by_cases hp' : 0 < pl
                · have hp2 : ¬ pl = 0 := by omega
                  go_wp2_with fail
                  go_meet
                  exact ⟨by simp <;> omega, rfl⟩
                · obtain rfl : pl = 0 := by omega
                  have hmi := KI.out rfl
                  subst hmi
                  go_wp2_with fail
                  go_meet
                  exact ⟨by simp <;> omega, rfl⟩
              case rest =>
              obtain ⟨rfl, rfl⟩ := hcut
              obtain ⟨s0, z0⟩ := A5.out.cell KS.out hmk
              have A6 := hide (A5.out.set m)
              go_wp2_with fail
              go_roundw
              case rel => exact ⟨i + 1, _, _, by omega, by go_num, A6.out, KN.out⟩
              case measure => simp [intOf]; omega
            case neg =>
              obtain rfl : i = k := by omega
              have hks : ks = [] := List.eq_nil_of_length_eq_zero (by rw [TK.out.kl]; omega)
              subst hks
              have DL := hide TA.out.last
              go_wp2_with (first | (go_at_call 10; refine Calls.mono (num_any _ _) ?_; rintro e w8 ⟨rfl, rfl⟩))
              refine Calls.mono DL.out ?_
              rintro e w2 ⟨rfl, a2⟩
              have A2 := hide a2
              clear a2 DL TA
              obtain ⟨W4, hW4⟩ : ∃ W4, W4 = w2.alloc (.cells #[.int .i64 0, .int .i64 0, .int .i64 0, .string ⟨#[]⟩] 33) := ⟨_, rfl⟩
              have A4 : Hid (A3 w W4 B R (.slice bs i cs) i fs [] sn) := by subst hW4; exact A2.out.below ((Below.refl _ w2).alloc (Nat.le_refl _) _)
              clear A2
              unfold noL Lt.v
              go_upto_region 30 with fail
              rw [← hW4]
              clear hW4
              have CN := hide A4.out.count
              go_wp2_with (first | (go_at_call 10; refine Calls.mono (num_any _ _) ?_; rintro e w8 ⟨rfl, rfl⟩) | (go_at_call 13; refine Calls.mono CN.out ?_; rintro e w5 ⟨rfl, rfl⟩))
              go_ret
              exact ⟨rfl, A4.out.bl⟩
end Go.Proofs.Ytnphdbmacccblaa
