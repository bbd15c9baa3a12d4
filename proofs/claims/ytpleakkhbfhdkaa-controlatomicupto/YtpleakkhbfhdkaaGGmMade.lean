import Derived.Test.YtpleakkhbfhdkaaGmTail2
import Derived.Test.YtpleakkhbfhdkaaGGcTwin
import Derived.Test.YtpleakkhbfhdkaaGGcName
import Derived.Test.YtpleakkhbfhdkaaGGkRound
namespace Go.Proofs.Ytpleakkhbfhdkaa
open Go.RowKit
set_option maxHeartbeats 16000000 in
set_option maxRecDepth 100000 in
set_option linter.unusedSimpArgs false in
set_option linter.unusedVariables false in
theorem made_any (N : Nat) (w : World) (a b c d : Int) (H Z M : List Int) (aH : Option Addr) (bH oH cH : Nat) (aZ : Option Addr) (bZ oZ cZ : Nat) (aM : Option Addr) (bM oM cM : Nat) (hH : PsAt N w aH bH oH H) (hZ : PsAt N w aZ bZ oZ Z) (hM : PsAt N w aM bM oM M) (hN : N ≤ w.heap.size) :
    Calls Try.prog 29 #[.agg #[.int .i64 a, .int .i64 b, .int .i64 c, .int .i64 d, .slice aH H.length cH, .slice aZ Z.length cZ, .slice aM M.length cM]] w fun e w' => ∃ st x ns vl zs, e = .returned (.agg (clA st x vl)) ∧ zs.length = ns.length ∧ Tw (w.heap.size + 2) w' ns vl zs ∧ errP st x ns = 0 ∧ st.size ≤ 40 ∧ Below w.heap.size w w' := by
  obtain ⟨W0, hW0⟩ : ∃ W0, W0 = (w.alloc (.cells #[.int .i64 a, .int .i64 b, .int .i64 c, .int .i64 d, .slice aH H.length cH, .slice aZ Z.length cZ, .slice aM M.length cM] 72)).alloc (.cells (clA ⟨#[]⟩ zx (.slice none 0 0)) 26) := ⟨_, rfl⟩
  have B0 : Hid (Below w.heap.size w W0) := by rw [hW0]; exact ((Below.refl _ _).alloc (Nat.le_refl _) _).alloc (by simp) _
  have s0 : Hid (W0.heap.size = w.heap.size + 2) := by rw [hW0]; show _ = _; simp
  have X0 : Hid (MdW N w W0 a b c d H Z M aH bH oH cH aZ bZ oZ cZ aM bM oM cM) := by
    have hb : W0.heap[w.heap.size]? = some (.cells #[.int .i64 a, .int .i64 b, .int .i64 c, .int .i64 d, .slice aH H.length cH, .slice aZ Z.length cZ, .slice aM M.length cM] 72) := by
      rw [hW0, Below.heap_alloc _ _ _ (by simp)]
      exact heap_last _ _
    have hr : ClAt W0 (w.heap.size + 1) ⟨#[]⟩ zx (.slice none 0 0) := by
      rw [hW0]
      have := new_cl (w.alloc (.cells #[.int .i64 a, .int .i64 b, .int .i64 c, .int .i64 d, .slice aH H.length cH, .slice aZ Z.length cZ, .slice aM M.length cM] 72)) ⟨#[]⟩ zx (.slice none 0 0)
      simp only [World.size_alloc] at this
      exact this
    have bn := B0.out.mono hN
    have sz := s0.out
    refine ⟨?_, ?_, ?_, ?_, ?_, ?_, ?_, hr, hH.below bn, hZ.below bn, hM.below bn, by omega, by omega⟩ <;> (unfold World.cell?; rw [hb]; rfl)
  have hHl := hH.len
  clear hH hZ hM
  obtain ⟨i0, hi0, hz0, hz1, hz2⟩ := info_parts infoNd
  obtain ⟨k0, hk0, hx0, hx1, hx2⟩ := info_parts infoInt
  have MO0 := mod_any a 16 (by omega) (by omega) W0
  obtain ⟨ra, hra⟩ : ∃ ra, a % 16 = ra := ⟨_, rfl⟩
  have e16 : 0 ≤ ra := by rw [← hra]; exact Int.emod_nonneg _ (by omega)
  have f16 : ra < 16 := by rw [← hra]; exact Int.emod_lt_of_pos _ (by omega)
  rw [hra] at MO0
  clear hra
  replace MO0 := hide MO0
  obtain ⟨nn, hnn⟩ : ∃ nn : Nat, (nn : Int) = 1 + ra := ⟨(1 + ra).toNat, by omega⟩
  have n1 : 1 ≤ nn := by omega
  have n2 : nn ≤ 16 := by omega
  have HNN := hide hnn
  clear hnn
  go_enter Try.func29, Try.ntmps29
  go_upto_region 1 with fail
  rw [show (w.alloc (.cells #[.int .i64 a, .int .i64 b, .int .i64 c, .int .i64 d, .slice aH H.length cH, .slice aZ Z.length cZ, .slice aM M.length cM] 72)).alloc (.cells #[.string ⟨#[]⟩, .int .i64 0, .int .i64 0, .int .i64 0, .int .i64 0, .int .i64 0, .int .i64 0, .int .i64 0, .int .i64 0, .int .i64 0, .int .i64 0, .int .i64 0, .int .i64 0, .int .i64 0, .int .i64 0, .int .i64 0, .int .i64 0, .int .i64 0, .int .i64 0, .int .i64 0, .int .i64 0, .int .i64 0, .slice none 0 0] 26) = W0 from hW0.symm]
  clear hW0
  have q0 := X0.out.c0
  have q4 := X0.out.c4
  go_upto_if 22 with (go_at_call 45; refine Calls.mono MO0.out ?_; rintro e w' ⟨rfl, rfl⟩)
  rw [← HNN.out]
  clear MO0
  clear e16 f16 q0 q4
  go_cut [4] (fun v wx => ∃ p : Nat, v = .int .i64 (p : Int) ∧ 1 ≤ p ∧ (p = H.length ∨ p = 1) ∧ W0 = wx)
  case first =>
    by_cases h1 : H.length < 1
    · have h1' : (H.length : Int) < 1 := by omega
      go_wp2_with fail
      go_meet
      exact ⟨1, rfl, by omega, Or.inr rfl, rfl⟩
    · have h1' : ¬ (H.length : Int) < 1 := by omega
      go_wp2_with fail
      go_meet
      exact ⟨H.length, rfl, by omega, Or.inl rfl, rfl⟩
  case rest =>
    obtain ⟨p', rfl, hp1, hp2, rfl⟩ := hcut
    have hpl : p' ≤ 17592186043904 := by omega
    clear hp2 hHl
    go_upto_if 24 with fail
    go_cut [4] (fun v wx => ∃ p : Nat, v = .int .i64 (p : Int) ∧ 1 ≤ p ∧ p ≤ 64 ∧ W0 = wx)
    case first =>
      by_cases h1 : 64 < p'
      · have h1' : (64 : Int) < (p' : Int) := by omega
        go_wp2_with fail
        go_meet
        exact ⟨64, rfl, by omega, by omega, rfl⟩
      · have h1' : ¬ (64 : Int) < (p' : Int) := by omega
        go_wp2_with fail
        go_meet
        exact ⟨p', rfl, by omega, by omega, rfl⟩
    case rest =>
      obtain ⟨p, rfl, p1, p2, rfl⟩ := hcut
      clear hp1 hpl
      have hnP : (0 : Int) < (nn : Int) := by omega
      obtain ⟨hh, hhd⟩ : ∃ hh : Nat → Int, hh = fun j => atL H j % (nn : Int) := ⟨_, rfl⟩
      obtain ⟨zz, hzd⟩ : ∃ zz : Nat → Int, zz = fun j => atL Z j % 8 := ⟨_, rfl⟩
      have HHr : Hid (∀ j, 0 ≤ hh j ∧ hh j < (nn : Int)) := fun j => by rw [hhd]; exact ⟨Int.emod_nonneg _ (by omega), Int.emod_lt_of_pos _ hnP⟩
      have HZr : Hid (∀ j, 0 ≤ zz j ∧ zz j ≤ 7) := fun j => by
        rw [hzd]
        have := Int.emod_nonneg (atL Z j) (show (8 : Int) ≠ 0 by omega)
        have := Int.emod_lt_of_pos (atL Z j) (show (0 : Int) < 8 by omega)
        exact ⟨by omega, by dsimp only; omega⟩
      have HhE : Hid (∀ j, hh j = atL H j % (nn : Int)) := fun j => by rw [hhd]
      have HzE : Hid (∀ j, zz j = atL Z j % 8) := fun j => by rw [hzd]
      clear hhd hzd hnP
      obtain ⟨ns, hns⟩ : ∃ ns, ns = mdN zz hh p nn := ⟨_, rfl⟩
      have HNS := hide hns
      clear hns
      have HLn : Hid (ns.length = nn) := by rw [HNS.out]; exact mdN_len _ _ _ _
      have HAt : Hid (∀ i (h : i < ns.length), ns[i] = ⟨zz i, nis (mdQ hh i p)⟩) := by
        have := HNS.out
        subst this
        exact fun i h => mdN_at _ _ _ _ i h
      have HKp : Hid (∀ i, i < nn → kpN (ns.take (i + 1)) = kpN (ns.take i) + (if 0 < (mdQ hh i p).length then 1 else 0)) := by
        have := HNS.out
        subst this
        exact fun i h => kpN_mdN h
      have HKl : Hid (∀ i, kpN (ns.take i) ≤ 16) := fun i => by
        have h1 := kpN_le (ns.take i)
        rw [List.length_take] at h1
        have := HLn.out
        omega
      go_wp2_with fail
      go_loopw [5, 6, 7] (fun vl vf vi wr => ∃ zs : List (Int × Value), zs.length ≤ nn ∧ vi = .int .i64 (zs.length : Int) ∧ vf = .int .i64 (kpN (ns.take zs.length) : Int) ∧ Hid (Tw W0.heap.size wr ns vl zs) ∧ Hid (Below W0.heap.size W0 wr)) (fun _ _ vi _ => nn - (intOf vi).toNat)
      case atStart => exact ⟨[], Nat.zero_le _, rfl, rfl, ⟨World.ownsRow_nil _ _ _ _, fun q hq => absurd hq (Nat.not_lt_zero _), fun q hq => absurd hq (Nat.not_lt_zero _)⟩, Below.refl _ _⟩
      case round =>
        obtain ⟨zs, hq, rfl, rfl, HT, HB⟩ := hrel
        obtain ⟨ba, cp, hv, _⟩ := own_sl HT.out.row
        subst hv
        by_cases hql : zs.length < nn
        case neg =>
          have hqe : zs.length = nn := by omega
          rw [hqe] at HT ⊢
          obtain ⟨F, hF⟩ : ∃ F : Nat, F = kpN ns := ⟨_, rfl⟩
          have hFt : kpN (ns.take nn) = F := by rw [hF, List.take_of_length_le (by rw [HLn.out]; exact Nat.le_refl _)]
          rw [hFt]
          have HFE := hide hF
          have HDl : Hid (Dealt ns) := by rw [HNS.out]; exact mdN_dealt _ _ _ _ (fun j _ => HHr.out j) p1 p2
          have HPt : Hid (ptN ns = p) := by rw [HNS.out]; exact mdN_flen _ _ _ _ (fun j _ => HHr.out j)
          have F1 : 1 ≤ F := by rw [hF]; exact kpN_one (by have := HPt.out; unfold ptN at this; omega)
          have F2 : F ≤ 16 := by rw [← hFt]; exact HKl.out nn
          have HNf : Hid (nfP ns = true) := by
            show _ = _
            unfold nfP
            rw [decide_eq_true (by rw [HLn.out]; exact n1), decide_eq_true (by rw [HLn.out]; exact n2)]
            simp only [Bool.true_and]
            rw [List.all_eq_true]
            intro nd hnd
            obtain ⟨q, hq', rfl⟩ := List.getElem_of_mem hnd
            rw [HAt.out q hq']
            unfold zOk
            rw [decide_eq_true (HZr.out q).1, decide_eq_true (HZr.out q).2]
            rfl
          have HZs : Hid (zs.length = ns.length) := by rw [HLn.out]; exact hqe
          clear hF hFt HHr HZr HhE HzE HNS HLn HAt HKp HKl hq hql hqe
          obtain ⟨fp, hfp⟩ : ∃ fp, (F : Int) * (p : Int) = fp := ⟨_, rfl⟩
          have HFP := hide hfp
          have m1 : fp ≤ 1024 := by
            have := Int.mul_le_mul (show (F : Int) ≤ 16 by omega) (show (p : Int) ≤ 64 by omega) (by omega) (by omega)
            omega
          have m0 : 0 ≤ fp := by
            have := Int.mul_nonneg (show 0 ≤ (F : Int) by omega) (show 0 ≤ (p : Int) by omega)
            omega
          have HM : Hid (∀ m, (m = if 512 < fp then 512 / (p : Int) else (F : Int)) → 1 ≤ m ∧ m ≤ (F : Int) ∧ m * (p : Int) ≤ 512) := fun m hm => md_most (full := (F : Int)) (p := (p : Int)) (m := m) (by omega) (by omega) (by omega) (by rw [HFP.out]; exact hm)
          clear hfp
          have hnn : ¬ (nn : Int) < (nn : Int) := by omega
          go_upto_if 69 with (refine wpList_muli rfl (.tmp 66) (.tmp 67) rfl (F : Int) (p : Int) fp (by kernel_rfl) (by kernel_rfl) HFP.out (by omega) (by omega) ?_)
          go_cut [10] (fun v wx => ∃ m : Int, v = .int .i64 m ∧ Hid (1 ≤ m ∧ m ≤ (F : Int) ∧ m * (p : Int) ≤ 512) ∧ wr = wx)
          case first =>
            by_cases h5 : 512 < fp
            · obtain ⟨qq, hqq⟩ : ∃ qq, 512 / (p : Int) = qq := ⟨_, rfl⟩
              have HQQ := hide hqq
              clear hqq
              go_wp2_with (refine wpList_quoi rfl (.const (.int .i64 512)) (.tmp 70) rfl 512 (p : Int) qq (by kernel_rfl) (by kernel_rfl) HQQ.out (by omega) (by omega) (by omega) ?_)
              go_meet
              exact ⟨qq, rfl, HM.out _ (by rw [if_pos h5]; exact HQQ.out.symm), rfl⟩
            · go_wp2_with fail
              go_meet
              exact ⟨(F : Int), rfl, HM.out _ (by rw [if_neg (by omega)]), rfl⟩
          case rest =>
            obtain ⟨m, rfl, HMm, rfl⟩ := hcut
            clear HM m0 m1 HFP
            obtain ⟨mm1, mm2, _⟩ := HMm.out
            have XW := hide (X0.out.below HB.out)
            have q1 := XW.out.c1
            have q3 := XW.out.c3
            have MO1 := mod_any b m (by omega) (by omega) wr
            have MO2 := mod_any d 16 (by omega) (by omega) wr
            obtain ⟨rb, hrb⟩ : ∃ rb, b % m = rb := ⟨_, rfl⟩
            obtain ⟨rd, hrd⟩ : ∃ rd, d % 16 = rd := ⟨_, rfl⟩
            have e1 : 0 ≤ rb := by rw [← hrb]; exact Int.emod_nonneg _ (by omega)
            have e2 : rb < m := by rw [← hrb]; exact Int.emod_lt_of_pos _ (by omega)
            have e3 : 0 ≤ rd := by rw [← hrd]; exact Int.emod_nonneg _ (by omega)
            have e4 : rd < 16 := by rw [← hrd]; exact Int.emod_lt_of_pos _ (by omega)
            rw [hrb] at MO1
            rw [hrd] at MO2
            clear hrb hrd
            replace MO1 := hide MO1
            replace MO2 := hide MO2
            go_upto_region 26 with (first | (go_at_call_of 45 (Value.int IntKind.i64 b); refine Calls.mono MO1.out ?_; rintro e w' ⟨rfl, rfl⟩) | (go_at_call_of 45 (Value.int IntKind.i64 d); refine Calls.mono MO2.out ?_; rintro e w' ⟨rfl, rfl⟩))
            clear q1 q3
            obtain ⟨r, hr⟩ : ∃ r, r = 1 + rb := ⟨_, rfl⟩
            obtain ⟨ch, hch⟩ : ∃ ch, ch = 1 + rd := ⟨_, rfl⟩
            rw [← hr, ← hch]
            have r1 : 1 ≤ r := by omega
            have r2 : r ≤ m := by omega
            have r3 : r ≤ 16 := by omega
            have c1 : 1 ≤ ch := by omega
            have c2 : ch ≤ 16 := by omega
            have HRp : Hid ((p : Int) * r ≤ 512) := by
              have h1 : r * (p : Int) ≤ m * (p : Int) := Int.mul_le_mul_of_nonneg_right r2 (by omega)
              rw [Int.mul_comm] at h1
              have := HMm.out.2.2
              show _ ≤ _
              omega
            clear hr hch e1 e2 e3 e4 MO1 MO2
            obtain ⟨cp1, hcp1⟩ : ∃ v, ch * (p : Int) = v := ⟨_, rfl⟩
            obtain ⟨cp2, hcp2⟩ : ∃ v, cp1 * r = v := ⟨_, rfl⟩
            obtain ⟨pr, hpr⟩ : ∃ v, (p : Int) * r = v := ⟨_, rfl⟩
            have HC1 := hide hcp1
            have HC2 := hide hcp2
            have HC3 := hide hpr
            have k1 : 0 ≤ cp1 ∧ cp1 ≤ 1024 := by
              have a1 := Int.mul_le_mul c2 (show (p : Int) ≤ 64 by omega) (by omega) (by omega)
              have a2 := Int.mul_nonneg (show 0 ≤ ch by omega) (show 0 ≤ (p : Int) by omega)
              omega
            have k2 : 0 ≤ cp2 ∧ cp2 ≤ 16384 := by
              have a1 := Int.mul_le_mul k1.2 r3 (by omega) (by omega)
              have a2 := Int.mul_nonneg k1.1 (show 0 ≤ r by omega)
              omega
            have k3 : 1 ≤ pr ∧ pr ≤ 512 := by
              have a1 := Int.mul_le_mul (show (1 : Int) ≤ (p : Int) by omega) r1 (by omega) (by omega)
              have := HRp.out
              omega
            have HC : Hid (∀ k, (k = if 512 < cp2 then 512 / pr else ch) → 1 ≤ k ∧ k ≤ 16 ∧ (p : Int) * r * k ≤ 512) := fun k hk => md_chunks (c := ch) (p := (p : Int)) (r := r) (k := k) c1 c2 (by omega) r1 HRp.out (by rw [HC1.out, HC2.out, HC3.out]; exact hk)
            clear hcp1 hcp2 hpr
            go_upto_if 86 with (first | refine wpList_muli rfl (.tmp 81) (.tmp 82) rfl ch (p : Int) cp1 (by kernel_rfl) (by kernel_rfl) HC1.out (by omega) (by omega) ?_ | refine wpList_muli rfl (.tmp 83) (.tmp 84) rfl cp1 r cp2 (by kernel_rfl) (by kernel_rfl) HC2.out (by omega) (by omega) ?_)
            go_cut [12] (fun v wx => ∃ k : Int, v = .int .i64 k ∧ Hid (1 ≤ k ∧ k ≤ 16 ∧ (p : Int) * r * k ≤ 512) ∧ wr = wx)
            case first =>
              by_cases h5 : 512 < cp2
              · obtain ⟨qq, hqq⟩ : ∃ qq, 512 / pr = qq := ⟨_, rfl⟩
                have HQQ := hide hqq
                clear hqq
                go_wp2_with (first | refine wpList_muli rfl (.tmp 87) (.tmp 88) rfl (p : Int) r pr (by kernel_rfl) (by kernel_rfl) HC3.out (by omega) (by omega) ?_ | refine wpList_quoi rfl (.const (.int .i64 512)) (.tmp 89) rfl 512 pr qq (by kernel_rfl) (by kernel_rfl) HQQ.out (by omega) (by omega) (by omega) ?_)
                go_meet
                exact ⟨qq, rfl, HC.out _ (by rw [if_pos h5]; exact HQQ.out.symm), rfl⟩
              · go_wp2_with fail
                go_meet
                exact ⟨ch, rfl, HC.out _ (by rw [if_neg (by omega)]), rfl⟩
            case rest =>
              obtain ⟨k, rfl, HKk, rfl⟩ := hcut
              clear HC k1 k2 k3 c1 c2 HC1 HC2 HC3
              obtain ⟨kk1, kk2, kk3⟩ := HKk.out
              apply_assumption
              exact made28 N w W0 a b c d H Z M aH bH oH cH aZ bZ oZ cZ aM bM oM cM ns ba nn cp zs wr r k _ _ _ _ _ _ _ _ _ _ _ _ _ _ _ _ _ _ _ _ _ _ _ _ _ _ _ _ _ _ _ _ _ _ _ _ _ _ _ _ _ _ _ _ _ _ _ _ _ _ _ _ _ _ _ _ _ _ _ _ _ _ _ _ _ _ _ _ _ _ _ _ _ _ _ _ _ _ _ _ _ _ _ _ _ _ _ _ _ _ _ _ _ _ _ _ _ _ _ _ _ _ _ _ _ _ _ _ _ _ _ _ _ _ _ _ _ _ _ _ _ _ _ _ _ _ _ _ _ _ _ _ _ _ _ _ _ _ _ _ _ _ _ _ _ _ _ _ _ _ _ _ _ _ _ _ _ _ _ _ _ _ _ _ _ _ _ _ _ _ _ _ _ _ _ _ _ _ _ _ _ _ _ _ _ _ _ _ _ _ _ _ _ _ _ _ _ _ _ _ _ _ _ _ _ _ ⟨X0.out.below HB.out, HT.out, HB.out, s0.out, B0.out, hN⟩ HZs.out r1 r3 kk1 kk2 HNf.out HDl.out (by rw [← HFE.out]; omega) (by rw [HPt.out]; exact kk3)
        case pos =>
          have hqi : (zs.length : Int) < (nn : Int) := by omega
          obtain ⟨i, hi⟩ : ∃ i, i = zs.length := ⟨_, rfl⟩
          have HI := hide hi
          rw [← HI.out] at hqi hql HT ⊢
          clear hi
          have XW := hide (X0.out.below HB.out)
          have q5 := XW.out.c5
          have AZ := hide (at_any N wr aZ bZ oZ cZ Z i XW.out.pz (by omega))
          have MZ := mod_any (atL Z i) 8 (by omega) (by omega) wr
          rw [← HzE.out i] at MZ
          replace MZ := hide MZ
          go_upto_region 13 with (first | (go_at_call 46; refine Calls.mono AZ.out ?_; rintro e w' ⟨rfl, rfl⟩) | (go_at_call 45; refine Calls.mono MZ.out ?_; rintro e w' ⟨rfl, rfl⟩))
          clear AZ MZ
          obtain ⟨W2, hW2⟩ : ∃ W2, W2 = wr.alloc (.cells #[.int .i64 (zz i), .slice none 0 0] 91) := ⟨_, rfl⟩
          have D2 : Hid (W2.heap[wr.heap.size]? = some (.cells #[.int .i64 (zz i), .slice none 0 0] 91)) := by rw [hW2]; exact heap_last _ _
          have B2 : Hid (Below wr.heap.size wr W2) := by rw [hW2]; exact (Below.refl _ _).alloc (Nat.le_refl _) _
          have s2 : Hid (W2.heap.size = wr.heap.size + 1) := by rw [hW2]; show _ = _; simp
          rw [← hW2]
          clear hW2 q5
          obtain ⟨D, hD⟩ : ∃ D, D = wr.heap.size := ⟨_, rfl⟩
          have HDe := hide hD
          rw [← hD] at D2 B2 s2 ⊢
          have XB : Hid (∀ Y, Below D wr Y → MdW N w Y a b c d H Z M aH bH oH cH aZ bZ oZ cZ aM bM oM cM) := fun Y hY => XW.out.below (HDe.out ▸ hY)
          clear hD
          go_wp2_with fail
          go_loopw [9] (fun vj wq => ∃ (j : Nat) (pvv : Value), j ≤ p ∧ vj = .int .i64 (j : Int) ∧ Hid (wq.heap[D]? = some (.cells #[.int .i64 (zz i), pvv] 91)) ∧ Hid (wq.ownsRow (D + 1) 3 1 pvv (mdQ hh i j).length (ints (nis (mdQ hh i j)))) ∧ Hid (Below D wr wq)) (fun vj _ => p - (intOf vj).toNat)
          case atStart => exact ⟨0, .slice none 0 0, Nat.zero_le _, rfl, D2, World.ownsRow_nil _ _ _ _, B2⟩
          case round =>
            clear D2 B2 s2
            obtain ⟨j, pvv, hj, rfl, HD, HO, HB2⟩ := hrel
            by_cases hjl : j < p
            case neg =>
              obtain rfl : j = p := by omega
              obtain ⟨ba2, cp2, hv2, _⟩ := own_sl HO.out
              subst hv2
              obtain ⟨c1, _⟩ := nd_facts HD.out
              have hkl := HKl.out i
              have HKi := hide (HKp.out i hql)
              have hml : (mdQ hh i j).length ≤ 64 := by
                have : (mdQ hh i j).length ≤ (List.range j).length := List.length_filter_le _ _
                rw [List.length_range] at this
                omega
              have hwl := blk_lt HD.out
              go_upto_if 58 with fail
              go_cut [6] (fun v wx => v = .int .i64 (kpN (ns.take (i + 1)) : Int) ∧ wr = wx)
              case first =>
                by_cases hpos : 0 < (mdQ hh i j).length
                · have hpos' : (0 : Int) < ((mdQ hh i j).length : Int) := by omega
                  have hK := HKi.out
                  rw [if_pos hpos] at hK
                  have HK2 := hide hK
                  clear hK
                  go_wp2_with fail
                  go_meet
                  exact ⟨by rw [HK2.out]; go_num, rfl⟩
                · have hpos' : ¬ (0 : Int) < ((mdQ hh i j).length : Int) := by omega
                  have hK := HKi.out
                  rw [if_neg hpos] at hK
                  have HK2 := hide hK
                  clear hK
                  go_wp2_with fail
                  go_meet
                  exact ⟨by rw [HK2.out]; rfl, rfl⟩
              case rest =>
                obtain ⟨rfl, rfl⟩ := hcut
                clear HKi c1
                have c0 : wr.cell? ⟨D, 0, none⟩ = some (.int .i64 (zz i)) := by unfold World.cell?; rw [HD.out]; rfl
                obtain ⟨c1, _⟩ := nd_facts HD.out
                have HT2 := hide (HT.out.keep (HDe.out ▸ HB2.out))
                have HB4 := hide (HB.out.trans ((HDe.out ▸ HB2.out : Below _ _ wr).mono HB.out.size))
                have OL := hide (own_lower HO.out (b' := W0.heap.size) (by have := HB.out.size; have := HDe.out; omega))
                have hnl : Hid (zs.length < ns.length) := by rw [HLn.out, ← HI.out]; exact hql
                have HA2 : Hid (ns[zs.length]'hnl.out = ⟨zz i, nis (mdQ hh i j)⟩) := by
                  have := HAt.out zs.length hnl.out
                  show _ = _
                  rw [this, ← HI.out]
                have hbs := HB4.out.size
                have hzl : zs.length ≤ 16 := by have := HI.out; omega
                clear HT HB HB2 HO
                go_upto_region 11 with (first | refine wpList_bsNd rfl (.tmp 62) rfl rfl ?_ | (at_builtin; refine wpList_append_own_at _ rfl (.tmp 61) (.tmp 63) 24 rfl W0.heap.size 91 i0 _ 2 32 Try.underlying24 hi0 hz0 hz1 hz2 rfl (by decide) _ _ _ rfl (HT2.out.row.alloc _) ⟨wr.heap.size, 0, none⟩ 1 1 (ndc [(zz i, .slice ba2 (mdQ hh i j).length cp2)]) rfl rfl (nd_cells wr _ _) (nd_one rfl) (by unfold maxLen; omega) (by omega) (by simp; omega) ?_; intro vl' X3 o3 g3 n3 a3; clear n3 a3))
                have T3 := hide (HT2.out.step3 hnl.out HA2.out (by rw [nis_len]; exact OL.out) o3 g3)
                have B3 : Hid (Below W0.heap.size W0 X3) := (HB4.out.alloc HB4.out.size _).grown g3 (by simp; omega) (fun q hq => (own_lt HT2.out.row hq).1)
                clear o3 g3 c0 c1 HD HT2 HB4 OL HA2
                go_wp2_with fail
                go_roundw
                case rel => exact ⟨zs ++ [(zz i, .slice ba2 (mdQ hh i j).length cp2)], by rw [List.length_append, ← HI.out]; simp; omega, by rw [List.length_append, ← HI.out]; go_num, by rw [List.length_append, ← HI.out]; rfl, T3, B3⟩
                case measure => simp [intOf]; omega
            case pos =>
              have hji : (j : Int) < (p : Int) := by omega
              have X2 := hide (XB.out _ HB2.out)
              have q4 := X2.out.c4
              have AH := hide (at_any N wr aH bH oH cH H j X2.out.ph (by omega))
              have MH := mod_any (atL H j) (nn : Int) (by omega) (by omega) wr
              rw [← HhE.out j] at MH
              replace MH := hide MH
              have HQ := hide (mdQ_succ hh i j)
              go_upto_if 48 with (first | (go_at_call 46; refine Calls.mono AH.out ?_; rintro e w' ⟨rfl, rfl⟩) | (go_at_call 45; refine Calls.mono MH.out ?_; rintro e w' ⟨rfl, rfl⟩))
              clear q4 AH MH
              by_cases he : hh j = (i : Int)
              case neg =>
                have he' : (hh j == (i : Int)) = false := beq_eq_false_iff_ne.2 he
                have hQ := HQ.out
                rw [if_neg he, List.append_nil] at hQ
                have HQ2 := hide hQ
                clear HQ hQ he
                go_wp2_with fail
                go_roundw
                case rel => exact ⟨j + 1, pvv, by omega, by go_num, HD, by rw [HQ2.out]; exact HO, HB2⟩
                case measure => simp [intOf]; omega
              case pos =>
                have he' : (hh j == (i : Int)) = true := beq_iff_eq.2 he
                have hQ := HQ.out
                rw [if_pos he] at hQ
                have HQ2 := hide hQ
                clear HQ hQ he
                have hml : (mdQ hh i j).length ≤ 64 := by
                  have : (mdQ hh i j).length ≤ (List.range j).length := List.length_filter_le _ _
                  rw [List.length_range] at this
                  omega
                obtain ⟨ba2, cp2, hv2, _⟩ := own_sl HO.out
                subst hv2
                have c1 : wr.cell? ⟨D, 1, none⟩ = some (.slice ba2 (mdQ hh i j).length cp2) := by unfold World.cell?; rw [HD.out]; rfl
                have hws := HB2.out.size
                have hwl := blk_lt HD.out
                go_upto_region 15 with (at_builtin; refine wpList_append_own_at _ rfl (.tmp 50) (.tmp 52) 37 rfl (D + 1) 3 k0 (.int .i64 0) 1 8 Try.underlying37 hk0 hx0 hx1 hx2 rfl (by decide) _ _ _ rfl (HO.out.alloc _) ⟨wr.heap.size, 0, none⟩ 1 1 (ints [(j : Int)]) rfl rfl (one_cells wr _) (ints_one _) (by unfold maxLen; omega) (by omega) (by simp; omega) ?_; intro v3 X3 o3 g3 n3 a3; clear n3 a3; obtain ⟨ba3, cp3, hv3, _⟩ := own_sl o3; subst hv3; have N3 := hide (nd_grown HD.out HO.out g3); obtain ⟨f1, f2⟩ := nd_facts N3.out)
                have N4 := hide (nd_set (v' := .slice ba3 ((mdQ hh i j).length + 1) cp3) N3.out)
                have B4 := hide (((HB2.out.alloc (by omega) _).grown g3 (by simp; omega) (fun q hq => by have := (own_lt HO.out hq).1; omega)).setCell (p := ⟨D, 1, none⟩) (Nat.le_refl _) (.slice ba3 ((mdQ hh i j).length + 1) cp3))
                have O4 : Hid ((X3.setCell ⟨D, 1, none⟩ (.slice ba3 ((mdQ hh i j).length + 1) cp3)).ownsRow (D + 1) 3 1 (.slice ba3 ((mdQ hh i j).length + 1) cp3) (mdQ hh i (j + 1)).length (ints (nis (mdQ hh i (j + 1))))) := by
                  rw [HQ2.out, List.length_append, nis_append]
                  refine ownsRow_setCell_below ?_ (by show D < D + 1; omega) _
                  unfold ints at o3 ⊢
                  rw [List.map_append]
                  exact o3
                clear o3 g3 N3 f1 f2 c1 HD HO HB2 HQ2
                generalize X3.setCell ⟨D, 1, none⟩ (.slice ba3 ((mdQ hh i j).length + 1) cp3) = X4 at *
                go_wp2_with fail
                go_roundw
                case rel => exact ⟨j + 1, _, by omega, by go_num, N4, O4, B4⟩
                case measure => simp [intOf]; omega
end Go.Proofs.Ytpleakkhbfhdkaa
namespace Go.Proofs.Ytpleakkhbfhdkaa
open Go.RowKit
theorem ownF_app (k : Int) (s : Nat) (a b : List ND) : ownF k s (a ++ b) = if k ∈ flat a then ownF k s a else ownF k (s + a.length) b := by
  induction a generalizing s with
  | nil => simp [flat, Nat.add_zero]
  | cons n r ih =>
    rw [List.cons_append, flat_cons]
    by_cases e : k ∈ n.ps
    · rw [ownF_in e, ownF_in e, if_pos (List.mem_append_left _ e)]
    · rw [ownF_out e, ownF_out e, ih, List.length_cons, show s + 1 + r.length = s + (r.length + 1) by omega]
      have : k ∈ n.ps ++ flat r ↔ k ∈ flat r := by rw [List.mem_append]; exact ⟨fun h => h.resolve_left e, Or.inr⟩
      simp only [this]
theorem ownF_here {k : Int} {ns : List ND} {i : Nat} (hi : i < ns.length) (h : k ∉ flat (ns.take i)) (hk : k ∈ ns[i].ps) : ownF k 0 ns = (i : Int) := by
  have e : ns = ns.take i ++ (ns[i] :: ns.drop (i + 1)) := by
    rw [← List.drop_eq_getElem_cons hi, List.take_append_drop]
  rw [e, ownF_app, if_neg h, ownF_in hk, List.length_take]
  congr 1
  omega
end Go.Proofs.Ytpleakkhbfhdkaa
namespace Go.Proofs.Ytpleakkhbfhdkaa
open Go.RowKit
theorem nodup_le : ∀ (a b : List Int), a.Nodup → (∀ x ∈ a, x ∈ b) → a.length ≤ b.length
  | [], _, _, _ => Nat.zero_le _
  | x :: a, b, hn, hs => by
    have hx : x ∈ b := hs x (by simp)
    have hn' := List.nodup_cons.1 hn
    have := nodup_le a (b.erase x) hn'.2 (fun y hy => by
      have hne : y ≠ x := fun e => hn'.1 (e ▸ hy)
      exact (List.mem_erase_of_ne hne).2 (hs y (by simp [hy])))
    rw [List.length_erase_of_mem hx] at this
    have hp : 0 < b.length := List.length_pos_of_mem hx
    simp only [List.length_cons]
    omega
/-- the nodes that have a partition -/
def fulL (ns : List ND) (q : Nat) : List Nat := (List.range q).filter fun i => decide (0 < (ns[i]?.getD default).ps.length)
theorem fulL_len (ns : List ND) (q : Nat) (h : q ≤ ns.length) : (fulL ns q).length = kpN (ns.take q) := by
  induction q with
  | zero => simp [fulL, kpN]
  | succ q ih =>
    have hq : q < ns.length := by omega
    rw [kpN_take hq, ← ih (by omega)]
    unfold fulL
    rw [List.range_succ, List.filter_append, List.length_append]
    congr 1
    rw [List.filter_cons, List.getElem?_eq_getElem hq, Option.getD_some]
    by_cases e : 0 < ns[q].ps.length
    · simp [e]
    · simp [e]
theorem ownF_mem {ns : List ND} (hd : Dealt ns) {i : Nat} (hi : i < ns.length) {k : Int} (hk : k ∈ ns[i].ps) : ownF k 0 ns = (i : Int) := by
  refine ownF_here hi (fun hc => ?_) hk
  have h1 := hd.all.2 k
  have e : flat ns = flat (ns.take i) ++ (ns[i].ps ++ flat (ns.drop (i + 1))) := by
    rw [← flat_cons, ← flat_append, ← List.drop_eq_getElem_cons hi, List.take_append_drop]
  rw [e, cntI_append, cntI_append] at h1
  have h2 := cntI_mem.2 hc
  have h3 := cntI_mem.2 hk
  omega
theorem plc_all {P f k : Nat} (hf : f < P) (hk : k < P) : ∃ j, j < P ∧ plc P f j = k := by
  unfold plc
  by_cases h : f ≤ k
  · exact ⟨k - f, by omega, by rw [show f + (k - f) = k by omega]; exact Nat.mod_eq_of_lt hk⟩
  · exact ⟨k + P - f, by omega, by rw [show f + (k + P - f) = k + P by omega, Nat.add_mod_right]; exact Nat.mod_eq_of_lt hk⟩
/-- a walk goes to every node that has a partition -/
theorem walk_full {ns : List ND} (hd : Dealt ns) {f : Nat} (hf : f < ptN ns) : kpN ns ≤ (wkL ns (ptN ns) f (ptN ns)).length := by
  have h1 := fulL_len ns ns.length (Nat.le_refl _)
  rw [List.take_length] at h1
  rw [← h1, ← nis_len (fulL ns ns.length), ← owL_len ns]
  refine nodup_le _ _ ?_ ?_
  · unfold nis
    have hn : (fulL ns ns.length).Pairwise (· < ·) := List.Pairwise.filter _ List.pairwise_lt_range
    refine List.pairwise_map.2 (hn.imp fun h => ?_)
    omega
  · intro y hy
    unfold nis at hy
    obtain ⟨i, hi, rfl⟩ := List.mem_map.1 hy
    unfold fulL at hi
    obtain ⟨hi1, hi2⟩ := List.mem_filter.1 hi
    have hil := List.mem_range.1 hi1
    rw [List.getElem?_eq_getElem hil, Option.getD_some] at hi2
    have hpos := of_decide_eq_true hi2
    have hk0 := List.getElem_mem hpos
    have hr := hd.all.1 _ (mem_flat hil hpos)
    have hpt : (flat ns).length = ptN ns := rfl
    rw [hpt] at hr
    have ho := ownF_mem hd hil hk0
    obtain ⟨k, hk⟩ : ∃ k : Nat, (k : Int) = ns[i].ps[0] := ⟨(ns[i].ps[0]).toNat, by omega⟩
    obtain ⟨j, hj, ej⟩ := plc_all hf (show k < ptN ns by omega)
    obtain ⟨p, hp, ep⟩ := wkL_homes (ns := ns) (P := ptN ns) (f := f) (ptN ns) j hj
    unfold owL
    refine List.mem_map.2 ⟨p, hp, ?_⟩
    rw [ep, ej]
    unfold hm
    rw [hk]
    exact ho
theorem wk_full {x : Nat → Int} {ns : List ND} {p : Int} (hd : Dealt ns) (h0 : 0 ≤ p) (h1 : p < (ptN ns : Int)) (h2 : 0 ≤ x 0) (h3 : x 0 ≤ (kpN ns : Int)) : ((wk x ns p).length : Int) = x 0 := by
  have := walk_full hd (f := p.toNat) (by omega)
  unfold wk wkR
  rw [List.length_take]
  omega
end Go.Proofs.Ytpleakkhbfhdkaa
namespace Go.Proofs.Ytpleakkhbfhdkaa
open Go.RowKit
theorem errP_dlt {st : ByteArray} {x : Nat → Int} {ns : List ND} (h : errP st x ns = 0) : Dealt ns := by
  apply Classical.byContradiction
  intro hn
  unfold errP at h
  rw [dlB_false hn] at h
  split at h <;> (try split at h) <;> (try split at h) <;> simp at h
theorem errP_all {st : ByteArray} {x : Nat → Int} {ns : List ND} (h : errP st x ns = 0) : nmP st = true ∧ sfP x = true ∧ nfP ns = true ∧ Dealt ns ∧ x 0 ≤ (kpN ns : Int) ∧ (ptN ns : Int) * x 0 * x 2 ≤ 512 := by
  have h1 := errP_ok h
  have h2 := errP_dlt h
  unfold errP at h
  cases e : nmP st with
  | false => rw [e] at h; simp at h
  | true =>
    rw [e, h1.1, h1.2, dlB_true h2, if_neg (by simp), if_neg (by simp), if_neg (by simp), if_neg (by simp)] at h
    by_cases h3 : (kpN ns : Int) < x 0
    · rw [if_pos h3] at h
      omega
    · rw [if_neg h3] at h
      by_cases h4 : 512 < (ptN ns : Int) * x 0 * x 2
      · rw [if_pos h4] at h
        omega
      · exact ⟨rfl, h1.1, h1.2, h2, by omega, by omega⟩
/-- fewer replicas: still valid -/
theorem fewer_ok {st : ByteArray} {x : Nat → Int} {ns : List ND} {y : Int} (h : errP st x ns = 0) (h1 : 1 ≤ y) (h2 : y ≤ x 0) : errP st (upd x 0 y) ns = 0 := by
  obtain ⟨a1, a2, a3, a4, a5, a6⟩ := errP_all h
  have l0 : 1 ≤ x 0 ∧ x 0 ≤ 16 := sfP_lim a2 0 (by omega)
  have l2 : 1 ≤ x 2 ∧ x 2 ≤ 16 := sfP_lim a2 2 (by omega)
  refine valid_errP a1 ?_ a3 a4 (by rw [upd_at]; omega) ?_
  · unfold sfP at a2 ⊢
    rw [Bool.and_eq_true] at a2 ⊢
    constructor
    · rw [List.all_eq_true]
      intro i hi
      by_cases e : i = 0
      · subst e
        unfold sfAt
        rw [upd_at]
        simp [loS, hiS]
        omega
      · have := List.all_eq_true.1 a2.1 i hi
        unfold sfAt at this ⊢
        rw [upd_ne _ _ e]
        exact this
    · have := a2.2
      rw [upd_ne _ _ (by omega), upd_ne _ _ (by omega), upd_ne _ _ (by omega), upd_ne _ _ (by omega)]
      exact this
  · rw [upd_at, upd_ne _ _ (by omega)]
    have e1 : (ptN ns : Int) * y ≤ (ptN ns : Int) * x 0 := Int.mul_le_mul_of_nonneg_left h2 (by omega)
    have e2 : (ptN ns : Int) * y * x 2 ≤ (ptN ns : Int) * x 0 * x 2 := Int.mul_le_mul_of_nonneg_right e1 (by omega)
    omega
/-- a twin, as it may be read -/
theorem tw_read {base : Nat} {W : World} {ns : List ND} {vl : Value} {zs : List (Int × Value)} (h : Tw base W ns vl zs) (hl : zs.length = ns.length) (hn : ns.length ≤ 16) (hp : ptN ns ≤ 64) : ∃ ao b cap pv, vl = .slice ao ns.length cap ∧ NsAt W.heap.size W ao b 0 pv ns := by
  have hps : ∀ (q : Nat) (h : q < ns.length), ns[q].ps.length ≤ 17592186043904 := fun q hq => by
    have : ns[q].ps.length ≤ (flat ns).length := by
      have e : flat ns = flat (ns.take q) ++ (ns[q].ps ++ flat (ns.drop (q + 1))) := by
        rw [← flat_cons, ← flat_append, ← List.drop_eq_getElem_cons hq, List.take_append_drop]
      rw [e, List.length_append, List.length_append]
      omega
    have e2 : (flat ns).length = ptN ns := rfl
    omega
  obtain ⟨ao, b, cap, e, hN⟩ := h.nodes hl (by omega) hps
  exact ⟨ao, b, cap, _, e, hN⟩
end Go.Proofs.Ytpleakkhbfhdkaa
