import Derived.Test.YtnegdhnmgkpkjaaGDsPure
namespace Go.Proofs.Ytnegdhnmgkpkjaa
open Go.RowKit
set_option maxHeartbeats 8000000 in
set_option maxRecDepth 100000 in
set_option linter.unusedSimpArgs false in
set_option linter.unusedVariables false in
theorem sym_up {w0 w : World} {g : Nat} {d : List Int} (h : Sx w0 w g d) {cb : Value} {Ky : Int → Int} {ok : Int → Prop} {cf : Int → Int → Int} (hc : CmpC w0 g cb Ky ok cf) (ho : OkL ok d) (a b : Nat) (h1 : a + 1 < b) (h2 : b ≤ d.length) (hl : d.length ≤ 1000000) (hs : Srt Ky d (a + 1) b) (m : Nat) (hm : m = a + 1) :
    Calls Try.prog 51 #[.slice (some ⟨g, 0, none⟩) d.length d.length, .int .i64 (a : Int), .int .i64 (m : Int), .int .i64 (b : Int), .func (.func 35) #[] #[cb]] w fun e w' => e = .returned (.tuple #[]) ∧ ∃ f : List Int, Seg Ky d f a b ∧ Srt Ky f a b ∧ Sx w0 w' g f := by
  have H := hide h
  have HC := hide hc
  have HO := hide ho
  have HR := hide hs
  obtain ⟨N, hN⟩ : ∃ N, N = d.length := ⟨_, rfl⟩
  rw [← hN] at h2 hl ⊢
  have HN := hide hN
  have em : (m : Int) - (a : Int) = 1 := by omega
  have HM := hide hm
  have hmb : m < b := by omega
  clear h hN hc ho hs hm
  go_enter Try.func51, Try.ntmps51
  go_wp2_with fail
  go_loopw [10, 11, 12] (fun vi vj vh wr => ∃ (i j : Nat), m ≤ i ∧ i ≤ j ∧ j ≤ b ∧ vi = .int .i64 (i : Int) ∧ vj = .int .i64 (j : Int) ∧ Hid (∀ t, m ≤ t → t < i → Ky (atL d t) < Ky (atL d a)) ∧ Hid (∀ t, j ≤ t → t < b → Ky (atL d a) ≤ Ky (atL d t)) ∧ Hid (Sx w0 wr g d)) (fun vi vj _ _ => (intOf vj).toNat - (intOf vi).toNat)
  case atStart => exact ⟨m, b, Nat.le_refl _, by omega, Nat.le_refl _, rfl, rfl, fun t _ _ => by omega, fun t _ _ => by omega, H.out⟩
  case round =>
    clear H
    obtain ⟨i, j, hi, hij, hj, rfl, rfl, HLo, HHi, HS⟩ := hrel
    by_cases hlt : i < j
    · have hltz : (i : Int) < (j : Int) := by omega
      obtain ⟨q, hq⟩ : ∃ q, q = (i + j) / 2 := ⟨_, rfl⟩
      have q1 : i ≤ q := by omega
      have q2 : q < j := by omega
      have eq : ((i : Int) + (j : Int)) / 2 = (q : Int) := by omega
      have HQ := hide hq
      clear hq
      have c1 := HS.out.row.cell (i := q) (by rw [← HN.out]; omega)
      have c2 := HS.out.row.cell (i := a) (by rw [← HN.out]; omega)
      have CM := fun k => HC.out.cl (wr.drewN k) (HS.out.kp.drewN k) (atL d q) (atL d a) (HO.out.at_ (by rw [← HN.out]; omega)) (HO.out.at_ (by rw [← HN.out]; omega))
      have HLT := hide (HC.out.lt (atL d q) (atL d a))
      have HSd := hide fun m => HS.out.drewN m
      have HF1 : Hid (Ky (atL d q) < Ky (atL d a) → ∀ t, m ≤ t → t < q + 1 → Ky (atL d t) < Ky (atL d a)) := fun k t t1 t2 => by
        have := HR.out.le (i := t) (j := q) (by have := HM.out; omega) (by omega) (by omega)
        omega
      have HF2 : Hid (¬ Ky (atL d q) < Ky (atL d a) → ∀ t, q ≤ t → t < b → Ky (atL d a) ≤ Ky (atL d t)) := fun k t t1 t2 => by
        have := HR.out.le (i := q) (j := t) (by have := HM.out; omega) t1 t2
        omega
      have qz : (q : Int) < (N : Int) := by omega
      have az : (a : Int) < (N : Int) := by omega
      generalize atL d q = x at *
      generalize hy : atL d a = y at *
      have HY := hide hy
      clear hy
      by_cases hlv : cf x y < 0
      · have HF := hide (HF1.out (HLT.out.1 hlv))
        go_wp2_with fail
        go_quiet (first | (go_at_call 35; refine Calls.quiet_of (CM _)))
        have HX := hide (HSd.out nq)
        clear c1 c2 CM HF1 HF2 HSd hlv HLT HS
        generalize wr.drewN nq = wq at *
        go_wp2_with fail
        go_roundw
        case rel => exact ⟨q + 1, j, by omega, by omega, hj, by go_num, rfl, HF, HHi, HX⟩
        case measure => simp [intOf]; omega
      · have hlv' : decide (cf x y < 0) = false := decide_eq_false hlv
        have HF := hide (HF2.out (fun k => hlv (HLT.out.2 k)))
        clear hlv
        go_wp2_with fail
        go_quiet (first | (go_at_call 35; refine Calls.quiet_of (CM _)))
        have HX := hide (HSd.out nq)
        clear c1 c2 CM HF1 HF2 HSd HLT HS
        generalize wr.drewN nq = wq at *
        go_wp2_with fail
        go_roundw
        case rel => exact ⟨i, q, hi, q1, by omega, rfl, rfl, HLo, HF, HX⟩
        case measure => simp [intOf]; omega
    · obtain rfl : i = j := by omega
      have hltz : ¬ (i : Int) < (i : Int) := by omega
      have HMi : Hid (a + 1 ≤ i) := by show _ ≤ _; have := HM.out; omega
      go_wp2_with fail
      go_loopw [13] (fun vk wr => ∃ (k : Nat) (d1 : List Int), a ≤ k ∧ k ≤ i - 1 ∧ vk = .int .i64 (k : Int) ∧ Hid (Seg Ky d d1 a b) ∧ Hid (Up d d1 a k) ∧ Hid (Sx w0 wr g d1)) (fun vk _ => i - (intOf vk).toNat)
      case atStart => exact ⟨a, d, Nat.le_refl _, by have := HMi.out; omega, rfl, Seg.refl _ _ _, Up.start _ _, HS.out⟩
      case round =>
        clear HS
        obtain ⟨k, d1, hak, hki, rfl, HG, HU, HS⟩ := hrel
        have ei : (i : Int) - 1 = ((i - 1 : Nat) : Int) := by have := HMi.out; omega
        by_cases hk : k < i - 1
        · have hkz : (k : Int) < ((i - 1 : Nat) : Int) := by omega
          obtain ⟨k1, hk1⟩ : ∃ k1, k1 = k + 1 := ⟨_, rfl⟩
          have HL : Hid (d1.length = N) := by show _ = _; rw [HU.out.len, HN.out]
          have c1 := HS.out.row.cell (i := k) (by rw [HL.out]; omega)
          have c2 := HS.out.row.cell (i := k1) (by rw [HL.out]; omega)
          have f1 := HS.out.row.fz k
          have f2 := HS.out.row.fz k1
          have HX := hide (HS.out.swp k k1).drew
          have HF : Hid (Seg Ky d (swp d1 k k1) a b ∧ Up d (swp d1 k k1) a k1) := by
            subst hk1
            refine ⟨HG.out.trans ((seg_swp (by rw [HL.out]; omega) ?_).mono (by omega) (by omega)), HU.out.step hak (by rw [← HN.out]; omega)⟩
            rw [HU.out.at_, HU.out.hi (k + 1) (by omega)]
            have := HLo.out (k + 1) (by have := HM.out; omega) (by omega)
            omega
          generalize swp d1 k k1 = d3 at *
          generalize atL d1 k = x at *
          generalize atL d1 k1 = y at *
          have kz : (k : Int) + 1 = (k1 : Int) := by omega
          have kN : (k : Int) < (N : Int) := by omega
          have k1N : (k1 : Int) < (N : Int) := by omega
          have hne : k ≠ k1 := by omega
          have HK1 := hide hk1
          clear hk1 HS
          go_wp2_with fail
          go_big_region
          all_goals go_wp2_with fail
          refine ⟨⟨k1, d3, by have := HK1.out; omega, by have := HK1.out; omega, rfl, HF.out.1, HF.out.2, HX.out⟩, by have := HK1.out; simp [intOf]; omega⟩
        · obtain rfl : k = i - 1 := by omega
          have hkz : ¬ ((i - 1 : Nat) : Int) < ((i - 1 : Nat) : Int) := by omega
          have HF : Hid (Srt Ky d1 a b) := up_sorted HU.out HR.out HMi.out (by omega) (fun t t1 t2 => HLo.out t (by have := HM.out; omega) t2) HHi.out
          go_wp2_with fail
          (try simp only [Exit.inBlock, Exit.then])
          refine bodyPost_ret (results_none rfl _ _ _) rfl ?_
          exact ⟨rfl, d1, HG.out, HF.out, HS.out⟩
end Go.Proofs.Ytnegdhnmgkpkjaa
namespace Go.Proofs.Ytnegdhnmgkpkjaa
open Go.RowKit
set_option maxHeartbeats 8000000 in
set_option maxRecDepth 100000 in
set_option linter.unusedSimpArgs false in
set_option linter.unusedVariables false in
theorem sym_dn {w0 w : World} {g : Nat} {d : List Int} (h : Sx w0 w g d) {cb : Value} {Ky : Int → Int} {ok : Int → Prop} {cf : Int → Int → Int} (hc : CmpC w0 g cb Ky ok cf) (ho : OkL ok d) (a m : Nat) (h1 : a + 1 < m) (h2 : m + 1 ≤ d.length) (hl : d.length ≤ 1000000) (hs : Srt Ky d a m) (b : Nat) (hb : b = m + 1) :
    Calls Try.prog 51 #[.slice (some ⟨g, 0, none⟩) d.length d.length, .int .i64 (a : Int), .int .i64 (m : Int), .int .i64 (b : Int), .func (.func 35) #[] #[cb]] w fun e w' => e = .returned (.tuple #[]) ∧ ∃ f : List Int, Seg Ky d f a b ∧ Srt Ky f a b ∧ Sx w0 w' g f := by
  have H := hide h
  have HC := hide hc
  have HO := hide ho
  have HR := hide hs
  obtain ⟨N, hN⟩ : ∃ N, N = d.length := ⟨_, rfl⟩
  rw [← hN] at h2 hl ⊢
  have HN := hide hN
  have em : ((m : Int) - (a : Int) == 1) = false := by simp; omega
  have eb : (b : Int) - (m : Int) = 1 := by omega
  have HM := hide hb
  clear h hN hc ho hs hb
  go_enter Try.func51, Try.ntmps51
  go_wp2_with fail
  go_loopw [14, 15, 16] (fun vi vj vh wr => ∃ (i j : Nat), a ≤ i ∧ i ≤ j ∧ j ≤ m ∧ vi = .int .i64 (i : Int) ∧ vj = .int .i64 (j : Int) ∧ Hid (∀ t, a ≤ t → t < i → Ky (atL d t) ≤ Ky (atL d m)) ∧ Hid (∀ t, j ≤ t → t < m → Ky (atL d m) < Ky (atL d t)) ∧ Hid (Sx w0 wr g d)) (fun vi vj _ _ => (intOf vj).toNat - (intOf vi).toNat)
  case atStart => exact ⟨a, m, Nat.le_refl _, by omega, Nat.le_refl _, rfl, rfl, fun t _ _ => by omega, fun t _ _ => by omega, H.out⟩
  case round =>
    clear H
    obtain ⟨i, j, hi, hij, hj, rfl, rfl, HLo, HHi, HS⟩ := hrel
    by_cases hlt : i < j
    · have hltz : (i : Int) < (j : Int) := by omega
      obtain ⟨q, hq⟩ : ∃ q, q = (i + j) / 2 := ⟨_, rfl⟩
      have q1 : i ≤ q := by omega
      have q2 : q < j := by omega
      have eq : ((i : Int) + (j : Int)) / 2 = (q : Int) := by omega
      have HQ := hide hq
      clear hq
      have c1 := HS.out.row.cell (i := m) (by rw [← HN.out]; omega)
      have c2 := HS.out.row.cell (i := q) (by rw [← HN.out]; omega)
      have CM := fun k => HC.out.cl (wr.drewN k) (HS.out.kp.drewN k) (atL d m) (atL d q) (HO.out.at_ (by rw [← HN.out]; omega)) (HO.out.at_ (by rw [← HN.out]; omega))
      have HLT := hide (HC.out.lt (atL d m) (atL d q))
      have HSd := hide fun m => HS.out.drewN m
      have HF1 : Hid (¬ Ky (atL d m) < Ky (atL d q) → ∀ t, a ≤ t → t < q + 1 → Ky (atL d t) ≤ Ky (atL d m)) := fun k t t1 t2 => by
        have := HR.out.le (i := t) (j := q) t1 (by omega) (by omega)
        omega
      have HF2 : Hid (Ky (atL d m) < Ky (atL d q) → ∀ t, q ≤ t → t < m → Ky (atL d m) < Ky (atL d t)) := fun k t t1 t2 => by
        have := HR.out.le (i := q) (j := t) (by omega) t1 t2
        omega
      have qz : (q : Int) < (N : Int) := by omega
      have az : (m : Int) < (N : Int) := by omega
      generalize atL d q = x at *
      generalize hy : atL d m = y at *
      have HY := hide hy
      clear hy
      by_cases hlv : cf y x < 0
      · have HF := hide (HF2.out (HLT.out.1 hlv))
        go_wp2_with fail
        go_quiet (first | (go_at_call 35; refine Calls.quiet_of (CM _)))
        have HX := hide (HSd.out nq)
        clear c1 c2 CM HF1 HF2 HSd hlv HLT HS
        generalize wr.drewN nq = wq at *
        go_wp2_with fail
        go_roundw
        case rel => exact ⟨i, q, hi, q1, by omega, rfl, rfl, HLo, HF, HX⟩
        case measure => simp [intOf]; omega
      · have hlv' : decide (cf y x < 0) = false := decide_eq_false hlv
        have HF := hide (HF1.out (fun k => hlv (HLT.out.2 k)))
        clear hlv
        go_wp2_with fail
        go_quiet (first | (go_at_call 35; refine Calls.quiet_of (CM _)))
        have HX := hide (HSd.out nq)
        clear c1 c2 CM HF1 HF2 HSd HLT HS
        generalize wr.drewN nq = wq at *
        go_wp2_with fail
        go_roundw
        case rel => exact ⟨q + 1, j, by omega, by omega, hj, by go_num, rfl, HF, HHi, HX⟩
        case measure => simp [intOf]; omega
    · obtain rfl : i = j := by omega
      have hltz : ¬ (i : Int) < (i : Int) := by omega
      go_wp2_with fail
      go_loopw [17] (fun vk wr => ∃ (k : Nat) (d1 : List Int), i ≤ k ∧ k ≤ m ∧ vk = .int .i64 (k : Int) ∧ Hid (Seg Ky d d1 a b) ∧ Hid (Dn d d1 m k) ∧ Hid (Sx w0 wr g d1)) (fun vk _ => (intOf vk).toNat)
      case atStart => exact ⟨m, d, hj, Nat.le_refl _, rfl, Seg.refl _ _ _, Dn.start _ _, HS.out⟩
      case round =>
        clear HS
        obtain ⟨k, d1, hik, hkm, rfl, HG, HU, HS⟩ := hrel
        by_cases hk : i < k
        · have hkz : (i : Int) < (k : Int) := by omega
          obtain ⟨k1, hk1⟩ : ∃ k1, k = k1 + 1 := ⟨k - 1, by omega⟩
          have HL : Hid (d1.length = N) := by show _ = _; rw [HU.out.len, HN.out]
          have c1 := HS.out.row.cell (i := k) (by rw [HL.out]; omega)
          have c2 := HS.out.row.cell (i := k1) (by rw [HL.out]; omega)
          have f1 := HS.out.row.fz k
          have f2 := HS.out.row.fz k1
          have HX := hide (HS.out.swp k k1).drew
          have HF : Hid (Seg Ky d (swp d1 k k1) a b ∧ Dn d (swp d1 k k1) m k1) := by
            subst hk1
            rw [swp_comm d1 (by rw [HL.out]; omega) (by rw [HL.out]; omega)]
            refine ⟨HG.out.trans ((seg_swp (by rw [HL.out]; omega) ?_).mono (by omega) (by have := HM.out; omega)), HU.out.step hkm (by rw [← HN.out]; omega)⟩
            rw [HU.out.at_, HU.out.lo k1 (by omega)]
            have := HHi.out k1 (by omega) (by omega)
            omega
          generalize swp d1 k k1 = d3 at *
          generalize atL d1 k = x at *
          generalize atL d1 k1 = y at *
          have kz : (k : Int) - 1 = (k1 : Int) := by omega
          have kN : (k : Int) < (N : Int) := by omega
          have k1N : (k1 : Int) < (N : Int) := by omega
          have hne : k ≠ k1 := by omega
          have HK1 := hide hk1
          clear hk1 HS
          go_wp2_with fail
          go_big_region
          all_goals go_wp2_with fail
          refine ⟨⟨k1, d3, by have := HK1.out; omega, by have := HK1.out; omega, rfl, HF.out.1, HF.out.2, HX.out⟩, by have := HK1.out; simp [intOf]; omega⟩
        · obtain rfl : i = k := by omega
          have hkz : ¬ (i : Int) < (i : Int) := by omega
          have HF : Hid (Srt Ky d1 a b) := by
            have := dn_sorted HU.out HR.out hi hj HLo.out HHi.out
            rw [← HM.out] at this
            exact this
          go_wp2_with fail
          (try simp only [Exit.inBlock, Exit.then])
          refine bodyPost_ret (results_none rfl _ _ _) rfl ?_
          exact ⟨rfl, d1, HG.out, HF.out, HS.out⟩
end Go.Proofs.Ytnegdhnmgkpkjaa
