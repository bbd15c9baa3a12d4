import Derived.Test.YtndfhpfhgdamgaaGreatDoorGDsMem
namespace Go.Proofs.YtndfhpfhgdamgaaGreatDoor.Cn
open Go.RowKit
theorem rotF_id {d : List Int} {s m e : Nat} (h1 : s ≤ m) (h2 : m ≤ e) (h : s = m ∨ e = m) (t : Nat) : atL d t = rotF d s m e t := by
  unfold rotF
  repeat' split
  all_goals first | rfl | omega | (congr 1; omega)
/-- what symMerge does, of stretches of at most n -/
def SymOk (w0 : World) (g : Nat) (cb : Value) (Ky : Int → Int) (ok : Int → Prop) (N n : Nat) : Prop :=
  ∀ (w : World) (d : List Int) (a m b : Nat), b - a ≤ n → a < m → m < b → b ≤ N → d.length = N → Srt Ky d a m → Srt Ky d m b → OkL ok d → Sx w0 w g d →
    Calls Tryz.prog 131 #[.slice (some ⟨g, 0, none⟩) N N, .int .i64 (a : Int), .int .i64 (m : Int), .int .i64 (b : Int), .func (.func 101) #[] #[cb]] w fun e w' => e = .returned (.tuple #[]) ∧ ∃ f : List Int, Seg Ky d f a b ∧ Srt Ky f a b ∧ Sx w0 w' g f
/-- behind the search: what is left to do -/
structure Mid (Ky : Int → Int) (d f : List Int) (a m b s e mid : Nat) : Prop where
  seg : Seg Ky d f a b
  s1 : Srt Ky f a s
  s2 : Srt Ky f s mid
  s3 : Srt Ky f mid e
  s4 : Srt Ky f e b
  ap : ∀ t u, a ≤ t → t < mid → mid ≤ u → u < b → Ky (atL f t) ≤ Ky (atL f u)
theorem mid_of {Ky : Int → Int} {d f : List Int} {a m b s e mid : Nat} (h : Cutd Ky d a m b s e mid) (sa : Srt Ky d a m) (sb : Srt Ky d m b) (hl : f.length = d.length) (hb : b ≤ d.length) (hf : ∀ t, atL f t = rotF d s m e t) : Mid Ky d f a m b s e mid := by
  obtain ⟨h1, h2, h3, h4, h5, h6⟩ := cut_turned h sa sb hl hb hf
  exact ⟨h1, h2, h3, h4, h5, h6⟩

set_option maxHeartbeats 16000000 in
set_option maxRecDepth 100000 in
set_option linter.unusedSimpArgs false in
set_option linter.unusedVariables false in
theorem sym_gt {w0 w : World} {g : Nat} {d : List Int} {cb : Value} {Ky : Int → Int} {ok : Int → Prop} {cf : Int → Int → Int} (hc : CmpC w0 g cb Ky ok cf) (N n : Nat) (hN : N ≤ 1000000) (IH : SymOk w0 g cb Ky ok N n) (a m b : Nat) (hn : b - a ≤ n + 1) (ham : a + 1 < m) (hmb : m + 1 < b) (hbN : b ≤ N) (hl : d.length = N) (sa : Srt Ky d a m) (sb : Srt Ky d m b) (ho : OkL ok d) (h : Sx w0 w g d) (mid : Nat) (hmid : mid = (a + b) / 2) (hcase : mid < m) :
    Calls Tryz.prog 131 #[.slice (some ⟨g, 0, none⟩) N N, .int .i64 (a : Int), .int .i64 (m : Int), .int .i64 (b : Int), .func (.func 101) #[] #[cb]] w fun e w' => e = .returned (.tuple #[]) ∧ ∃ f : List Int, Seg Ky d f a b ∧ Srt Ky f a b ∧ Sx w0 w' g f := by
  have H := hide h
  have HC := hide hc
  have HO := hide ho
  have HA := hide sa
  have HB := hide sb
  have HL := hide hl
  have HIH := hide IH
  have em : ((m : Int) - (a : Int) == 1) = false := by simp; omega
  have eb : ((b : Int) - (m : Int) == 1) = false := by simp; omega
  have e1 : ((a : Int) + (b : Int)) / 2 = (mid : Int) := by omega
  have ma : a < mid := by omega
  have mb : mid < b := by omega
  obtain ⟨q, hq⟩ : ∃ q, q = mid + m := ⟨_, rfl⟩
  have e2 : (mid : Int) + (m : Int) = (q : Int) := by omega
  obtain ⟨p, hp⟩ : ∃ p, p + 1 = q := ⟨q - 1, by omega⟩
  have e3 : (q : Int) - 1 = (p : Int) := by omega

  obtain ⟨lo, hlo⟩ : ∃ lo, lo = mid + m - b := ⟨_, rfl⟩
  have e4 : (q : Int) - (b : Int) = (lo : Int) := by omega
  have e5 : (mid : Int) < (m : Int) := by omega
  obtain ⟨hi, hhi⟩ : ∃ hi, hi = mid := ⟨_, rfl⟩
  have HLO : Hid (lo = if mid < m then mid + m - b else a) := by show _ = _; rw [if_pos hcase]; exact hlo
  have HHI : Hid (hi = if mid < m then mid else m) := by show _ = _; rw [if_pos hcase]; exact hhi

  have hrange : lo ≤ hi ∧ hi ≤ m ∧ a ≤ lo ∧ q - lo ≤ b ∧ m ≤ q - hi ∧ hi ≤ q := by omega
  have HQ := hide hq
  have HP := hide hp
  have HMID := hide hmid
  have HRG := hide hrange
  have HLOE := hide hlo
  have HHIE := hide hhi
  clear h hc ho sa sb hl IH hq hp hmid hrange
  go_enter Tryz.func131, Tryz.ntmps131
  go_wp2_with fail
  go_loopw [20, 21, 23] (fun vs vr vc wr => ∃ (s r : Nat), lo ≤ s ∧ s ≤ r ∧ r ≤ hi ∧ vs = .int .i64 (s : Int) ∧ vr = .int .i64 (r : Int) ∧ Hid (lo < s → Ky (atL d (s - 1)) ≤ Ky (atL d (q - s))) ∧ Hid (r < hi → Ky (atL d (p - r)) < Ky (atL d r)) ∧ Hid (Sx w0 wr g d)) (fun vs vr _ _ => (intOf vr).toNat - (intOf vs).toNat)
  case atStart => exact ⟨lo, hi, Nat.le_refl _, HRG.out.1, Nat.le_refl _, by first | rfl | rw [hlo], by first | rfl | rw [hhi], fun k => by omega, fun k => by omega, H.out⟩
  case round =>
    clear H
    obtain ⟨s, r, hs, hsr, hr, rfl, rfl, HF1, HF2, HS⟩ := hrel
    by_cases hlt : s < r
    · have hltz : (s : Int) < (r : Int) := by omega
      obtain ⟨c, hcc⟩ : ∃ c, c = (s + r) / 2 := ⟨_, rfl⟩
      have q1 : s ≤ c := by omega
      have q2 : c < r := by omega
      have ec : ((s : Int) + (r : Int)) / 2 = (c : Int) := by omega
      obtain ⟨pc, hpc⟩ : ∃ pc, pc = p - c := ⟨_, rfl⟩
      have hpc2 : pc + c = p ∧ c < N ∧ pc < N := by
        have := HRG.out
        have := HP.out
        have := HQ.out
        omega
      have ep : (p : Int) - (c : Int) = (pc : Int) := by omega
      have c1 := HS.out.row.cell (i := pc) (by rw [HL.out]; omega)
      have c2 := HS.out.row.cell (i := c) (by rw [HL.out]; omega)
      have CM := fun k => HC.out.cl (wr.drewN k) (HS.out.kp.drewN k) (atL d pc) (atL d c) (HO.out.at_ (by rw [HL.out]; omega)) (HO.out.at_ (by rw [HL.out]; omega))
      have HLT := hide (HC.out.lt (atL d pc) (atL d c))
      have HSd := hide fun m => HS.out.drewN m
      have HG1 : Hid (¬ Ky (atL d pc) < Ky (atL d c) → lo < c + 1 → Ky (atL d (c + 1 - 1)) ≤ Ky (atL d (q - (c + 1)))) := fun k _ => by
        rw [show c + 1 - 1 = c by omega, show q - (c + 1) = pc by have := HP.out; omega]
        omega
      have HG2 : Hid (Ky (atL d pc) < Ky (atL d c) → c < hi → Ky (atL d (p - c)) < Ky (atL d c)) := fun k _ => by
        rw [← hpc]
        exact k
      have cz : (c : Int) < (N : Int) := by omega
      have pz : (pc : Int) < (N : Int) := by omega
      have HPC := hide hpc2
      generalize atL d pc = x at *
      generalize hy : atL d c = y at *
      have HY := hide hy
      clear hy hcc hpc hpc2
      by_cases hlv : cf x y < 0
      · have HF := hide (HG2.out (HLT.out.1 hlv))
        go_wp2_with fail
        go_quiet (first | (go_at_call 101; refine Calls.quiet_of (CM _)))
        have HX := hide (HSd.out nq)
        clear c1 c2 CM HG1 HG2 HSd hlv HLT HS
        generalize wr.drewN nq = wq at *
        go_wp2_with fail
        go_roundw
        case rel => exact ⟨s, c, hs, q1, by omega, rfl, rfl, HF1, by rw [HY.out]; exact HF, HX⟩
        case measure => simp [intOf]; omega
      · have hlv' : decide (cf x y < 0) = false := decide_eq_false hlv
        have HF := hide (HG1.out (fun k => hlv (HLT.out.2 k)))
        clear hlv
        go_wp2_with fail
        go_quiet (first | (go_at_call 101; refine Calls.quiet_of (CM _)))
        have HX := hide (HSd.out nq)
        clear c1 c2 CM HG1 HG2 HSd HLT HS
        generalize wr.drewN nq = wq at *
        go_wp2_with fail
        go_roundw
        case rel => exact ⟨c + 1, r, by omega, by omega, hr, by go_num, rfl, HF, HF2, HX⟩
        case measure => simp [intOf]; omega
    · obtain rfl : s = r := by omega
      have hltz : ¬ (s : Int) < (s : Int) := by omega
      have HCUT : Hid (Cutd Ky d a m b s (q - s) mid) := by
        have := cut_of (s := s) HA.out HB.out (by omega) (by omega) HMID.out HLO.out HHI.out hs hr (by rw [← HQ.out]; exact HF1.out) (by rw [← HQ.out, show q - 1 = p by have := HP.out; omega]; exact HF2.out)
        rw [← HQ.out] at this
        exact this
      obtain ⟨e, he⟩ : ∃ e, e = q - s := ⟨_, rfl⟩
      rw [← he] at HCUT
      have ee : (q : Int) - (s : Int) = (e : Int) := by have := HRG.out; omega
      have HE := hide he
      clear he HF1 HF2
      have g1 := HCUT.out.s1
      have g2 := HCUT.out.s2
      have g3 := HCUT.out.e1
      have g4 := HCUT.out.e2
      have g5 := HCUT.out.sum
      have HG5 := hide g5
      clear g5
      have HST : Hid (∀ (W : World) (f : List Int), f.length = N → (∀ t, atL f t = rotF d s m e t) → Sx w0 W g f → Mid Ky d f a m b s e mid ∧ OkL ok f) := fun W f fl hf _ => by
        have hm := mid_of HCUT.out HA.out HB.out (fl.trans HL.out.symm) (by rw [HL.out]; exact hbN) hf
        exact ⟨hm, HO.out.eqf hm.seg.eqf⟩

      by_cases t1 : s < m
      · have t1z : (s : Int) < (m : Int) := by omega
        by_cases t2 : m < e
        · have t2z : (m : Int) < (e : Int) := by omega
          have RO := rotate_any HS.out s m e (.func (.func 101) #[] #[cb]) t1 t2 (by rw [HL.out]; omega) (by rw [HL.out]; exact hN)
          rw [HL.out] at RO
          have RO := hide RO
          go_wp2_with fail
          refine Calls.mono RO.out ?_
          rintro z W6 ⟨rfl, f, hfl, hft, hx6⟩
          have HM := hide (HST.out _ f hfl hft hx6).1
          have HOF := hide (HST.out _ f hfl hft hx6).2
          have HX := hide hx6
          have HFL := hide hfl
          clear hfl hft hx6 RO HS
          by_cases l1 : a < s
          · have l1z : (a : Int) < (s : Int) := by omega
            by_cases l2 : s < mid
            · have l2z : (s : Int) < (mid : Int) := by omega
              have SL := hide (HIH.out _ _ a s mid (by omega) l1 l2 (by omega) HFL.out HM.out.s1 HM.out.s2 HOF.out HX.out)
              go_wp2_with fail
              refine Calls.mono SL.out ?_
              rintro z W7 ⟨rfl, fl, hsg7, hrt7, hx7⟩
              have HSL := hide hsg7
              have HRL := hide hrt7
              have HXL := hide hx7
              have HGL : Hid (fl.length = N) := hsg7.len.trans HFL.out
              have HOL : Hid (OkL ok fl) := HOF.out.eqf hsg7.eqf
              clear hsg7 hrt7 hx7 SL
              by_cases r1 : mid < e
              · have r1z : (mid : Int) < (e : Int) := by omega
                by_cases r2 : e < b
                · have r2z : (e : Int) < (b : Int) := by omega
                  have SR := hide (HIH.out _ _ mid e b (by omega) r1 r2 hbN HGL.out (HSL.out.srt HM.out.s3 (Or.inr (Nat.le_refl _))) (HSL.out.srt HM.out.s4 (Or.inr (by omega))) HOL.out HXL.out)
                  go_wp2_with fail
                  refine Calls.mono SR.out ?_
                  rintro z W8 ⟨rfl, f8, hsg8, hrt8, hx8⟩
                  have HSR := hide hsg8
                  have HRR := hide hrt8
                  have HXR := hide hx8
                  clear hsg8 hrt8 hx8 SR
                  go_wp2_with fail
                  (try simp only [Exit.inBlock, Exit.then])
                  refine bodyPost_end (results_none rfl _ _ _) rfl ?_
                  have hj := cut_joined HM.out.seg HM.out.ap (by omega) (by omega) HSL.out HRL.out HSR.out HRR.out
                  exact ⟨rfl, _, hj.1, hj.2, HXR.out⟩
                · have r2z : ¬ (e : Int) < (b : Int) := by omega
                  have HSR : Hid (Seg Ky _ _ mid b) := Seg.refl (K := Ky) fl mid b
                  have HRR : Hid (Srt Ky fl mid b) := (HSL.out.srt HM.out.s3 (Or.inr (Nat.le_refl _))).sub (Nat.le_refl _) (by omega)
                  have HXR := HXL
                  go_wp2_with fail
                  (try simp only [Exit.inBlock, Exit.then])
                  refine bodyPost_end (results_none rfl _ _ _) rfl ?_
                  have hj := cut_joined HM.out.seg HM.out.ap (by omega) (by omega) HSL.out HRL.out HSR.out HRR.out
                  exact ⟨rfl, _, hj.1, hj.2, HXR.out⟩
              · have r1z : ¬ (mid : Int) < (e : Int) := by omega
                have HSR : Hid (Seg Ky _ _ mid b) := Seg.refl (K := Ky) fl mid b
                have HRR : Hid (Srt Ky fl mid b) := (HSL.out.srt HM.out.s4 (Or.inr (by omega))).sub (by omega) (Nat.le_refl _)
                have HXR := HXL
                go_wp2_with fail
                (try simp only [Exit.inBlock, Exit.then])
                refine bodyPost_end (results_none rfl _ _ _) rfl ?_
                have hj := cut_joined HM.out.seg HM.out.ap (by omega) (by omega) HSL.out HRL.out HSR.out HRR.out
                exact ⟨rfl, _, hj.1, hj.2, HXR.out⟩
            · have l2z : ¬ (s : Int) < (mid : Int) := by omega
              obtain ⟨fl, hfl⟩ : ∃ fl, fl = f := ⟨_, rfl⟩
              have HSL : Hid (Seg Ky f fl a mid) := by rw [hfl]; exact Seg.refl (K := Ky) f a mid
              have HRL : Hid (Srt Ky fl a mid) := by rw [hfl]; exact HM.out.s1.sub (Nat.le_refl _) (by omega)
              have HXL : Hid (Sx w0 W6 g fl) := by rw [hfl]; exact HX.out
              have HGL : Hid (fl.length = N) := by rw [hfl]; exact HFL.out
              have HOL : Hid (OkL ok fl) := by rw [hfl]; exact HOF.out
              clear hfl
              by_cases r1 : mid < e
              · have r1z : (mid : Int) < (e : Int) := by omega
                by_cases r2 : e < b
                · have r2z : (e : Int) < (b : Int) := by omega
                  have SR := hide (HIH.out _ _ mid e b (by omega) r1 r2 hbN HGL.out (HSL.out.srt HM.out.s3 (Or.inr (Nat.le_refl _))) (HSL.out.srt HM.out.s4 (Or.inr (by omega))) HOL.out HXL.out)
                  go_wp2_with fail
                  refine Calls.mono SR.out ?_
                  rintro z W8 ⟨rfl, f8, hsg8, hrt8, hx8⟩
                  have HSR := hide hsg8
                  have HRR := hide hrt8
                  have HXR := hide hx8
                  clear hsg8 hrt8 hx8 SR
                  go_wp2_with fail
                  (try simp only [Exit.inBlock, Exit.then])
                  refine bodyPost_end (results_none rfl _ _ _) rfl ?_
                  have hj := cut_joined HM.out.seg HM.out.ap (by omega) (by omega) HSL.out HRL.out HSR.out HRR.out
                  exact ⟨rfl, _, hj.1, hj.2, HXR.out⟩
                · have r2z : ¬ (e : Int) < (b : Int) := by omega
                  have HSR : Hid (Seg Ky _ _ mid b) := Seg.refl (K := Ky) fl mid b
                  have HRR : Hid (Srt Ky fl mid b) := (HSL.out.srt HM.out.s3 (Or.inr (Nat.le_refl _))).sub (Nat.le_refl _) (by omega)
                  have HXR := HXL
                  go_wp2_with fail
                  (try simp only [Exit.inBlock, Exit.then])
                  refine bodyPost_end (results_none rfl _ _ _) rfl ?_
                  have hj := cut_joined HM.out.seg HM.out.ap (by omega) (by omega) HSL.out HRL.out HSR.out HRR.out
                  exact ⟨rfl, _, hj.1, hj.2, HXR.out⟩
              · have r1z : ¬ (mid : Int) < (e : Int) := by omega
                have HSR : Hid (Seg Ky _ _ mid b) := Seg.refl (K := Ky) fl mid b
                have HRR : Hid (Srt Ky fl mid b) := (HSL.out.srt HM.out.s4 (Or.inr (by omega))).sub (by omega) (Nat.le_refl _)
                have HXR := HXL
                go_wp2_with fail
                (try simp only [Exit.inBlock, Exit.then])
                refine bodyPost_end (results_none rfl _ _ _) rfl ?_
                have hj := cut_joined HM.out.seg HM.out.ap (by omega) (by omega) HSL.out HRL.out HSR.out HRR.out
                exact ⟨rfl, _, hj.1, hj.2, HXR.out⟩
          · have l1z : ¬ (a : Int) < (s : Int) := by omega
            obtain ⟨fl, hfl⟩ : ∃ fl, fl = f := ⟨_, rfl⟩
            have HSL : Hid (Seg Ky f fl a mid) := by rw [hfl]; exact Seg.refl (K := Ky) f a mid
            have HRL : Hid (Srt Ky fl a mid) := by rw [hfl]; exact HM.out.s2.sub (by omega) (Nat.le_refl _)
            have HXL : Hid (Sx w0 W6 g fl) := by rw [hfl]; exact HX.out
            have HGL : Hid (fl.length = N) := by rw [hfl]; exact HFL.out
            have HOL : Hid (OkL ok fl) := by rw [hfl]; exact HOF.out
            clear hfl
            by_cases r1 : mid < e
            · have r1z : (mid : Int) < (e : Int) := by omega
              by_cases r2 : e < b
              · have r2z : (e : Int) < (b : Int) := by omega
                have SR := hide (HIH.out _ _ mid e b (by omega) r1 r2 hbN HGL.out (HSL.out.srt HM.out.s3 (Or.inr (Nat.le_refl _))) (HSL.out.srt HM.out.s4 (Or.inr (by omega))) HOL.out HXL.out)
                go_wp2_with fail
                refine Calls.mono SR.out ?_
                rintro z W8 ⟨rfl, f8, hsg8, hrt8, hx8⟩
                have HSR := hide hsg8
                have HRR := hide hrt8
                have HXR := hide hx8
                clear hsg8 hrt8 hx8 SR
                go_wp2_with fail
                (try simp only [Exit.inBlock, Exit.then])
                refine bodyPost_end (results_none rfl _ _ _) rfl ?_
                have hj := cut_joined HM.out.seg HM.out.ap (by omega) (by omega) HSL.out HRL.out HSR.out HRR.out
                exact ⟨rfl, _, hj.1, hj.2, HXR.out⟩
              · have r2z : ¬ (e : Int) < (b : Int) := by omega
                have HSR : Hid (Seg Ky _ _ mid b) := Seg.refl (K := Ky) fl mid b
                have HRR : Hid (Srt Ky fl mid b) := (HSL.out.srt HM.out.s3 (Or.inr (Nat.le_refl _))).sub (Nat.le_refl _) (by omega)
                have HXR := HXL
                go_wp2_with fail
                (try simp only [Exit.inBlock, Exit.then])
                refine bodyPost_end (results_none rfl _ _ _) rfl ?_
                have hj := cut_joined HM.out.seg HM.out.ap (by omega) (by omega) HSL.out HRL.out HSR.out HRR.out
                exact ⟨rfl, _, hj.1, hj.2, HXR.out⟩
            · have r1z : ¬ (mid : Int) < (e : Int) := by omega
              have HSR : Hid (Seg Ky _ _ mid b) := Seg.refl (K := Ky) fl mid b
              have HRR : Hid (Srt Ky fl mid b) := (HSL.out.srt HM.out.s4 (Or.inr (by omega))).sub (by omega) (Nat.le_refl _)
              have HXR := HXL
              go_wp2_with fail
              (try simp only [Exit.inBlock, Exit.then])
              refine bodyPost_end (results_none rfl _ _ _) rfl ?_
              have hj := cut_joined HM.out.seg HM.out.ap (by omega) (by omega) HSL.out HRL.out HSR.out HRR.out
              exact ⟨rfl, _, hj.1, hj.2, HXR.out⟩
        · have t2z : ¬ (m : Int) < (e : Int) := by omega
          obtain ⟨f, hf⟩ : ∃ f, f = d := ⟨_, rfl⟩
          have hfl : f.length = N := by rw [hf]; exact HL.out
          have hft : ∀ t, atL f t = rotF d s m e t := by rw [hf]; exact rotF_id g2 g3 (Or.inr (by omega))
          have hx6 : Sx w0 wr g f := by rw [hf]; exact HS.out
          have HM := hide (HST.out _ f hfl hft hx6).1
          have HOF := hide (HST.out _ f hfl hft hx6).2
          have HX := hide hx6
          have HFL := hide hfl
          clear hfl hft hx6 HS hf
          by_cases l1 : a < s
          · have l1z : (a : Int) < (s : Int) := by omega
            by_cases l2 : s < mid
            · have l2z : (s : Int) < (mid : Int) := by omega
              have SL := hide (HIH.out _ _ a s mid (by omega) l1 l2 (by omega) HFL.out HM.out.s1 HM.out.s2 HOF.out HX.out)
              go_wp2_with fail
              refine Calls.mono SL.out ?_
              rintro z W7 ⟨rfl, fl, hsg7, hrt7, hx7⟩
              have HSL := hide hsg7
              have HRL := hide hrt7
              have HXL := hide hx7
              have HGL : Hid (fl.length = N) := hsg7.len.trans HFL.out
              have HOL : Hid (OkL ok fl) := HOF.out.eqf hsg7.eqf
              clear hsg7 hrt7 hx7 SL
              by_cases r1 : mid < e
              · have r1z : (mid : Int) < (e : Int) := by omega
                by_cases r2 : e < b
                · have r2z : (e : Int) < (b : Int) := by omega
                  have SR := hide (HIH.out _ _ mid e b (by omega) r1 r2 hbN HGL.out (HSL.out.srt HM.out.s3 (Or.inr (Nat.le_refl _))) (HSL.out.srt HM.out.s4 (Or.inr (by omega))) HOL.out HXL.out)
                  go_wp2_with fail
                  refine Calls.mono SR.out ?_
                  rintro z W8 ⟨rfl, f8, hsg8, hrt8, hx8⟩
                  have HSR := hide hsg8
                  have HRR := hide hrt8
                  have HXR := hide hx8
                  clear hsg8 hrt8 hx8 SR
                  go_wp2_with fail
                  (try simp only [Exit.inBlock, Exit.then])
                  refine bodyPost_end (results_none rfl _ _ _) rfl ?_
                  have hj := cut_joined HM.out.seg HM.out.ap (by omega) (by omega) HSL.out HRL.out HSR.out HRR.out
                  exact ⟨rfl, _, hj.1, hj.2, HXR.out⟩
                · have r2z : ¬ (e : Int) < (b : Int) := by omega
                  have HSR : Hid (Seg Ky _ _ mid b) := Seg.refl (K := Ky) fl mid b
                  have HRR : Hid (Srt Ky fl mid b) := (HSL.out.srt HM.out.s3 (Or.inr (Nat.le_refl _))).sub (Nat.le_refl _) (by omega)
                  have HXR := HXL
                  go_wp2_with fail
                  (try simp only [Exit.inBlock, Exit.then])
                  refine bodyPost_end (results_none rfl _ _ _) rfl ?_
                  have hj := cut_joined HM.out.seg HM.out.ap (by omega) (by omega) HSL.out HRL.out HSR.out HRR.out
                  exact ⟨rfl, _, hj.1, hj.2, HXR.out⟩
              · have r1z : ¬ (mid : Int) < (e : Int) := by omega
                have HSR : Hid (Seg Ky _ _ mid b) := Seg.refl (K := Ky) fl mid b
                have HRR : Hid (Srt Ky fl mid b) := (HSL.out.srt HM.out.s4 (Or.inr (by omega))).sub (by omega) (Nat.le_refl _)
                have HXR := HXL
                go_wp2_with fail
                (try simp only [Exit.inBlock, Exit.then])
                refine bodyPost_end (results_none rfl _ _ _) rfl ?_
                have hj := cut_joined HM.out.seg HM.out.ap (by omega) (by omega) HSL.out HRL.out HSR.out HRR.out
                exact ⟨rfl, _, hj.1, hj.2, HXR.out⟩
            · have l2z : ¬ (s : Int) < (mid : Int) := by omega
              obtain ⟨fl, hfl⟩ : ∃ fl, fl = f := ⟨_, rfl⟩
              have HSL : Hid (Seg Ky f fl a mid) := by rw [hfl]; exact Seg.refl (K := Ky) f a mid
              have HRL : Hid (Srt Ky fl a mid) := by rw [hfl]; exact HM.out.s1.sub (Nat.le_refl _) (by omega)
              have HXL : Hid (Sx w0 wr g fl) := by rw [hfl]; exact HX.out
              have HGL : Hid (fl.length = N) := by rw [hfl]; exact HFL.out
              have HOL : Hid (OkL ok fl) := by rw [hfl]; exact HOF.out
              clear hfl
              by_cases r1 : mid < e
              · have r1z : (mid : Int) < (e : Int) := by omega
                by_cases r2 : e < b
                · have r2z : (e : Int) < (b : Int) := by omega
                  have SR := hide (HIH.out _ _ mid e b (by omega) r1 r2 hbN HGL.out (HSL.out.srt HM.out.s3 (Or.inr (Nat.le_refl _))) (HSL.out.srt HM.out.s4 (Or.inr (by omega))) HOL.out HXL.out)
                  go_wp2_with fail
                  refine Calls.mono SR.out ?_
                  rintro z W8 ⟨rfl, f8, hsg8, hrt8, hx8⟩
                  have HSR := hide hsg8
                  have HRR := hide hrt8
                  have HXR := hide hx8
                  clear hsg8 hrt8 hx8 SR
                  go_wp2_with fail
                  (try simp only [Exit.inBlock, Exit.then])
                  refine bodyPost_end (results_none rfl _ _ _) rfl ?_
                  have hj := cut_joined HM.out.seg HM.out.ap (by omega) (by omega) HSL.out HRL.out HSR.out HRR.out
                  exact ⟨rfl, _, hj.1, hj.2, HXR.out⟩
                · have r2z : ¬ (e : Int) < (b : Int) := by omega
                  have HSR : Hid (Seg Ky _ _ mid b) := Seg.refl (K := Ky) fl mid b
                  have HRR : Hid (Srt Ky fl mid b) := (HSL.out.srt HM.out.s3 (Or.inr (Nat.le_refl _))).sub (Nat.le_refl _) (by omega)
                  have HXR := HXL
                  go_wp2_with fail
                  (try simp only [Exit.inBlock, Exit.then])
                  refine bodyPost_end (results_none rfl _ _ _) rfl ?_
                  have hj := cut_joined HM.out.seg HM.out.ap (by omega) (by omega) HSL.out HRL.out HSR.out HRR.out
                  exact ⟨rfl, _, hj.1, hj.2, HXR.out⟩
              · have r1z : ¬ (mid : Int) < (e : Int) := by omega
                have HSR : Hid (Seg Ky _ _ mid b) := Seg.refl (K := Ky) fl mid b
                have HRR : Hid (Srt Ky fl mid b) := (HSL.out.srt HM.out.s4 (Or.inr (by omega))).sub (by omega) (Nat.le_refl _)
                have HXR := HXL
                go_wp2_with fail
                (try simp only [Exit.inBlock, Exit.then])
                refine bodyPost_end (results_none rfl _ _ _) rfl ?_
                have hj := cut_joined HM.out.seg HM.out.ap (by omega) (by omega) HSL.out HRL.out HSR.out HRR.out
                exact ⟨rfl, _, hj.1, hj.2, HXR.out⟩
          · have l1z : ¬ (a : Int) < (s : Int) := by omega
            obtain ⟨fl, hfl⟩ : ∃ fl, fl = f := ⟨_, rfl⟩
            have HSL : Hid (Seg Ky f fl a mid) := by rw [hfl]; exact Seg.refl (K := Ky) f a mid
            have HRL : Hid (Srt Ky fl a mid) := by rw [hfl]; exact HM.out.s2.sub (by omega) (Nat.le_refl _)
            have HXL : Hid (Sx w0 wr g fl) := by rw [hfl]; exact HX.out
            have HGL : Hid (fl.length = N) := by rw [hfl]; exact HFL.out
            have HOL : Hid (OkL ok fl) := by rw [hfl]; exact HOF.out
            clear hfl
            by_cases r1 : mid < e
            · have r1z : (mid : Int) < (e : Int) := by omega
              by_cases r2 : e < b
              · have r2z : (e : Int) < (b : Int) := by omega
                have SR := hide (HIH.out _ _ mid e b (by omega) r1 r2 hbN HGL.out (HSL.out.srt HM.out.s3 (Or.inr (Nat.le_refl _))) (HSL.out.srt HM.out.s4 (Or.inr (by omega))) HOL.out HXL.out)
                go_wp2_with fail
                refine Calls.mono SR.out ?_
                rintro z W8 ⟨rfl, f8, hsg8, hrt8, hx8⟩
                have HSR := hide hsg8
                have HRR := hide hrt8
                have HXR := hide hx8
                clear hsg8 hrt8 hx8 SR
                go_wp2_with fail
                (try simp only [Exit.inBlock, Exit.then])
                refine bodyPost_end (results_none rfl _ _ _) rfl ?_
                have hj := cut_joined HM.out.seg HM.out.ap (by omega) (by omega) HSL.out HRL.out HSR.out HRR.out
                exact ⟨rfl, _, hj.1, hj.2, HXR.out⟩
              · have r2z : ¬ (e : Int) < (b : Int) := by omega
                have HSR : Hid (Seg Ky _ _ mid b) := Seg.refl (K := Ky) fl mid b
                have HRR : Hid (Srt Ky fl mid b) := (HSL.out.srt HM.out.s3 (Or.inr (Nat.le_refl _))).sub (Nat.le_refl _) (by omega)
                have HXR := HXL
                go_wp2_with fail
                (try simp only [Exit.inBlock, Exit.then])
                refine bodyPost_end (results_none rfl _ _ _) rfl ?_
                have hj := cut_joined HM.out.seg HM.out.ap (by omega) (by omega) HSL.out HRL.out HSR.out HRR.out
                exact ⟨rfl, _, hj.1, hj.2, HXR.out⟩
            · have r1z : ¬ (mid : Int) < (e : Int) := by omega
              have HSR : Hid (Seg Ky _ _ mid b) := Seg.refl (K := Ky) fl mid b
              have HRR : Hid (Srt Ky fl mid b) := (HSL.out.srt HM.out.s4 (Or.inr (by omega))).sub (by omega) (Nat.le_refl _)
              have HXR := HXL
              go_wp2_with fail
              (try simp only [Exit.inBlock, Exit.then])
              refine bodyPost_end (results_none rfl _ _ _) rfl ?_
              have hj := cut_joined HM.out.seg HM.out.ap (by omega) (by omega) HSL.out HRL.out HSR.out HRR.out
              exact ⟨rfl, _, hj.1, hj.2, HXR.out⟩
      · have t1z : ¬ (s : Int) < (m : Int) := by omega
        obtain ⟨f, hf⟩ : ∃ f, f = d := ⟨_, rfl⟩
        have hfl : f.length = N := by rw [hf]; exact HL.out
        have hft : ∀ t, atL f t = rotF d s m e t := by rw [hf]; exact rotF_id g2 g3 (Or.inl (by omega))
        have hx6 : Sx w0 wr g f := by rw [hf]; exact HS.out
        have HM := hide (HST.out _ f hfl hft hx6).1
        have HOF := hide (HST.out _ f hfl hft hx6).2
        have HX := hide hx6
        have HFL := hide hfl
        clear hfl hft hx6 HS hf
        by_cases l1 : a < s
        · have l1z : (a : Int) < (s : Int) := by omega
          by_cases l2 : s < mid
          · have l2z : (s : Int) < (mid : Int) := by omega
            have SL := hide (HIH.out _ _ a s mid (by omega) l1 l2 (by omega) HFL.out HM.out.s1 HM.out.s2 HOF.out HX.out)
            go_wp2_with fail
            refine Calls.mono SL.out ?_
            rintro z W7 ⟨rfl, fl, hsg7, hrt7, hx7⟩
            have HSL := hide hsg7
            have HRL := hide hrt7
            have HXL := hide hx7
            have HGL : Hid (fl.length = N) := hsg7.len.trans HFL.out
            have HOL : Hid (OkL ok fl) := HOF.out.eqf hsg7.eqf
            clear hsg7 hrt7 hx7 SL
            by_cases r1 : mid < e
            · have r1z : (mid : Int) < (e : Int) := by omega
              by_cases r2 : e < b
              · have r2z : (e : Int) < (b : Int) := by omega
                have SR := hide (HIH.out _ _ mid e b (by omega) r1 r2 hbN HGL.out (HSL.out.srt HM.out.s3 (Or.inr (Nat.le_refl _))) (HSL.out.srt HM.out.s4 (Or.inr (by omega))) HOL.out HXL.out)
                go_wp2_with fail
                refine Calls.mono SR.out ?_
                rintro z W8 ⟨rfl, f8, hsg8, hrt8, hx8⟩
                have HSR := hide hsg8
                have HRR := hide hrt8
                have HXR := hide hx8
                clear hsg8 hrt8 hx8 SR
                go_wp2_with fail
                (try simp only [Exit.inBlock, Exit.then])
                refine bodyPost_end (results_none rfl _ _ _) rfl ?_
                have hj := cut_joined HM.out.seg HM.out.ap (by omega) (by omega) HSL.out HRL.out HSR.out HRR.out
                exact ⟨rfl, _, hj.1, hj.2, HXR.out⟩
              · have r2z : ¬ (e : Int) < (b : Int) := by omega
                have HSR : Hid (Seg Ky _ _ mid b) := Seg.refl (K := Ky) fl mid b
                have HRR : Hid (Srt Ky fl mid b) := (HSL.out.srt HM.out.s3 (Or.inr (Nat.le_refl _))).sub (Nat.le_refl _) (by omega)
                have HXR := HXL
                go_wp2_with fail
                (try simp only [Exit.inBlock, Exit.then])
                refine bodyPost_end (results_none rfl _ _ _) rfl ?_
                have hj := cut_joined HM.out.seg HM.out.ap (by omega) (by omega) HSL.out HRL.out HSR.out HRR.out
                exact ⟨rfl, _, hj.1, hj.2, HXR.out⟩
            · have r1z : ¬ (mid : Int) < (e : Int) := by omega
              have HSR : Hid (Seg Ky _ _ mid b) := Seg.refl (K := Ky) fl mid b
              have HRR : Hid (Srt Ky fl mid b) := (HSL.out.srt HM.out.s4 (Or.inr (by omega))).sub (by omega) (Nat.le_refl _)
              have HXR := HXL
              go_wp2_with fail
              (try simp only [Exit.inBlock, Exit.then])
              refine bodyPost_end (results_none rfl _ _ _) rfl ?_
              have hj := cut_joined HM.out.seg HM.out.ap (by omega) (by omega) HSL.out HRL.out HSR.out HRR.out
              exact ⟨rfl, _, hj.1, hj.2, HXR.out⟩
          · have l2z : ¬ (s : Int) < (mid : Int) := by omega
            obtain ⟨fl, hfl⟩ : ∃ fl, fl = f := ⟨_, rfl⟩
            have HSL : Hid (Seg Ky f fl a mid) := by rw [hfl]; exact Seg.refl (K := Ky) f a mid
            have HRL : Hid (Srt Ky fl a mid) := by rw [hfl]; exact HM.out.s1.sub (Nat.le_refl _) (by omega)
            have HXL : Hid (Sx w0 wr g fl) := by rw [hfl]; exact HX.out
            have HGL : Hid (fl.length = N) := by rw [hfl]; exact HFL.out
            have HOL : Hid (OkL ok fl) := by rw [hfl]; exact HOF.out
            clear hfl
            by_cases r1 : mid < e
            · have r1z : (mid : Int) < (e : Int) := by omega
              by_cases r2 : e < b
              · have r2z : (e : Int) < (b : Int) := by omega
                have SR := hide (HIH.out _ _ mid e b (by omega) r1 r2 hbN HGL.out (HSL.out.srt HM.out.s3 (Or.inr (Nat.le_refl _))) (HSL.out.srt HM.out.s4 (Or.inr (by omega))) HOL.out HXL.out)
                go_wp2_with fail
                refine Calls.mono SR.out ?_
                rintro z W8 ⟨rfl, f8, hsg8, hrt8, hx8⟩
                have HSR := hide hsg8
                have HRR := hide hrt8
                have HXR := hide hx8
                clear hsg8 hrt8 hx8 SR
                go_wp2_with fail
                (try simp only [Exit.inBlock, Exit.then])
                refine bodyPost_end (results_none rfl _ _ _) rfl ?_
                have hj := cut_joined HM.out.seg HM.out.ap (by omega) (by omega) HSL.out HRL.out HSR.out HRR.out
                exact ⟨rfl, _, hj.1, hj.2, HXR.out⟩
              · have r2z : ¬ (e : Int) < (b : Int) := by omega
                have HSR : Hid (Seg Ky _ _ mid b) := Seg.refl (K := Ky) fl mid b
                have HRR : Hid (Srt Ky fl mid b) := (HSL.out.srt HM.out.s3 (Or.inr (Nat.le_refl _))).sub (Nat.le_refl _) (by omega)
                have HXR := HXL
                go_wp2_with fail
                (try simp only [Exit.inBlock, Exit.then])
                refine bodyPost_end (results_none rfl _ _ _) rfl ?_
                have hj := cut_joined HM.out.seg HM.out.ap (by omega) (by omega) HSL.out HRL.out HSR.out HRR.out
                exact ⟨rfl, _, hj.1, hj.2, HXR.out⟩
            · have r1z : ¬ (mid : Int) < (e : Int) := by omega
              have HSR : Hid (Seg Ky _ _ mid b) := Seg.refl (K := Ky) fl mid b
              have HRR : Hid (Srt Ky fl mid b) := (HSL.out.srt HM.out.s4 (Or.inr (by omega))).sub (by omega) (Nat.le_refl _)
              have HXR := HXL
              go_wp2_with fail
              (try simp only [Exit.inBlock, Exit.then])
              refine bodyPost_end (results_none rfl _ _ _) rfl ?_
              have hj := cut_joined HM.out.seg HM.out.ap (by omega) (by omega) HSL.out HRL.out HSR.out HRR.out
              exact ⟨rfl, _, hj.1, hj.2, HXR.out⟩
        · have l1z : ¬ (a : Int) < (s : Int) := by omega
          obtain ⟨fl, hfl⟩ : ∃ fl, fl = f := ⟨_, rfl⟩
          have HSL : Hid (Seg Ky f fl a mid) := by rw [hfl]; exact Seg.refl (K := Ky) f a mid
          have HRL : Hid (Srt Ky fl a mid) := by rw [hfl]; exact HM.out.s2.sub (by omega) (Nat.le_refl _)
          have HXL : Hid (Sx w0 wr g fl) := by rw [hfl]; exact HX.out
          have HGL : Hid (fl.length = N) := by rw [hfl]; exact HFL.out
          have HOL : Hid (OkL ok fl) := by rw [hfl]; exact HOF.out
          clear hfl
          by_cases r1 : mid < e
          · have r1z : (mid : Int) < (e : Int) := by omega
            by_cases r2 : e < b
            · have r2z : (e : Int) < (b : Int) := by omega
              have SR := hide (HIH.out _ _ mid e b (by omega) r1 r2 hbN HGL.out (HSL.out.srt HM.out.s3 (Or.inr (Nat.le_refl _))) (HSL.out.srt HM.out.s4 (Or.inr (by omega))) HOL.out HXL.out)
              go_wp2_with fail
              refine Calls.mono SR.out ?_
              rintro z W8 ⟨rfl, f8, hsg8, hrt8, hx8⟩
              have HSR := hide hsg8
              have HRR := hide hrt8
              have HXR := hide hx8
              clear hsg8 hrt8 hx8 SR
              go_wp2_with fail
              (try simp only [Exit.inBlock, Exit.then])
              refine bodyPost_end (results_none rfl _ _ _) rfl ?_
              have hj := cut_joined HM.out.seg HM.out.ap (by omega) (by omega) HSL.out HRL.out HSR.out HRR.out
              exact ⟨rfl, _, hj.1, hj.2, HXR.out⟩
            · have r2z : ¬ (e : Int) < (b : Int) := by omega
              have HSR : Hid (Seg Ky _ _ mid b) := Seg.refl (K := Ky) fl mid b
              have HRR : Hid (Srt Ky fl mid b) := (HSL.out.srt HM.out.s3 (Or.inr (Nat.le_refl _))).sub (Nat.le_refl _) (by omega)
              have HXR := HXL
              go_wp2_with fail
              (try simp only [Exit.inBlock, Exit.then])
              refine bodyPost_end (results_none rfl _ _ _) rfl ?_
              have hj := cut_joined HM.out.seg HM.out.ap (by omega) (by omega) HSL.out HRL.out HSR.out HRR.out
              exact ⟨rfl, _, hj.1, hj.2, HXR.out⟩
          · have r1z : ¬ (mid : Int) < (e : Int) := by omega
            have HSR : Hid (Seg Ky _ _ mid b) := Seg.refl (K := Ky) fl mid b
            have HRR : Hid (Srt Ky fl mid b) := (HSL.out.srt HM.out.s4 (Or.inr (by omega))).sub (by omega) (Nat.le_refl _)
            have HXR := HXL
            go_wp2_with fail
            (try simp only [Exit.inBlock, Exit.then])
            refine bodyPost_end (results_none rfl _ _ _) rfl ?_
            have hj := cut_joined HM.out.seg HM.out.ap (by omega) (by omega) HSL.out HRL.out HSR.out HRR.out
            exact ⟨rfl, _, hj.1, hj.2, HXR.out⟩
set_option maxHeartbeats 16000000 in
set_option maxRecDepth 100000 in
set_option linter.unusedSimpArgs false in
set_option linter.unusedVariables false in
theorem sym_le {w0 w : World} {g : Nat} {d : List Int} {cb : Value} {Ky : Int → Int} {ok : Int → Prop} {cf : Int → Int → Int} (hc : CmpC w0 g cb Ky ok cf) (N n : Nat) (hN : N ≤ 1000000) (IH : SymOk w0 g cb Ky ok N n) (a m b : Nat) (hn : b - a ≤ n + 1) (ham : a + 1 < m) (hmb : m + 1 < b) (hbN : b ≤ N) (hl : d.length = N) (sa : Srt Ky d a m) (sb : Srt Ky d m b) (ho : OkL ok d) (h : Sx w0 w g d) (mid : Nat) (hmid : mid = (a + b) / 2) (hcase : ¬ mid < m) :
    Calls Tryz.prog 131 #[.slice (some ⟨g, 0, none⟩) N N, .int .i64 (a : Int), .int .i64 (m : Int), .int .i64 (b : Int), .func (.func 101) #[] #[cb]] w fun e w' => e = .returned (.tuple #[]) ∧ ∃ f : List Int, Seg Ky d f a b ∧ Srt Ky f a b ∧ Sx w0 w' g f := by
  have H := hide h
  have HC := hide hc
  have HO := hide ho
  have HA := hide sa
  have HB := hide sb
  have HL := hide hl
  have HIH := hide IH
  have em : ((m : Int) - (a : Int) == 1) = false := by simp; omega
  have eb : ((b : Int) - (m : Int) == 1) = false := by simp; omega
  have e1 : ((a : Int) + (b : Int)) / 2 = (mid : Int) := by omega
  have ma : a < mid := by omega
  have mb : mid < b := by omega
  obtain ⟨q, hq⟩ : ∃ q, q = mid + m := ⟨_, rfl⟩
  have e2 : (mid : Int) + (m : Int) = (q : Int) := by omega
  obtain ⟨p, hp⟩ : ∃ p, p + 1 = q := ⟨q - 1, by omega⟩
  have e3 : (q : Int) - 1 = (p : Int) := by omega

  obtain ⟨lo, hlo⟩ : ∃ lo, lo = a := ⟨_, rfl⟩
  have e5 : ¬ (mid : Int) < (m : Int) := by omega
  obtain ⟨hi, hhi⟩ : ∃ hi, hi = m := ⟨_, rfl⟩
  have HLO : Hid (lo = if mid < m then mid + m - b else a) := by show _ = _; rw [if_neg hcase]; exact hlo
  have HHI : Hid (hi = if mid < m then mid else m) := by show _ = _; rw [if_neg hcase]; exact hhi

  have hrange : lo ≤ hi ∧ hi ≤ m ∧ a ≤ lo ∧ q - lo ≤ b ∧ m ≤ q - hi ∧ hi ≤ q := by omega
  have HQ := hide hq
  have HP := hide hp
  have HMID := hide hmid
  have HRG := hide hrange
  have HLOE := hide hlo
  have HHIE := hide hhi
  clear h hc ho sa sb hl IH hq hp hmid hrange
  go_enter Tryz.func131, Tryz.ntmps131
  go_wp2_with fail
  go_loopw [20, 21, 23] (fun vs vr vc wr => ∃ (s r : Nat), lo ≤ s ∧ s ≤ r ∧ r ≤ hi ∧ vs = .int .i64 (s : Int) ∧ vr = .int .i64 (r : Int) ∧ Hid (lo < s → Ky (atL d (s - 1)) ≤ Ky (atL d (q - s))) ∧ Hid (r < hi → Ky (atL d (p - r)) < Ky (atL d r)) ∧ Hid (Sx w0 wr g d)) (fun vs vr _ _ => (intOf vr).toNat - (intOf vs).toNat)
  case atStart => exact ⟨lo, hi, Nat.le_refl _, HRG.out.1, Nat.le_refl _, by first | rfl | rw [hlo], by first | rfl | rw [hhi], fun k => by omega, fun k => by omega, H.out⟩
  case round =>
    clear H
    obtain ⟨s, r, hs, hsr, hr, rfl, rfl, HF1, HF2, HS⟩ := hrel
    by_cases hlt : s < r
    · have hltz : (s : Int) < (r : Int) := by omega
      obtain ⟨c, hcc⟩ : ∃ c, c = (s + r) / 2 := ⟨_, rfl⟩
      have q1 : s ≤ c := by omega
      have q2 : c < r := by omega
      have ec : ((s : Int) + (r : Int)) / 2 = (c : Int) := by omega
      obtain ⟨pc, hpc⟩ : ∃ pc, pc = p - c := ⟨_, rfl⟩
      have hpc2 : pc + c = p ∧ c < N ∧ pc < N := by
        have := HRG.out
        have := HP.out
        have := HQ.out
        omega
      have ep : (p : Int) - (c : Int) = (pc : Int) := by omega
      have c1 := HS.out.row.cell (i := pc) (by rw [HL.out]; omega)
      have c2 := HS.out.row.cell (i := c) (by rw [HL.out]; omega)
      have CM := fun k => HC.out.cl (wr.drewN k) (HS.out.kp.drewN k) (atL d pc) (atL d c) (HO.out.at_ (by rw [HL.out]; omega)) (HO.out.at_ (by rw [HL.out]; omega))
      have HLT := hide (HC.out.lt (atL d pc) (atL d c))
      have HSd := hide fun m => HS.out.drewN m
      have HG1 : Hid (¬ Ky (atL d pc) < Ky (atL d c) → lo < c + 1 → Ky (atL d (c + 1 - 1)) ≤ Ky (atL d (q - (c + 1)))) := fun k _ => by
        rw [show c + 1 - 1 = c by omega, show q - (c + 1) = pc by have := HP.out; omega]
        omega
      have HG2 : Hid (Ky (atL d pc) < Ky (atL d c) → c < hi → Ky (atL d (p - c)) < Ky (atL d c)) := fun k _ => by
        rw [← hpc]
        exact k
      have cz : (c : Int) < (N : Int) := by omega
      have pz : (pc : Int) < (N : Int) := by omega
      have HPC := hide hpc2
      generalize atL d pc = x at *
      generalize hy : atL d c = y at *
      have HY := hide hy
      clear hy hcc hpc hpc2
      by_cases hlv : cf x y < 0
      · have HF := hide (HG2.out (HLT.out.1 hlv))
        go_wp2_with fail
        go_quiet (first | (go_at_call 101; refine Calls.quiet_of (CM _)))
        have HX := hide (HSd.out nq)
        clear c1 c2 CM HG1 HG2 HSd hlv HLT HS
        generalize wr.drewN nq = wq at *
        go_wp2_with fail
        go_roundw
        case rel => exact ⟨s, c, hs, q1, by omega, rfl, rfl, HF1, by rw [HY.out]; exact HF, HX⟩
        case measure => simp [intOf]; omega
      · have hlv' : decide (cf x y < 0) = false := decide_eq_false hlv
        have HF := hide (HG1.out (fun k => hlv (HLT.out.2 k)))
        clear hlv
        go_wp2_with fail
        go_quiet (first | (go_at_call 101; refine Calls.quiet_of (CM _)))
        have HX := hide (HSd.out nq)
        clear c1 c2 CM HG1 HG2 HSd HLT HS
        generalize wr.drewN nq = wq at *
        go_wp2_with fail
        go_roundw
        case rel => exact ⟨c + 1, r, by omega, by omega, hr, by go_num, rfl, HF, HF2, HX⟩
        case measure => simp [intOf]; omega
    · obtain rfl : s = r := by omega
      have hltz : ¬ (s : Int) < (s : Int) := by omega
      have HCUT : Hid (Cutd Ky d a m b s (q - s) mid) := by
        have := cut_of (s := s) HA.out HB.out (by omega) (by omega) HMID.out HLO.out HHI.out hs hr (by rw [← HQ.out]; exact HF1.out) (by rw [← HQ.out, show q - 1 = p by have := HP.out; omega]; exact HF2.out)
        rw [← HQ.out] at this
        exact this
      obtain ⟨e, he⟩ : ∃ e, e = q - s := ⟨_, rfl⟩
      rw [← he] at HCUT
      have ee : (q : Int) - (s : Int) = (e : Int) := by have := HRG.out; omega
      have HE := hide he
      clear he HF1 HF2
      have g1 := HCUT.out.s1
      have g2 := HCUT.out.s2
      have g3 := HCUT.out.e1
      have g4 := HCUT.out.e2
      have g5 := HCUT.out.sum
      have HG5 := hide g5
      clear g5
      have HST : Hid (∀ (W : World) (f : List Int), f.length = N → (∀ t, atL f t = rotF d s m e t) → Sx w0 W g f → Mid Ky d f a m b s e mid ∧ OkL ok f) := fun W f fl hf _ => by
        have hm := mid_of HCUT.out HA.out HB.out (fl.trans HL.out.symm) (by rw [HL.out]; exact hbN) hf
        exact ⟨hm, HO.out.eqf hm.seg.eqf⟩

      by_cases t1 : s < m
      · have t1z : (s : Int) < (m : Int) := by omega
        by_cases t2 : m < e
        · have t2z : (m : Int) < (e : Int) := by omega
          have RO := rotate_any HS.out s m e (.func (.func 101) #[] #[cb]) t1 t2 (by rw [HL.out]; omega) (by rw [HL.out]; exact hN)
          rw [HL.out] at RO
          have RO := hide RO
          go_wp2_with fail
          refine Calls.mono RO.out ?_
          rintro z W6 ⟨rfl, f, hfl, hft, hx6⟩
          have HM := hide (HST.out _ f hfl hft hx6).1
          have HOF := hide (HST.out _ f hfl hft hx6).2
          have HX := hide hx6
          have HFL := hide hfl
          clear hfl hft hx6 RO HS
          by_cases l1 : a < s
          · have l1z : (a : Int) < (s : Int) := by omega
            by_cases l2 : s < mid
            · have l2z : (s : Int) < (mid : Int) := by omega
              have SL := hide (HIH.out _ _ a s mid (by omega) l1 l2 (by omega) HFL.out HM.out.s1 HM.out.s2 HOF.out HX.out)
              go_wp2_with fail
              refine Calls.mono SL.out ?_
              rintro z W7 ⟨rfl, fl, hsg7, hrt7, hx7⟩
              have HSL := hide hsg7
              have HRL := hide hrt7
              have HXL := hide hx7
              have HGL : Hid (fl.length = N) := hsg7.len.trans HFL.out
              have HOL : Hid (OkL ok fl) := HOF.out.eqf hsg7.eqf
              clear hsg7 hrt7 hx7 SL
              by_cases r1 : mid < e
              · have r1z : (mid : Int) < (e : Int) := by omega
                by_cases r2 : e < b
                · have r2z : (e : Int) < (b : Int) := by omega
                  have SR := hide (HIH.out _ _ mid e b (by omega) r1 r2 hbN HGL.out (HSL.out.srt HM.out.s3 (Or.inr (Nat.le_refl _))) (HSL.out.srt HM.out.s4 (Or.inr (by omega))) HOL.out HXL.out)
                  go_wp2_with fail
                  refine Calls.mono SR.out ?_
                  rintro z W8 ⟨rfl, f8, hsg8, hrt8, hx8⟩
                  have HSR := hide hsg8
                  have HRR := hide hrt8
                  have HXR := hide hx8
                  clear hsg8 hrt8 hx8 SR
                  go_wp2_with fail
                  (try simp only [Exit.inBlock, Exit.then])
                  refine bodyPost_end (results_none rfl _ _ _) rfl ?_
                  have hj := cut_joined HM.out.seg HM.out.ap (by omega) (by omega) HSL.out HRL.out HSR.out HRR.out
                  exact ⟨rfl, _, hj.1, hj.2, HXR.out⟩
                · have r2z : ¬ (e : Int) < (b : Int) := by omega
                  have HSR : Hid (Seg Ky _ _ mid b) := Seg.refl (K := Ky) fl mid b
                  have HRR : Hid (Srt Ky fl mid b) := (HSL.out.srt HM.out.s3 (Or.inr (Nat.le_refl _))).sub (Nat.le_refl _) (by omega)
                  have HXR := HXL
                  go_wp2_with fail
                  (try simp only [Exit.inBlock, Exit.then])
                  refine bodyPost_end (results_none rfl _ _ _) rfl ?_
                  have hj := cut_joined HM.out.seg HM.out.ap (by omega) (by omega) HSL.out HRL.out HSR.out HRR.out
                  exact ⟨rfl, _, hj.1, hj.2, HXR.out⟩
              · have r1z : ¬ (mid : Int) < (e : Int) := by omega
                have HSR : Hid (Seg Ky _ _ mid b) := Seg.refl (K := Ky) fl mid b
                have HRR : Hid (Srt Ky fl mid b) := (HSL.out.srt HM.out.s4 (Or.inr (by omega))).sub (by omega) (Nat.le_refl _)
                have HXR := HXL
                go_wp2_with fail
                (try simp only [Exit.inBlock, Exit.then])
                refine bodyPost_end (results_none rfl _ _ _) rfl ?_
                have hj := cut_joined HM.out.seg HM.out.ap (by omega) (by omega) HSL.out HRL.out HSR.out HRR.out
                exact ⟨rfl, _, hj.1, hj.2, HXR.out⟩
            · have l2z : ¬ (s : Int) < (mid : Int) := by omega
              obtain ⟨fl, hfl⟩ : ∃ fl, fl = f := ⟨_, rfl⟩
              have HSL : Hid (Seg Ky f fl a mid) := by rw [hfl]; exact Seg.refl (K := Ky) f a mid
              have HRL : Hid (Srt Ky fl a mid) := by rw [hfl]; exact HM.out.s1.sub (Nat.le_refl _) (by omega)
              have HXL : Hid (Sx w0 W6 g fl) := by rw [hfl]; exact HX.out
              have HGL : Hid (fl.length = N) := by rw [hfl]; exact HFL.out
              have HOL : Hid (OkL ok fl) := by rw [hfl]; exact HOF.out
              clear hfl
              by_cases r1 : mid < e
              · have r1z : (mid : Int) < (e : Int) := by omega
                by_cases r2 : e < b
                · have r2z : (e : Int) < (b : Int) := by omega
                  have SR := hide (HIH.out _ _ mid e b (by omega) r1 r2 hbN HGL.out (HSL.out.srt HM.out.s3 (Or.inr (Nat.le_refl _))) (HSL.out.srt HM.out.s4 (Or.inr (by omega))) HOL.out HXL.out)
                  go_wp2_with fail
                  refine Calls.mono SR.out ?_
                  rintro z W8 ⟨rfl, f8, hsg8, hrt8, hx8⟩
                  have HSR := hide hsg8
                  have HRR := hide hrt8
                  have HXR := hide hx8
                  clear hsg8 hrt8 hx8 SR
                  go_wp2_with fail
                  (try simp only [Exit.inBlock, Exit.then])
                  refine bodyPost_end (results_none rfl _ _ _) rfl ?_
                  have hj := cut_joined HM.out.seg HM.out.ap (by omega) (by omega) HSL.out HRL.out HSR.out HRR.out
                  exact ⟨rfl, _, hj.1, hj.2, HXR.out⟩
                · have r2z : ¬ (e : Int) < (b : Int) := by omega
                  have HSR : Hid (Seg Ky _ _ mid b) := Seg.refl (K := Ky) fl mid b
                  have HRR : Hid (Srt Ky fl mid b) := (HSL.out.srt HM.out.s3 (Or.inr (Nat.le_refl _))).sub (Nat.le_refl _) (by omega)
                  have HXR := HXL
                  go_wp2_with fail
                  (try simp only [Exit.inBlock, Exit.then])
                  refine bodyPost_end (results_none rfl _ _ _) rfl ?_
                  have hj := cut_joined HM.out.seg HM.out.ap (by omega) (by omega) HSL.out HRL.out HSR.out HRR.out
                  exact ⟨rfl, _, hj.1, hj.2, HXR.out⟩
              · have r1z : ¬ (mid : Int) < (e : Int) := by omega
                have HSR : Hid (Seg Ky _ _ mid b) := Seg.refl (K := Ky) fl mid b
                have HRR : Hid (Srt Ky fl mid b) := (HSL.out.srt HM.out.s4 (Or.inr (by omega))).sub (by omega) (Nat.le_refl _)
                have HXR := HXL
                go_wp2_with fail
                (try simp only [Exit.inBlock, Exit.then])
                refine bodyPost_end (results_none rfl _ _ _) rfl ?_
                have hj := cut_joined HM.out.seg HM.out.ap (by omega) (by omega) HSL.out HRL.out HSR.out HRR.out
                exact ⟨rfl, _, hj.1, hj.2, HXR.out⟩
          · have l1z : ¬ (a : Int) < (s : Int) := by omega
            obtain ⟨fl, hfl⟩ : ∃ fl, fl = f := ⟨_, rfl⟩
            have HSL : Hid (Seg Ky f fl a mid) := by rw [hfl]; exact Seg.refl (K := Ky) f a mid
            have HRL : Hid (Srt Ky fl a mid) := by rw [hfl]; exact HM.out.s2.sub (by omega) (Nat.le_refl _)
            have HXL : Hid (Sx w0 W6 g fl) := by rw [hfl]; exact HX.out
            have HGL : Hid (fl.length = N) := by rw [hfl]; exact HFL.out
            have HOL : Hid (OkL ok fl) := by rw [hfl]; exact HOF.out
            clear hfl
            by_cases r1 : mid < e
            · have r1z : (mid : Int) < (e : Int) := by omega
              by_cases r2 : e < b
              · have r2z : (e : Int) < (b : Int) := by omega
                have SR := hide (HIH.out _ _ mid e b (by omega) r1 r2 hbN HGL.out (HSL.out.srt HM.out.s3 (Or.inr (Nat.le_refl _))) (HSL.out.srt HM.out.s4 (Or.inr (by omega))) HOL.out HXL.out)
                go_wp2_with fail
                refine Calls.mono SR.out ?_
                rintro z W8 ⟨rfl, f8, hsg8, hrt8, hx8⟩
                have HSR := hide hsg8
                have HRR := hide hrt8
                have HXR := hide hx8
                clear hsg8 hrt8 hx8 SR
                go_wp2_with fail
                (try simp only [Exit.inBlock, Exit.then])
                refine bodyPost_end (results_none rfl _ _ _) rfl ?_
                have hj := cut_joined HM.out.seg HM.out.ap (by omega) (by omega) HSL.out HRL.out HSR.out HRR.out
                exact ⟨rfl, _, hj.1, hj.2, HXR.out⟩
              · have r2z : ¬ (e : Int) < (b : Int) := by omega
                have HSR : Hid (Seg Ky _ _ mid b) := Seg.refl (K := Ky) fl mid b
                have HRR : Hid (Srt Ky fl mid b) := (HSL.out.srt HM.out.s3 (Or.inr (Nat.le_refl _))).sub (Nat.le_refl _) (by omega)
                have HXR := HXL
                go_wp2_with fail
                (try simp only [Exit.inBlock, Exit.then])
                refine bodyPost_end (results_none rfl _ _ _) rfl ?_
                have hj := cut_joined HM.out.seg HM.out.ap (by omega) (by omega) HSL.out HRL.out HSR.out HRR.out
                exact ⟨rfl, _, hj.1, hj.2, HXR.out⟩
            · have r1z : ¬ (mid : Int) < (e : Int) := by omega
              have HSR : Hid (Seg Ky _ _ mid b) := Seg.refl (K := Ky) fl mid b
              have HRR : Hid (Srt Ky fl mid b) := (HSL.out.srt HM.out.s4 (Or.inr (by omega))).sub (by omega) (Nat.le_refl _)
              have HXR := HXL
              go_wp2_with fail
              (try simp only [Exit.inBlock, Exit.then])
              refine bodyPost_end (results_none rfl _ _ _) rfl ?_
              have hj := cut_joined HM.out.seg HM.out.ap (by omega) (by omega) HSL.out HRL.out HSR.out HRR.out
              exact ⟨rfl, _, hj.1, hj.2, HXR.out⟩
        · have t2z : ¬ (m : Int) < (e : Int) := by omega
          obtain ⟨f, hf⟩ : ∃ f, f = d := ⟨_, rfl⟩
          have hfl : f.length = N := by rw [hf]; exact HL.out
          have hft : ∀ t, atL f t = rotF d s m e t := by rw [hf]; exact rotF_id g2 g3 (Or.inr (by omega))
          have hx6 : Sx w0 wr g f := by rw [hf]; exact HS.out
          have HM := hide (HST.out _ f hfl hft hx6).1
          have HOF := hide (HST.out _ f hfl hft hx6).2
          have HX := hide hx6
          have HFL := hide hfl
          clear hfl hft hx6 HS hf
          by_cases l1 : a < s
          · have l1z : (a : Int) < (s : Int) := by omega
            by_cases l2 : s < mid
            · have l2z : (s : Int) < (mid : Int) := by omega
              have SL := hide (HIH.out _ _ a s mid (by omega) l1 l2 (by omega) HFL.out HM.out.s1 HM.out.s2 HOF.out HX.out)
              go_wp2_with fail
              refine Calls.mono SL.out ?_
              rintro z W7 ⟨rfl, fl, hsg7, hrt7, hx7⟩
              have HSL := hide hsg7
              have HRL := hide hrt7
              have HXL := hide hx7
              have HGL : Hid (fl.length = N) := hsg7.len.trans HFL.out
              have HOL : Hid (OkL ok fl) := HOF.out.eqf hsg7.eqf
              clear hsg7 hrt7 hx7 SL
              by_cases r1 : mid < e
              · have r1z : (mid : Int) < (e : Int) := by omega
                by_cases r2 : e < b
                · have r2z : (e : Int) < (b : Int) := by omega
                  have SR := hide (HIH.out _ _ mid e b (by omega) r1 r2 hbN HGL.out (HSL.out.srt HM.out.s3 (Or.inr (Nat.le_refl _))) (HSL.out.srt HM.out.s4 (Or.inr (by omega))) HOL.out HXL.out)
                  go_wp2_with fail
                  refine Calls.mono SR.out ?_
                  rintro z W8 ⟨rfl, f8, hsg8, hrt8, hx8⟩
                  have HSR := hide hsg8
                  have HRR := hide hrt8
                  have HXR := hide hx8
                  clear hsg8 hrt8 hx8 SR
                  go_wp2_with fail
                  (try simp only [Exit.inBlock, Exit.then])
                  refine bodyPost_end (results_none rfl _ _ _) rfl ?_
                  have hj := cut_joined HM.out.seg HM.out.ap (by omega) (by omega) HSL.out HRL.out HSR.out HRR.out
                  exact ⟨rfl, _, hj.1, hj.2, HXR.out⟩
                · have r2z : ¬ (e : Int) < (b : Int) := by omega
                  have HSR : Hid (Seg Ky _ _ mid b) := Seg.refl (K := Ky) fl mid b
                  have HRR : Hid (Srt Ky fl mid b) := (HSL.out.srt HM.out.s3 (Or.inr (Nat.le_refl _))).sub (Nat.le_refl _) (by omega)
                  have HXR := HXL
                  go_wp2_with fail
                  (try simp only [Exit.inBlock, Exit.then])
                  refine bodyPost_end (results_none rfl _ _ _) rfl ?_
                  have hj := cut_joined HM.out.seg HM.out.ap (by omega) (by omega) HSL.out HRL.out HSR.out HRR.out
                  exact ⟨rfl, _, hj.1, hj.2, HXR.out⟩
              · have r1z : ¬ (mid : Int) < (e : Int) := by omega
                have HSR : Hid (Seg Ky _ _ mid b) := Seg.refl (K := Ky) fl mid b
                have HRR : Hid (Srt Ky fl mid b) := (HSL.out.srt HM.out.s4 (Or.inr (by omega))).sub (by omega) (Nat.le_refl _)
                have HXR := HXL
                go_wp2_with fail
                (try simp only [Exit.inBlock, Exit.then])
                refine bodyPost_end (results_none rfl _ _ _) rfl ?_
                have hj := cut_joined HM.out.seg HM.out.ap (by omega) (by omega) HSL.out HRL.out HSR.out HRR.out
                exact ⟨rfl, _, hj.1, hj.2, HXR.out⟩
            · have l2z : ¬ (s : Int) < (mid : Int) := by omega
              obtain ⟨fl, hfl⟩ : ∃ fl, fl = f := ⟨_, rfl⟩
              have HSL : Hid (Seg Ky f fl a mid) := by rw [hfl]; exact Seg.refl (K := Ky) f a mid
              have HRL : Hid (Srt Ky fl a mid) := by rw [hfl]; exact HM.out.s1.sub (Nat.le_refl _) (by omega)
              have HXL : Hid (Sx w0 wr g fl) := by rw [hfl]; exact HX.out
              have HGL : Hid (fl.length = N) := by rw [hfl]; exact HFL.out
              have HOL : Hid (OkL ok fl) := by rw [hfl]; exact HOF.out
              clear hfl
              by_cases r1 : mid < e
              · have r1z : (mid : Int) < (e : Int) := by omega
                by_cases r2 : e < b
                · have r2z : (e : Int) < (b : Int) := by omega
                  have SR := hide (HIH.out _ _ mid e b (by omega) r1 r2 hbN HGL.out (HSL.out.srt HM.out.s3 (Or.inr (Nat.le_refl _))) (HSL.out.srt HM.out.s4 (Or.inr (by omega))) HOL.out HXL.out)
                  go_wp2_with fail
                  refine Calls.mono SR.out ?_
                  rintro z W8 ⟨rfl, f8, hsg8, hrt8, hx8⟩
                  have HSR := hide hsg8
                  have HRR := hide hrt8
                  have HXR := hide hx8
                  clear hsg8 hrt8 hx8 SR
                  go_wp2_with fail
                  (try simp only [Exit.inBlock, Exit.then])
                  refine bodyPost_end (results_none rfl _ _ _) rfl ?_
                  have hj := cut_joined HM.out.seg HM.out.ap (by omega) (by omega) HSL.out HRL.out HSR.out HRR.out
                  exact ⟨rfl, _, hj.1, hj.2, HXR.out⟩
                · have r2z : ¬ (e : Int) < (b : Int) := by omega
                  have HSR : Hid (Seg Ky _ _ mid b) := Seg.refl (K := Ky) fl mid b
                  have HRR : Hid (Srt Ky fl mid b) := (HSL.out.srt HM.out.s3 (Or.inr (Nat.le_refl _))).sub (Nat.le_refl _) (by omega)
                  have HXR := HXL
                  go_wp2_with fail
                  (try simp only [Exit.inBlock, Exit.then])
                  refine bodyPost_end (results_none rfl _ _ _) rfl ?_
                  have hj := cut_joined HM.out.seg HM.out.ap (by omega) (by omega) HSL.out HRL.out HSR.out HRR.out
                  exact ⟨rfl, _, hj.1, hj.2, HXR.out⟩
              · have r1z : ¬ (mid : Int) < (e : Int) := by omega
                have HSR : Hid (Seg Ky _ _ mid b) := Seg.refl (K := Ky) fl mid b
                have HRR : Hid (Srt Ky fl mid b) := (HSL.out.srt HM.out.s4 (Or.inr (by omega))).sub (by omega) (Nat.le_refl _)
                have HXR := HXL
                go_wp2_with fail
                (try simp only [Exit.inBlock, Exit.then])
                refine bodyPost_end (results_none rfl _ _ _) rfl ?_
                have hj := cut_joined HM.out.seg HM.out.ap (by omega) (by omega) HSL.out HRL.out HSR.out HRR.out
                exact ⟨rfl, _, hj.1, hj.2, HXR.out⟩
          · have l1z : ¬ (a : Int) < (s : Int) := by omega
            obtain ⟨fl, hfl⟩ : ∃ fl, fl = f := ⟨_, rfl⟩
            have HSL : Hid (Seg Ky f fl a mid) := by rw [hfl]; exact Seg.refl (K := Ky) f a mid
            have HRL : Hid (Srt Ky fl a mid) := by rw [hfl]; exact HM.out.s2.sub (by omega) (Nat.le_refl _)
            have HXL : Hid (Sx w0 wr g fl) := by rw [hfl]; exact HX.out
            have HGL : Hid (fl.length = N) := by rw [hfl]; exact HFL.out
            have HOL : Hid (OkL ok fl) := by rw [hfl]; exact HOF.out
            clear hfl
            by_cases r1 : mid < e
            · have r1z : (mid : Int) < (e : Int) := by omega
              by_cases r2 : e < b
              · have r2z : (e : Int) < (b : Int) := by omega
                have SR := hide (HIH.out _ _ mid e b (by omega) r1 r2 hbN HGL.out (HSL.out.srt HM.out.s3 (Or.inr (Nat.le_refl _))) (HSL.out.srt HM.out.s4 (Or.inr (by omega))) HOL.out HXL.out)
                go_wp2_with fail
                refine Calls.mono SR.out ?_
                rintro z W8 ⟨rfl, f8, hsg8, hrt8, hx8⟩
                have HSR := hide hsg8
                have HRR := hide hrt8
                have HXR := hide hx8
                clear hsg8 hrt8 hx8 SR
                go_wp2_with fail
                (try simp only [Exit.inBlock, Exit.then])
                refine bodyPost_end (results_none rfl _ _ _) rfl ?_
                have hj := cut_joined HM.out.seg HM.out.ap (by omega) (by omega) HSL.out HRL.out HSR.out HRR.out
                exact ⟨rfl, _, hj.1, hj.2, HXR.out⟩
              · have r2z : ¬ (e : Int) < (b : Int) := by omega
                have HSR : Hid (Seg Ky _ _ mid b) := Seg.refl (K := Ky) fl mid b
                have HRR : Hid (Srt Ky fl mid b) := (HSL.out.srt HM.out.s3 (Or.inr (Nat.le_refl _))).sub (Nat.le_refl _) (by omega)
                have HXR := HXL
                go_wp2_with fail
                (try simp only [Exit.inBlock, Exit.then])
                refine bodyPost_end (results_none rfl _ _ _) rfl ?_
                have hj := cut_joined HM.out.seg HM.out.ap (by omega) (by omega) HSL.out HRL.out HSR.out HRR.out
                exact ⟨rfl, _, hj.1, hj.2, HXR.out⟩
            · have r1z : ¬ (mid : Int) < (e : Int) := by omega
              have HSR : Hid (Seg Ky _ _ mid b) := Seg.refl (K := Ky) fl mid b
              have HRR : Hid (Srt Ky fl mid b) := (HSL.out.srt HM.out.s4 (Or.inr (by omega))).sub (by omega) (Nat.le_refl _)
              have HXR := HXL
              go_wp2_with fail
              (try simp only [Exit.inBlock, Exit.then])
              refine bodyPost_end (results_none rfl _ _ _) rfl ?_
              have hj := cut_joined HM.out.seg HM.out.ap (by omega) (by omega) HSL.out HRL.out HSR.out HRR.out
              exact ⟨rfl, _, hj.1, hj.2, HXR.out⟩
      · have t1z : ¬ (s : Int) < (m : Int) := by omega
        obtain ⟨f, hf⟩ : ∃ f, f = d := ⟨_, rfl⟩
        have hfl : f.length = N := by rw [hf]; exact HL.out
        have hft : ∀ t, atL f t = rotF d s m e t := by rw [hf]; exact rotF_id g2 g3 (Or.inl (by omega))
        have hx6 : Sx w0 wr g f := by rw [hf]; exact HS.out
        have HM := hide (HST.out _ f hfl hft hx6).1
        have HOF := hide (HST.out _ f hfl hft hx6).2
        have HX := hide hx6
        have HFL := hide hfl
        clear hfl hft hx6 HS hf
        by_cases l1 : a < s
        · have l1z : (a : Int) < (s : Int) := by omega
          by_cases l2 : s < mid
          · have l2z : (s : Int) < (mid : Int) := by omega
            have SL := hide (HIH.out _ _ a s mid (by omega) l1 l2 (by omega) HFL.out HM.out.s1 HM.out.s2 HOF.out HX.out)
            go_wp2_with fail
            refine Calls.mono SL.out ?_
            rintro z W7 ⟨rfl, fl, hsg7, hrt7, hx7⟩
            have HSL := hide hsg7
            have HRL := hide hrt7
            have HXL := hide hx7
            have HGL : Hid (fl.length = N) := hsg7.len.trans HFL.out
            have HOL : Hid (OkL ok fl) := HOF.out.eqf hsg7.eqf
            clear hsg7 hrt7 hx7 SL
            by_cases r1 : mid < e
            · have r1z : (mid : Int) < (e : Int) := by omega
              by_cases r2 : e < b
              · have r2z : (e : Int) < (b : Int) := by omega
                have SR := hide (HIH.out _ _ mid e b (by omega) r1 r2 hbN HGL.out (HSL.out.srt HM.out.s3 (Or.inr (Nat.le_refl _))) (HSL.out.srt HM.out.s4 (Or.inr (by omega))) HOL.out HXL.out)
                go_wp2_with fail
                refine Calls.mono SR.out ?_
                rintro z W8 ⟨rfl, f8, hsg8, hrt8, hx8⟩
                have HSR := hide hsg8
                have HRR := hide hrt8
                have HXR := hide hx8
                clear hsg8 hrt8 hx8 SR
                go_wp2_with fail
                (try simp only [Exit.inBlock, Exit.then])
                refine bodyPost_end (results_none rfl _ _ _) rfl ?_
                have hj := cut_joined HM.out.seg HM.out.ap (by omega) (by omega) HSL.out HRL.out HSR.out HRR.out
                exact ⟨rfl, _, hj.1, hj.2, HXR.out⟩
              · have r2z : ¬ (e : Int) < (b : Int) := by omega
                have HSR : Hid (Seg Ky _ _ mid b) := Seg.refl (K := Ky) fl mid b
                have HRR : Hid (Srt Ky fl mid b) := (HSL.out.srt HM.out.s3 (Or.inr (Nat.le_refl _))).sub (Nat.le_refl _) (by omega)
                have HXR := HXL
                go_wp2_with fail
                (try simp only [Exit.inBlock, Exit.then])
                refine bodyPost_end (results_none rfl _ _ _) rfl ?_
                have hj := cut_joined HM.out.seg HM.out.ap (by omega) (by omega) HSL.out HRL.out HSR.out HRR.out
                exact ⟨rfl, _, hj.1, hj.2, HXR.out⟩
            · have r1z : ¬ (mid : Int) < (e : Int) := by omega
              have HSR : Hid (Seg Ky _ _ mid b) := Seg.refl (K := Ky) fl mid b
              have HRR : Hid (Srt Ky fl mid b) := (HSL.out.srt HM.out.s4 (Or.inr (by omega))).sub (by omega) (Nat.le_refl _)
              have HXR := HXL
              go_wp2_with fail
              (try simp only [Exit.inBlock, Exit.then])
              refine bodyPost_end (results_none rfl _ _ _) rfl ?_
              have hj := cut_joined HM.out.seg HM.out.ap (by omega) (by omega) HSL.out HRL.out HSR.out HRR.out
              exact ⟨rfl, _, hj.1, hj.2, HXR.out⟩
          · have l2z : ¬ (s : Int) < (mid : Int) := by omega
            obtain ⟨fl, hfl⟩ : ∃ fl, fl = f := ⟨_, rfl⟩
            have HSL : Hid (Seg Ky f fl a mid) := by rw [hfl]; exact Seg.refl (K := Ky) f a mid
            have HRL : Hid (Srt Ky fl a mid) := by rw [hfl]; exact HM.out.s1.sub (Nat.le_refl _) (by omega)
            have HXL : Hid (Sx w0 wr g fl) := by rw [hfl]; exact HX.out
            have HGL : Hid (fl.length = N) := by rw [hfl]; exact HFL.out
            have HOL : Hid (OkL ok fl) := by rw [hfl]; exact HOF.out
            clear hfl
            by_cases r1 : mid < e
            · have r1z : (mid : Int) < (e : Int) := by omega
              by_cases r2 : e < b
              · have r2z : (e : Int) < (b : Int) := by omega
                have SR := hide (HIH.out _ _ mid e b (by omega) r1 r2 hbN HGL.out (HSL.out.srt HM.out.s3 (Or.inr (Nat.le_refl _))) (HSL.out.srt HM.out.s4 (Or.inr (by omega))) HOL.out HXL.out)
                go_wp2_with fail
                refine Calls.mono SR.out ?_
                rintro z W8 ⟨rfl, f8, hsg8, hrt8, hx8⟩
                have HSR := hide hsg8
                have HRR := hide hrt8
                have HXR := hide hx8
                clear hsg8 hrt8 hx8 SR
                go_wp2_with fail
                (try simp only [Exit.inBlock, Exit.then])
                refine bodyPost_end (results_none rfl _ _ _) rfl ?_
                have hj := cut_joined HM.out.seg HM.out.ap (by omega) (by omega) HSL.out HRL.out HSR.out HRR.out
                exact ⟨rfl, _, hj.1, hj.2, HXR.out⟩
              · have r2z : ¬ (e : Int) < (b : Int) := by omega
                have HSR : Hid (Seg Ky _ _ mid b) := Seg.refl (K := Ky) fl mid b
                have HRR : Hid (Srt Ky fl mid b) := (HSL.out.srt HM.out.s3 (Or.inr (Nat.le_refl _))).sub (Nat.le_refl _) (by omega)
                have HXR := HXL
                go_wp2_with fail
                (try simp only [Exit.inBlock, Exit.then])
                refine bodyPost_end (results_none rfl _ _ _) rfl ?_
                have hj := cut_joined HM.out.seg HM.out.ap (by omega) (by omega) HSL.out HRL.out HSR.out HRR.out
                exact ⟨rfl, _, hj.1, hj.2, HXR.out⟩
            · have r1z : ¬ (mid : Int) < (e : Int) := by omega
              have HSR : Hid (Seg Ky _ _ mid b) := Seg.refl (K := Ky) fl mid b
              have HRR : Hid (Srt Ky fl mid b) := (HSL.out.srt HM.out.s4 (Or.inr (by omega))).sub (by omega) (Nat.le_refl _)
              have HXR := HXL
              go_wp2_with fail
              (try simp only [Exit.inBlock, Exit.then])
              refine bodyPost_end (results_none rfl _ _ _) rfl ?_
              have hj := cut_joined HM.out.seg HM.out.ap (by omega) (by omega) HSL.out HRL.out HSR.out HRR.out
              exact ⟨rfl, _, hj.1, hj.2, HXR.out⟩
        · have l1z : ¬ (a : Int) < (s : Int) := by omega
          obtain ⟨fl, hfl⟩ : ∃ fl, fl = f := ⟨_, rfl⟩
          have HSL : Hid (Seg Ky f fl a mid) := by rw [hfl]; exact Seg.refl (K := Ky) f a mid
          have HRL : Hid (Srt Ky fl a mid) := by rw [hfl]; exact HM.out.s2.sub (by omega) (Nat.le_refl _)
          have HXL : Hid (Sx w0 wr g fl) := by rw [hfl]; exact HX.out
          have HGL : Hid (fl.length = N) := by rw [hfl]; exact HFL.out
          have HOL : Hid (OkL ok fl) := by rw [hfl]; exact HOF.out
          clear hfl
          by_cases r1 : mid < e
          · have r1z : (mid : Int) < (e : Int) := by omega
            by_cases r2 : e < b
            · have r2z : (e : Int) < (b : Int) := by omega
              have SR := hide (HIH.out _ _ mid e b (by omega) r1 r2 hbN HGL.out (HSL.out.srt HM.out.s3 (Or.inr (Nat.le_refl _))) (HSL.out.srt HM.out.s4 (Or.inr (by omega))) HOL.out HXL.out)
              go_wp2_with fail
              refine Calls.mono SR.out ?_
              rintro z W8 ⟨rfl, f8, hsg8, hrt8, hx8⟩
              have HSR := hide hsg8
              have HRR := hide hrt8
              have HXR := hide hx8
              clear hsg8 hrt8 hx8 SR
              go_wp2_with fail
              (try simp only [Exit.inBlock, Exit.then])
              refine bodyPost_end (results_none rfl _ _ _) rfl ?_
              have hj := cut_joined HM.out.seg HM.out.ap (by omega) (by omega) HSL.out HRL.out HSR.out HRR.out
              exact ⟨rfl, _, hj.1, hj.2, HXR.out⟩
            · have r2z : ¬ (e : Int) < (b : Int) := by omega
              have HSR : Hid (Seg Ky _ _ mid b) := Seg.refl (K := Ky) fl mid b
              have HRR : Hid (Srt Ky fl mid b) := (HSL.out.srt HM.out.s3 (Or.inr (Nat.le_refl _))).sub (Nat.le_refl _) (by omega)
              have HXR := HXL
              go_wp2_with fail
              (try simp only [Exit.inBlock, Exit.then])
              refine bodyPost_end (results_none rfl _ _ _) rfl ?_
              have hj := cut_joined HM.out.seg HM.out.ap (by omega) (by omega) HSL.out HRL.out HSR.out HRR.out
              exact ⟨rfl, _, hj.1, hj.2, HXR.out⟩
          · have r1z : ¬ (mid : Int) < (e : Int) := by omega
            have HSR : Hid (Seg Ky _ _ mid b) := Seg.refl (K := Ky) fl mid b
            have HRR : Hid (Srt Ky fl mid b) := (HSL.out.srt HM.out.s4 (Or.inr (by omega))).sub (by omega) (Nat.le_refl _)
            have HXR := HXL
            go_wp2_with fail
            (try simp only [Exit.inBlock, Exit.then])
            refine bodyPost_end (results_none rfl _ _ _) rfl ?_
            have hj := cut_joined HM.out.seg HM.out.ap (by omega) (by omega) HSL.out HRL.out HSR.out HRR.out
            exact ⟨rfl, _, hj.1, hj.2, HXR.out⟩
theorem sym_any {w0 : World} {g : Nat} {cb : Value} {Ky : Int → Int} {ok : Int → Prop} {cf : Int → Int → Int} (hc : CmpC w0 g cb Ky ok cf) (N : Nat) (hN : N ≤ 1000000) : ∀ n, SymOk w0 g cb Ky ok N n
  | 0 => fun w d a m b h1 h2 h3 => by omega
  | n + 1 => fun w d a m b h1 h2 h3 h4 h5 sa sb ho hs => by
    by_cases q1 : m = a + 1
    · subst q1
      have := sym_up hs hc ho a b h3 (by rw [h5]; exact h4) (by rw [h5]; exact hN) sb (a + 1) rfl
      rwa [h5] at this
    · by_cases q2 : b = m + 1
      · subst q2
        have := sym_dn hs hc ho a m (by omega) (by rw [h5]; exact h4) (by rw [h5]; exact hN) sa (m + 1) rfl
        rwa [h5] at this
      · by_cases q3 : (a + b) / 2 < m
        · exact sym_gt hc N n hN (sym_any hc N hN n) a m b h1 (by omega) (by omega) h4 h5 sa sb ho hs _ rfl q3
        · exact sym_le hc N n hN (sym_any hc N hN n) a m b h1 (by omega) (by omega) h4 h5 sa sb ho hs _ rfl q3
end Go.Proofs.YtndfhpfhgdamgaaGreatDoor.Cn
