import Derived.Test.YtnphdbmacccblaaMcCu
namespace Go.Proofs.Ytnphdbmacccblaa
open Go.RowKit
def okAB (a b : Int) : Prop := 0 ≤ a ∧ a ≤ 67 ∧ 0 ≤ b ∧ b ≤ 67 ∧ a ≠ b
set_option maxHeartbeats 8000000 in
set_option maxRecDepth 100000 in
set_option linter.unusedSimpArgs false in
set_option linter.unusedVariables false in
theorem mailCuts_any (a0 b0 : Int) (ao : Option Addr) (bb o cap : Nat) (ys : List MO) (w : World) (hN : SpAt w ao bb o ys) :
    Calls Try.prog 4 #[.int .i64 a0, .int .i64 b0, .slice ao ys.length cap] w fun e w' => e = .returned (.bool true) ∧ Below w.heap.size w w' := by
  have HN := hide hN
  have hlen := hN.len
  clear hN
  obtain ⟨a, b, hab, hor⟩ : ∃ a b, okAB a b ∧ ((a0 < 0 ∨ 67 < a0 ∨ b0 < 0 ∨ 67 < b0 ∨ a0 = b0) ∧ a = 0 ∧ b = 1 ∨ ¬ (a0 < 0 ∨ 67 < a0 ∨ b0 < 0 ∨ 67 < b0 ∨ a0 = b0) ∧ a = a0 ∧ b = b0) := by
    by_cases h : a0 < 0 ∨ 67 < a0 ∨ b0 < 0 ∨ 67 < b0 ∨ a0 = b0
    · exact ⟨0, 1, by unfold okAB; omega, Or.inl ⟨h, rfl, rfl⟩⟩
    · exact ⟨a0, b0, by unfold okAB; omega, Or.inr ⟨h, rfl, rfl⟩⟩
  have HA : Hid (adr a = true ∧ adr b = true ∧ a ≠ b) := by unfold okAB at hab; exact ⟨adr_t.2 ⟨hab.1, hab.2.1⟩, adr_t.2 ⟨hab.2.2.1, hab.2.2.2.1⟩, hab.2.2.2.2⟩
  have HOR := hide hor
  have NW := hide (new_any 1024 w ⟨by omega, by omega⟩)
  clear hab hor
  go_enter Try.func4, Try.ntmps4
  go_upto_region 1 with fail
  go_cut [38] (fun v wx => v = .bool (decide (a0 < 0 ∨ 67 < a0 ∨ b0 < 0 ∨ 67 < b0 ∨ a0 = b0)) ∧ w = wx)
  case first =>
    by_cases h1 : a0 < 0
    · go_wp2_with fail
      go_meet
      exact ⟨by simp <;> omega, rfl⟩
    by_cases h2 : 67 < a0
    · go_wp2_with fail
      go_meet
      exact ⟨by simp <;> omega, rfl⟩
    by_cases h3 : b0 < 0
    · go_wp2_with fail
      go_meet
      exact ⟨by simp <;> omega, rfl⟩
    by_cases h4 : 67 < b0
    · go_wp2_with fail
      go_meet
      exact ⟨by simp <;> omega, rfl⟩
    have e5 : (a0 == b0) = decide (a0 = b0) := by by_cases h : a0 = b0 <;> simp [h]
    go_wp2_with fail
    go_meet
    exact ⟨by by_cases h5 : a0 = b0 <;> simp [h5] <;> omega, rfl⟩
  case rest =>
  obtain ⟨rfl, rfl⟩ := hcut
  go_upto_if 38 with fail
  go_cut [0, 1] (fun v v2 wx => v = .int .i64 a ∧ v2 = .int .i64 b ∧ w = wx)
  case first =>
    by_cases h0 : a0 < 0 ∨ 67 < a0 ∨ b0 < 0 ∨ 67 < b0 ∨ a0 = b0
    · have h9 := hide h0
      have hd : decide (a0 < 0 ∨ 67 < a0 ∨ b0 < 0 ∨ 67 < b0 ∨ a0 = b0) = true := decide_eq_true h0
      clear h0
      generalize decide (a0 < 0 ∨ 67 < a0 ∨ b0 < 0 ∨ 67 < b0 ∨ a0 = b0) = bd at *
      subst hd
      go_wp2_with fail
      go_meet
      have h1 := HOR.out
      have h2 := h9.out
      exact ⟨by congr 1; omega, by congr 1; omega, rfl⟩
    · have h9 := hide h0
      have hd : decide (a0 < 0 ∨ 67 < a0 ∨ b0 < 0 ∨ 67 < b0 ∨ a0 = b0) = false := decide_eq_false h0
      clear h0
      generalize decide (a0 < 0 ∨ 67 < a0 ∨ b0 < 0 ∨ 67 < b0 ∨ a0 = b0) = bd at *
      subst hd
      go_wp2_with fail
      go_meet
      have h1 := HOR.out
      have h2 := h9.out
      exact ⟨by congr 1; omega, by congr 1; omega, rfl⟩
  case rest =>
  obtain ⟨rfl, rfl, rfl⟩ := hcut
  clear HOR
  go_wp2_with fail
  refine Calls.mono NW.out ?_
  rintro e w1 ⟨rfl, S1, M, v, m1, b1, n1⟩
  obtain ⟨R, hR⟩ : ∃ R, R = w.heap.size + 1 := ⟨_, rfl⟩
  rw [← hR] at m1 ⊢
  clear hR
  have M1 : Hid (Ml w1 S1 R ⟨1024, 0, [], 0, fun _ _ => false⟩) := ⟨M, v, m1⟩
  have G1 : Hid (Good ⟨1024, 0, [], 0, fun _ _ => false⟩) := ⟨by show (1 : Int) ≤ 1024; omega, by show (1024 : Int) ≤ 1024; omega, by show ((0 : Nat) : Int) ≤ 1024; omega, fun x hx => by simp at hx⟩
  have B1 := hide b1
  have N1 := hide n1
  clear m1 b1 n1 NW
  have SD := send_all M1.out G1.out a b ⟨#[97, 104, 101, 97, 100]⟩ (by show (0 : Nat) ≤ _; omega) (by decide)
  have E0 : sndE ⟨1024, 0, [], 0, fun _ _ => false⟩ a b = 0 := by
    unfold sndE
    rw [if_pos ⟨HA.out.1, HA.out.2.1⟩, if_neg (by simp), if_neg (by show ¬ (1024 : Int) ≤ ((0 : Nat) : Int); omega)]
  have N0 : sndN ⟨1024, 0, [], 0, fun _ _ => false⟩ a b = 1 := by unfold sndN; rw [if_pos E0]; rfl
  have S0 : sndS ⟨1024, 0, [], 0, fun _ _ => false⟩ a b ⟨#[97, 104, 101, 97, 100]⟩ = ⟨1024, 1, [x1L a b], 0, fun _ _ => false⟩ := by unfold sndS; rw [if_pos E0]; rfl
  rw [E0, N0, S0] at SD
  have SD := hide SD
  have G2 : Hid (Good ⟨1024, 1, [x1L a b], 0, fun _ _ => false⟩) := by
    have := G1.out.snd a b ⟨#[97, 104, 101, 97, 100]⟩
    rw [S0] at this
    exact this
  clear E0 N0 S0
  go_wp2_with (first | (go_at_call 10; refine Calls.mono (num_any _ _) ?_; rintro e w8 ⟨rfl, rfl⟩))
  refine Calls.mono SD.out ?_
  rintro e w2 ⟨rfl, S2, m2, k2, n2⟩
  have M2 := hide m2
  have KN2 : Hid (Kp w w2 non ∧ ∀ k, S2 k → w.heap.size ≤ k) := ⟨((Kp.of_below B1.out non).trans k2 (fun k e => Or.inr (N1.out k e))), fun k e => by
    rcases n2 k e with z | z
    · exact N1.out k z
    · exact Nat.le_trans B1.out.size z⟩
  clear m2 k2 n2 SD
  have CT := cut_all M2.out G2.out b a (by show (0 : Nat) < _; decide)
  have CK0 : ckE b a = 0 := by unfold ckE; rw [if_pos ⟨HA.out.2.1, HA.out.1, fun e => HA.out.2.2 e.symm⟩]
  rw [CK0] at CT
  have CT := hide CT
  go_wp2_with (first | (go_at_call 10; refine Calls.mono (num_any _ _) ?_; rintro e w8 ⟨rfl, rfl⟩))
  refine Calls.mono CT.out ?_
  rintro e w3 ⟨rfl, m3, k3⟩
  have C3 : Hid (Cu w w3 R 1 a b false (cutS ⟨1024, 1, [x1L a b], 0, fun _ _ => false⟩ b a)) := by
    refine ⟨⟨S2, m3, KN2.out.2⟩, G2.out.cut _ _, ?_, fun _ => ⟨[], ?_⟩, ?_, ?_, (KN2.out.1.trans k3 (fun k e => Or.inr (KN2.out.2 k e))).below⟩
    · unfold cutS
      rw [if_pos CK0]
      show cutUp _ _ _ _ _ _ = _
      unfold cutUp
      rw [if_pos ⟨by omega, by omega⟩]
    · unfold cutS
      rw [if_pos CK0]
    · unfold cutS
      rw [if_pos CK0]
      exact Nat.le_refl _
    · unfold cutS
      rw [if_pos CK0]
      exact Nat.le_refl _
  clear m3 k3 CT M2 KN2 G2 M1 G1 B1 N1 CK0
  generalize cutS ⟨1024, 1, [x1L a b], 0, fun _ _ => false⟩ b a = st3 at *
  go_wp2_with (first | (go_at_call 10; refine Calls.mono (num_any _ _) ?_; rintro e w8 ⟨rfl, rfl⟩))
  go_loopw [11, 12] (fun vg vi wr => ∃ (q : Nat) (gn : Bool) (st : St), q ≤ ys.length ∧ vi = .int .i64 (q : Int) ∧ vg = .bool gn ∧ Cu w wr R (q + 1) a b gn st) (fun _ vi _ => ys.length - (intOf vi).toNat)
  case atStart => exact ⟨0, false, st3, Nat.zero_le _, rfl, rfl, C3.out⟩
  case round =>
    clear C3
    obtain ⟨q, gn, st, hq, rfl, rfl, hp⟩ := hrel
    have P0 := hide hp
    clear hp
    by_cases hql : q < ys.length
    case pos =>
      have hao := HN.out.at0 (by omega)
      subst hao
      have hqi : (q : Int) < (ys.length : Int) := by omega
      have bl : bb < w.heap.size := HN.out.lt (by omega)
      have e0 := (P0.out.bl.cell bl).trans (HN.out.c0 q hql)
      have e1 := (P0.out.bl.cell bl).trans (HN.out.c1 q hql)
      have e2 := (P0.out.bl.cell bl).trans (HN.out.c2 q hql)
      have e3 := (P0.out.bl.cell bl).trans (HN.out.c3 q hql)
      have e4 := (P0.out.bl.cell bl).trans (HN.out.c4 q hql)
      have ff := HN.out.fit q hql
      generalize ys[q] = y at *
      obtain ⟨yk, yp, yn, ym, yt⟩ := y
      dsimp only at e0 e1 e2 e3 e4
      obtain ⟨W1, hW1⟩ : ∃ W1, W1 = wr.alloc (.cells #[.int .i64 yk, .int .i64 yp, .int .i64 yn, .int .i64 ym, .string yt] 41) := ⟨_, rfl⟩
      obtain ⟨I, hI⟩ : ∃ I, I = wr.heap.size := ⟨_, rfl⟩
      have O1 : Hid (OpAt W1 I yk yp yn ym yt) := by subst hW1; subst hI; exact heap_last wr _
      have P1 : Hid (Cu w W1 R (q + 1) a b gn st) := by subst hW1; exact P0.out.below ((Below.refl _ wr).alloc (Nat.le_refl _) _)
      have NI : Hid (∃ S, Ml W1 S R st ∧ (∀ k, S k → w.heap.size ≤ k) ∧ ¬ S I) := by subst hW1; subst hI; exact P0.out.nI ((Below.refl _ wr).alloc (Nat.le_refl _) _)
      go_upto_region 15 with fail
      rw [← hW1, ← hI]
      clear hW1 hI e0 e1 e2 e3 e4 bl
      have i0 := O1.out.c0
      have i2 := O1.out.c2
      have i3 := O1.out.c3
      have i4 := O1.out.c4
      by_cases hk1 : yk = 1
      case pos =>
        subst hk1
        have SE := hide (P1.out.sendI NI.out (blk_lt O1.out) (by omega) yn ym yt ff.s1)
        have BE : Hid (onLk (yn, ym, false) a b = true → sndE st yn ym = 132) := fun ho => P1.out.sendE HA.out.1 HA.out.2.1 ho
        go_wp2_with fail
        refine Calls.mono SE.out ?_
        rintro e w2 ⟨rfl, c2, hI2⟩
        have C2 := hide c2
        have O2 : Hid (OpAt w2 I 1 yp yn ym yt) := hI2.trans O1.out
        clear c2 hI2 SE i0 i2 i3 i4
        have i2 := O2.out.c2
        have i3 := O2.out.c3
        have BW := betw_any (Lt.mk 0 yn ym ⟨#[]⟩) a b w2
        unfold Lt.v at BW
        generalize sndE st yn ym = E at *
        generalize sndN st yn ym = NN at *
        by_cases ho : onLk (yn, ym, false) a b = true
        case pos =>
          have hE := BE.out ho
          subst hE
          rw [show onLk ((Lt.mk 0 yn ym ⟨#[]⟩).fr, (Lt.mk 0 yn ym ⟨#[]⟩).td, false) a b = true from ho] at BW
          have BW := hide BW
          go_wp2_with (first | (go_at_call 15; refine Calls.mono BW.out ?_; rintro e w3 ⟨rfl, hb3⟩) | (go_at_call 10; refine Calls.mono (num_any _ _) ?_; rintro e w8 ⟨rfl, rfl⟩))
          have C3 := hide (C2.out.below hb3)
          clear hb3
          go_roundw
          case rel => exact ⟨q + 1, gn, sndS st yn ym yt, by omega, by go_num, rfl, C3.out⟩
          case measure => simp [intOf]; omega
        case neg =>
          rw [Bool.not_eq_true] at ho
          rw [show onLk ((Lt.mk 0 yn ym ⟨#[]⟩).fr, (Lt.mk 0 yn ym ⟨#[]⟩).td, false) a b = false from ho] at BW
          have BW := hide BW
          go_wp2_with (first | (go_at_call 15; refine Calls.mono BW.out ?_; rintro e w3 ⟨rfl, hb3⟩) | (go_at_call 10; refine Calls.mono (num_any _ _) ?_; rintro e w8 ⟨rfl, rfl⟩))
          have C3 := hide (C2.out.below hb3)
          clear hb3
          go_roundw
          case rel => exact ⟨q + 1, gn, sndS st yn ym yt, by omega, by go_num, rfl, C3.out⟩
          case measure => simp [intOf]; omega
      by_cases hk2 : yk = 2
      case pos =>
        subst hk2
        clear hk1
        have SE := hide (P1.out.deliver yn)
        have BE : Hid (dlvE st yn = 0 → onLk ((dlvV st yn).fr, (dlvV st yn).td, false) a b = false) := fun ho => P1.out.deliverE ho
        generalize dlvV st yn = xx at *
        generalize dlvE st yn = E at *
        go_wp2_with fail
        refine Calls.mono SE.out ?_
        rintro e w2 ⟨rfl, c2⟩
        have C2 := hide c2
        clear c2 SE i0 i2
        obtain ⟨W4, hW4⟩ : ∃ W4, W4 = w2.alloc (.cells #[.int .i64 xx.id, .int .i64 xx.fr, .int .i64 xx.td, .string xx.tx] 33) := ⟨_, rfl⟩
        obtain ⟨J, hJ⟩ : ∃ J, J = w2.heap.size := ⟨_, rfl⟩
        have J4 : Hid (LtAt W4 J xx) := by subst hW4; subst hJ; exact heap_last w2 _
        have C4 : Hid (Cu w W4 R (q + 2) a b gn (dlvS st yn)) := by subst hW4; exact C2.out.below ((Below.refl _ w2).alloc (Nat.le_refl _) _)
        unfold Lt.v
        go_upto_region 22 with fail
        rw [← hW4, ← hJ]
        clear hW4 hJ
        have j0 := J4.out.c0
        have j1 := J4.out.c1
        have j2 := J4.out.c2
        have j3 := J4.out.c3
        have BW := betw_any xx a b W4
        unfold Lt.v at BW
        by_cases hE : E = 0
        case pos =>
          rw [BE.out hE] at BW
          subst hE
          have BW := hide BW
          go_wp2_with (first | (go_at_call 15; refine Calls.mono BW.out ?_; rintro e w3 ⟨rfl, hb3⟩) | (go_at_call 10; refine Calls.mono (num_any _ _) ?_; rintro e w8 ⟨rfl, rfl⟩))
          have C3 := hide (C4.out.below hb3)
          clear hb3
          go_roundw
          case rel => exact ⟨q + 1, gn, dlvS st yn, by omega, by go_num, rfl, C3.out⟩
          case measure => simp [intOf]; omega
        case neg =>
          have hE2 : (E == 0) = false := by simp [hE]
          clear BW hE
          go_wp2_with (first | (go_at_call 10; refine Calls.mono (num_any _ _) ?_; rintro e w8 ⟨rfl, rfl⟩))
          go_roundw
          case rel => exact ⟨q + 1, gn, dlvS st yn, by omega, by go_num, rfl, C4.out⟩
          case measure => simp [intOf]; omega
      by_cases hk3 : yk = 3
      case pos =>
        subst hk3
        clear hk1
        clear hk2
        have SE := hide (P1.out.drop yn)
        by_cases h0 : yn = 0
        case pos =>
          subst h0
          rw [show (gn || decide ((0 : Int) = 0)) = true by simp] at SE
          go_wp2_with fail
          refine Calls.mono SE.out ?_
          rintro e w2 ⟨rfl, c2⟩
          have C2 := hide c2
          clear c2 SE i0 i2
          go_wp2_with fail
          go_roundw
          case rel => exact ⟨q + 1, true, drpS st 0, by omega, by go_num, rfl, C2.out⟩
          case measure => simp [intOf]; omega
        case neg =>
          rw [show (gn || decide (yn = 0)) = gn by simp [h0]] at SE
          have h02 : (yn == 0) = false := by simp [h0]
          clear h0
          go_wp2_with fail
          refine Calls.mono SE.out ?_
          rintro e w2 ⟨rfl, c2⟩
          have C2 := hide c2
          clear c2 SE i0 i2
          go_wp2_with fail
          go_roundw
          case rel => exact ⟨q + 1, gn, drpS st yn, by omega, by go_num, rfl, C2.out⟩
          case measure => simp [intOf]; omega
      by_cases hk4 : yk = 4
      case pos =>
        subst hk4
        clear hk1
        clear hk2
        clear hk3
        have SE := hide (P1.out.copy (by omega) yn)
        go_wp2_with fail
        refine Calls.mono SE.out ?_
        rintro e w2 ⟨rfl, c2⟩
        have C2 := hide c2
        clear c2 SE i0 i2
        go_wp2_with fail
        go_roundw
        case rel => exact ⟨q + 1, gn, cpyS st yn, by omega, by go_num, rfl, C2.out⟩
        case measure => simp [intOf]; omega
      by_cases hk5 : yk = 5
      case pos =>
        subst hk5
        clear hk1
        clear hk2
        clear hk3
        clear hk4
        have SE := hide (P1.out.cut (by omega) yn ym)
        go_wp2_with fail
        refine Calls.mono SE.out ?_
        rintro e w2 ⟨rfl, c2⟩
        have C2 := hide c2
        clear c2 SE i0 i2
        go_wp2_with fail
        go_roundw
        case rel => exact ⟨q + 1, gn, cutS st yn ym, by omega, by go_num, rfl, C2.out⟩
        case measure => simp [intOf]; omega
      by_cases hk6 : yk = 6
      case pos =>
        subst hk6
        clear hk1
        clear hk2
        clear hk3
        clear hk4
        clear hk5
        have BW := betw_any (Lt.mk 0 yn ym ⟨#[]⟩) a b W1
        unfold Lt.v at BW
        by_cases ho : onLk (yn, ym, false) a b = true
        case pos =>
          rw [show onLk ((Lt.mk 0 yn ym ⟨#[]⟩).fr, (Lt.mk 0 yn ym ⟨#[]⟩).td, false) a b = true from ho] at BW
          have BW := hide BW
          go_wp2_with (first | (go_at_call 15; refine Calls.mono BW.out ?_; rintro e w3 ⟨rfl, hb3⟩))
          have C3 := hide (P1.out.below hb3).up
          clear hb3
          go_roundw
          case rel => exact ⟨q + 1, gn, st, by omega, by go_num, rfl, C3.out⟩
          case measure => simp [intOf]; omega
        case neg =>
          rw [Bool.not_eq_true] at ho
          rw [show onLk ((Lt.mk 0 yn ym ⟨#[]⟩).fr, (Lt.mk 0 yn ym ⟨#[]⟩).td, false) a b = false from ho] at BW
          have BW := hide BW
          go_wp2_with fail
          refine Calls.mono BW.out ?_
          rintro e w3 ⟨rfl, hb3⟩
          have C3 := hide (P1.out.below hb3)
          have SE := hide (C3.out.heal yn ym ho)
          have O3 : Hid (OpAt w3 I 6 yp yn ym yt) := O1.out.kp (Kp.of_below hb3 non) (fun f => f)
          clear hb3 BW i0 i2 i3
          have i2 := O3.out.c2
          have i3 := O3.out.c3
          go_wp2_with fail
          refine Calls.mono SE.out ?_
          rintro e w2 ⟨rfl, c2⟩
          have C2 := hide c2
          clear c2 SE i2 i3
          go_wp2_with fail
          go_roundw
          case rel => exact ⟨q + 1, gn, healS st yn ym, by omega, by go_num, rfl, C2.out⟩
          case measure => simp [intOf]; omega
      have n1 : (yk == 1) = false := by simp [hk1]
      have n2 : (yk == 2) = false := by simp [hk2]
      have n3 : (yk == 3) = false := by simp [hk3]
      have n4 : (yk == 4) = false := by simp [hk4]
      have n5 : (yk == 5) = false := by simp [hk5]
      have n6 : (yk == 6) = false := by simp [hk6]
      clear hk1 hk2 hk3 hk4 hk5 hk6
      have C2 := hide P1.out.up
      go_wp2_with fail
      go_roundw
      case rel => exact ⟨q + 1, gn, st, by omega, by go_num, rfl, C2.out⟩
      case measure => simp [intOf]; omega
    case neg =>
      obtain rfl : q = ys.length := by omega
      have CL := hide (P0.out.close HA.out)
      have hnq : ¬ ((ys.length : Int) < (ys.length : Int)) := by omega
      go_wp2_with (first | (go_at_call 10; refine Calls.mono (num_any _ _) ?_; rintro e w8 ⟨rfl, rfl⟩))
      refine Calls.mono CL.out ?_
      rintro e w4 ⟨rfl, cz⟩
      have Z4 := hide cz
      clear cz CL P0 hnq
      cases gn with
      | true =>
        go_wp2_with (first | (go_at_call 10; refine Calls.mono (num_any _ _) ?_; rintro e w8 ⟨rfl, rfl⟩))
        go_ret
        exact ⟨rfl, Z4.out.bl⟩
      | false =>
        have DL := hide Z4.out.last
        go_wp2_with (first | (go_at_call 10; refine Calls.mono (num_any _ _) ?_; rintro e w8 ⟨rfl, rfl⟩))
        refine Calls.mono DL.out ?_
        rintro e w5 ⟨rfl, hb5⟩
        have B5 := hide hb5
        clear hb5 DL Z4
        obtain ⟨W6, hW6⟩ : ∃ W6, W6 = w5.alloc (.cells #[.int .i64 1, .int .i64 a, .int .i64 b, .string ⟨#[97, 104, 101, 97, 100]⟩] 33) := ⟨_, rfl⟩
        obtain ⟨J, hJ⟩ : ∃ J, J = w5.heap.size := ⟨_, rfl⟩
        have J6 : Hid (LtAt W6 J (x1L a b)) := by subst hW6; subst hJ; exact heap_last w5 _
        have B6 : Hid (Below w.heap.size w W6) := by subst hW6; exact B5.out.trans (((Below.refl _ w5).alloc (Nat.le_refl _) _).mono B5.out.size)
        unfold x1L Lt.v
        go_upto_region 40 with fail
        rw [← hW6, ← hJ]
        clear hW6 hJ
        have j0 := J6.out.c0
        have j1 := J6.out.c1
        have j2 := J6.out.c2
        have j3 := J6.out.c3
        unfold x1L at j0 j1 j2 j3
        dsimp only at j0 j1 j2 j3
        go_wp2_with (first | (go_at_call 10; refine Calls.mono (num_any _ _) ?_; rintro e w8 ⟨rfl, rfl⟩))
        go_ret
        exact ⟨rfl, B6.out⟩
end Go.Proofs.Ytnphdbmacccblaa
