import Derived.Test.YtnphdbmacccblabMoOw
namespace Go.Proofs.Ytnphdbmacccblab
open Go.RowKit
theorem fitA (a n : Int) (s : ByteArray) (ha : -100 ≤ a ∧ a < 100) (hn : n < 100) (hs : s.size ≤ 100) : OpFit a n s := ⟨by omega, by omega, by omega, by omega⟩
set_option maxHeartbeats 8000000 in
set_option maxRecDepth 100000 in
set_option linter.unusedSimpArgs false in
set_option linter.unusedVariables false in
theorem untouched_any (lim : Int) (ao : Option Addr) (bb oo cap : Nat) (ys : List MO) (w : World) (hN : SpAt w ao bb oo ys) (hy : ys.length ≤ 1048576) :
    Calls Try.prog 5 #[.int .i64 lim, .slice ao ys.length cap] w fun e w' => e = .returned (.bool true) ∧ Below w.heap.size w w' := by
  obtain ⟨WA, hWA⟩ : ∃ WA, WA = w.alloc (.cells #[.pointer none, .pointer none, .pointer none, .pointer none] 29) := ⟨_, rfl⟩
  obtain ⟨B, hB⟩ : ∃ B, B = w.heap.size := ⟨_, rfl⟩
  have HB := hide hB
  have A1 : Hid (BnB WA B (.pointer none) (.pointer none) (.pointer none) (.pointer none)) := by subst hWA; subst hB; exact heap_last w _
  have A2 : Hid (Below w.heap.size w WA ∧ WA.heap.size = w.heap.size + 1) := by subst hWA; exact ⟨(Below.refl _ w).alloc (Nat.le_refl _) _, by simp⟩
  have BG := hide (begins_any A1.out lim)
  have HN := hide hN
  obtain ⟨i0, hi0, hz0, hz1, hz2⟩ := info_parts4 infoHd
  have HI := hide (And.intro hi0 (And.intro hz0 (And.intro hz1 hz2)))
  clear hi0 hz0 hz1 hz2 hN
  go_enter Try.func5, Try.ntmps5
  go_wp2_with fail
  rw [← hWA, ← hB]
  clear hWA hB
  refine Calls.mono BG.out ?_
  rintro e w1 ⟨rfl, bn1, kp1⟩
  have O1 : Hid (Ow w w1 B 0 (.slice none 0 0) []) := by
    rw [A2.out.2] at bn1
    exact Ow.start bn1 HB.out (A2.out.1.trans ⟨kp1.os, kp1.tape, kp1.output, kp1.size, fun k hk => kp1.block k (by have := A2.out.2; omega) (by have := HB.out; omega)⟩)
  clear bn1 kp1 BG A1 A2
  go_wp2_with fail
  go_loopw [7, 8] (fun vb vi wr => ∃ (q : Nat) (hs : List Hd), q ≤ ys.length ∧ vi = .int .i64 (q : Int) ∧ Ow w wr B q vb hs ∧ hs.length ≤ 3 * q) (fun _ vi _ => ys.length - (intOf vi).toNat)
  case atStart => exact ⟨0, [], Nat.zero_le _, rfl, O1.out, Nat.le_refl _⟩
  case round =>
    clear O1
    obtain ⟨q, hs, hq, rfl, aq, hl⟩ := hrel
    obtain ⟨ba, cb, hvb⟩ := aq.sl
    subst hvb
    have AQ0 := hide aq
    clear aq
    by_cases hql : q < ys.length
    case pos =>
      have hao := HN.out.at0 (by omega)
      subst hao
      have hqi : (q : Int) < (ys.length : Int) := by omega
      have bl : bb < w.heap.size := HN.out.lt (by omega)
      have e0 := (AQ0.out.bl.cell bl).trans (HN.out.c0 q hql)
      have e1 := (AQ0.out.bl.cell bl).trans (HN.out.c1 q hql)
      have e2 := (AQ0.out.bl.cell bl).trans (HN.out.c2 q hql)
      have e3 := (AQ0.out.bl.cell bl).trans (HN.out.c3 q hql)
      have e4 := (AQ0.out.bl.cell bl).trans (HN.out.c4 q hql)
      have FF := hide (HN.out.fit q hql)
      generalize ys[q] = y at *
      obtain ⟨yk, yp, yn, ym, yt⟩ := y
      dsimp only at e0 e1 e2 e3 e4
      obtain ⟨W1, hW1⟩ : ∃ W1, W1 = wr.alloc (.cells #[.int .i64 yk, .int .i64 yp, .int .i64 yn, .int .i64 ym, .string yt] 34) := ⟨_, rfl⟩
      obtain ⟨I, hI⟩ : ∃ I, I = wr.heap.size := ⟨_, rfl⟩
      have O1 : Hid (OpAt W1 I yk yp yn ym yt) := by subst hW1; subst hI; exact heap_last wr _
      have AQ1 : Hid (Ow w W1 B q (.slice ba hs.length cb) hs) := by subst hW1; exact AQ0.out.below ((Below.refl _ wr).alloc (Nat.le_refl _) _)
      go_upto_region 10 with fail
      rw [← hW1, ← hI]
      clear hW1 hI e0 e1 e2 e3 e4 bl AQ0
      have i1 := O1.out.c1
      have PA := hide (place_any yp W1 FF.out.a1 FF.out.a2)
      have PJ := hide (plN_lt yp)
      generalize plN yp = j at *
      go_wp2_with fail
      refine Calls.mono PA.out ?_
      rintro e w9 ⟨rfl, rfl⟩
      clear PA i1
      go_wp2_with fail
      go_loopw [7, 10, 11] (fun vb va vk wr => ∃ (t j : Nat) (hs : List Hd), t ≤ 3 ∧ j < 2 ∧ vk = .int .i64 (t : Int) ∧ va = .int .i64 (j : Int) ∧ Ow w wr B q vb hs ∧ hs.length ≤ 3 * q + t ∧ OpAt wr I yk yp yn ym yt) (fun _ _ vk _ => 3 - (intOf vk).toNat)
      case atStart => exact ⟨0, j, hs, by omega, PJ.out, rfl, rfl, AQ1.out, by omega, O1.out⟩
      case round =>
        clear AQ1 O1 PJ
        rename Nat => j00
        clear hl
        obtain ⟨t, j, hs, ht, hj, rfl, rfl, aq, hl, oq⟩ := hrel
        obtain ⟨ba, cb, hvb⟩ := aq.sl
        subst hvb
        have AQ := hide aq
        have OQ := hide oq
        clear aq oq
        have k0 := OQ.out.c0
        go_upto_region 12 with fail
        go_cut [40] (fun v wx => v = .bool (decide (t < 3 ∧ yk = 7)) ∧ wr = wx)
        case first =>
          by_cases h1 : t < 3
          · have h1i : (t : Int) < 3 := by omega
            by_cases h2 : yk = 7
            · have E5 : Hid (decide (t < 3 ∧ yk = 7) = true) := decide_eq_true ⟨h1, h2⟩
              subst h2
              go_wp2_with fail
              go_meet
              exact ⟨by rw [E5.out], rfl⟩
            · have E5 : Hid (decide (t < 3 ∧ yk = 7) = false) := decide_eq_false (fun e => h2 e.2)
              have h2b : (yk == 7) = false := by simp [h2]
              go_wp2_with fail
              go_meet
              exact ⟨by rw [E5.out], rfl⟩
          · have h1i : ¬ (t : Int) < 3 := by omega
            have E5 : Hid (decide (t < 3 ∧ yk = 7) = false) := decide_eq_false (fun e => h1 e.1)
            go_wp2_with fail
            go_meet
            exact ⟨by rw [E5.out], rfl⟩
        case rest =>
        obtain ⟨rfl, rfl⟩ := hcut
        by_cases hgo : t < 3 ∧ yk = 7
        case pos =>
          obtain ⟨ht3, rfl⟩ := hgo
          have hd : decide (t < 3 ∧ (7 : Int) = 7) = true := decide_eq_true ⟨ht3, rfl⟩
          rw [hd]
          clear hd k0
          obtain ⟨jj, hjj, hjd⟩ : ∃ jj : Nat, jj < 2 ∧ (t = 2 ∧ (jj : Int) = 1 - (j : Int) ∨ ¬ t = 2 ∧ jj = j) := by
            by_cases h : t = 2
            · exact ⟨1 - j, by omega, Or.inl ⟨h, by omega⟩⟩
            · exact ⟨j, hj, Or.inr ⟨h, rfl⟩⟩
          have HJD := hide hjd
          clear hjd
          go_upto_if 44 with fail
          go_cut [10] (fun v wx => v = .int .i64 (jj : Int) ∧ wr = wx)
          case first =>
            rcases HJD.out with ⟨h1, h2⟩ | ⟨h1, h2⟩
            · subst h1
              have H2 := hide h2
              have x1 : wrap64 (1 - (j : Int)) = 1 - (j : Int) := wrap_in (by omega) (by omega)
              clear h2
              go_wp2_with fail
              go_meet
              exact ⟨by rw [H2.out], rfl⟩
            · subst h2
              have h1i : ¬ (t : Int) = 2 := by omega
              have h1b : ((t : Int) == 2) = false := by simp; omega
              go_wp2_with fail
              go_meet
              exact ⟨rfl, rfl⟩
          case rest =>
          obtain ⟨rfl, rfl⟩ := hcut
          clear HJD
          obtain ⟨pa, qa, L, cp, cq, hLL, FO, FD⟩ := AQ.out.fly (by omega) jj hjj
          have FO := hide (FO wr (Below.refl _ _))
          have FD := hide FD
          have CQ := hide cq
          have BW := AQ.out.lt
          have hji : (jj : Int) < 2 := by omega
          have hjn : ¬ ((jj : Int) < 0) := by omega
          clear cq
          go_wp2_with fail
          refine Calls.mono FO.out ?_
          rintro e w2 ⟨sa, rfl, lz2, sa2, b2⟩
          have LZ2 := hide lz2
          have SA2 := hide sa2
          have B2 := hide b2
          have cq := (b2.cell (by exact BW)).trans CQ.out
          have FD := hide (FD.out w2 b2)
          clear lz2 sa2 b2 FO cp CQ
          go_wp2_with fail
          refine Calls.mono FD.out ?_
          rintro e w3 ⟨vd, rfl, ld3, b3⟩
          have LZ3 := hide (LZ2.out.kp (Kp.of_below b3 non) (fun _ _ f => f))
          have SM := hide (sameLetters_eq (LZ3.out.ls (T := fun _ => True) (fun _ _ => trivial)).ll ld3 (by omega))
          have B3 := hide (B2.out.trans (b3.mono B2.out.size))
          obtain ⟨bd, cd, hvd⟩ : ∃ bd cd, vd = .slice bd L.length cd := by obtain ⟨bd, _, cd, e1, _⟩ := ld3; exact ⟨bd, cd, e1⟩
          subst hvd
          clear ld3 b3 FD cq LZ2 B2
          go_wp2_with fail
          refine Calls.mono SM.out ?_
          rintro e w4 ⟨rfl, b4⟩
          have LZ4 := hide (LZ3.out.kp (Kp.of_below b4 non) (fun _ _ f => f))
          have B4 := hide (B3.out.trans (b4.mono B3.out.size))
          clear b4 SM LZ3 B3
          have LE := hide (letters_any (LZ4.out.ls (T := fun _ => True) (fun _ _ => trivial)).ll (by omega))
          go_wp2_with fail
          refine Calls.mono LE.out ?_
          rintro e w5 ⟨v5, rfl, o5, b5⟩
          have LZ5 := hide (LZ4.out.kp (Kp.of_below b5 non) (fun _ _ f => f))
          have B5 := hide (B4.out.trans (b5.mono B4.out.size))
          obtain ⟨b5', c5, hv5⟩ := own_sl o5
          subst hv5
          have X5 : Hid (HdAt w5 (fun k => wr.heap.size ≤ k ∧ k < w5.heap.size) ⟨.slice sa L.length L.length, .slice none 0 0, .slice b5' L.length c5, .slice none 0 0, L, []⟩) :=
            ⟨LZ5.out.ls (fun k e => ⟨SA2.out k e, LZ5.out.sb k e⟩), Rw.nil _ _, Rw.of o5 (fun k h1 h2 => ⟨by have := B4.out.size; omega, h2⟩), Rw.nil _ _, hLL, by simp⟩
          have O5 : Hid (OpAt w5 I 7 yp yn ym yt) := OQ.out.kp (Kp.of_below B5.out non) (fun f => f)
          clear o5 b5 LE LZ4 B4 LZ5 SA2
          obtain ⟨hi0, hz0, hz1, hz2⟩ := HI.out
          have RO : Hid (wr.ownsRow 0 40 4 (.slice ba hs.length cb) hs.length (hdc hs)) := by obtain ⟨F, G, _, h2, _⟩ := AQ.out.ex; exact h2.row
          have RO := hide ((own_kp RO.out (Kp.of_below B5.out non) (fun _ _ f => f)))
          have hm1 : hs.length + 1 ≤ maxLen := by unfold maxLen; omega
          have hm2 : (hs.length + 1) * 96 ≤ 140737488355328 := by omega
          obtain ⟨W6, hW6⟩ : ∃ W6, W6 = w5.alloc (.cells #[.slice sa L.length L.length, .slice none 0 0, .slice b5' L.length c5, .slice none 0 0] 40) := ⟨_, rfl⟩
          have B6 : Hid (Below wr.heap.size wr W6 ∧ Below w5.heap.size w5 W6) := by subst hW6; exact ⟨B5.out.trans (((Below.refl _ w5).alloc (Nat.le_refl _) _).mono B5.out.size), (Below.refl _ w5).alloc (Nat.le_refl _) _⟩
          have N6 : Hid (∀ j u, (hdc [⟨.slice sa L.length L.length, .slice none 0 0, .slice b5' L.length c5, .slice none 0 0, L, []⟩])[j]? = some u → W6.cell? ((⟨w5.heap.size, 0, none⟩ : Addr).add j) = some u) := by subst hW6; exact hd_cells (heap_last w5 _)
          have S6 : Hid (HdAt W6 (fun k => wr.heap.size ≤ k ∧ k < W6.heap.size) ⟨.slice sa L.length L.length, .slice none 0 0, .slice b5' L.length c5, .slice none 0 0, L, []⟩) := (X5.out.kp (Kp.of_below B6.out.2 non) (fun _ _ f => f)).mono (fun k e => ⟨e.1, by have := B6.out.2.size; omega⟩)
          have ONE := hide (hd_one [⟨.slice sa L.length L.length, .slice none 0 0, .slice b5' L.length c5, .slice none 0 0, L, []⟩] (fun x hx => by simp at hx; subst hx; exact S6.out.sl))
          have RO6 := hide (own_kp RO.out (Kp.of_below B6.out.2 non) (fun _ _ f => f))
          have O6 : Hid (OpAt W6 I 7 yp yn ym yt) := O5.out.kp (Kp.of_below B6.out.2 non) (fun f => f)
          have SZ6 : Hid (0 ≤ W6.heap.size) := Nat.zero_le _
          go_wp2_with (at_builtin; rw [← hW6]; refine wpList_append_own_at _ rfl _ _ 32 rfl 0 40 i0 _ 4 96 Try.underlying32 hi0 hz0 hz1 hz2 rfl (by decide) _ _ _ rfl RO6.out ⟨w5.heap.size, 0, none⟩ 1 1 _ rfl rfl N6.out ONE.out hm1 hm2 (Nat.zero_le _) ?_; clear hW6; intro v7 w7 o7 g7 n7 a7; clear n7)
          obtain ⟨p7, k7⟩ := AQ.out.push B6.out.1 S6.out o7 g7 a7
          have O7 : Hid (OpAt w7 I 7 yp yn ym yt) := OQ.out.kp k7 (AQ.out.ne OQ.out (by decide))
          go_roundw
          case rel => exact ⟨t + 1, jj, _, by omega, hjj, by go_num, rfl, p7, by simp; omega, O7.out⟩
          case measure => simp [intOf]; omega
        case neg =>
          have hd : decide (t < 3 ∧ yk = 7) = false := decide_eq_false hgo
          rw [hd]
          clear hd hgo
          have k1 := OQ.out.c1
          have k2 := OQ.out.c2
          have k3 := OQ.out.c3
          have k4 := OQ.out.c4
          have PY := hide (AQ.out.plays (by omega) yk yp yn ym yt FF.out.op)
          unfold opV at PY
          go_wp2_with fail
          refine Calls.mono PY.out ?_
          rintro e w2 ⟨rfl, aq2⟩
          have ST := hide (aq2.still (by omega))
          clear k0 k1 k2 k3 k4 aq2 PY AQ OQ
          go_wp2_with fail
          refine Calls.mono ST.out ?_
          rintro e w3 ⟨rfl, aq3⟩
          have A3 := hide aq3
          clear aq3 ST
          go_wp2_with fail
          go_roundw
          case rel => exact ⟨q + 1, hs, by omega, by go_num, A3.out, by omega⟩
          case measure => simp [intOf]; omega
    case neg =>
      obtain rfl : q = ys.length := by omega
      clear hql HN
      obtain ⟨n, hn⟩ : ∃ n, hs.length = n := ⟨_, rfl⟩
      rw [hn] at AQ0 hl ⊢
      go_wp2_with fail
      go_loopw [13] (fun vi wr => ∃ (i : Nat) (hs : List Hd), i ≤ n ∧ vi = .int .i64 (i : Int) ∧ hs.length = n ∧ Ow w wr B ys.length (.slice ba n cb) hs) (fun vi _ => n - (intOf vi).toNat)
      case atStart => exact ⟨0, hs, Nat.zero_le _, rfl, hn, AQ0.out⟩
      case round =>
        clear AQ0 hn
        obtain ⟨i, hs, hi, rfl, hn, aq⟩ := hrel
        have AQ := hide aq
        clear aq
        by_cases hin : i < n
        case pos =>
          have hii : (i : Int) < (n : Int) := by omega
          obtain ⟨g, hg⟩ : ∃ g, ba = some ⟨g, 0, none⟩ := by
            obtain ⟨F, G, _, h2, _⟩ := AQ.out.ex
            obtain ⟨g, cap', hg⟩ := own_g h2.row (by omega)
            simp only [Value.slice.injEq] at hg
            exact ⟨g, hg.1⟩
          subst hg
          have AT : Hid (Ow w wr B ys.length (.slice (some ⟨g, 0, none⟩) hs.length cb) hs) := by rw [hn]; exact AQ.out
          obtain ⟨c0, c1, c2, c3, sa, hv, hL, hz, hg⟩ := AT.out.at i (by omega)
          obtain ⟨_, cc, hcc⟩ := AT.out.fz 0
          rw [hv] at c0
          have MK := hide (marked_any hz rfl hL ((i : Int) + 1) (by omega) (by omega))
          have C0 := hide c0
          have C1 := hide c1
          have C2 := hide c2
          have C3 := hide c3
          have HC := hide hcc
          have HG := hide hg
          have HV := hide hv
          clear c1 c2 c3 hcc hg hv hz
          go_wp2_with fail
          refine Calls.mono MK.out ?_
          rintro e w2 ⟨x, rfl, hxl, hx, kx⟩
          have hb2 := (kx.block g (blk_lt HC.out) HG.out).trans HC.out
          have d0 := (World.cell?_of_block (kx.block g (blk_lt HC.out) HG.out)).trans C0.out
          have d1 := (World.cell?_of_block (kx.block g (blk_lt HC.out) HG.out)).trans C1.out
          have d2 := (World.cell?_of_block (kx.block g (blk_lt HC.out) HG.out)).trans C2.out
          have d3 := (World.cell?_of_block (kx.block g (blk_lt HC.out) HG.out)).trans C3.out
          have z0 := lt_fz hb2 (i * 4)
          have z1 := lt_fz hb2 (i * 4 + 1)
          have z2 := lt_fz hb2 (i * 4 + 2)
          have z3 := lt_fz hb2 (i * 4 + 3)
          have T2 := hide (AT.out.turn i (by omega) HV.out kx hx)
          rw [hn] at T2
          obtain ⟨⟨a1, n1, c1, e1⟩, ⟨a2, n2, c2, e2⟩, ⟨a3, n3, c3, e3⟩, ⟨a4, n4, c4, e4⟩⟩ := hx.sl
          rw [e1, e2, e3, e4] at T2
          have HX : Hid ((hs.set i x).length = n) := by show _ = _; rw [List.length_set]; exact hn
          generalize hs.set i x = hs2 at *
          rw [e1, e2, e3, e4]
          clear hb2 hx kx hxl e1 e2 e3 e4 MK c0 C0 C1 C2 C3 HC HG HV AT AQ
          go_wp2_with fail
          go_roundw
          case rel => exact ⟨i + 1, hs2, by omega, by go_num, HX.out, T2.out⟩
          case measure => simp [intOf]; omega
        case neg =>
          obtain rfl : n = i := by omega
          clear hin
          have ST := hide (AQ.out.still (by omega))
          go_wp2_with fail
          refine Calls.mono ST.out ?_
          rintro e w2 ⟨rfl, aq2⟩
          have PY := hide (aq2.plays (by omega) 7 0 0 0 ⟨#[]⟩ (fitA _ _ _ (by omega) (by omega) (by decide)))
          unfold opV at PY
          clear aq2 ST AQ
          go_wp2_with fail
          refine Calls.mono PY.out ?_
          rintro e w3 ⟨rfl, aq3⟩
          have PY2 := hide (aq3.plays (by omega) 7 1 0 0 ⟨#[]⟩ (fitA _ _ _ (by omega) (by omega) (by decide)))
          unfold opV at PY2
          clear aq3 PY
          go_wp2_with fail
          refine Calls.mono PY2.out ?_
          rintro e w4 ⟨rfl, aq4⟩
          have ST2 := hide (aq4.still (by omega))
          clear aq4 PY2
          go_wp2_with fail
          refine Calls.mono ST2.out ?_
          rintro e w5 ⟨rfl, aq5⟩
          have BL := hide aq5.bl
          clear aq5 ST2
          go_wp2_with fail
          go_ret
          exact ⟨rfl, BL.out⟩
end Go.Proofs.Ytnphdbmacccblab
