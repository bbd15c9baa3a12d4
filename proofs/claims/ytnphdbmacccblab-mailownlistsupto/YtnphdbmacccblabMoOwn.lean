import Derived.Test.YtnphdbmacccblabMoUnt
namespace Go.Proofs.Ytnphdbmacccblab
open Go.RowKit
theorem Ow.look {w0 wr : World} {B m g cap : Nat} {hs : List Hd} (h : Ow w0 wr B m (.slice (some ⟨g, 0, none⟩) hs.length cap) hs) (j : Nat) (hj : j < hs.length) : LL wr hs[j].vL hs[j].L ∧ LL wr hs[j].vM hs[j].M ∧ LL wr hs[j].vP hs[j].L ∧ LL wr hs[j].vQ hs[j].M ∧ hs[j].L.length ≤ 1024 ∧ hs[j].M.length ≤ 1088 := by
  obtain ⟨F, G, h1, h2, h3, h4⟩ := h.ex
  obtain ⟨T, t1, t2, t3⟩ := h2.ex
  have t := t1 j hj
  exact ⟨t.l.ll, t.m.ll, t.p.ll, t.q.ll, t.ll, t.lm⟩
set_option maxHeartbeats 8000000 in
set_option maxRecDepth 100000 in
set_option linter.unusedSimpArgs false in
set_option linter.unusedVariables false in
theorem mailOwnLists_any (lim : Int) (ao : Option Addr) (bb oo cap : Nat) (ys : List MO) (w : World) (hN : SpAt w ao bb oo ys) (hy : ys.length ≤ 1048576) :
    Calls Try.prog 3 #[.int .i64 lim, .slice ao ys.length cap] w fun e w' => e = .returned (.bool true) ∧ Below w.heap.size w w' := by
  obtain ⟨WA, hWA⟩ : ∃ WA, WA = w.alloc (.cells #[.pointer none, .pointer none, .pointer none, .pointer none] 29) := ⟨_, rfl⟩
  obtain ⟨B, hB⟩ : ∃ B, B = w.heap.size := ⟨_, rfl⟩
  have HB := hide hB
  have A1 : Hid (BnB WA B (.pointer none) (.pointer none) (.pointer none) (.pointer none)) := by subst hWA; subst hB; exact heap_last w _
  have A2 : Hid (Below w.heap.size w WA ∧ WA.heap.size = w.heap.size + 1) := by subst hWA; exact ⟨(Below.refl _ w).alloc (Nat.le_refl _) _, by simp⟩
  have BG := hide (begins_any A1.out lim)
  have HN := hide hN
  obtain ⟨i0, hi0, hz0, hz1, hz2⟩ := info_parts4 infoHd
  have HI := hide (And.intro hi0 (And.intro hz0 (And.intro hz1 hz2)))
  clear hi0 hz0 hz1 hz2 hN
  go_enter Try.func3, Try.ntmps3
  go_wp2_with fail
  rw [← hWA, ← hB]
  clear hWA hB
  refine Calls.mono BG.out ?_
  rintro e w1 ⟨rfl, bn1, kp1⟩
  have O1 : Hid (Ow w w1 B 0 (.slice none 0 0) []) := by
    rw [A2.out.2] at bn1
    exact Ow.start bn1 HB.out (A2.out.1.trans ⟨kp1.os, kp1.tape, kp1.output, kp1.size, fun k hk => kp1.block k (by have := A2.out.2; omega) (by have := HB.out; omega)⟩)
  clear bn1 kp1 BG A1 A2
  have UN := hide (untouched_any lim ao bb oo cap ys w1 (HN.out.below O1.out.bl) hy)
  go_wp2_with fail
  refine Calls.mono UN.out ?_
  rintro e w1b ⟨rfl, b1b⟩
  have O1 := hide (O1.out.below b1b)
  clear b1b UN
  go_wp2_with fail
  go_loopw [7, 8] (fun vb vi wr => ∃ (q : Nat) (hs : List Hd), q ≤ ys.length ∧ vi = .int .i64 (q : Int) ∧ Ow w wr B q vb hs ∧ hs.length ≤ q) (fun _ vi _ => ys.length - (intOf vi).toNat)
  case atStart => exact ⟨0, [], Nat.zero_le _, rfl, O1.out, Nat.le_refl _⟩
  case round =>
    clear O1
    obtain ⟨q, hs, hq, rfl, aq, hl⟩ := hrel
    obtain ⟨ba, cb, hvb⟩ := aq.sl
    subst hvb
    have AQ0 := hide aq
    clear aq
    by_cases hql : q < ys.length
    case pos =>
      have hao := HN.out.at0 (by omega)
      subst hao
      have hqi : (q : Int) < (ys.length : Int) := by omega
      have bl : bb < w.heap.size := HN.out.lt (by omega)
      have e0 := (AQ0.out.bl.cell bl).trans (HN.out.c0 q hql)
      have e1 := (AQ0.out.bl.cell bl).trans (HN.out.c1 q hql)
      have e2 := (AQ0.out.bl.cell bl).trans (HN.out.c2 q hql)
      have e3 := (AQ0.out.bl.cell bl).trans (HN.out.c3 q hql)
      have e4 := (AQ0.out.bl.cell bl).trans (HN.out.c4 q hql)
      have FF := hide (HN.out.fit q hql)
      generalize ys[q] = y at *
      obtain ⟨yk, yp, yn, ym, yt⟩ := y
      dsimp only at e0 e1 e2 e3 e4
      obtain ⟨W1, hW1⟩ : ∃ W1, W1 = wr.alloc (.cells #[.int .i64 yk, .int .i64 yp, .int .i64 yn, .int .i64 ym, .string yt] 34) := ⟨_, rfl⟩
      obtain ⟨I, hI⟩ : ∃ I, I = wr.heap.size := ⟨_, rfl⟩
      have OQ : Hid (OpAt W1 I yk yp yn ym yt) := by subst hW1; subst hI; exact heap_last wr _
      have AQ : Hid (Ow w W1 B q (.slice ba hs.length cb) hs) := by subst hW1; exact AQ0.out.below ((Below.refl _ wr).alloc (Nat.le_refl _) _)
      go_upto_region 10 with fail
      rw [← hW1, ← hI]
      clear hW1 hI e0 e1 e2 e3 e4 bl AQ0
      have i1 := OQ.out.c1
      have PA := hide (place_any yp W1 FF.out.a1 FF.out.a2)
      have hjj := plN_lt yp
      generalize plN yp = jj at *
      go_wp2_with fail
      refine Calls.mono PA.out ?_
      rintro e w9 ⟨rfl, rfl⟩
      clear PA i1
      have k0 := OQ.out.c0
      go_upto_if 41 with fail
      go_cut [7] (fun v wx => ∃ hs2 : List Hd, Ow w wx B (q + 1) v hs2 ∧ hs2.length ≤ q + 1)
      case first =>
        by_cases hk : yk = 7
        case pos =>
          subst hk
          clear k0
          obtain ⟨pa, qa, L, cp, cq, hLL, FO, FD⟩ := AQ.out.fly (by omega) jj hjj
          have FO := hide (FO W1 (Below.refl _ _))
          have FD := hide FD
          have CQ := hide cq
          have BW := AQ.out.lt
          have hji : (jj : Int) < 2 := by omega
          have hjn : ¬ ((jj : Int) < 0) := by omega
          clear cq
          go_wp2_with fail
          refine Calls.mono FO.out ?_
          rintro e w2 ⟨sa, rfl, lz2, sa2, b2⟩
          have LZ2 := hide lz2
          have SA2 := hide sa2
          have B2 := hide b2
          have cq := (b2.cell (by exact BW)).trans CQ.out
          have FD := hide (FD.out w2 b2)
          clear lz2 sa2 b2 FO cp CQ
          go_wp2_with fail
          refine Calls.mono FD.out ?_
          rintro e w3 ⟨vd, rfl, ld3, b3⟩
          have LZ3 := hide (LZ2.out.kp (Kp.of_below b3 non) (fun _ _ f => f))
          have SM := hide (sameLetters_eq (LZ3.out.ls (T := fun _ => True) (fun _ _ => trivial)).ll ld3 (by omega))
          have B3 := hide (B2.out.trans (b3.mono B2.out.size))
          obtain ⟨bd, cd, hvd⟩ : ∃ bd cd, vd = .slice bd L.length cd := by obtain ⟨bd, _, cd, e1, _⟩ := ld3; exact ⟨bd, cd, e1⟩
          subst hvd
          clear ld3 b3 FD cq LZ2 B2
          go_wp2_with fail
          refine Calls.mono SM.out ?_
          rintro e w4 ⟨rfl, b4⟩
          have LZ4 := hide (LZ3.out.kp (Kp.of_below b4 non) (fun _ _ f => f))
          have B4 := hide (B3.out.trans (b4.mono B3.out.size))
          clear b4 SM LZ3 B3
          have MK := hide (marked_any LZ4.out rfl hLL ((q : Int) + 1) (by omega) (by omega))
          go_wp2_with fail
          refine Calls.mono MK.out ?_
          rintro e w5 ⟨x, rfl, hxl, hx, kx⟩
          have B5 : Hid (Below W1.heap.size W1 w5) := B4.out.trans ⟨kx.os, kx.tape, kx.output, kx.size, fun k hk => kx.block k (by have := B4.out.size; omega) (fun e => by have := SA2.out k e; omega)⟩
          have X5 : Hid (HdAt w5 (fun k => W1.heap.size ≤ k ∧ k < w5.heap.size) x) := hx.mono (fun k e => by
            rcases e with e | e
            · exact ⟨SA2.out k e, by have := LZ4.out.sb k e; have := kx.size; omega⟩
            · exact ⟨by have := B4.out.size; omega, e.2⟩)
          obtain ⟨vL, vM, vP, vQ, Lx, Mx⟩ := x
          obtain ⟨⟨a1, n1, c1, e1⟩, ⟨a2, n2, c2, e2⟩, ⟨a3, n3, c3, e3⟩, ⟨a4, n4, c4, e4⟩⟩ := hx.sl
          dsimp only at e1 e2 e3 e4 hxl ⊢
          subst e1
          subst e2
          subst e3
          subst e4
          clear hx kx hxl MK LZ4 B4 SA2 OQ
          obtain ⟨hi0, hz0, hz1, hz2⟩ := HI.out
          have RO : Hid (W1.ownsRow 0 40 4 (.slice ba hs.length cb) hs.length (hdc hs)) := by obtain ⟨F, G, _, h2, _⟩ := AQ.out.ex; exact h2.row
          have hm1 : hs.length + 1 ≤ maxLen := by unfold maxLen; omega
          have hm2 : (hs.length + 1) * 96 ≤ 140737488355328 := by omega
          obtain ⟨W6, hW6⟩ : ∃ W6, W6 = w5.alloc (.cells #[.slice a1 n1 c1, .slice a2 n2 c2, .slice a3 n3 c3, .slice a4 n4 c4] 40) := ⟨_, rfl⟩
          have B6 : Hid (Below W1.heap.size W1 W6 ∧ Below w5.heap.size w5 W6) := by subst hW6; exact ⟨B5.out.trans (((Below.refl _ w5).alloc (Nat.le_refl _) _).mono B5.out.size), (Below.refl _ w5).alloc (Nat.le_refl _) _⟩
          have N6 : Hid (∀ j u, (hdc [⟨.slice a1 n1 c1, .slice a2 n2 c2, .slice a3 n3 c3, .slice a4 n4 c4, Lx, Mx⟩])[j]? = some u → W6.cell? ((⟨w5.heap.size, 0, none⟩ : Addr).add j) = some u) := by subst hW6; exact hd_cells (heap_last w5 _)
          have S6 : Hid (HdAt W6 (fun k => W1.heap.size ≤ k ∧ k < W6.heap.size) ⟨.slice a1 n1 c1, .slice a2 n2 c2, .slice a3 n3 c3, .slice a4 n4 c4, Lx, Mx⟩) := (X5.out.kp (Kp.of_below B6.out.2 non) (fun _ _ f => f)).mono (fun k e => ⟨e.1, by have := B6.out.2.size; omega⟩)
          have ONE := hide (hd_one [⟨.slice a1 n1 c1, .slice a2 n2 c2, .slice a3 n3 c3, .slice a4 n4 c4, Lx, Mx⟩] (fun x hx => by simp at hx; subst hx; exact S6.out.sl))
          have RO6 := hide (own_kp RO.out (Kp.of_below B6.out.1 non) (fun _ _ f => f))
          go_wp2_with (at_builtin; rw [← hW6]; refine wpList_append_own_at _ rfl _ _ 32 rfl 0 40 i0 _ 4 96 Try.underlying32 hi0 hz0 hz1 hz2 rfl (by decide) _ _ _ rfl RO6.out ⟨w5.heap.size, 0, none⟩ 1 1 _ rfl rfl N6.out ONE.out hm1 hm2 (Nat.zero_le _) ?_; clear hW6; intro v7 w7 o7 g7 n7 a7; clear n7)
          obtain ⟨p7, k7⟩ := AQ.out.push B6.out.1 S6.out o7 g7 a7
          have P7 := hide (p7.up (show q ≤ q + 1 by omega))
          clear p7 k7 o7 g7 a7
          go_meet
          exact ⟨_, P7.out, by simp; omega⟩
        case neg =>
          have hkb : (yk == 7) = false := by simp [hk]
          have k1 := OQ.out.c1
          have k2 := OQ.out.c2
          have k3 := OQ.out.c3
          have k4 := OQ.out.c4
          have PY := hide (AQ.out.plays (by omega) yk yp yn ym yt FF.out.op)
          unfold opV at PY
          go_wp2_with fail
          refine Calls.mono PY.out ?_
          rintro e w2 ⟨rfl, aq2⟩
          have A2 := hide aq2
          clear k0 k1 k2 k3 k4 aq2 PY AQ OQ
          go_wp2_with fail
          go_meet
          exact ⟨hs, A2.out, by omega⟩
      case rest =>
      obtain ⟨hs2, aq2, hl2⟩ := hcut
      obtain ⟨ba, cb, hvb⟩ := aq2.sl
      subst hvb
      have AQ2 := hide aq2
      clear aq2 AQ OQ k0 FF hjj hl
      go_wp2_with fail
      go_loopw [12] (fun vi wx => ∃ (t : Nat), t ≤ hs2.length ∧ vi = .int .i64 (t : Int) ∧ Ow w wx B (q + 1) (.slice ba hs2.length cb) hs2) (fun vi _ => hs2.length - (intOf vi).toNat)
      case atStart => exact ⟨0, Nat.zero_le _, rfl, AQ2.out⟩
      case round =>
        clear AQ2
        obtain ⟨t, ht, rfl, aq⟩ := hrel
        have AQ := hide aq
        clear aq
        by_cases htl : t < hs2.length
        case pos =>
          obtain ⟨g, hg⟩ : ∃ g, ba = some ⟨g, 0, none⟩ := by
            obtain ⟨F, G, _, h2, _⟩ := AQ.out.ex
            obtain ⟨g, cap', hg⟩ := own_g h2.row (by omega)
            simp only [Value.slice.injEq] at hg
            exact ⟨g, hg.1⟩
          subst hg
          obtain ⟨c0, c1, c2, c3, _⟩ := AQ.out.at t htl
          have LS := hide (AQ.out.look t htl)
          generalize hs2[t] = y at *
          obtain ⟨vL, vM, vP, vQ, L, M⟩ := y
          dsimp only at c0 c1 c2 c3
          have LS : Hid (LL wr vL L ∧ LL wr vM M ∧ LL wr vP L ∧ LL wr vQ M ∧ L.length ≤ 1024 ∧ M.length ≤ 1088) := LS
          have hti : (t : Int) < (hs2.length : Int) := by omega
          go_upto_region 20 with fail
          go_quiet ((go_at_call 8; first | exact Calls.quiet_of (sameLetters_q (LS.out.1.below ⟨rfl, rfl, rfl, Nat.le_refl _, fun _ _ => rfl⟩) (LS.out.2.2.1.below ⟨rfl, rfl, rfl, Nat.le_refl _, fun _ _ => rfl⟩) (by have := LS.out.2.2.2.2.1; omega)) | exact Calls.quiet_of (sameLetters_q (LS.out.2.1.below ⟨rfl, rfl, rfl, Nat.le_refl _, fun _ _ => rfl⟩) (LS.out.2.2.2.1.below ⟨rfl, rfl, rfl, Nat.le_refl _, fun _ _ => rfl⟩) (by have := LS.out.2.2.2.2.2; omega))))
          have AD := hide (AQ.out.below (show Below wr.heap.size wr (wr.drewN nq) from ⟨rfl, rfl, rfl, Nat.le_refl _, fun _ _ => rfl⟩))
          generalize wr.drewN nq = W at *
          clear c0 c1 c2 c3 LS AQ
          go_wp2_with fail
          go_roundw
          case rel => exact ⟨t + 1, by omega, by go_num, AD.out⟩
          case measure => simp [intOf]; omega
        case neg =>
          obtain rfl : t = hs2.length := by omega
          go_wp2_with fail
          go_roundw
          case rel => exact ⟨q + 1, hs2, by omega, by go_num, AQ.out, hl2⟩
          case measure => simp [intOf]; omega
    case neg =>
      obtain rfl : q = ys.length := by omega
      clear hql HN
      have PY := hide (AQ0.out.plays (by omega) 7 0 0 0 ⟨#[]⟩ (fitA _ _ _ (by omega) (by omega) (by decide)))
      unfold opV at PY
      clear AQ0
      go_wp2_with fail
      refine Calls.mono PY.out ?_
      rintro e w3 ⟨rfl, aq3⟩
      have PY2 := hide (aq3.plays (by omega) 1 0 0 1 ⟨#[]⟩ (fitA _ _ _ (by omega) (by omega) (by decide)))
      unfold opV at PY2
      clear aq3 PY
      go_wp2_with fail
      refine Calls.mono PY2.out ?_
      rintro e w4 ⟨rfl, aq4⟩
      have PY3 := hide (aq4.plays (by omega) 7 0 0 0 ⟨#[]⟩ (fitA _ _ _ (by omega) (by omega) (by decide)))
      unfold opV at PY3
      clear aq4 PY2
      go_wp2_with fail
      refine Calls.mono PY3.out ?_
      rintro e w5 ⟨rfl, aq5⟩
      have BL := hide aq5.bl
      clear aq5 PY3
      go_wp2_with fail
      go_ret
      exact ⟨rfl, BL.out⟩
end Go.Proofs.Ytnphdbmacccblab
