import Derived.Test.YtnphdbmacccblaaMhStep
import Derived.Test.YtnphdbmacccblaaMbLaws
namespace Go.Proofs.Ytnphdbmacccblaa
open Go.RowKit
def limH (lim : Int) : Int := if lim < 1 ∨ 1024 < lim then 1024 else lim
theorem limH_ok (lim : Int) : limOk (limH lim) := by
  unfold limH limOk
  split <;> omega
/-- the mail and the book, so far -/
structure Hn (w0 wr : World) (R Q m : Nat) (d : DS) : Prop where
  tb : ∃ S, Tb wr S R Q d d.A ∧ ∀ k, S k → w0.heap.size ≤ k
  gd : DGood d
  id : IdsOk d.A
  la : d.A.length ≤ m
  lt : d.T.length ≤ m
  bl : Below w0.heap.size w0 wr
theorem Hn.fit {w0 wr : World} {R Q m : Nat} {d : DS} (h : Hn w0 wr R Q m d) (hm : m ≤ 3298534883328) : DFit d := ⟨Nat.le_trans h.la hm, Nat.le_trans h.lt hm⟩
theorem Hn.below {w0 wr w' : World} {R Q m : Nat} {d : DS} (h : Hn w0 wr R Q m d) (hb : Below wr.heap.size wr w') : Hn w0 w' R Q m d := by
  obtain ⟨S, t, s⟩ := h.tb
  exact ⟨⟨S, t.below hb, s⟩, h.gd, h.id, h.la, h.lt, h.bl.trans (hb.mono h.bl.size)⟩
theorem Hn.step {w0 wr : World} {R Q m : Nat} {d : DS} (h : Hn w0 wr R Q m d) (hm : m ≤ 3298534883328) (k a n mm : Int) (s : ByteArray) (hf : OpFit a n s) :
    Calls Try.prog 19 #[.pointer (some ⟨Q, 0, none⟩), .pointer (some ⟨R, 0, none⟩), opV k a n mm s] wr fun e w' => e = .returned (.bool true) ∧ Hn w0 w' R Q (m + 1) (stpD d k n mm s) := by
  obtain ⟨S, t, hs⟩ := h.tb
  refine (step_any t h.gd (h.fit hm) h.id k a n mm s hf).mono ?_
  rintro e w' ⟨rfl, S', t', k', n'⟩
  obtain ⟨l1, l2⟩ := stp_len d k n mm s
  refine ⟨rfl, ⟨S', t', fun q e => ?_⟩, stp_good h.gd _ _ _ _, stp_ids h.id _ _ _ _, by have := h.la; omega, by have := h.lt; omega, h.bl.trans ⟨k'.os, k'.tape, k'.output, k'.size, fun q hq => k'.block q (by have := h.bl.size; omega) (fun e => by have := hs q e; omega)⟩⟩
  rcases n' q e with a | a
  · exact hs q a
  · have := h.bl.size
    omega
theorem Hn.sent {w0 wr : World} {R Q m : Nat} {d : DS} (h : Hn w0 wr R Q m d) : Calls Try.prog 20 #[.pointer (some ⟨R, 0, none⟩)] wr fun e w' => e = .returned (.int .i64 (d.A.length : Int)) ∧ wr = w' := by
  obtain ⟨S, t, _⟩ := h.tb
  exact b_sent t h.gd
theorem Hn.count {w0 wr : World} {R Q m : Nat} {d : DS} (h : Hn w0 wr R Q m d) : Calls Try.prog 13 #[.pointer (some ⟨R, 0, none⟩)] wr fun e w' => e = .returned (.int .i64 ((live d.A).length : Int)) ∧ wr = w' := by
  obtain ⟨S, t, _⟩ := h.tb
  exact b_count t h.gd
theorem Hn.flying {w0 wr : World} {R Q m : Nat} {d : DS} (h : Hn w0 wr R Q m d) : Calls Try.prog 23 #[.pointer (some ⟨R, 0, none⟩)] wr fun e w' => ∃ v, e = .returned v ∧ LL w' v (live d.A) ∧ Below wr.heap.size wr w' := by
  obtain ⟨S, t, _⟩ := h.tb
  exact b_flying t h.gd
theorem Hn.left {w0 wr : World} {R Q m : Nat} {d : DS} (h : Hn w0 wr R Q m d) (hm : m ≤ 3298534883328) : Calls Try.prog 21 #[.pointer (some ⟨Q, 0, none⟩)] wr fun e w' => ∃ v, e = .returned v ∧ (∃ ba cap, v = .slice ba (live d.A).length cap) ∧ LL w' v (live d.A) ∧ Below wr.heap.size wr w' := by
  obtain ⟨S, t, _⟩ := h.tb
  refine (left_all t (h.fit hm).a).mono ?_
  rintro e w' ⟨v, rfl, ho, hb⟩
  exact ⟨v, rfl, own_sl ho, LL.of_own ho, hb⟩
theorem Hn.book {w0 wr : World} {R Q m : Nat} {d : DS} (h : Hn w0 wr R Q m d) : ∃ ba cap, wr.cell? ⟨Q, 0, none⟩ = some (.slice ba d.A.length cap) := by
  obtain ⟨S, ⟨S1, S2, n, _, _, ⟨vA, vG, hb⟩, _⟩, _⟩ := h.tb
  obtain ⟨ba, cap, e⟩ := own_sl hb.rA
  rw [List.length_map] at e
  exact ⟨ba, cap, by rw [← e]; exact hb.c0⟩
theorem first_ok {lim : Int} (h : limOk lim) : (stpD ⟨lim, [], []⟩ 1 1 2 ⟨#[102, 105, 114, 115, 116]⟩).A.length = 1 := by
  have h1 := h.1
  have e : sndE ((⟨lim, [], []⟩ : DS).st 0) 1 2 = 0 := by
    unfold sndE
    rw [if_pos (by decide), if_neg (by simp [DS.st, cutC, cutF]), if_neg (by show ¬ lim ≤ ((0 : Nat) : Int); omega)]
  simp only [stpD, if_true, sndD]
  rw [if_pos e]
  rfl
set_option maxHeartbeats 8000000 in
set_option maxRecDepth 100000 in
set_option linter.unusedSimpArgs false in
set_option linter.unusedVariables false in
theorem mailHonest_any (lim : Int) (ao : Option Addr) (b o cap : Nat) (ys : List MO) (w : World) (hN : SpAt w ao b o ys) :
    Calls Try.prog 5 #[.int .i64 lim, .slice ao ys.length cap] w fun e w' => e = .returned (.bool true) ∧ Below w.heap.size w w' := by
  have HN := hide hN
  have hlen := hN.len
  clear hN
  obtain ⟨L, hL⟩ : ∃ L, limH lim = L := ⟨_, rfl⟩
  have LO : Hid (limOk L) := by rw [← hL]; exact limH_ok lim
  have NW := hide (new_any L w LO.out)
  have hor : (lim < 1 ∧ L = 1024) ∨ (1 ≤ lim ∧ 1024 < lim ∧ L = 1024) ∨ (1 ≤ lim ∧ lim ≤ 1024 ∧ L = lim) := by unfold limH at hL; split at hL <;> omega
  clear hL
  go_enter Try.func5, Try.ntmps5
  go_upto_region 1 with fail
  go_cut [17] (fun v wx => v = .bool (decide (lim < 1 ∨ 1024 < lim)) ∧ w = wx)
  case first =>
    by_cases h0 : lim < 1
    · go_wp2_with fail
      go_meet
      exact ⟨by simp <;> omega, rfl⟩
    · go_wp2_with fail
      go_meet
      exact ⟨by simp <;> omega, rfl⟩
  case rest =>
  obtain ⟨rfl, rfl⟩ := hcut
  go_upto_if 17 with fail
  go_cut [0] (fun v wx => v = .int .i64 L ∧ w = wx)
  case first =>
    have HOR := hide hor
    by_cases h0 : lim < 1 ∨ 1024 < lim
    · clear hor
      go_wp2_with fail
      go_meet
      exact ⟨by have := HOR.out; congr 1; omega, rfl⟩
    · clear hor
      go_wp2_with fail
      go_meet
      exact ⟨by have := HOR.out; congr 1; omega, rfl⟩
  case rest =>
  obtain ⟨rfl, rfl⟩ := hcut
  clear hor
  go_wp2_with fail
  refine Calls.mono NW.out ?_
  rintro e w1 ⟨rfl, S1, M, v, m1, b1, n1⟩
  obtain ⟨R, hR⟩ : ∃ R, R = w.heap.size + 1 := ⟨_, rfl⟩
  rw [← hR] at m1 ⊢
  clear hR
  have M1 := hide m1
  have B1 := hide b1
  have N1 := hide n1
  clear m1 b1 n1 NW
  obtain ⟨W2, hW2⟩ : ∃ W2, W2 = w1.alloc (.cells #[.slice none 0 0, .slice none 0 0] 48) := ⟨_, rfl⟩
  obtain ⟨Q, hQ⟩ : ∃ Q, Q = w1.heap.size := ⟨_, rfl⟩
  have H2 : Hid (Hn w W2 R Q 0 ⟨L, [], []⟩) := by
    have hb : Below w1.heap.size w1 W2 := by subst hW2; exact (Below.refl _ w1).alloc (Nat.le_refl _) _
    have hl : W2.heap[Q]? = some (.cells #[.slice none 0 0, .slice none 0 0] 48) := by subst hW2; subst hQ; exact heap_last w1 _
    refine ⟨⟨fun k => S1 k ∨ k = Q, ⟨S1, fun k => k = Q, 0, ⟨M, v, ?_⟩, Nat.le_refl _, ⟨_, _, hl, ⟨rfl, .inl ⟨rfl, rfl⟩⟩, ⟨rfl, .inl ⟨rfl, rfl⟩⟩, rfl, fun k e => by simp [Value.ownBlock] at e, fun k e => by simp [Value.ownBlock] at e, fun k e => by subst e; exact blk_lt hl⟩, fun k e e2 => by have := M1.out.sb k e; omega, fun k => Iff.rfl⟩, ?_⟩, good_new LO.out, fun k hk => by simp at hk, Nat.le_refl _, Nat.le_refl _, B1.out.trans (hb.mono B1.out.size)⟩
    · show MlX W2 S1 R M v L 0 [] 0 (cutC [])
      rw [cutC_nil]
      exact M1.out.below hb
    · rintro k (e | e)
      · exact N1.out k e
      · have := B1.out.size; omega
  clear M1 B1 N1
  have ST := hide (H2.out.step (by omega) 1 0 1 2 ⟨#[102, 105, 114, 115, 116]⟩ (fit0 _ _ (by omega) (by decide)))
  unfold opV at ST
  have F1 := hide (first_ok LO.out)
  generalize stpD ⟨L, [], []⟩ 1 1 2 ⟨#[102, 105, 114, 115, 116]⟩ = d1 at *
  go_upto_region 7 with (first | (go_at_call 10; refine Calls.mono (num_any _ _) ?_; rintro e w8 ⟨rfl, rfl⟩))
  rw [← hW2, ← hQ]
  clear hW2 hQ
  go_wp2_with fail
  refine Calls.mono ST.out ?_
  rintro e w3 ⟨rfl, h3⟩
  obtain ⟨ba, capb, hbk⟩ := h3.book
  rw [F1.out] at hbk
  have H3 := hide h3
  clear h3 ST H2
  go_wp2_with fail
  clear hbk
  go_loopw [9] (fun vi wr => ∃ (q : Nat) (d : DS), q ≤ ys.length ∧ vi = .int .i64 (q : Int) ∧ Hn w wr R Q (q + 1) d) (fun vi _ => ys.length - (intOf vi).toNat)
  case atStart => exact ⟨0, d1, Nat.zero_le _, rfl, H3.out⟩
  case round =>
    clear H3
    obtain ⟨q, d, hq, rfl, hp⟩ := hrel
    have P0 := hide hp
    clear hp
    by_cases hql : q < ys.length
    case pos =>
      have hao := HN.out.at0 (by omega)
      subst hao
      have hqi : (q : Int) < (ys.length : Int) := by omega
      have bl : b < w.heap.size := HN.out.lt (by omega)
      have SC : Hid (∀ X : World, Below w.heap.size w X → X.cell? ⟨b, o + q * 5, none⟩ = some (.int .i64 ys[q].kind)) := fun X hX => (hX.cell bl).trans (HN.out.c0 q hql)
      have e0 := (P0.out.bl.cell bl).trans (HN.out.c0 q hql)
      have e1 := (P0.out.bl.cell bl).trans (HN.out.c1 q hql)
      have e2 := (P0.out.bl.cell bl).trans (HN.out.c2 q hql)
      have e3 := (P0.out.bl.cell bl).trans (HN.out.c3 q hql)
      have e4 := (P0.out.bl.cell bl).trans (HN.out.c4 q hql)
      have ff := HN.out.fit q hql
      generalize ys[q] = y at *
      obtain ⟨yk, yp, yn, ym, yt⟩ := y
      dsimp only at e0 e1 e2 e3 e4 SC
      have PY := hide (P0.out.step (by omega) yk yp yn ym yt ff.op)
      unfold opV at PY
      clear ff bl
      generalize stpD d yk yn ym yt = d2 at *
      go_wp2_with fail
      refine Calls.mono PY.out ?_
      rintro e w4 ⟨rfl, h4⟩
      clear e0 e1 e2 e3 e4 PY P0
      have H4 := hide (h4.below (show Below w4.heap.size w4 w4.drew from ⟨rfl, rfl, rfl, Nat.le_refl _, fun _ _ => rfl⟩))
      clear h4
      obtain ⟨bb, capq, hbk⟩ := H4.out.book
      have SE := hide H4.out.sent
      have HBK := hide hbk
      clear hbk
      go_upto_region 14 with fail
      refine wp_region_held_drew (S := fun X => X.cell? ⟨Q, 0, none⟩ = some (.slice bb d2.A.length capq)) (by kernel_rfl) HBK.out (fun hHeld => ?_)
      refine wpAnyH_take (i := 0) (v := (.bool true)) rfl (by kernel_rfl) (by kernel_rfl) (by kernel_rfl) (fun _ _ _ h => h) (Or.inl ⟨by kernel_rfl, ?_⟩) (by assumption) ?_
      · intro w' hSw
        (try dsimp only at hSw)
        go_simp
      (try simp only [Act.put, List.setIfInBounds_toArray, List.set_cons_zero, List.set_cons_succ])
      refine wpAnyH_take (i := 1) (v := (.bool false)) rfl (by kernel_rfl) (by kernel_rfl) (by kernel_rfl) (fun _ _ _ h => h) (Or.inl ⟨by kernel_rfl, ?_⟩) (by assumption) ?_
      · intro w' hSw
        (try dsimp only at hSw)
        go_simp
      (try simp only [Act.put, List.setIfInBounds_toArray, List.set_cons_zero, List.set_cons_succ])
      refine wpAnyH_take (i := 2) (v := (.bool false)) rfl (by kernel_rfl) (by kernel_rfl) (by kernel_rfl) (fun _ _ _ h => h) (Or.inl ⟨by kernel_rfl, ?_⟩) (by assumption) ?_
      · intro w' hSw
        (try dsimp only at hSw)
        go_simp
      (try simp only [Act.put, List.setIfInBounds_toArray, List.set_cons_zero, List.set_cons_succ])
      refine wpAnyH_take (i := 3) (v := (.pointer (some ⟨R, 0, none⟩))) rfl (by kernel_rfl) (by kernel_rfl) (by kernel_rfl) (fun _ _ _ h => h) (Or.inl ⟨by kernel_rfl, ?_⟩) (by assumption) ?_
      · intro w' hSw
        (try dsimp only at hSw)
        go_simp
      (try simp only [Act.put, List.setIfInBounds_toArray, List.set_cons_zero, List.set_cons_succ])
      refine wpAnyH_take (i := 5) (v := (.pointer (some ⟨Q, 0, none⟩))) rfl (by kernel_rfl) (by kernel_rfl) (by kernel_rfl) (fun _ _ _ h => h) (Or.inl ⟨by kernel_rfl, ?_⟩) (by assumption) ?_
      · intro w' hSw
        (try dsimp only at hSw)
        go_simp
      (try simp only [Act.put, List.setIfInBounds_toArray, List.set_cons_zero, List.set_cons_succ])
      refine wpAnyH_take (i := 6) (v := (.pointer (some ⟨Q, 0, none⟩))) rfl (by kernel_rfl) (by kernel_rfl) (by kernel_rfl) (fun _ _ _ h => h) (Or.inl ⟨by kernel_rfl, ?_⟩) (by assumption) ?_
      · intro w' hSw
        (try dsimp only at hSw)
        go_simp
      (try simp only [Act.put, List.setIfInBounds_toArray, List.set_cons_zero, List.set_cons_succ])
      refine wpAnyH_take (i := 7) (v := (.pointer (some ⟨Q, 0, none⟩))) rfl (by kernel_rfl) (by kernel_rfl) (by kernel_rfl) (fun _ _ _ h => h) (Or.inl ⟨by kernel_rfl, ?_⟩) (by assumption) ?_
      · intro w' hSw
        (try dsimp only at hSw)
        go_simp
      (try simp only [Act.put, List.setIfInBounds_toArray, List.set_cons_zero, List.set_cons_succ])
      refine wpAnyH_take (i := 8) (v := (.slice bb d2.A.length capq)) rfl (by kernel_rfl) (by kernel_rfl) (by kernel_rfl) (fun _ _ _ h => h) (Or.inl ⟨by kernel_rfl, ?_⟩) (by assumption) ?_
      · intro w' hSw
        (try dsimp only at hSw)
        go_simp
      (try simp only [Act.put, List.setIfInBounds_toArray, List.set_cons_zero, List.set_cons_succ])
      refine wpAnyH_take (i := 9) (v := (.int .i64 (d2.A.length : Int))) rfl (by kernel_rfl) (by kernel_rfl) (by kernel_rfl) (fun _ _ _ h => h) (Or.inl ⟨by kernel_rfl, ?_⟩) (by assumption) ?_
      · intro w' hSw
        (try dsimp only at hSw)
        go_simp
      (try simp only [Act.put, List.setIfInBounds_toArray, List.set_cons_zero, List.set_cons_succ])
      refine wpAnyH_ready (rs := [4]) (by kernel_rfl) (by simp) ?_
      refine AllReadyH.cons rfl (fun K hK => ?_) AllReadyH.nil
      go_simp
      refine Calls.mono SE.out ?_
      rintro e w9 ⟨rfl, rfl⟩
      refine hK.out _ _ (HBK.out) (fun hHeld => ?_)
      clear hK
      (try simp only [Act.put, List.setIfInBounds_toArray, List.set_cons_zero, List.set_cons_succ])
      refine wpAnyH_take (i := 10) (v := (.bool false)) rfl (by kernel_rfl) (by kernel_rfl) (by kernel_rfl) (fun _ _ _ h => h) (Or.inl ⟨by kernel_rfl, ?_⟩) (by assumption) ?_
      · intro w' hSw
        (try dsimp only at hSw)
        go_simp
      (try simp only [Act.put, List.setIfInBounds_toArray, List.set_cons_zero, List.set_cons_succ])
      refine wpAnyH_ready (rs := [11]) (by kernel_rfl) (by simp) ?_
      refine AllReadyH.cons rfl (fun K hK => ?_) AllReadyH.nil
      go_simp
      refine hK.out _ _ (HBK.out) (fun hHeld => ?_)
      clear hK
      (try simp only [Act.put, List.setIfInBounds_toArray, List.set_cons_zero, List.set_cons_succ])
      refine wpAnyH_done (by kernel_rfl) ?_ _
      clear hHeld SE HBK
      generalize w4.drew = W5 at *
      have e0 := SC.out _ H4.out.bl
      by_cases hk7 : yk = 7 ∨ yk = 8
      case neg =>
        have n7 : (yk == 7) = false := by simp; omega
        have n8 : (yk == 8) = false := by simp; omega
        clear hk7
        go_wp2_with fail
        go_roundw
        case rel => exact ⟨q + 1, d2, by omega, by go_num, H4.out⟩
        case measure => simp [intOf]; omega
      case pos =>
        by_cases hk8 : yk = 7
        case pos =>
          subst hk8
          clear hk7
          have LF := hide (H4.out.left (by omega))
          go_wp2_with fail
          refine Calls.mono LF.out ?_
          rintro e w6 ⟨vl, rfl, ⟨b6, c6, rfl⟩, l6, hb6⟩
          have H6 := hide (H4.out.below hb6)
          have L6 := hide l6
          clear l6 hb6 LF
          have CO := hide H6.out.count
          have FL := hide H6.out.flying
          go_wp2_with fail
          refine Calls.mono CO.out ?_
          rintro e w9 ⟨rfl, rfl⟩
          go_wp2_with fail
          refine Calls.mono FL.out ?_
          rintro e w7 ⟨vf, rfl, l7, hb7⟩
          have L67 := L6.out.below hb7
          have SM := hide (sameLetters_eq l7 L67 (by have := live_le d2.A; have := H6.out.la; omega))
          have H7 := hide (H6.out.below hb7)
          clear l7 L67 hb7 CO FL L6
          go_wp2_with fail
          refine Calls.mono SM.out ?_
          rintro e w8 ⟨rfl, hb8⟩
          have H8 := hide (H7.out.below hb8)
          clear hb8 SM H7 H6
          go_wp2_with fail
          go_roundw
          case rel => exact ⟨q + 1, d2, by omega, by go_num, H8.out⟩
          case measure => simp [intOf]; omega
        case neg =>
          obtain rfl : yk = 8 := by omega
          clear hk7 hk8
          have LF := hide (H4.out.left (by omega))
          go_wp2_with fail
          refine Calls.mono LF.out ?_
          rintro e w6 ⟨vl, rfl, ⟨b6, c6, rfl⟩, l6, hb6⟩
          have H6 := hide (H4.out.below hb6)
          have L6 := hide l6
          clear l6 hb6 LF
          have CO := hide H6.out.count
          have FL := hide H6.out.flying
          go_wp2_with fail
          refine Calls.mono CO.out ?_
          rintro e w9 ⟨rfl, rfl⟩
          go_wp2_with fail
          refine Calls.mono FL.out ?_
          rintro e w7 ⟨vf, rfl, l7, hb7⟩
          have L67 := L6.out.below hb7
          have SM := hide (sameLetters_eq l7 L67 (by have := live_le d2.A; have := H6.out.la; omega))
          have H7 := hide (H6.out.below hb7)
          clear l7 L67 hb7 CO FL L6
          go_wp2_with fail
          refine Calls.mono SM.out ?_
          rintro e w8 ⟨rfl, hb8⟩
          have H8 := hide (H7.out.below hb8)
          clear hb8 SM H7 H6
          go_wp2_with fail
          go_roundw
          case rel => exact ⟨q + 1, d2, by omega, by go_num, H8.out⟩
          case measure => simp [intOf]; omega
    case neg =>
      obtain rfl : q = ys.length := by omega
      have H4 := P0
      have LF := hide (H4.out.left (by omega))
      go_wp2_with fail
      refine Calls.mono LF.out ?_
      rintro e w6 ⟨vl, rfl, ⟨b6, c6, rfl⟩, l6, hb6⟩
      have H6 := hide (H4.out.below hb6)
      have L6 := hide l6
      clear l6 hb6 LF
      have CO := hide H6.out.count
      have FL := hide H6.out.flying
      go_wp2_with fail
      refine Calls.mono CO.out ?_
      rintro e w9 ⟨rfl, rfl⟩
      go_wp2_with fail
      refine Calls.mono FL.out ?_
      rintro e w7 ⟨vf, rfl, l7, hb7⟩
      have L67 := L6.out.below hb7
      have SM := hide (sameLetters_eq l7 L67 (by have := live_le d.A; have := H6.out.la; omega))
      have H7 := hide (H6.out.below hb7)
      clear l7 L67 hb7 CO FL L6
      go_wp2_with fail
      refine Calls.mono SM.out ?_
      rintro e w8 ⟨rfl, hb8⟩
      have H8 := hide (H7.out.below hb8)
      clear hb8 SM H7 H6
      go_wp2_with fail
      go_ret
      exact ⟨by simp, H8.out.bl⟩
end Go.Proofs.Ytnphdbmacccblaa
