import Derived.Test.YtkfiaahgcljljaaTdFail
import Derived.Test.YtkfiaahgcljljaaTbLaw
namespace Go.Proofs.Ytkfiaahgcljljaa
open Go.RowKit
/-- a shape of which a budget may be made -/
def okB (t s m : Int) : Prop := 1 ≤ t ∧ t ≤ 64 ∧ 1 ≤ s ∧ s ≤ 1024 ∧ s ≤ m ∧ m ≤ 1024
theorem okB.fits {t s m : Int} (h : okB t s m) : BFits t s m := ⟨h.1, h.2.1, h.2.2.1, h.2.2.2.2.1, h.2.2.2.2.2⟩
set_option maxHeartbeats 16000000 in
set_option maxRecDepth 100000 in
set_option linter.unusedSimpArgs false in
set_option linter.unusedVariables false in
theorem purse_yes (t s m : Int) (w : World) (h : okB t s m) : Calls Try.prog 10 #[(.agg #[.int .i64 t, .int .i64 s, .int .i64 m])] w fun v w' => v = .returned (.bool true) ∧ Below w.heap.size w w' := by
  obtain ⟨h0, h1, h2, h3, h4, h5⟩ := h
  go_enter Try.func10, Try.ntmps10
  go_wp2_with fail
  go_ret
  exact ⟨by simp <;> omega, (Below.refl _ w).alloc (Nat.le_refl _) _⟩
set_option maxHeartbeats 16000000 in
set_option maxRecDepth 100000 in
set_option linter.unusedSimpArgs false in
set_option linter.unusedVariables false in
theorem purse_no0 (t s m : Int) (w : World)  (h0 : ¬ 1 ≤ t) : Calls Try.prog 10 #[(.agg #[.int .i64 t, .int .i64 s, .int .i64 m])] w fun v w' => v = .returned (.bool false) ∧ Below w.heap.size w w' := by
  go_enter Try.func10, Try.ntmps10
  go_wp2_with fail
  go_ret
  exact ⟨by simp <;> omega, (Below.refl _ w).alloc (Nat.le_refl _) _⟩
set_option maxHeartbeats 16000000 in
set_option maxRecDepth 100000 in
set_option linter.unusedSimpArgs false in
set_option linter.unusedVariables false in
theorem purse_no1 (t s m : Int) (w : World) (h0 : 1 ≤ t) (h1 : ¬ t ≤ 64) : Calls Try.prog 10 #[(.agg #[.int .i64 t, .int .i64 s, .int .i64 m])] w fun v w' => v = .returned (.bool false) ∧ Below w.heap.size w w' := by
  go_enter Try.func10, Try.ntmps10
  go_wp2_with fail
  go_ret
  exact ⟨by simp <;> omega, (Below.refl _ w).alloc (Nat.le_refl _) _⟩
set_option maxHeartbeats 16000000 in
set_option maxRecDepth 100000 in
set_option linter.unusedSimpArgs false in
set_option linter.unusedVariables false in
theorem purse_no2 (t s m : Int) (w : World) (h0 : 1 ≤ t) (h1 : t ≤ 64) (h2 : ¬ 1 ≤ s) : Calls Try.prog 10 #[(.agg #[.int .i64 t, .int .i64 s, .int .i64 m])] w fun v w' => v = .returned (.bool false) ∧ Below w.heap.size w w' := by
  go_enter Try.func10, Try.ntmps10
  go_wp2_with fail
  go_ret
  exact ⟨by simp <;> omega, (Below.refl _ w).alloc (Nat.le_refl _) _⟩
set_option maxHeartbeats 16000000 in
set_option maxRecDepth 100000 in
set_option linter.unusedSimpArgs false in
set_option linter.unusedVariables false in
theorem purse_no3 (t s m : Int) (w : World) (h0 : 1 ≤ t) (h1 : t ≤ 64) (h2 : 1 ≤ s) (h3 : ¬ s ≤ 1024) : Calls Try.prog 10 #[(.agg #[.int .i64 t, .int .i64 s, .int .i64 m])] w fun v w' => v = .returned (.bool false) ∧ Below w.heap.size w w' := by
  go_enter Try.func10, Try.ntmps10
  go_wp2_with fail
  go_ret
  exact ⟨by simp <;> omega, (Below.refl _ w).alloc (Nat.le_refl _) _⟩
set_option maxHeartbeats 16000000 in
set_option maxRecDepth 100000 in
set_option linter.unusedSimpArgs false in
set_option linter.unusedVariables false in
theorem purse_no4 (t s m : Int) (w : World) (h0 : 1 ≤ t) (h1 : t ≤ 64) (h2 : 1 ≤ s) (h3 : s ≤ 1024) (h4 : ¬ s ≤ m) : Calls Try.prog 10 #[(.agg #[.int .i64 t, .int .i64 s, .int .i64 m])] w fun v w' => v = .returned (.bool false) ∧ Below w.heap.size w w' := by
  go_enter Try.func10, Try.ntmps10
  go_wp2_with fail
  go_ret
  exact ⟨by simp <;> omega, (Below.refl _ w).alloc (Nat.le_refl _) _⟩
set_option maxHeartbeats 16000000 in
set_option maxRecDepth 100000 in
set_option linter.unusedSimpArgs false in
set_option linter.unusedVariables false in
theorem purse_no5 (t s m : Int) (w : World) (h0 : 1 ≤ t) (h1 : t ≤ 64) (h2 : 1 ≤ s) (h3 : s ≤ 1024) (h4 : s ≤ m) (h5 : ¬ m ≤ 1024) : Calls Try.prog 10 #[(.agg #[.int .i64 t, .int .i64 s, .int .i64 m])] w fun v w' => v = .returned (.bool false) ∧ Below w.heap.size w w' := by
  go_enter Try.func10, Try.ntmps10
  go_wp2_with fail
  go_ret
  exact ⟨by simp <;> omega, (Below.refl _ w).alloc (Nat.le_refl _) _⟩
theorem purse_no (t s m : Int) (w : World) (h : ¬ okB t s m) : Calls Try.prog 10 #[(.agg #[.int .i64 t, .int .i64 s, .int .i64 m])] w fun v w' => v = .returned (.bool false) ∧ Below w.heap.size w w' := by
  by_cases h0 : 1 ≤ t
  case neg => exact purse_no0 t s m w h0
  by_cases h1 : t ≤ 64
  case neg => exact purse_no1 t s m w h0 h1
  by_cases h2 : 1 ≤ s
  case neg => exact purse_no2 t s m w h0 h1 h2
  by_cases h3 : s ≤ 1024
  case neg => exact purse_no3 t s m w h0 h1 h2 h3
  by_cases h4 : s ≤ m
  case neg => exact purse_no4 t s m w h0 h1 h2 h3 h4
  exact purse_no5 t s m w h0 h1 h2 h3 h4 (fun h5 => h ⟨h0, h1, h2, h3, h4, h5⟩)
/-- what Fail does -/
def failF (t : Int) (F : Int → Int → Int) (a b : Int) : Int → Int → Int := if F a b = t then F else upd F a b (F a b + 1)
def failE (t : Int) (F : Int → Int → Int) (a b : Int) : Int := if F a b = t then 100 else if F a b + 1 = t then 100 else 0
def failA (t s m : Int) (F : Int → Int → Int) (a b now : Int) : Int := if F a b = t then 0 else if F a b + 1 = t then 0 else now + wtN s m (F a b).toNat
theorem fail_in (X : World) (B M n : Nat) (t s m a b now : Int) (F : Int → Int → Int) (h : BgAt X B M n t s m F) (hf : BFits t s m) (ha : (Lit.int .i64 a).wf = true) (hb : (Lit.int .i64 b).wf = true) (hn : n < maxLen) (hw0 : 0 ≤ now) (hw : now ≤ 9007199254740992) (hF0 : 0 ≤ F a b) (hFt : F a b ≤ t) :
    Calls Try.prog 12 #[.pointer (some ⟨B, 0, none⟩), .agg #[.int .i64 a, .int .i64 b], .int .i64 now] X fun e X' => e = .returned (.tuple #[.int .i64 (failA t s m F a b now), .int .i64 (failE t F a b)]) ∧ BgAt X' B M (n + 1) t s m (failF t F a b) ∧ X.grownBy X' (some M) := by
  unfold failA failE failF
  by_cases h1 : F a b = t
  · rw [if_pos h1, if_pos h1, if_pos h1]
    exact (fail_spent X B M n t s m a b now F h hf ha hb hw0 hw _ rfl h1).mono fun e X' ⟨p, q, r⟩ => ⟨p, ⟨q.blk, by obtain ⟨D, d1, d2⟩ := q.map; exact ⟨D, d1.mono (Nat.le_succ _), d2⟩⟩, r⟩
  · rw [if_neg h1, if_neg h1, if_neg h1]
    by_cases h2 : F a b + 1 = t
    · rw [if_pos h2, if_pos h2]
      exact fail_last X B M n t s m a b now F h hf ha hb hn hw0 hw _ rfl hF0 h2
    · rw [if_neg h2, if_neg h2]
      exact fail_wait X B M n t s m a b now F h hf ha hb hn hw0 hw _ rfl hF0 (by omega)
theorem failF_in {t : Int} {F : Int → Int → Int} (hF : ∀ x y, 0 ≤ F x y ∧ F x y ≤ t) (a b : Int) : ∀ x y, 0 ≤ failF t F a b x y ∧ failF t F a b x y ≤ t := by
  intro x y
  unfold failF
  split
  · exact hF x y
  · unfold upd
    have := hF a b
    split
    · omega
    · exact hF x y
theorem failF_up {t : Int} {F : Int → Int → Int} (a b : Int) (x y : Int) (hF : 1 ≤ F x y) (h0 : ∀ x y, 0 ≤ F x y) : 1 ≤ failF t F a b x y := by
  unfold failF
  split
  · exact hF
  · unfold upd
    have := h0 a b
    split <;> omega
theorem failF_self {t : Int} {F : Int → Int → Int} (a b : Int) (ht : 1 ≤ t) (h0 : 0 ≤ F a b) : 1 ≤ failF t F a b a b := by
  unfold failF
  split
  · omega
  · rw [upd_self]; omega
theorem failF_other {t : Int} {F : Int → Int → Int} (a b x y : Int) (h : ¬ (x = a ∧ y = b)) : failF t F a b x y = F x y := by
  unfold failF
  split
  · rfl
  · unfold upd
    rw [if_neg h]
def lastV (s m : Int) : Nat → Int
  | 0 => 0
  | j + 1 => wtN s m j
/-- all that lies there -/
structure Tr (w X : World) (P I B M n : Nat) (t s m a b : Int) (F : Int → Int → Int) : Prop where
  sh : ShAt X P t s m
  it : ItAt X I a b
  bg : BgAt X B M n t s m F
  ma : w.heap.size ≤ M
  bel : Below w.heap.size w X
theorem ShAt.turn {X X' : World} {P M n : Nat} {r p c : Int} {F : Int → Int → Int} (h : ShAt X P r p c) (hm : MpAt X M n F) (hg : X.grownBy X' (some M)) : ShAt X' P r p c := by
  refine (hg.block _ (blk_lt h) (fun e => ?_)).trans h
  obtain rfl : P = M := by cases e; rfl
  obtain ⟨D, ⟨es, clock, hb, _⟩, _⟩ := hm
  have := (show X.heap[P]? = _ from h).symm.trans hb
  simp at this
theorem Tr.go {w X X' : World} {P I B M n n' : Nat} {t s m a b : Int} {F F' : Int → Int → Int} (h : Tr w X P I B M n t s m a b F) (hb : BgAt X' B M n' t s m F') (hg : X.grownBy X' (some M)) : Tr w X' P I B M n' t s m a b F' :=
  ⟨h.sh.turn h.bg.map hg, h.it.turn h.bg.map hg, hb, h.ma, h.bel.trans (grown_n0 hg h.ma h.bg.map.lt)⟩
theorem Tr.below {w X X' : World} {P I B M n : Nat} {t s m a b : Int} {F : Int → Int → Int} (h : Tr w X P I B M n t s m a b F) (hb : Below X.heap.size X X') : Tr w X' P I B M n t s m a b F :=
  ⟨h.sh.below hb, (hb.block _ (blk_lt h.it)).trans h.it, h.bg.below hb, h.ma, h.bel.trans (hb.mono h.bel.size)⟩
theorem Tr.drew {w X : World} {P I B M n : Nat} {t s m a b : Int} {F : Int → Int → Int} (h : Tr w X P I B M n t s m a b F) : Tr w X.drew P I B M n t s m a b F := h.below ⟨rfl, rfl, rfl, Nat.le_refl _, fun _ _ => rfl⟩
theorem Tr.drewN {w X : World} {P I B M n : Nat} {t s m a b : Int} {F : Int → Int → Int} (h : Tr w X P I B M n t s m a b F) (k : Nat) : Tr w (X.drewN k) P I B M n t s m a b F := h.below ⟨rfl, rfl, rfl, Nat.le_refl _, fun _ _ => rfl⟩
/-- items that are handed in -/
structure Itms (w : World) (ao : Option Addr) (b o : Nat) (ys : List (Int × Int)) : Prop where
  at0 : 0 < ys.length → ao = some ⟨b, o, none⟩
  lt : 0 < ys.length → b < w.heap.size
  c0 : ∀ (q : Nat) (h : q < ys.length), w.cell? ⟨b, o + q * 2, none⟩ = some (.int .i64 ys[q].1)
  c1 : ∀ (q : Nat) (h : q < ys.length), w.cell? ⟨b, o + q * 2 + 1, none⟩ = some (.int .i64 ys[q].2)
  wf : ∀ (q : Nat) (h : q < ys.length), (Lit.int .i64 ys[q].1).wf = true ∧ (Lit.int .i64 ys[q].2).wf = true
  len : ys.length ≤ maxLen
set_option maxHeartbeats 16000000 in
set_option maxRecDepth 100000 in
set_option linter.unusedSimpArgs false in
set_option linter.unusedVariables false in
theorem tries_any (ao : Option Addr) (ob oo cap : Nat) (ys : List (Int × Int)) (t s m a b now0 : Int) (w : World) (hN : Itms w ao ob oo ys) (ha : (Lit.int .i64 a).wf = true) (hb : (Lit.int .i64 b).wf = true) :
    Calls Try.prog 3 #[.agg #[.int .i64 t, .int .i64 s, .int .i64 m], .agg #[.int .i64 a, .int .i64 b], .slice ao ys.length cap, .int .i64 now0] w fun v w' => v = .returned (.bool true) ∧ Below w.heap.size w w' := by
  obtain ⟨WA, hWA⟩ : ∃ WA, WA = (w.alloc (.cells #[.int .i64 t, .int .i64 s, .int .i64 m] 23)).alloc (.cells #[.int .i64 a, .int .i64 b] 25) := ⟨_, rfl⟩
  have SA : Hid (ShAt WA w.heap.size t s m ∧ ItAt WA (w.heap.size + 1) a b ∧ Below w.heap.size w WA) := by
    subst hWA
    have b1 : Below w.heap.size w (w.alloc (.cells #[.int .i64 t, .int .i64 s, .int .i64 m] 23)) := (Below.refl _ w).alloc (Nat.le_refl _) _
    have s1 : ShAt (w.alloc (.cells #[.int .i64 t, .int .i64 s, .int .i64 m] 23)) w.heap.size t s m := heap_last _ _
    have h2 := heap_last (w.alloc (.cells #[.int .i64 t, .int .i64 s, .int .i64 m] 23)) (.cells #[.int .i64 a, .int .i64 b] 25)
    simp only [World.size_alloc] at h2
    exact ⟨s1.below ((Below.refl _ _).alloc (Nat.le_refl _) _), h2, b1.alloc (by simp only [World.size_alloc]; omega) _⟩
  have hlen := hN.len
  have HN := hide hN
  clear hN
  go_enter Try.func3, Try.ntmps3
  go_upto_region 1 with fail
  rw [← hWA]
  clear hWA
  go_cut [24] (fun v wx => v = .bool (decide (now0 < 0 ∨ 9007199254740992 < now0)) ∧ WA = wx)
  case first =>
    by_cases h0 : now0 < 0
    · go_wp2_with fail
      go_meet
      exact ⟨by simp <;> omega, rfl⟩
    · go_wp2_with fail
      go_meet
      exact ⟨by simp <;> omega, rfl⟩
  case rest =>
    obtain ⟨rfl, rfl⟩ := hcut
    go_upto_if 24 with fail
    go_cut [3] (fun v wx => ∃ now : Int, v = .int .i64 now ∧ 0 ≤ now ∧ now ≤ 9007199254740992 ∧ WA = wx)
    case first =>
      by_cases h0 : now0 < 0 ∨ 9007199254740992 < now0
      · go_wp2_with fail
        go_meet
        exact ⟨0, rfl, by omega, by omega, rfl⟩
      · go_wp2_with fail
        go_meet
        exact ⟨now0, rfl, by omega, by omega, rfl⟩
    case rest =>
      obtain ⟨now, rfl, hw0, hw1, rfl⟩ := hcut
      have d0 := SA.out.1.c0
      have d1 := SA.out.1.c1
      have d2 := SA.out.1.c2
      by_cases hok : okB t s m
      case neg =>
        have NB := hide (newBudget_bad t s m WA hok)
        have PU := hide (purse_no t s m WA hok)
        go_wp2_with fail
        refine Calls.mono NB.out ?_
        rintro e w1 ⟨rfl, rfl⟩
        clear NB
        go_wp2_with fail
        refine Calls.mono PU.out ?_
        rintro e w2 ⟨rfl, g2⟩
        have G2 := hide (SA.out.2.2.trans (g2.mono SA.out.2.2.size))
        clear PU g2 d0 d1 d2
        go_wp2_with (go_at_call 11; refine Calls.mono (num10_any _ _) ?_; rintro e wn ⟨rfl, rfl⟩)
        go_ret
        exact ⟨rfl, G2.out⟩
      case pos =>
        have hf := hok.fits
        have NB := hide (newBudget_any t s m WA hf)
        go_wp2_with fail
        refine Calls.mono NB.out ?_
        rintro e w1 ⟨rfl, hbg, g1⟩
        obtain ⟨P, hP⟩ : ∃ P, P = w.heap.size := ⟨_, rfl⟩
        obtain ⟨I, hI⟩ : ∃ I, I = w.heap.size + 1 := ⟨_, rfl⟩
        obtain ⟨B, hB⟩ : ∃ B, B = WA.heap.size + 1 := ⟨_, rfl⟩
        obtain ⟨M, hM⟩ : ∃ M, M = WA.heap.size := ⟨_, rfl⟩
        have T0 : Hid (Tr w w1 P I B M 0 t s m a b (fun _ _ => 0)) := by
          subst hP hI hB hM
          exact ⟨SA.out.1.below g1, (g1.block _ (blk_lt SA.out.2.1)).trans SA.out.2.1, hbg, SA.out.2.2.size, SA.out.2.2.trans (g1.mono SA.out.2.2.size)⟩
        rw [← hI, ← hB, ← hP]
        clear hP hI hB hM NB hbg g1 d0 d1 d2 SA
        have e0 := T0.out.sh.c0
        have e1 := T0.out.sh.c1
        have e2 := T0.out.sh.c2
        have PU := hide (purse_yes t s m w1 hok)
        go_wp2_with fail
        refine Calls.mono PU.out ?_
        rintro e w2 ⟨rfl, g2⟩
        replace T0 := hide (T0.out.below g2)
        clear PU g2 e0 e1 e2
        have t1 := hf.t1
        have t2 := hf.t2
        go_wp2_with (go_at_call 11; refine Calls.mono (num10_any _ _) ?_; rintro e wn ⟨rfl, rfl⟩)
        go_loopw [11, 12] (fun vl vf wr => ∃ (q n : Nat) (F : Int → Int → Int), (q : Int) < t ∧ n ≤ 2 * q ∧ vf = .int .i64 ((q : Int) + 1) ∧ vl = .int .i64 (lastV s m q) ∧ F a b = (q : Int) ∧ (∀ x y, 0 ≤ F x y ∧ F x y ≤ t) ∧ (∀ (j : Nat) (hj : j < ys.length), j < q → ¬ (ys[j].1 = a ∧ ys[j].2 = b) → 1 ≤ F ys[j].1 ys[j].2) ∧ Tr w wr P I B M n t s m a b F) (fun _ vf _ => 65 - (intOf vf).toNat)
        case atStart => exact ⟨0, 0, _, by omega, by omega, rfl, rfl, rfl, fun _ _ => ⟨by omega, by omega⟩, fun j hj h => absurd h (by omega), T0.out⟩
        case round =>
          clear T0
          obtain ⟨q, n, F, hqt, hn, rfl, rfl, hFq, hFr, hFo, hT⟩ := hrel
          have T0 := hide hT
          have HFo := hide hFo
          have HFr := hide hFr
          clear hT hFo hFr
          have hqi : (q : Int) + 1 ≤ t := by omega
          have e0 := T0.out.sh.c0
          go_upto_region 12 with fail
          clear e0
          go_cut [70] (fun v wx => ∃ bb, v = .bool bb ∧ (bb = true → ∃ hl : q < ys.length, ¬ (ys[q].1 = a ∧ ys[q].2 = b)) ∧ (bb = false → ∀ hl : q < ys.length, ys[q].1 = a ∧ ys[q].2 = b) ∧ Tr w wx P I B M n t s m a b F)
          case first =>
            have i0 := T0.out.it.c0
            have i1 := T0.out.it.c1
            have hs1 : wrap64 ((q : Int) + 1 - 1) = (q : Int) := by rw [wrap_in (by omega) (by omega)]; omega
            have hs2 : wrap64 (q : Int) = (q : Int) := wrap_in (by omega) (by omega)
            by_cases hl : q < ys.length
            case pos =>
              have hao := HN.out.at0 (by omega)
              subst hao
              have bl := HN.out.lt (by omega)
              have x0 := (T0.out.bel.cell bl).trans (HN.out.c0 q hl)
              have x1 := (T0.out.bel.cell bl).trans (HN.out.c1 q hl)
              have hli : (q : Int) + 1 ≤ (ys.length : Int) := by omega
              have hli2 : (q : Int) < (ys.length : Int) := by omega
              obtain ⟨yx, hyx⟩ : ∃ z, ys[q].1 = z := ⟨_, rfl⟩
              obtain ⟨yy, hyy⟩ : ∃ z, ys[q].2 = z := ⟨_, rfl⟩
              rw [hyx] at x0
              rw [hyy] at x1
              by_cases he : yx = a ∧ yy = b
              case pos =>
                obtain ⟨rfl, rfl⟩ := he
                go_quiet (fail)
                go_wp2_with fail
                go_meet
                exact ⟨false, by first | rfl | simp, (fun e => by cases e), (fun _ _ => ⟨hyx, hyy⟩), T0.out.drewN _⟩
              case neg =>
                have hex : ∃ hl : q < ys.length, ¬ (ys[q].1 = a ∧ ys[q].2 = b) := ⟨hl, by rw [hyx, hyy]; exact he⟩
                have HE := hide hex
                clear hex
                by_cases hxa : yx = a
                case pos =>
                  subst hxa
                  have hyb : ¬ yy = b := fun e => he ⟨rfl, e⟩
                  have hyb2 : (yy == b) = false := by simp; exact hyb
                  clear he
                  go_quiet (fail)
                  go_wp2_with fail
                  go_meet
                  exact ⟨true, by first | rfl | simp, (fun _ => HE.out), (fun e => by cases e), T0.out.drewN _⟩
                case neg =>
                  have hxa2 : (yx == a) = false := by simp; exact hxa
                  clear he
                  go_quiet (fail)
                  go_wp2_with fail
                  go_meet
                  exact ⟨true, by first | rfl | simp, (fun _ => HE.out), (fun e => by cases e), T0.out.drewN _⟩
            case neg =>
              have hli : decide ((q : Int) + 1 ≤ (ys.length : Int)) = false := by simp; omega
              go_quiet (fail)
              go_wp2_with fail
              go_meet
              exact ⟨false, rfl, (fun e => by cases e), (fun _ h => absurd h hl), T0.out.drewN _⟩
          case rest =>
            clear T0
            obtain ⟨bb, rfl, hb1, hb0, hT⟩ := hcut
            have T0 := hide hT
            have HB1 := hide hb1
            have HB0 := hide hb0
            clear hT hb1 hb0
            go_upto_if 70 with fail
            go_cut [] (fun wx => ∃ (n' : Nat) (F' : Int → Int → Int), n' ≤ 2 * q + 1 ∧ F' a b = (q : Int) ∧ (∀ x y, 0 ≤ F' x y ∧ F' x y ≤ t) ∧ (∀ (j : Nat) (hj : j < ys.length), j < q + 1 → ¬ (ys[j].1 = a ∧ ys[j].2 = b) → 1 ≤ F' ys[j].1 ys[j].2) ∧ Tr w wx P I B M n' t s m a b F')
            case first =>
              cases bb with
              | false =>
                go_wp2_with fail
                go_meet
                refine ⟨n, F, by omega, hFq, HFr.out, fun j hj hjq hne => ?_, T0.out⟩
                by_cases hj2 : j < q
                · exact HFo.out j hj hj2 hne
                · obtain rfl : j = q := by omega
                  exact absurd (HB0.out (by first | rfl | trivial) hj) hne
              | true =>
                obtain ⟨hl, hne⟩ := HB1.out rfl
                have hao := HN.out.at0 (by omega)
                subst hao
                have bl := HN.out.lt (by omega)
                have x0 := (T0.out.bel.cell bl).trans (HN.out.c0 q hl)
                have x1 := (T0.out.bel.cell bl).trans (HN.out.c1 q hl)
                have hli2 : (q : Int) < (ys.length : Int) := by omega
                have hs2 : wrap64 (q : Int) = (q : Int) := wrap_in (by omega) (by omega)
                have hfr := HFr.out ys[q].1 ys[q].2
                have FL := hide (fail_in wc B M n t s m ys[q].1 ys[q].2 now F T0.out.bg hf (HN.out.wf q hl).1 (HN.out.wf q hl).2 (by unfold maxLen; omega) hw0 hw1 hfr.1 hfr.2)
                have KF : Hid (failF t F ys[q].1 ys[q].2 a b = (q : Int) ∧ (∀ x y, 0 ≤ failF t F ys[q].1 ys[q].2 x y ∧ failF t F ys[q].1 ys[q].2 x y ≤ t) ∧ (∀ (j : Nat) (hj : j < ys.length), j < q + 1 → ¬ (ys[j].1 = a ∧ ys[j].2 = b) → 1 ≤ failF t F ys[q].1 ys[q].2 ys[j].1 ys[j].2)) := by
                  refine ⟨?_, failF_in HFr.out _ _, fun j hj hjq hnj => ?_⟩
                  · rw [failF_other _ _ _ _ (fun e => hne ⟨e.1.symm, e.2.symm⟩)]; exact hFq
                  · by_cases hj2 : j < q
                    · exact failF_up _ _ _ _ (HFo.out j hj hj2 hnj) (fun x y => (HFr.out x y).1)
                    · obtain rfl : j = q := by omega
                      exact failF_self _ _ t1 hfr.1
                generalize ys[q].1 = yx at *
                generalize ys[q].2 = yy at *
                clear hfr hne
                go_wp2_with fail
                refine Calls.mono FL.out ?_
                rintro e w5 ⟨rfl, b5, g5⟩
                have T5 := hide (T0.out.go b5 g5)
                clear FL b5 g5 x0 x1
                go_wp2_with fail
                go_meet
                exact ⟨n + 1, _, by omega, KF.out.1, KF.out.2.1, KF.out.2.2, T5.out⟩
            case rest =>
              clear T0 HB1 HB0 HFo HFr hFq
              obtain ⟨n', F', hn', hFq, hFr, hFo, hT⟩ := hcut
              have T0 := hide hT
              have HFo := hide hFo
              have HFr := hide hFr
              clear hT hFo hFr
              have hfr := HFr.out a b
              have LV := left_any wc.drew B M n' t s m a b F' T0.out.drew.bg hf ha hb hfr
              rw [hFq] at LV
              have LV := hide LV
              clear hfr
              go_wp2_with fail
              refine wp_region_held_drew (S := fun Y => ∃ nn FF, Tr w Y P I B M nn t s m a b FF) (by kernel_rfl) ⟨_, _, T0.out.drew⟩ (fun hHeld => ?_)
              refine wpAnyH_take (i := 0) (v := (.pointer (some ⟨B, 0, none⟩))) rfl (by kernel_rfl) (by kernel_rfl) (by kernel_rfl) (fun _ _ _ h => h) (Or.inl ⟨by rfl, ?_⟩) (by assumption) ?_
              · intro w' hSw
                (try dsimp only at hSw)
                go_simp
              (try simp only [Act.put, List.setIfInBounds_toArray, List.set_cons_zero, List.set_cons_succ])
              refine wpAnyH_take (i := 1) (v := (.agg #[.int .i64 a, .int .i64 b])) rfl (by kernel_rfl) (by kernel_rfl) (by kernel_rfl) (fun _ _ _ h => h) (Or.inl ⟨by rfl, ?_⟩) (by assumption) ?_
              · intro w' hSw
                (try dsimp only at hSw)
                (obtain ⟨_, _, hSw⟩ := hSw; have y0 := hSw.it.c0; have y1 := hSw.it.c1; go_simp)
              (try simp only [Act.put, List.setIfInBounds_toArray, List.set_cons_zero, List.set_cons_succ])
              refine wpAnyH_take (i := 3) (v := (.pointer (some ⟨P, 0, none⟩))) rfl (by kernel_rfl) (by kernel_rfl) (by kernel_rfl) (fun _ _ _ h => h) (Or.inl ⟨by rfl, ?_⟩) (by assumption) ?_
              · intro w' hSw
                (try dsimp only at hSw)
                go_simp
              (try simp only [Act.put, List.setIfInBounds_toArray, List.set_cons_zero, List.set_cons_succ])
              refine wpAnyH_take (i := 4) (v := (.int .i64 t)) rfl (by kernel_rfl) (by kernel_rfl) (by kernel_rfl) (fun _ _ _ h => h) (Or.inl ⟨by rfl, ?_⟩) (by assumption) ?_
              · intro w' hSw
                (try dsimp only at hSw)
                (obtain ⟨_, _, hSw⟩ := hSw; have y0 := hSw.sh.c0; go_simp)
              (try simp only [Act.put, List.setIfInBounds_toArray, List.set_cons_zero, List.set_cons_succ])
              refine wpAnyH_take (i := 5) (v := (.int .i64 ((q : Int) + 1))) rfl (by kernel_rfl) (by kernel_rfl) (by kernel_rfl) (fun _ _ _ h => h) (Or.inl ⟨by rfl, ?_⟩) (by assumption) ?_
              · intro w' hSw
                (try dsimp only at hSw)
                go_simp
              (try simp only [Act.put, List.setIfInBounds_toArray, List.set_cons_zero, List.set_cons_succ])
              refine wpAnyH_take (i := 6) (v := (.int .i64 (t - ((q : Int) + 1)))) rfl (by kernel_rfl) (by kernel_rfl) (by kernel_rfl) (fun _ _ _ h => h) (Or.inl ⟨by rfl, ?_⟩) (by assumption) ?_
              · intro w' hSw
                (try dsimp only at hSw)
                (go_simp; exact i64_in (by omega) (by omega))
              (try simp only [Act.put, List.setIfInBounds_toArray, List.set_cons_zero, List.set_cons_succ])
              refine wpAnyH_take (i := 7) (v := (.int .i64 (t - (q : Int)))) rfl (by kernel_rfl) (by kernel_rfl) (by kernel_rfl) (fun _ _ _ h => h) (Or.inl ⟨by rfl, ?_⟩) (by assumption) ?_
              · intro w' hSw
                (try dsimp only at hSw)
                (go_simp; rw [i64_in (by omega) (by omega)]; omega)
              (try simp only [Act.put, List.setIfInBounds_toArray, List.set_cons_zero, List.set_cons_succ])
              refine wpAnyH_ready (rs := [2]) (by kernel_rfl) (by simp) ?_
              refine AllReadyH.cons rfl (fun K hK => ?_) AllReadyH.nil
              go_simp
              refine Calls.mono LV.out ?_
              rintro e u1 ⟨rfl, b1, g1⟩
              have T1 := hide (T0.out.drew.below g1)
              have T1b : Hid (Tr w u1 P I B M n' t s m a b F') := ⟨T1.out.sh, T1.out.it, b1, T1.out.ma, T1.out.bel⟩
              clear b1 g1 LV T1
              refine hK.out _ _ (⟨_, _, T1b.out⟩) (fun hHeld => ?_)
              clear hK
              (try simp only [Act.put, List.setIfInBounds_toArray, List.set_cons_zero, List.set_cons_succ])
              refine wpAnyH_take (i := 8) (v := (.bool false)) rfl (by kernel_rfl) (by kernel_rfl) (by kernel_rfl) (fun _ _ _ h => h) (Or.inl ⟨by rfl, ?_⟩) (by assumption) ?_
              · intro w' hSw
                (try dsimp only at hSw)
                go_simp
              (try simp only [Act.put, List.setIfInBounds_toArray, List.set_cons_zero, List.set_cons_succ])
              refine wpAnyH_done (by kernel_rfl) ?_ _
              clear hHeld T0
              have T0 := T1b
              clear T1b
              have hfr := HFr.out a b
              have FL := fail_in u1 B M n' t s m a b now F' T0.out.bg hf ha hb (by unfold maxLen; omega) hw0 hw1 hfr.1 hfr.2
              have KF : Hid (failF t F' a b a b = (q : Int) + 1 ∧ (∀ x y, 0 ≤ failF t F' a b x y ∧ failF t F' a b x y ≤ t) ∧ (∀ (j : Nat) (hj : j < ys.length), j < q + 1 → ¬ (ys[j].1 = a ∧ ys[j].2 = b) → 1 ≤ failF t F' a b ys[j].1 ys[j].2)) := by
                refine ⟨?_, failF_in HFr.out _ _, fun j hj hjq hnj => failF_up _ _ _ _ (HFo.out j hj hjq hnj) (fun x y => (HFr.out x y).1)⟩
                unfold failF
                rw [if_neg (by omega), upd_self, hFq]
              clear hfr
              have d0 := T0.out.sh.c0
              have d1 := T0.out.sh.c1
              have d2 := T0.out.sh.c2
              have i0 := T0.out.it.c0
              have i1 := T0.out.it.c1
              by_cases hlast : (q : Int) + 1 = t
              case pos =>
                rw [show failA t s m F' a b now = 0 by unfold failA; rw [if_neg (by omega), if_pos (by omega)], show failE t F' a b = 100 by unfold failE; rw [if_neg (by omega), if_pos (by omega)]] at FL
                have FL := hide FL
                generalize failF t F' a b = F1 at *
                go_wp2_with fail
                refine Calls.mono FL.out ?_
                rintro e u2 ⟨rfl, b2, g2⟩
                have T2 := hide (T0.out.go b2 g2)
                clear FL b2 g2 d0 d1 d2 i0 i1 T0 HFo HFr
                have d0 := T2.out.sh.c0
                have i0 := T2.out.it.c0
                have i1 := T2.out.it.c1
                have f1 : F1 a b = t := by have := KF.out.1; omega
                have FL := fail_in u2 B M (n' + 1) t s m a b now F1 T2.out.bg hf ha hb (by unfold maxLen; omega) hw0 hw1 (by omega) (by omega)
                rw [show failA t s m F1 a b now = 0 by unfold failA; rw [if_pos f1], show failE t F1 a b = 100 by unfold failE; rw [if_pos f1], show failF t F1 a b = F1 by unfold failF; rw [if_pos f1]] at FL
                have FL := hide FL
                go_wp2_with (go_at_call 11; refine Calls.mono (num10_any _ _) ?_; rintro e wn ⟨rfl, rfl⟩)
                refine Calls.mono FL.out ?_
                rintro e u3 ⟨rfl, b3, g3⟩
                have T3 := hide (T2.out.go b3 g3)
                clear FL b3 g3 d0 i0 i1 T2
                have LV := left_any u3.drew B M (n' + 1 + 1) t s m a b F1 T3.out.drew.bg hf ha hb (KF.out.2.1 a b)
                rw [f1, Int.sub_self] at LV
                have LV := hide LV
                go_wp2_with fail
                refine wp_region_held_drew (S := fun Y => ∃ nn FF, Tr w Y P I B M nn t s m a b FF) (by kernel_rfl) ⟨_, _, T3.out.drew⟩ (fun hHeld => ?_)
                refine wpAnyH_take (i := 0) (v := (.int .i64 100)) rfl (by kernel_rfl) (by kernel_rfl) (by kernel_rfl) (fun _ _ _ h => h) (Or.inl ⟨by rfl, ?_⟩) (by assumption) ?_
                · intro w' hSw
                  (try dsimp only at hSw)
                  go_simp
                (try simp only [Act.put, List.setIfInBounds_toArray, List.set_cons_zero, List.set_cons_succ])
                refine wpAnyH_ready (rs := [1]) (by kernel_rfl) (by simp) ?_
                refine AllReadyH.cons rfl (fun K hK => ?_) AllReadyH.nil
                go_simp
                refine Calls.mono (num10_any _ _) ?_
                rintro e wn ⟨rfl, rfl⟩
                refine hK.out _ _ (⟨_, _, T3.out.drew⟩) (fun hHeld => ?_)
                clear hK
                (try simp only [Act.put, List.setIfInBounds_toArray, List.set_cons_zero, List.set_cons_succ])
                refine wpAnyH_take (i := 2) (v := (.bool false)) rfl (by kernel_rfl) (by kernel_rfl) (by kernel_rfl) (fun _ _ _ h => h) (Or.inl ⟨by rfl, ?_⟩) (by assumption) ?_
                · intro w' hSw
                  (try dsimp only at hSw)
                  go_simp
                (try simp only [Act.put, List.setIfInBounds_toArray, List.set_cons_zero, List.set_cons_succ])
                refine wpAnyH_take (i := 3) (v := (.bool false)) rfl (by kernel_rfl) (by kernel_rfl) (by kernel_rfl) (fun _ _ _ h => h) (Or.inl ⟨by rfl, ?_⟩) (by assumption) ?_
                · intro w' hSw
                  (try dsimp only at hSw)
                  go_simp
                (try simp only [Act.put, List.setIfInBounds_toArray, List.set_cons_zero, List.set_cons_succ])
                refine wpAnyH_take (i := 4) (v := (.pointer (some ⟨B, 0, none⟩))) rfl (by kernel_rfl) (by kernel_rfl) (by kernel_rfl) (fun _ _ _ h => h) (Or.inl ⟨by kernel_rfl, ?_⟩) (by assumption) ?_
                · intro w' hSw
                  (try dsimp only at hSw)
                  go_simp
                (try simp only [Act.put, List.setIfInBounds_toArray, List.set_cons_zero, List.set_cons_succ])
                refine wpAnyH_take (i := 5) (v := (.agg #[.int .i64 a, .int .i64 b])) rfl (by kernel_rfl) (by kernel_rfl) (by kernel_rfl) (fun _ _ _ h => h) (Or.inl ⟨by kernel_rfl, ?_⟩) (by assumption) ?_
                · intro w' hSw
                  (try dsimp only at hSw)
                  (obtain ⟨_, _, hSw⟩ := hSw; have y0 := hSw.it.c0; have y1 := hSw.it.c1; go_simp)
                (try simp only [Act.put, List.setIfInBounds_toArray, List.set_cons_zero, List.set_cons_succ])
                refine wpAnyH_ready (rs := [6]) (by kernel_rfl) (by simp) ?_
                refine AllReadyH.cons rfl (fun K hK => ?_) AllReadyH.nil
                go_simp
                refine Calls.mono LV.out ?_
                rintro e u4 ⟨rfl, b4, g4⟩
                have T4 := T3.out.drew.below g4
                have T4b : Hid (Tr w u4 P I B M (n' + 1 + 1) t s m a b F1) := ⟨T4.sh, T4.it, b4, T4.ma, T4.bel⟩
                have CL := hide (clear_any u4 B M (n' + 1 + 1) t s m a b F1 T4b.out.bg hf ha hb)
                clear b4 g4 LV T4
                refine hK.out _ _ (⟨_, _, T4b.out⟩) (fun hHeld => ?_)
                clear hK
                (try simp only [Act.put, List.setIfInBounds_toArray, List.set_cons_zero, List.set_cons_succ])
                refine wpAnyH_take (i := 7) (v := (.bool false)) rfl (by kernel_rfl) (by kernel_rfl) (by kernel_rfl) (fun _ _ _ h => h) (Or.inl ⟨by kernel_rfl, ?_⟩) (by assumption) ?_
                · intro w' hSw
                  (try dsimp only at hSw)
                  go_simp
                (try simp only [Act.put, List.setIfInBounds_toArray, List.set_cons_zero, List.set_cons_succ])
                refine wpAnyH_take (i := 8) (v := (.bool false)) rfl (by kernel_rfl) (by kernel_rfl) (by kernel_rfl) (fun _ _ _ h => h) (Or.inl ⟨by rfl, ?_⟩) (by assumption) ?_
                · intro w' hSw
                  (try dsimp only at hSw)
                  go_simp
                (try simp only [Act.put, List.setIfInBounds_toArray, List.set_cons_zero, List.set_cons_succ])
                refine wpAnyH_take (i := 9) (v := (.bool false)) rfl (by kernel_rfl) (by kernel_rfl) (by kernel_rfl) (fun _ _ _ h => h) (Or.inl ⟨by rfl, ?_⟩) (by assumption) ?_
                · intro w' hSw
                  (try dsimp only at hSw)
                  go_simp
                (try simp only [Act.put, List.setIfInBounds_toArray, List.set_cons_zero, List.set_cons_succ])
                refine wpAnyH_take (i := 10) (v := (.pointer (some ⟨B, 0, none⟩))) rfl (by kernel_rfl) (by kernel_rfl) (by kernel_rfl) (fun _ _ _ h => h) (Or.inl ⟨by kernel_rfl, ?_⟩) (by assumption) ?_
                · intro w' hSw
                  (try dsimp only at hSw)
                  go_simp
                (try simp only [Act.put, List.setIfInBounds_toArray, List.set_cons_zero, List.set_cons_succ])
                refine wpAnyH_take (i := 11) (v := (.agg #[.int .i64 a, .int .i64 b])) rfl (by kernel_rfl) (by kernel_rfl) (by kernel_rfl) (fun _ _ _ h => h) (Or.inl ⟨by kernel_rfl, ?_⟩) (by assumption) ?_
                · intro w' hSw
                  (try dsimp only at hSw)
                  (obtain ⟨_, _, hSw⟩ := hSw; have y0 := hSw.it.c0; have y1 := hSw.it.c1; go_simp)
                (try simp only [Act.put, List.setIfInBounds_toArray, List.set_cons_zero, List.set_cons_succ])
                refine wpAnyH_ready (rs := [12]) (by kernel_rfl) (by simp) ?_
                refine AllReadyH.cons rfl (fun K hK => ?_) AllReadyH.nil
                go_simp
                refine Calls.mono CL.out ?_
                rintro e u5 ⟨rfl, b5, g5⟩
                have T5 := hide (T4b.out.go b5 g5)
                have hu : ∀ x y, 0 ≤ upd F1 a b 0 x y ∧ upd F1 a b 0 x y ≤ t := fun x y => by
                  unfold upd
                  split
                  · omega
                  · exact KF.out.2.1 x y
                have HU := hide hu
                have LV := left_any u5 B M (n' + 1 + 1) t s m a b (upd F1 a b 0) T5.out.bg hf ha hb (HU.out a b)
                rw [upd_self, Int.sub_zero] at LV
                have LV := hide LV
                clear b5 g5 CL hu
                refine hK.out _ _ (⟨_, _, T5.out⟩) (fun hHeld => ?_)
                clear hK
                (try simp only [Act.put, List.setIfInBounds_toArray, List.set_cons_zero, List.set_cons_succ])
                refine wpAnyH_ready (rs := [13]) (by kernel_rfl) (by simp) ?_
                refine AllReadyH.cons rfl (fun K hK => ?_) AllReadyH.nil
                go_simp
                refine Calls.mono (num10_any _ _) ?_
                rintro e wn ⟨rfl, rfl⟩
                refine hK.out _ _ (⟨_, _, T5.out⟩) (fun hHeld => ?_)
                clear hK
                (try simp only [Act.put, List.setIfInBounds_toArray, List.set_cons_zero, List.set_cons_succ])
                refine wpAnyH_take (i := 14) (v := (.bool false)) rfl (by kernel_rfl) (by kernel_rfl) (by kernel_rfl) (fun _ _ _ h => h) (Or.inl ⟨by kernel_rfl, ?_⟩) (by assumption) ?_
                · intro w' hSw
                  (try dsimp only at hSw)
                  go_simp
                (try simp only [Act.put, List.setIfInBounds_toArray, List.set_cons_zero, List.set_cons_succ])
                refine wpAnyH_take (i := 15) (v := (.bool false)) rfl (by kernel_rfl) (by kernel_rfl) (by kernel_rfl) (fun _ _ _ h => h) (Or.inl ⟨by rfl, ?_⟩) (by assumption) ?_
                · intro w' hSw
                  (try dsimp only at hSw)
                  go_simp
                (try simp only [Act.put, List.setIfInBounds_toArray, List.set_cons_zero, List.set_cons_succ])
                refine wpAnyH_take (i := 16) (v := (.bool false)) rfl (by kernel_rfl) (by kernel_rfl) (by kernel_rfl) (fun _ _ _ h => h) (Or.inl ⟨by rfl, ?_⟩) (by assumption) ?_
                · intro w' hSw
                  (try dsimp only at hSw)
                  go_simp
                (try simp only [Act.put, List.setIfInBounds_toArray, List.set_cons_zero, List.set_cons_succ])
                refine wpAnyH_take (i := 17) (v := (.pointer (some ⟨B, 0, none⟩))) rfl (by kernel_rfl) (by kernel_rfl) (by kernel_rfl) (fun _ _ _ h => h) (Or.inl ⟨by kernel_rfl, ?_⟩) (by assumption) ?_
                · intro w' hSw
                  (try dsimp only at hSw)
                  go_simp
                (try simp only [Act.put, List.setIfInBounds_toArray, List.set_cons_zero, List.set_cons_succ])
                refine wpAnyH_take (i := 18) (v := (.agg #[.int .i64 a, .int .i64 b])) rfl (by kernel_rfl) (by kernel_rfl) (by kernel_rfl) (fun _ _ _ h => h) (Or.inl ⟨by kernel_rfl, ?_⟩) (by assumption) ?_
                · intro w' hSw
                  (try dsimp only at hSw)
                  (obtain ⟨_, _, hSw⟩ := hSw; have y0 := hSw.it.c0; have y1 := hSw.it.c1; go_simp)
                (try simp only [Act.put, List.setIfInBounds_toArray, List.set_cons_zero, List.set_cons_succ])
                refine wpAnyH_take (i := 20) (v := (.pointer (some ⟨P, 0, none⟩))) rfl (by kernel_rfl) (by kernel_rfl) (by kernel_rfl) (fun _ _ _ h => h) (Or.inl ⟨by kernel_rfl, ?_⟩) (by assumption) ?_
                · intro w' hSw
                  (try dsimp only at hSw)
                  go_simp
                (try simp only [Act.put, List.setIfInBounds_toArray, List.set_cons_zero, List.set_cons_succ])
                refine wpAnyH_take (i := 21) (v := (.int .i64 t)) rfl (by kernel_rfl) (by kernel_rfl) (by kernel_rfl) (fun _ _ _ h => h) (Or.inl ⟨by kernel_rfl, ?_⟩) (by assumption) ?_
                · intro w' hSw
                  (try dsimp only at hSw)
                  (obtain ⟨_, _, hSw⟩ := hSw; have y0 := hSw.sh.c0; go_simp)
                (try simp only [Act.put, List.setIfInBounds_toArray, List.set_cons_zero, List.set_cons_succ])
                refine wpAnyH_ready (rs := [19]) (by kernel_rfl) (by simp) ?_
                refine AllReadyH.cons rfl (fun K hK => ?_) AllReadyH.nil
                go_simp
                refine Calls.mono LV.out ?_
                rintro e u6 ⟨rfl, b6, g6⟩
                have T6 := T5.out.below g6
                have T6b : Hid (Tr w u6 P I B M (n' + 1 + 1) t s m a b (upd F1 a b 0)) := ⟨T6.sh, T6.it, b6, T6.ma, T6.bel⟩
                clear b6 g6 LV T6
                refine hK.out _ _ (⟨_, _, T6b.out⟩) (fun hHeld => ?_)
                clear hK
                (try simp only [Act.put, List.setIfInBounds_toArray, List.set_cons_zero, List.set_cons_succ])
                refine wpAnyH_take (i := 22) (v := (.bool false)) rfl (by kernel_rfl) (by kernel_rfl) (by kernel_rfl) (fun _ _ _ h => h) (Or.inl ⟨by kernel_rfl, ?_⟩) (by assumption) ?_
                · intro w' hSw
                  (try dsimp only at hSw)
                  go_simp
                (try simp only [Act.put, List.setIfInBounds_toArray, List.set_cons_zero, List.set_cons_succ])
                refine wpAnyH_take (i := 23) (v := (.bool false)) rfl (by kernel_rfl) (by kernel_rfl) (by kernel_rfl) (fun _ _ _ h => h) (Or.inl ⟨by rfl, ?_⟩) (by assumption) ?_
                · intro w' hSw
                  (try dsimp only at hSw)
                  go_simp
                (try simp only [Act.put, List.setIfInBounds_toArray, List.set_cons_zero, List.set_cons_succ])
                refine wpAnyH_done (by kernel_rfl) ?_ _
                clear hHeld T3 T4b T5
                have KU : Hid (∀ (j : Nat) (hj : j < ys.length), (j : Int) < t → ¬ (ys[j].1 = a ∧ ys[j].2 = b) → 1 ≤ upd F1 a b 0 ys[j].1 ys[j].2) := fun j hj hjt hne => by
                  unfold upd
                  rw [if_neg hne]
                  exact KF.out.2.2 j hj (by omega) hne
                clear KF f1
                generalize upd F1 a b 0 = F2 at *
                go_wp2_with fail
                have hmx : ys.length ≤ 9223372036854775807 := by unfold maxLen at hlen; omega
                go_loopw [18] (fun vi wr => ∃ (i : Nat), i ≤ ys.length ∧ vi = .int .i64 (i : Int) ∧ Tr w wr P I B M (n' + 1 + 1) t s m a b F2) (fun vi _ => ys.length - (intOf vi).toNat)
                case atStart => exact ⟨0, Nat.zero_le _, rfl, T6b.out⟩
                case round =>
                  clear T6b
                  obtain ⟨i, hi, rfl, hT⟩ := hrel
                  have T0 := hide hT
                  clear hT
                  have d0 := T0.out.sh.c0
                  by_cases hil : i < ys.length
                  case neg =>
                    obtain rfl : i = ys.length := by omega
                    go_wp2_with fail
                    go_ret
                    exact ⟨rfl, T0.out.bel⟩
                  have hili : (i : Int) < (ys.length : Int) := by omega
                  by_cases hit : (i : Int) < t
                  case neg =>
                    go_wp2_with fail
                    go_ret
                    exact ⟨rfl, T0.out.bel⟩
                  have hao := HN.out.at0 (by omega)
                  subst hao
                  have bl := HN.out.lt (by omega)
                  have X0 := hide (HN.out.c0 i hil)
                  have X1 := hide (HN.out.c1 i hil)
                  have WF := hide (HN.out.wf i hil)
                  have KI := hide (KU.out i hil hit)
                  generalize ys[i].1 = yx at *
                  generalize ys[i].2 = yy at *
                  by_cases he : yx = a ∧ yy = b
                  case pos =>
                    obtain ⟨rfl, rfl⟩ := he
                    have y0 := (T0.out.bel.cell bl).trans X0.out
                    have y1 := (T0.out.bel.cell bl).trans X1.out
                    have i0 := T0.out.it.c0
                    have i1 := T0.out.it.c1
                    go_wp2_with fail
                    go_quiet (fail)
                    replace T0 := hide (T0.out.drewN nq)
                    generalize wr.drewN nq = W9 at *
                    clear d0 y0 y1 i0 i1
                    go_wp2_with fail
                    go_roundw
                    case rel => exact ⟨i + 1, by omega, by go_num, T0.out⟩
                    case measure => simp [intOf]; omega
                  case neg =>
                    have LV := hide (left_any wr.drew B M (n' + 1 + 1) t s m yx yy F2 T0.out.drew.bg hf WF.out.1 WF.out.2 (HU.out yx yy))
                    have k1 := KI.out he
                    have hb9 : (t - F2 yx yy == t) = false := by simp; omega
                    have hnq : (Value.agg #[.int .i64 yx, .int .i64 yy] : Value) = .agg #[.int .i64 yx, .int .i64 yy] := rfl
                    go_wp2_with fail
                    refine wp_region_held_drew (S := fun Y => ∃ nn FF, Tr w Y P I B M nn t s m a b FF) (by kernel_rfl) ⟨_, _, T0.out.drew⟩ (fun hHeld => ?_)
                    refine wpAnyH_take (i := 0) (v := (.slice (some ⟨ob, oo, none⟩) ys.length cap)) rfl (by kernel_rfl) (by kernel_rfl) (by kernel_rfl) (fun _ _ _ h => h) (Or.inl ⟨by rfl, ?_⟩) (by assumption) ?_
                    · intro w' hSw
                      (try dsimp only at hSw)
                      go_simp
                    (try simp only [Act.put, List.setIfInBounds_toArray, List.set_cons_zero, List.set_cons_succ])
                    refine wpAnyH_take (i := 1) (v := (.int .i64 (i : Int))) rfl (by kernel_rfl) (by kernel_rfl) (by kernel_rfl) (fun _ _ _ h => h) (Or.inl ⟨by rfl, ?_⟩) (by assumption) ?_
                    · intro w' hSw
                      (try dsimp only at hSw)
                      go_simp
                    (try simp only [Act.put, List.setIfInBounds_toArray, List.set_cons_zero, List.set_cons_succ])
                    refine wpAnyH_take (i := 2) (v := (.pointer (some ⟨ob, oo + i * 2, none⟩))) rfl (by kernel_rfl) (by kernel_rfl) (by kernel_rfl) (fun _ _ _ h => h) (Or.inl ⟨by rfl, ?_⟩) (by assumption) ?_
                    · intro w' hSw
                      (try dsimp only at hSw)
                      go_simp
                    (try simp only [Act.put, List.setIfInBounds_toArray, List.set_cons_zero, List.set_cons_succ])
                    refine wpAnyH_take (i := 3) (v := (.agg #[.int .i64 yx, .int .i64 yy])) rfl (by kernel_rfl) (by kernel_rfl) (by kernel_rfl) (fun _ _ _ h => h) (Or.inl ⟨by rfl, ?_⟩) (by assumption) ?_
                    · intro w' hSw
                      (try dsimp only at hSw)
                      (obtain ⟨_, _, hSw⟩ := hSw; have y0 := (hSw.bel.cell bl).trans X0.out; have y1 := (hSw.bel.cell bl).trans X1.out; go_simp)
                    (try simp only [Act.put, List.setIfInBounds_toArray, List.set_cons_zero, List.set_cons_succ])
                    refine wpAnyH_take (i := 4) (v := (.agg #[.int .i64 a, .int .i64 b])) rfl (by kernel_rfl) (by kernel_rfl) (by kernel_rfl) (fun _ _ _ h => h) (Or.inl ⟨by rfl, ?_⟩) (by assumption) ?_
                    · intro w' hSw
                      (try dsimp only at hSw)
                      (obtain ⟨_, _, hSw⟩ := hSw; have y0 := hSw.it.c0; have y1 := hSw.it.c1; go_simp)
                    (try simp only [Act.put, List.setIfInBounds_toArray, List.set_cons_zero, List.set_cons_succ])
                    refine wpAnyH_take (i := 5) (v := (.bool true)) rfl (by kernel_rfl) (by kernel_rfl) (by kernel_rfl) (fun _ _ _ h => h) (Or.inl ⟨by rfl, ?_⟩) (by assumption) ?_
                    · intro w' hSw
                      (try dsimp only at hSw)
                      (by_cases hxa : yx = a; (have hyb : ¬ yy = b := fun e => he ⟨hxa, e⟩; go_simp <;> simp_all); (go_simp <;> simp_all))
                    (try simp only [Act.put, List.setIfInBounds_toArray, List.set_cons_zero, List.set_cons_succ])
                    refine wpAnyH_take (i := 6) (v := (.bool true)) rfl (by kernel_rfl) (by kernel_rfl) (by kernel_rfl) (fun _ _ _ h => h) (Or.inl ⟨by rfl, ?_⟩) (by assumption) ?_
                    · intro w' hSw
                      (try dsimp only at hSw)
                      go_simp
                    (try simp only [Act.put, List.setIfInBounds_toArray, List.set_cons_zero, List.set_cons_succ])
                    refine wpAnyH_take (i := 7) (v := (.pointer (some ⟨B, 0, none⟩))) rfl (by kernel_rfl) (by kernel_rfl) (by kernel_rfl) (fun _ _ _ h => h) (Or.inl ⟨by kernel_rfl, ?_⟩) (by assumption) ?_
                    · intro w' hSw
                      (try dsimp only at hSw)
                      go_simp
                    (try simp only [Act.put, List.setIfInBounds_toArray, List.set_cons_zero, List.set_cons_succ])
                    refine wpAnyH_take (i := 8) (v := (.slice (some ⟨ob, oo, none⟩) ys.length cap)) rfl (by kernel_rfl) (by kernel_rfl) (by kernel_rfl) (fun _ _ _ h => h) (Or.inl ⟨by kernel_rfl, ?_⟩) (by assumption) ?_
                    · intro w' hSw
                      (try dsimp only at hSw)
                      go_simp
                    (try simp only [Act.put, List.setIfInBounds_toArray, List.set_cons_zero, List.set_cons_succ])
                    refine wpAnyH_take (i := 9) (v := (.int .i64 (i : Int))) rfl (by kernel_rfl) (by kernel_rfl) (by kernel_rfl) (fun _ _ _ h => h) (Or.inl ⟨by kernel_rfl, ?_⟩) (by assumption) ?_
                    · intro w' hSw
                      (try dsimp only at hSw)
                      go_simp
                    (try simp only [Act.put, List.setIfInBounds_toArray, List.set_cons_zero, List.set_cons_succ])
                    refine wpAnyH_take (i := 10) (v := (.pointer (some ⟨ob, oo + i * 2, none⟩))) rfl (by kernel_rfl) (by kernel_rfl) (by kernel_rfl) (fun _ _ _ h => h) (Or.inl ⟨by kernel_rfl, ?_⟩) (by assumption) ?_
                    · intro w' hSw
                      (try dsimp only at hSw)
                      go_simp
                    (try simp only [Act.put, List.setIfInBounds_toArray, List.set_cons_zero, List.set_cons_succ])
                    refine wpAnyH_take (i := 11) (v := (.agg #[.int .i64 yx, .int .i64 yy])) rfl (by kernel_rfl) (by kernel_rfl) (by kernel_rfl) (fun _ _ _ h => h) (Or.inl ⟨by kernel_rfl, ?_⟩) (by assumption) ?_
                    · intro w' hSw
                      (try dsimp only at hSw)
                      (obtain ⟨_, _, hSw⟩ := hSw; have y0 := (hSw.bel.cell bl).trans X0.out; have y1 := (hSw.bel.cell bl).trans X1.out; go_simp)
                    (try simp only [Act.put, List.setIfInBounds_toArray, List.set_cons_zero, List.set_cons_succ])
                    refine wpAnyH_take (i := 13) (v := (.pointer (some ⟨P, 0, none⟩))) rfl (by kernel_rfl) (by kernel_rfl) (by kernel_rfl) (fun _ _ _ h => h) (Or.inl ⟨by kernel_rfl, ?_⟩) (by assumption) ?_
                    · intro w' hSw
                      (try dsimp only at hSw)
                      go_simp
                    (try simp only [Act.put, List.setIfInBounds_toArray, List.set_cons_zero, List.set_cons_succ])
                    refine wpAnyH_take (i := 14) (v := (.int .i64 t)) rfl (by kernel_rfl) (by kernel_rfl) (by kernel_rfl) (fun _ _ _ h => h) (Or.inl ⟨by kernel_rfl, ?_⟩) (by assumption) ?_
                    · intro w' hSw
                      (try dsimp only at hSw)
                      (obtain ⟨_, _, hSw⟩ := hSw; have y0 := hSw.sh.c0; go_simp)
                    (try simp only [Act.put, List.setIfInBounds_toArray, List.set_cons_zero, List.set_cons_succ])
                    refine wpAnyH_ready (rs := [12]) (by kernel_rfl) (by simp) ?_
                    refine AllReadyH.cons rfl (fun K hK => ?_) AllReadyH.nil
                    go_simp
                    refine Calls.mono LV.out ?_
                    rintro e u7 ⟨rfl, b7, g7⟩
                    have T7 := T0.out.drew.below g7
                    have T7b : Hid (Tr w u7 P I B M (n' + 1 + 1) t s m a b F2) := ⟨T7.sh, T7.it, b7, T7.ma, T7.bel⟩
                    clear b7 g7 LV T7
                    refine hK.out _ _ (⟨_, _, T7b.out⟩) (fun hHeld => ?_)
                    clear hK
                    (try simp only [Act.put, List.setIfInBounds_toArray, List.set_cons_zero, List.set_cons_succ])
                    refine wpAnyH_take (i := 15) (v := (.bool false)) rfl (by kernel_rfl) (by kernel_rfl) (by kernel_rfl) (fun _ _ _ h => h) (Or.inl ⟨by kernel_rfl, ?_⟩) (by assumption) ?_
                    · intro w' hSw
                      (try dsimp only at hSw)
                      (go_simp <;> first | done | exact hb9 | omega)
                    (try simp only [Act.put, List.setIfInBounds_toArray, List.set_cons_zero, List.set_cons_succ])
                    refine wpAnyH_take (i := 16) (v := (.bool false)) rfl (by kernel_rfl) (by kernel_rfl) (by kernel_rfl) (fun _ _ _ h => h) (Or.inl ⟨by rfl, ?_⟩) (by assumption) ?_
                    · intro w' hSw
                      (try dsimp only at hSw)
                      go_simp
                    (try simp only [Act.put, List.setIfInBounds_toArray, List.set_cons_zero, List.set_cons_succ])
                    refine wpAnyH_done (by kernel_rfl) ?_ _
                    clear hHeld T0 d0
                    go_wp2_with fail
                    go_roundw
                    case rel => exact ⟨i + 1, by omega, by go_num, T7b.out⟩
                    case measure => simp [intOf]; omega
              case neg =>
                rw [show failA t s m F' a b now = now + wtN s m q by unfold failA; rw [if_neg (by omega), if_neg (by omega), hFq]; rfl, show failE t F' a b = 0 by unfold failE; rw [if_neg (by omega), if_neg (by omega)]] at FL
                have FL := hide FL
                generalize failF t F' a b = F1 at *
                go_wp2_with fail
                refine Calls.mono FL.out ?_
                rintro e u2 ⟨rfl, b2, g2⟩
                have T2 := hide (T0.out.go b2 g2)
                clear FL b2 g2 d0 d1 d2 i0 i1 T0 HFo HFr
                have d0 := T2.out.sh.c0
                have d1 := T2.out.sh.c1
                have d2 := T2.out.sh.c2
                have wq := wtN_in hf q
                have m2 := hf.m2
                have s1 := hf.s1
                have s2 := hf.s2
                have hne : ¬ (q : Int) + 1 = t := hlast
                cases q with
                | zero =>
                  dsimp only [lastV, wtN] at *
                  have hsm : ¬ m < s := by omega
                  go_wp2_with (go_at_call 11; refine Calls.mono (num10_any _ _) ?_; rintro e wn ⟨rfl, rfl⟩)
                  exact ⟨⟨1, n' + 1, F1, by omega, by omega, by simp, rfl, by have := KF.out.1; omega, KF.out.2.1, KF.out.2.2, T2.out⟩, by simp [intOf]⟩
                | succ q =>
                  have wj := wtN_in hf q
                  have hw9 : wtN s m (q + 1) = min (2 * wtN s m q) m := rfl
                  dsimp only [lastV] at *
                  generalize wtN s m q = lv at *
                  generalize hwv : wtN s m (q + 1) = wv at *
                  have x2 : IntKind.i64.wrap (2 * lv) = 2 * lv := i64_in (by omega) (by omega)
                  have hq1 : ¬ ((q + 1 : Nat) : Int) + 1 = 1 := by omega
                  by_cases hc : m < 2 * lv
                  case pos =>
                    have ew := wrap_in (x := now + wv) (by omega) (by omega)
                    obtain rfl : m = wv := by omega
                    clear hw9 wj wq
                    go_wp2_with (go_at_call 11; refine Calls.mono (num10_any _ _) ?_; rintro e wn ⟨rfl, rfl⟩)
                    go_roundw
                    case rel => exact ⟨q + 2, n' + 1, F1, by omega, by omega, by go_num, by rw [show lastV s m (q + 2) = wtN s m (q + 1) from rfl, hwv], by have := KF.out.1; omega, KF.out.2.1, KF.out.2.2, T2.out⟩
                    case measure => simp [intOf]; omega
                  case neg =>
                    have ew := wrap_in (x := now + wv) (by omega) (by omega)
                    obtain rfl : wv = 2 * lv := by omega
                    clear hw9 wj wq
                    go_wp2_with (go_at_call 11; refine Calls.mono (num10_any _ _) ?_; rintro e wn ⟨rfl, rfl⟩)
                    go_roundw
                    case rel => exact ⟨q + 2, n' + 1, F1, by omega, by omega, by go_num, by rw [show lastV s m (q + 2) = wtN s m (q + 1) from rfl, hwv], by have := KF.out.1; omega, KF.out.2.1, KF.out.2.2, T2.out⟩
                    case measure => simp [intOf]; omega
end Go.Proofs.Ytkfiaahgcljljaa
