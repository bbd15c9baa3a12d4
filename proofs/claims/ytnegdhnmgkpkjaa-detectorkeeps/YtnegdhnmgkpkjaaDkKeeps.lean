import Derived.Test.YtnegdhnmgkpkjaaDkApart
namespace Go.Proofs.Ytnegdhnmgkpkjaa
open Go.RowKit
/-- all that the law keeps -/
structure KI (w0 wr : World) (S T : Nat → Prop) (D R : Nat) (d : Dt) (vh : Value) (n : Nat) (en : Nat → En) : Prop where
  pl : PlI w0 wr S T D R d
  bk : Bk wr vh n en
  ap : ∀ k, BkS vh n en k → w0.heap.size ≤ k ∧ ¬ S k ∧ ¬ T k
/-- the argument, in memory of its own -/
structure Gd (w0 wr : World) (S T : Nat → Prop) (vh : Value) (n : Nat) (en : Nat → En) (v : Value) (m : Nat) : Prop where
  row : ∃ gs : List Int, gs.length = m ∧ wr.ownsRow 0 3 1 v m (ints gs)
  sm : m ≤ 200
  ap : ∀ k, v.ownBlock = some k → w0.heap.size ≤ k ∧ ¬ S k ∧ ¬ T k ∧ ¬ BkS vh n en k
section
variable {w0 wr w' : World} {S T : Nat → Prop} {D R : Nat} {d d' : Dt} {vh v : Value} {n m : Nat} {en : Nat → En}
theorem KI.plays (h : KI w0 wr S T D R d vh n en) (hd : TwoDid wr w' S T D R d') : ∃ T', KI w0 w' S T' D R d' vh n en := by
  obtain ⟨T', a1, a2, a3⟩ := hd
  refine ⟨T', ⟨a1, h.pl.s, fun k t => ?_, h.pl.ks.trans a3 (fun k e => ?_)⟩, h.bk.kp a3 (fun k hk e => ?_), fun k hk => ?_⟩
  · rcases a2 k t with q | q
    · exact h.pl.t k q
    · exact Nat.le_trans h.pl.ks.size q
  · rcases e with e | e
    · exact Or.inr (h.pl.s k e)
    · exact Or.inr (h.pl.t k e)
  · rcases e with e | e
    · exact (h.ap k hk).2.1 e
    · exact (h.ap k hk).2.2 e
  · refine ⟨(h.ap k hk).1, (h.ap k hk).2.1, fun t => ?_⟩
    rcases a2 k t with q | q
    · exact (h.ap k hk).2.2 q
    · have := h.bk.lt hk
      omega
theorem KI.below (h : KI w0 wr S T D R d vh n en) (hb : Below wr.heap.size wr w') : KI w0 w' S T D R d vh n en :=
  ⟨⟨h.pl.tw.below hb, h.pl.s, h.pl.t, h.pl.ks.trans (Kp.of_below hb non) (fun _ f => f.elim)⟩, h.bk.kp (Kp.of_below hb non) (fun _ _ f => f), h.ap⟩
set_option linter.unusedVariables false in
theorem KI.given (h : KI w0 wr S T D R d vh n en) (hb : Below wr.heap.size wr w') {ns : List Int} (ho : w'.ownsRow wr.heap.size 3 1 v m (ints ns)) (hm : ns.length = m) (hs : m ≤ 200) : Gd w0 w' S T vh n en v m := by
  refine ⟨⟨ns, hm, own_base ho (Nat.zero_le _)⟩, hs, fun k hk => ?_⟩
  have hge := own_ge ho hk
  exact ⟨Nat.le_trans h.pl.ks.size hge, fun s => by have := h.pl.tw.dt.lt k s; omega, fun t => by have := h.pl.tw.rf.lt k t; omega, fun b => by have := h.bk.lt b; omega⟩
theorem KI.keep (h : KI w0 wr S T D R d vh n en) (hg : Gd w0 wr S T vh n en v m) {vh' : Value} {en' : Nat → En} (h1 : Bk w' vh' (n + 1) en') (h2 : ∀ k, BkS vh' (n + 1) en' k → BkS vh n en k ∨ wr.heap.size ≤ k) (h3 : Kp wr w' (fun k => vh.ownBlock = some k)) : KI w0 w' S T D R d vh' (n + 1) en' ∧ Gd w0 w' S T vh' (n + 1) en' v m := by
  have hS : ∀ k, S k → ¬ vh.ownBlock = some k := fun k s e => (h.ap k (Or.inl e)).2.1 s
  have hT : ∀ k, T k → ¬ vh.ownBlock = some k := fun k t e => (h.ap k (Or.inl e)).2.2 t
  refine ⟨⟨⟨h.pl.tw.kp h3 hS hT, h.pl.s, h.pl.t, h.pl.ks.trans h3 (fun k e => Or.inr (h.ap k (Or.inl e)).1)⟩, h1, fun k hk => ?_⟩, ?_, hg.sm, fun k hk => ?_⟩
  · rcases h2 k hk with q | q
    · exact h.ap k q
    · exact ⟨Nat.le_trans h.pl.ks.size q, fun s => by have := h.pl.tw.dt.lt k s; omega, fun t => by have := h.pl.tw.rf.lt k t; omega⟩
  · obtain ⟨gs, e, ho⟩ := hg.row
    exact ⟨gs, e, own_kp ho h3 (fun k hk e => (hg.ap k hk).2.2.2 (Or.inl e))⟩
  · obtain ⟨a1, a2, a3, a4⟩ := hg.ap k hk
    refine ⟨a1, a2, a3, fun b => ?_⟩
    obtain ⟨gs, e, ho⟩ := hg.row
    rcases h2 k b with q | q
    · exact a4 q
    · have := own_lt ho hk
      omega
theorem KI.write {g cap : Nat} (h : KI w0 wr S T D R d vh n en) (hg : Gd w0 wr S T vh n en (.slice (some ⟨g, 0, none⟩) m cap) m) (j : Nat) (x : Int) : KI w0 (wr.setCell ⟨g, j, none⟩ (.int .i64 x)) S T D R d vh n en ∧ Gd w0 (wr.setCell ⟨g, j, none⟩ (.int .i64 x)) S T vh n en (.slice (some ⟨g, 0, none⟩) m cap) m := by
  have hk : Kp wr (wr.setCell ⟨g, j, none⟩ (.int .i64 x)) (fun k => k = g) := (Kp.refl wr (fun k => k = g)).set (Or.inl rfl) _ _
  obtain ⟨a1, a2, a3, a4⟩ := hg.ap g rfl
  refine ⟨⟨⟨h.pl.tw.kp hk (fun k s e => a2 (by rw [← e]; exact s)) (fun k t e => a3 (by rw [← e]; exact t)), h.pl.s, h.pl.t, h.pl.ks.trans hk (fun k e => Or.inr (by rw [e]; exact a1))⟩, h.bk.kp hk (fun k b e => a4 (by rw [← e]; exact b)), h.ap⟩, ?_, hg.sm, hg.ap⟩
  obtain ⟨gs, e, ho⟩ := hg.row
  refine ⟨gs.set j x, by rw [List.length_set]; exact e, ?_⟩
  have := own_set ho j (.int .i64 x)
  rwa [ints_set] at this
theorem Gd.at_ {g cap : Nat} (hg : Gd w0 wr S T vh n en (.slice (some ⟨g, 0, none⟩) m cap) m) {j : Nat} (hj : j < m) : ∃ x : Int, wr.cell? ⟨g, j, none⟩ = some (.int .i64 x) ∧ wr.frozen? ⟨g, j, none⟩ = false := by
  obtain ⟨gs, e, ho⟩ := hg.row
  have hj' : (ints gs)[j]? = some (.int .i64 (gs[j]'(by omega))) := by rw [ints_at, List.getElem?_eq_getElem (by omega)]; rfl
  obtain ⟨g', c', e', c1, c2⟩ := own_at ho hj'
  injection e' with a
  injection a with a
  injection a with a
  subst a
  exact ⟨_, c1, c2⟩
theorem Gd.sl (hg : Gd w0 wr S T vh n en v m) (hm : 0 < m) : ∃ g cap, v = .slice (some ⟨g, 0, none⟩) m cap := by
  obtain ⟨gs, e, ho⟩ := hg.row
  exact own_g ho hm
theorem Gd.is (hg : Gd w0 wr S T vh n en v m) : ∃ (gs : List Int) (ao : Option Addr) (b cap : Nat), gs.length = m ∧ v = .slice ao gs.length cap ∧ IsAt wr ao b 0 gs := by
  obtain ⟨gs, e, ho⟩ := hg.row
  have := hg.sm
  obtain ⟨_, ao, b, cap, e2, hi, _⟩ := own_is ho (by omega)
  exact ⟨gs, ao, b, cap, e, e2, hi⟩
/-- keep, once more -/
theorem KI.kept (h : KI w0 wr S T D R d vh n en) (hg : Gd w0 wr S T vh n en v m) {q0 : Nat} (hf : d.upto q0) (he : d.enb) (hq : q0 ≤ 1000000) (hn : n ≤ 1000) :
    Calls Try.prog 25 #[.pointer (some ⟨D, 0, none⟩), .pointer (some ⟨R, 0, none⟩), v, vh] wr fun e w' => ∃ vh' en', e = .returned vh' ∧ KI w0 w' S T D R d vh' (n + 1) en' ∧ Gd w0 w' S T vh' (n + 1) en' v m := by
  obtain ⟨gs, ao, b, cap, e1, rfl, hi⟩ := hg.is
  have hs := hg.sm
  refine Calls.mono (keep_any h.pl.tw hf he hq ao b 0 cap gs hi (by omega) vh n en h.bk hn) ?_
  rintro e w' ⟨vh', en', rfl, h1, h2, h3⟩
  exact ⟨vh', en', rfl, h.keep hg h1 h2 h3⟩
theorem KI.apart (h : KI w0 wr S T D R d vh n en) (hk : Kp wr w' (LsX n en)) : PlI w0 w' S T D R d := by
  have hb : ∀ k, LsX n en k → BkS vh n en k := fun k ⟨j, hj, e⟩ => Or.inr ⟨j, hj, Or.inl e⟩
  exact ⟨h.pl.tw.kp hk (fun k s e => (h.ap k (hb k e)).2.1 s) (fun k t e => (h.ap k (hb k e)).2.2 t), h.pl.s, h.pl.t, h.pl.ks.trans hk (fun k e => Or.inr (h.ap k (hb k e)).1)⟩
end
set_option maxHeartbeats 32000000 in
set_option maxRecDepth 100000 in
set_option linter.unusedSimpArgs false in
set_option linter.unusedVariables false in
theorem keeps_any (w : World) (a b c : Int) (ao : Option Addr) (sb so cap : Nat) (ia : Nat → Option Addr) (ib io ic : Nat → Nat) (ss : List Stp) (hs : SsAt w ao sb so ia ib io ic ss) :
    Calls Try.prog 8 #[.agg #[.int .i64 a, .int .i64 b, .int .i64 c], .slice ao ss.length cap] w fun e w' => e = .returned (.bool true) ∧ Below w.heap.size w w' := by
  obtain ⟨W0, hW0⟩ : ∃ W0, W0 = w.alloc (.cells #[.int .i64 a, .int .i64 b, .int .i64 c] 23) := ⟨_, rfl⟩
  obtain ⟨U, hU⟩ : ∃ U, U = w.heap.size := ⟨_, rfl⟩
  have hb : Below w.heap.size w W0 := by rw [hW0]; exact (Below.refl _ _).alloc (Nat.le_refl _) _
  have su : SuB W0 U a b c := by rw [hW0, hU]; exact heap_last _ _
  obtain ⟨c0, c1, c2⟩ := su.cs
  have HB0 := hide hb
  have HL := hs.len
  have HSS := hide hs
  clear hb su hs
  by_cases hok : okN a b c
  · have MA := hide (made_any W0 a b c hok)
    have HUP : Hid ((Dt.new a.toNat b c).upto 0 ∧ (Dt.new a.toNat b c).enb) := ⟨(Ba.start (nd := 0) hok).up, fun k => by have := hok.2.2.1; show (0 : Int) ≤ 0 + c; omega⟩
    clear hok
    go_enter Try.func8, Try.ntmps8
    go_wp2_with fail
    rw [← hW0, ← hU]
    clear hW0 hU
    go_wp2_with fail
    refine Calls.mono MA.out ?_
    rintro e W1 ⟨D, S, R, T0, rfl, hD, hR, hB1, hS, hT, hST⟩
    have HI : Hid (KI w W1 S T0 D R (Dt.new a.toNat b c) (.slice none 0 0) 0 (fun _ => ⟨none, [], .slice none 0 0⟩)) := ⟨⟨⟨hD, hR, hST⟩, fun k e => Nat.le_trans HB0.out.size (hS k e), fun k e => Nat.le_trans HB0.out.size (hT k e), (Kp.of_below HB0.out non).trans (Kp.of_below hB1 non) (fun _ f => f.elim)⟩, Bk.nil _ _, fun k hk => by
      rcases hk with e | ⟨j, hj, _⟩
      · simp [Value.ownBlock] at e
      · omega⟩
    clear hD hR hB1 hS hT hST c0 c1 c2 MA HB0
    go_wp2_with fail
    go_loopw [9, 10, 11, 12, 13, 14] (fun vh vi vg vk vx vq wr => ∃ (i : Nat) (d : Dt) (T : Nat → Prop) (en : Nat → En), i ≤ ss.length ∧ i ≤ 60 ∧ vi = .int .i64 (i : Int) ∧ Hid (KI w wr S T D R d vh (i * 3) en) ∧ Hid (d.upto i ∧ d.enb)) (fun _ vi _ _ _ _ _ => 60 - (intOf vi).toNat)
    case atStart => exact ⟨0, _, T0, _, Nat.zero_le _, Nat.zero_le _, rfl, HI.out, HUP.out⟩
    case round =>
      clear HI HUP
      obtain ⟨i, d, T, en, hi, hi2, rfl, HI, HP⟩ := hrel
      by_cases hil : i < ss.length
      · by_cases hik : i < 60
        · have q1 : (i : Int) < (ss.length : Int) := by omega
          have q2 : (i : Int) < 60 := by omega
          obtain rfl := HSS.out.at0 (by omega)
          have hsw := HSS.out.kp HI.out.pl.ks (fun _ f => f.elim)
          have s0 := hsw.c0 i hil
          have s1 := hsw.c1 i hil
          have s2 := hsw.c2 i hil
          have PL := hide (plays_any HI.out.pl.tw HP.out.1 HP.out.2 (by omega) ss[i].kd ss[i].nd (ia i) (ib i) (io i) (ic i) ss[i].ns (hsw.is i hil))
          have UP : Hid ((d.does ss[i].kd ss[i].nd).upto (i + 1) ∧ (d.does ss[i].kd ss[i].nd).enb) := ⟨HP.out.1.does _ _, enb_does HP.out.2 HP.out.1.ft _ _⟩
          have HSL : Hid (∀ W, Kp w W non → W.cell? ⟨sb, so + i * 3 + 2, none⟩ = some (.slice (ia i) ss[i].ns.length (ic i)) ∧ IsAt W (ia i) (ib i) (io i) ss[i].ns) := fun W hW => ⟨(HSS.out.kp hW (fun _ f => f.elim)).c2 i hil, (HSS.out.kp hW (fun _ f => f.elim)).is i hil⟩
          have CPY := hide fun (W : World) (hW : IsAt W (ia i) (ib i) (io i) ss[i].ns) => copied_any (ia i) (ib i) (io i) (ic i) ss[i].ns hW
          have HTL := tk_len ss[i].ns
          clear hsw
          generalize d.does ss[i].kd ss[i].nd = d' at *
          generalize ss[i].kd = kd at *
          generalize ss[i].nd = sn at *
          generalize ss[i].ns = nsi at *
          generalize tk nsi = ts at *
          generalize nsi.length = sl at *
          generalize ia i = iai at *
          generalize ic i = ici at *
          generalize ib i = ibi at *
          generalize io i = ioi at *
          go_wp2_with fail
          refine Calls.mono PL.out ?_
          rintro q W3 ⟨rfl, h1⟩
          obtain ⟨T', hI'⟩ := HI.out.plays h1
          have HI1 := hide hI'
          have t2 := (HSL.out _ HI1.out.pl.ks).1
          have CP1 := hide (CPY.out _ (HSL.out _ HI1.out.pl.ks).2)
          clear h1 hI' PL s0 s1 s2 HI HP
          go_wp2_with fail
          refine Calls.mono CP1.out ?_
          rintro q W4 ⟨v, rfl, ho4, hb4⟩
          have HG2 := hide (HI1.out.given hb4 ho4 rfl HTL)
          have HI2 := hide (HI1.out.below hb4)
          clear ho4 hb4 t2 CP1 HI1 CPY HSL
          generalize ts.length = m at *
          have KP1 := hide (HI2.out.kept HG2.out UP.out.1 UP.out.2 (by omega) (by omega))
          go_wp2_with fail
          refine Calls.mono KP1.out ?_
          rintro q W5 ⟨vh5, en5, rfl, hi5, hg5⟩
          have HI5 := hide hi5
          have HG5 := hide hg5
          have KP2 := hide (HI5.out.kept HG5.out UP.out.1 UP.out.2 (by omega) (by omega))
          clear hi5 hg5 KP1 HI2 HG2
          go_wp2_with fail
          refine Calls.mono KP2.out ?_
          rintro q W6 ⟨vh6, en6, rfl, hi6, hg6⟩
          have HI6 := hide hi6
          have HG6 := hide hg6
          clear hi6 hg6 KP2 HI5 HG5
          obtain ⟨gs0, ao0, b0, cap0, em0, rfl, hIs0⟩ := HG6.out.is
          have e0 : gs0.length = m := em0
          rw [e0] at HG6 ⊢
          clear hIs0 em0 e0
          obtain ⟨mh, hmh⟩ : ∃ mh, mh = m / 2 := ⟨_, rfl⟩
          have emh : (m : Int).tdiv 2 = (mh : Int) := by rw [Int.tdiv_eq_ediv_of_nonneg (by omega)]; omega
          have hms := HG6.out.sm
          have HMH := hide hmh
          clear hmh
          have emh2 : (m : Int) / 2 = (mh : Int) := by have := HMH.out; omega
          go_wp2_with fail
          go_loopw [12, 13] (fun vk vx wr => ∃ (k : Nat), k ≤ mh ∧ vk = .int .i64 (k : Int) ∧ Hid (KI w wr S T' D R d' vh6 (i * 3 + 1 + 1) en6) ∧ Hid (Gd w wr S T' vh6 (i * 3 + 1 + 1) en6 (.slice ao0 m cap0) m)) (fun vk _ _ => mh - (intOf vk).toNat)
          case atStart => exact ⟨0, Nat.zero_le _, rfl, HI6.out, HG6.out⟩
          case round =>
            clear HI6 HG6
            obtain ⟨k, hk, rfl, HI7, HG7⟩ := hrel
            by_cases hkm : k < mh
            · have kz : (k : Int) < (mh : Int) := by omega
              have hm2 : 2 * mh ≤ m := by have := HMH.out; omega
              obtain ⟨g, capg, eg⟩ := HG7.out.sl (by omega)
              injection eg with eg1 eg2 eg3
              subst eg1
              obtain ⟨xk, ck, fk⟩ := HG7.out.at_ (j := k) (by omega)
              obtain ⟨r, hr⟩ : ∃ r, r = m - 1 - k := ⟨_, rfl⟩
              obtain ⟨m1, hm1⟩ : ∃ m1, m1 = m - 1 := ⟨_, rfl⟩
              have em1 : (m : Int) - 1 = (m1 : Int) := by omega
              have er : (m1 : Int) - (k : Int) = (r : Int) := by omega
              obtain ⟨xr, cr, fr⟩ := HG7.out.at_ (j := r) (by omega)
              have kmz : (k : Int) < (m : Int) := by omega
              have rmz : (r : Int) < (m : Int) := by omega
              have HW := hide (HI7.out.write HG7.out k xr)
              have HR1 := hide hr
              have HR2 := hide hm1
              have hrm : r < m := by omega
              clear hr hm1 eg2
              go_upto_region 18 with fail
              clear ck fk cr fr
              generalize wr.setCell ⟨g, k, none⟩ (.int .i64 xr) = W7 at *
              obtain ⟨xs, cs, fs⟩ := HW.out.2.at_ (j := r) hrm
              have HW2 := hide (HW.out.1.write HW.out.2 r xk)
              go_wp2_with fail
              go_roundw
              case rel => exact ⟨k + 1, by omega, by go_num, HW2.out.1, HW2.out.2⟩
              case measure => simp [intOf]; omega
            · have kz : ¬ (k : Int) < (mh : Int) := by omega
              have KP3 := hide (HI7.out.kept HG7.out UP.out.1 UP.out.2 (by omega) (by omega))
              go_wp2_with fail
              refine Calls.mono KP3.out ?_
              rintro q W8 ⟨vh8, en8, rfl, hi8, hg8⟩
              have HI8 := hide hi8
              have HG8 := hide hg8
              clear hi8 hg8 KP3 HI7 HG7
              go_wp2_with fail
              go_loopw [14] (fun vk wr => ∃ (k : Nat), k ≤ m ∧ vk = .int .i64 (k : Int) ∧ Hid (KI w wr S T' D R d' vh8 (i * 3 + 1 + 1 + 1) en8) ∧ Hid (Gd w wr S T' vh8 (i * 3 + 1 + 1 + 1) en8 (.slice ao0 m cap0) m)) (fun vk _ => m - (intOf vk).toNat)
              case atStart => exact ⟨0, Nat.zero_le _, rfl, HI8.out, HG8.out⟩
              case round =>
                clear HI8 HG8
                obtain ⟨k, hk, rfl, HI9, HG9⟩ := hrel
                by_cases hkm : k < m
                · have kmz : (k : Int) < (m : Int) := by omega
                  obtain ⟨g, capg, eg⟩ := HG9.out.sl (by omega)
                  injection eg with eg1 eg2 eg3
                  subst eg1
                  obtain ⟨xk, ck, fk⟩ := HG9.out.at_ (j := k) (by omega)
                  have HW := hide (HI9.out.write HG9.out k (-5))
                  clear eg2
                  go_wp2_with fail
                  go_roundw
                  case rel => exact ⟨k + 1, by omega, by go_num, HW.out.1, HW.out.2⟩
                  case measure => simp [intOf]; omega
                · have kmz : ¬ (k : Int) < (m : Int) := by omega
                  have HIE : Hid (KI w wr S T' D R d' vh8 ((i + 1) * 3) en8) := by
                    have := HI9.out
                    rwa [show i * 3 + 1 + 1 + 1 = (i + 1) * 3 by omega] at this
                  clear HI9 HG9
                  go_wp2_with fail
                  go_roundw
                  case rel => exact ⟨i + 1, d', T', en8, by omega, by omega, by go_num, HIE, UP⟩
                  case measure => simp [intOf]; omega
        · have q1 : (i : Int) < (ss.length : Int) := by omega
          have q2 : ¬ (i : Int) < 60 := by omega
          have LE := hide (left_any HI.out.bk (by omega))
          go_wp2_with fail
          refine Calls.mono LE.out ?_
          rintro q X1 ⟨rfl, hb1⟩
          have HI1 := hide (HI.out.below hb1)
          have AP := hide (apart0_any HI1.out.bk (by omega))
          clear hb1 LE HI
          go_wp2_with fail
          refine Calls.mono AP.out ?_
          rintro q X2 ⟨rfl, hk2⟩
          have HP2 := hide (HI1.out.apart hk2)
          clear hk2 AP HI1
          go_wp2_with fail
          go_loopw [15] (fun vj wr => ∃ (j : Nat) (d : Dt) (T : Nat → Prop), j ≤ ss.length ∧ j ≤ 60 ∧ vj = .int .i64 (j : Int) ∧ Hid (PlI w wr S T D R d) ∧ Hid (d.upto (60 + j) ∧ d.enb)) (fun vj _ => 60 - (intOf vj).toNat)
          case atStart => exact ⟨0, d, T, Nat.zero_le _, Nat.zero_le _, rfl, HP2.out, HP.out.1.mono (by omega), HP.out.2⟩
          case round =>
            clear HP2 HP
            obtain ⟨j, d, T, hj, hj2, rfl, HI, HP⟩ := hrel
            by_cases hjl : j < ss.length
            · by_cases hjk : j < 60
              · have p1 : (j : Int) < (ss.length : Int) := by omega
                have p2 : (j : Int) < 60 := by omega
                obtain rfl := HSS.out.at0 (by omega)
                have hsw := HSS.out.kp HI.out.ks (fun _ f => f.elim)
                have s0 := hsw.c0 j hjl
                have s1 := hsw.c1 j hjl
                have s2 := hsw.c2 j hjl
                have PL := hide (plays_any HI.out.tw HP.out.1 HP.out.2 (by omega) ss[j].kd ss[j].nd (ia j) (ib j) (io j) (ic j) ss[j].ns (hsw.is j hjl))
                have UP : Hid ((d.does ss[j].kd ss[j].nd).upto (60 + (j + 1)) ∧ (d.does ss[j].kd ss[j].nd).enb) := ⟨by have := HP.out.1.does ss[j].kd ss[j].nd; rwa [Nat.add_assoc] at this, enb_does HP.out.2 HP.out.1.ft _ _⟩
                clear hsw
                generalize ss[j].kd = kd at *
                generalize ss[j].nd = sn at *
                generalize ss[j].ns.length = sl at *
                generalize ia j = iai at *
                generalize ic j = ici at *
                go_wp2_with fail
                refine Calls.mono PL.out ?_
                rintro q W3 ⟨rfl, h1⟩
                obtain ⟨T', hI'⟩ := HI.out.step h1
                have HI' := hide hI'
                clear h1 hI' PL s0 s1 s2
                go_wp2_with fail
                go_roundw
                case rel => exact ⟨j + 1, _, T', by omega, by omega, by go_num, HI', UP⟩
                case measure => simp [intOf]; omega
              · have p1 : (j : Int) < (ss.length : Int) := by omega
                have p2 : ¬ (j : Int) < 60 := by omega
                go_wp2_with fail
                go_ret
                exact ⟨rfl, HI.out.ks.below⟩
            · have p1 : ¬ (j : Int) < (ss.length : Int) := by omega
              go_wp2_with fail
              go_ret
              exact ⟨rfl, HI.out.ks.below⟩
      · have q1 : ¬ (i : Int) < (ss.length : Int) := by omega
        have LE := hide (left_any HI.out.bk (by omega))
        go_wp2_with fail
        refine Calls.mono LE.out ?_
        rintro q X1 ⟨rfl, hb1⟩
        have HI1 := hide (HI.out.below hb1)
        have AP := hide (apart0_any HI1.out.bk (by omega))
        clear hb1 LE HI
        go_wp2_with fail
        refine Calls.mono AP.out ?_
        rintro q X2 ⟨rfl, hk2⟩
        have HP2 := hide (HI1.out.apart hk2)
        clear hk2 AP HI1
        go_wp2_with fail
        go_loopw [15] (fun vj wr => ∃ (j : Nat) (d : Dt) (T : Nat → Prop), j ≤ ss.length ∧ j ≤ 60 ∧ vj = .int .i64 (j : Int) ∧ Hid (PlI w wr S T D R d) ∧ Hid (d.upto (60 + j) ∧ d.enb)) (fun vj _ => 60 - (intOf vj).toNat)
        case atStart => exact ⟨0, d, T, Nat.zero_le _, Nat.zero_le _, rfl, HP2.out, HP.out.1.mono (by omega), HP.out.2⟩
        case round =>
          clear HP2 HP
          obtain ⟨j, d, T, hj, hj2, rfl, HI, HP⟩ := hrel
          by_cases hjl : j < ss.length
          · by_cases hjk : j < 60
            · have p1 : (j : Int) < (ss.length : Int) := by omega
              have p2 : (j : Int) < 60 := by omega
              obtain rfl := HSS.out.at0 (by omega)
              have hsw := HSS.out.kp HI.out.ks (fun _ f => f.elim)
              have s0 := hsw.c0 j hjl
              have s1 := hsw.c1 j hjl
              have s2 := hsw.c2 j hjl
              have PL := hide (plays_any HI.out.tw HP.out.1 HP.out.2 (by omega) ss[j].kd ss[j].nd (ia j) (ib j) (io j) (ic j) ss[j].ns (hsw.is j hjl))
              have UP : Hid ((d.does ss[j].kd ss[j].nd).upto (60 + (j + 1)) ∧ (d.does ss[j].kd ss[j].nd).enb) := ⟨by have := HP.out.1.does ss[j].kd ss[j].nd; rwa [Nat.add_assoc] at this, enb_does HP.out.2 HP.out.1.ft _ _⟩
              clear hsw
              generalize ss[j].kd = kd at *
              generalize ss[j].nd = sn at *
              generalize ss[j].ns.length = sl at *
              generalize ia j = iai at *
              generalize ic j = ici at *
              go_wp2_with fail
              refine Calls.mono PL.out ?_
              rintro q W3 ⟨rfl, h1⟩
              obtain ⟨T', hI'⟩ := HI.out.step h1
              have HI' := hide hI'
              clear h1 hI' PL s0 s1 s2
              go_wp2_with fail
              go_roundw
              case rel => exact ⟨j + 1, _, T', by omega, by omega, by go_num, HI', UP⟩
              case measure => simp [intOf]; omega
            · have p1 : (j : Int) < (ss.length : Int) := by omega
              have p2 : ¬ (j : Int) < 60 := by omega
              go_wp2_with fail
              go_ret
              exact ⟨rfl, HI.out.ks.below⟩
          · have p1 : ¬ (j : Int) < (ss.length : Int) := by omega
            go_wp2_with fail
            go_ret
            exact ⟨rfl, HI.out.ks.below⟩
  · have MA := hide (made_no W0 a b c hok)
    clear hok
    go_enter Try.func8, Try.ntmps8
    go_wp2_with fail
    rw [← hW0, ← hU]
    clear hW0 hU
    go_wp2_with fail
    refine Calls.mono MA.out ?_
    rintro e W1 ⟨rfl, hB1⟩
    have HB1 := hide (HB0.out.trans (hB1.mono HB0.out.size))
    clear hB1
    go_wp2_with fail
    go_ret
    exact ⟨rfl, HB1.out⟩
end Go.Proofs.Ytnegdhnmgkpkjaa
