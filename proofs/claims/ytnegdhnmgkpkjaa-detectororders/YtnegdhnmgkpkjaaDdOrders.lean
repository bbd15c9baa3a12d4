import Derived.Test.YtnegdhnmgkpkjaaDdSorted
import Derived.Test.YtnegdhnmgkpkjaaDdApart
namespace Go.Proofs.Ytnegdhnmgkpkjaa
open Go.RowKit
/-- those that are nodes -/
def inF (a : Int) (ns : List Int) : List Int := ns.filter (fun x => decide (0 ≤ x ∧ x < a))
theorem inF_succ {a : Int} {gs : List Int} {i : Nat} (h : i < gs.length) : inF a (gs.take (i + 1)) = if 0 ≤ gs[i] ∧ gs[i] < a then inF a (gs.take i) ++ [gs[i]] else inF a (gs.take i) := by
  unfold inF
  rw [List.take_succ_eq_append_getElem h, List.filter_append]
  by_cases e : 0 ≤ gs[i] ∧ gs[i] < a
  · rw [if_pos e]; simp [e]
  · rw [if_neg e]; simp [e]
theorem inF_len (a : Int) (gs : List Int) (i : Nat) : (inF a (gs.take i)).length ≤ i := by
  have h1 : (inF a (gs.take i)).length ≤ (gs.take i).length := List.length_filter_le _ _
  rw [List.length_take] at h1
  omega
theorem inF_in {a : Int} {gs : List Int} {x : Int} (h : x ∈ inF a gs) : 0 ≤ x ∧ x < a := by
  have := (List.mem_filter.1 h).2
  simpa using this
theorem tk_id {l : List Int} (h : l.length ≤ 200) : tk l = l := List.take_of_length_le h
set_option maxHeartbeats 16000000 in
set_option maxRecDepth 100000 in
set_option linter.unusedSimpArgs false in
set_option linter.unusedVariables false in
theorem orders_any (w : World) (a b c : Int) (ao : Option Addr) (sb so cap : Nat) (ia : Nat → Option Addr) (ib io ic : Nat → Nat) (ss : List Stp) (hs : SsAt w ao sb so ia ib io ic ss) (ao2 : Option Addr) (nb no ncap : Nat) (ns : List Int) (hns : IsAt w ao2 nb no ns) :
    Calls Try.prog 6 #[.agg #[.int .i64 a, .int .i64 b, .int .i64 c], .slice ao ss.length cap, .slice ao2 ns.length ncap] w fun e w' => e = .returned (.bool true) ∧ Below w.heap.size w w' := by
  obtain ⟨W0, hW0⟩ : ∃ W0, W0 = w.alloc (.cells #[.int .i64 a, .int .i64 b, .int .i64 c] 23) := ⟨_, rfl⟩
  obtain ⟨U, hU⟩ : ∃ U, U = w.heap.size := ⟨_, rfl⟩
  have hb : Below w.heap.size w W0 := by rw [hW0]; exact (Below.refl _ _).alloc (Nat.le_refl _) _
  have su : SuB W0 U a b c := by rw [hW0, hU]; exact heap_last _ _
  obtain ⟨c0, c1, c2⟩ := su.cs
  have HSU := hide su
  have HB0 := hide hb
  have NU := hide fun w n => num_any w n
  have HL := hs.len
  have HLn := hns.len
  have HSS := hide hs
  have HNS := hide hns
  clear hb su hs hns
  by_cases hok : okN a b c
  · have NE := hide (New_any W0 a b c hok)
    have FI := fun w => fits_any w a b c
    simp only [decide_eq_true hok] at FI
    have FI := hide FI
    have HUP : Hid ((Dt.new a.toNat b c).upto 0 ∧ (Dt.new a.toNat b c).enb) := ⟨(Ba.start (nd := 0) hok).up, fun k => by have := hok.2.2.1; show (0 : Int) ≤ 0 + c; omega⟩
    have HAn : Hid ((a.toNat : Int) = a) := by show _ = _; have := hok.1.1; omega
    clear hok
    go_enter Try.func6, Try.ntmps6
    go_wp2_with fail
    rw [← hW0, ← hU]
    clear hW0 hU
    go_wp2_with fail
    refine Calls.mono NE.out ?_
    rintro e W1 ⟨D, S, rfl, hD, hB1, hS⟩
    have hUW : U < W0.heap.size := blk_lt HSU.out
    have HI : Hid (BaI w W1 S D U (Dt.new a.toNat b c) a b c) := ⟨hD, HSU.out.kp (Kp.of_below hB1 non) (fun f => f), (Kp.of_below HB0.out non).trans (Kp.of_below hB1 non) (fun _ f => f.elim)⟩
    have hS2 : ∀ k, S k → w.heap.size ≤ k ∧ k ≠ U := fun k e => by
      have := hS k e
      have := HB0.out.size
      omega
    have HS := hide hS2
    clear NE HSU HB0 hD hB1 hS hS2 hUW c0 c1 c2
    obtain ⟨c0, c1, c2⟩ := HI.out.su.cs
    go_wp2_with fail
    refine Calls.mono (FI.out _) ?_
    rintro e W2 ⟨rfl, hB2⟩
    replace HI := hide (HI.out.below hB2)
    clear hB2 c0 c1 c2 FI
    go_wp2_with fail
    refine Calls.mono (NU.out _ _) ?_
    rintro e W3 ⟨rfl, rfl⟩
    go_wp2_with fail
    go_loopw [9] (fun vi wr => ∃ (i : Nat) (d : Dt), i ≤ ss.length ∧ i ≤ 2000 ∧ vi = .int .i64 (i : Int) ∧ Hid (BaI w wr S D U d a b c) ∧ Hid (d.upto i ∧ d.enb ∧ d.n = a.toNat)) (fun vi _ => 2000 - (intOf vi).toNat)
    case atStart => exact ⟨0, _, Nat.zero_le _, Nat.zero_le _, rfl, HI.out, HUP.out.1, HUP.out.2, rfl⟩
    case round =>
      clear HI HUP
      obtain ⟨i, d, hi, hi2, rfl, HI, HP⟩ := hrel
      by_cases hil : i < ss.length
      · by_cases hik : i < 2000
        · have q1 : (i : Int) < (ss.length : Int) := by omega
          have q2 : (i : Int) < 2000 := by omega
          obtain rfl := HSS.out.at0 (by omega)
          have hsw := HSS.out.kp HI.out.ks (fun _ f => f.elim)
          have s0 := hsw.c0 i hil
          have s1 := hsw.c1 i hil
          have s2 := hsw.c2 i hil
          have DR := hide (drive_any HI.out.dt HP.out.1 (by omega) ss[i].kd ss[i].nd (ia i) ss[i].ns.length (ic i))
          have UP : Hid ((d.does ss[i].kd ss[i].nd).upto (i + 1) ∧ (d.does ss[i].kd ss[i].nd).enb ∧ (d.does ss[i].kd ss[i].nd).n = a.toNat) := ⟨HP.out.1.does _ _, enb_does HP.out.2.1 HP.out.1.ft _ _, (does_n _ _ _).trans HP.out.2.2⟩
          clear hsw
          generalize ss[i].kd = kd at *
          generalize ss[i].nd = sn at *
          generalize ss[i].ns.length = sl at *
          generalize ia i = iai at *
          generalize ic i = ici at *
          go_wp2_with fail
          refine Calls.mono DR.out ?_
          rintro q W3 ⟨rfl, h1, h2⟩
          replace HI := hide (HI.out.step HS.out h1 h2)
          clear h1 h2 DR s0 s1 s2
          go_wp2_with fail
          go_roundw
          case rel => exact ⟨i + 1, _, by omega, by omega, by go_num, HI, UP⟩
          case measure => simp [intOf]; omega
        · have q1 : (i : Int) < (ss.length : Int) := by omega
          have q2 : ¬ (i : Int) < 2000 := by omega
          obtain ⟨ws, hws⟩ : ∃ ws, ws = wr := ⟨_, rfl⟩
          have HIs : Hid (BaI w ws S D U d a b c) := by rw [hws]; exact HI.out
          have HD2 : Hid (∀ W, Below ws.heap.size ws W → DtAt W S D d) := fun W hW => HIs.out.dt.below hW
          have HSu2 : Hid (∀ W, Below ws.heap.size ws W → SuB W U a b c) := fun W hW => HIs.out.su.kp (Kp.of_below hW non) (fun f => f)
          have HNs2 : Hid (∀ W, Below ws.heap.size ws W → IsAt W ao2 nb no ns) := fun W hW => (HNS.out.kp HIs.out.ks (fun _ f => f)).kp (Kp.of_below hW non) (fun _ f => f)
          have HBs : Hid (Below ws.heap.size ws wr) := by rw [hws]; exact Below.refl _ _
          clear hws HI
          go_wp2_with fail
          go_loopw [10, 11] (fun vg vj wr => ∃ (j : Nat), j ≤ ns.length ∧ j ≤ 200 ∧ vj = .int .i64 (j : Int) ∧ Hid (wr.ownsRow ws.heap.size 3 1 vg (inF a (ns.take j)).length (ints (inF a (ns.take j)))) ∧ Hid (Below ws.heap.size ws wr)) (fun _ vj _ => 200 - (intOf vj).toNat)
          case atStart => exact ⟨0, Nat.zero_le _, Nat.zero_le _, rfl, World.ownsRow_nil _ _ _ _, HBs.out⟩
          case round =>
            clear HBs
            obtain ⟨j, hj, hj2, rfl, HO, HB2⟩ := hrel
            have HX2 : Hid True := trivial
            have HFa : Hid True := trivial
            by_cases hjl : j < ns.length
            · by_cases hjk : j < 200
              · have r1 : (j : Int) < (ns.length : Int) := by omega
                have r2 : (j : Int) < 200 := by omega
                obtain rfl := HNS.out.at0 (by omega)
                have e1 := (HNs2.out _ HB2.out).cell j hjl
                obtain ⟨d0, d1, d2⟩ := (HSu2.out _ HB2.out).cs
                have HT := hide (inF_succ (a := a) hjl)
                have HLs := hide (inF_len a ns j)
                generalize inF a (ns.take j) = fi at *
                generalize ns[j] = x at *
                by_cases x0 : 0 ≤ x
                · by_cases x1 : x < a
                  · have HT2 : Hid (inF a (ns.take (j + 1)) = fi ++ [x]) := by show _ = _; rw [HT.out, if_pos ⟨x0, x1⟩]
                    go_wp2_with fail
                    go_quiet (fail)
                    have kq := (Kp.refl wr non).drewN nq
                    have HOq := hide (own_kp HO.out kq (fun _ _ f => f))
                    have HBq := hide ((Kp.of_below HB2.out non).trans kq (fun _ f => f.elim)).below
                    have e2 : (wr.drewN nq).cell? ⟨nb, no + j, none⟩ = some (.int .i64 x) := e1
                    clear kq e1 d0 d1 d2 HO HB2
                    generalize wr.drewN nq = wq at *
                    obtain ⟨W4, hW4⟩ : ∃ W4, W4 = wq.alloc (.cells #[.int .i64 x] 3) := ⟨_, rfl⟩
                    have hb4 : Below wq.heap.size wq W4 := by rw [hW4]; exact (Below.refl _ _).alloc (Nat.le_refl _) _
                    have gg : W4.heap[wq.heap.size]? = some (.cells #[.int .i64 x] 3) := by rw [hW4]; exact heap_last _ _
                    have HO4 := hide (own_kp HOq.out (Kp.of_below hb4 non) (fun _ _ f => f))
                    have HGG := hide gg
                    have hsz : ws.heap.size ≤ W4.heap.size := Nat.le_trans HBq.out.size hb4.size
                    have K4 := hide ((Kp.of_below HBq.out non).trans (Kp.of_below hb4 non) (fun _ f => f.elim))
                    clear gg hb4
                    go_wp2_with (at_builtin; rw [← hW4]; refine wpList_apI rfl (.tmp 85) (.tmp 90) rfl ws.heap.size _ fi.length fi rfl HO4.out wq.heap.size x rfl HGG.out (by have := HLs.out; omega) hsz ?_; intro v' w' o2 g2 _; have HO5 := hide o2; have K5 : Hid (Kp ws w' non) := (K4.out.trans (Kp.of_grown g2) (fun k hk => Or.inr (own_ge HO4.out hk.symm))); clear o2 g2)
                    go_roundw
                    case rel => exact ⟨j + 1, by omega, by omega, by go_num, by rw [HT2.out, List.length_append]; exact HO5, K5.out.below⟩
                    case measure => simp [intOf]; omega
                  · have HT2 : Hid (inF a (ns.take (j + 1)) = fi) := by show _ = _; rw [HT.out, if_neg (fun q => x1 q.2)]
                    have x1d : decide (x < a) = false := decide_eq_false x1
                    go_wp2_with fail
                    go_quiet (fail)
                    have kq := (Kp.refl wr non).drewN nq
                    have HOq := hide (own_kp HO.out kq (fun _ _ f => f))
                    have HBq := hide ((Kp.of_below HB2.out non).trans kq (fun _ f => f.elim)).below
                    clear kq e1 d0 d1 d2 HO HB2
                    generalize wr.drewN nq = wq at *
                    go_wp2_with fail
                    go_roundw
                    case rel => exact ⟨j + 1, by omega, by omega, by go_num, by rw [HT2.out]; exact HOq, HBq⟩
                    case measure => simp [intOf]; omega
                · have HT2 : Hid (inF a (ns.take (j + 1)) = fi) := by show _ = _; rw [HT.out, if_neg (fun q => x0 q.1)]
                  have x0d : decide (0 ≤ x) = false := decide_eq_false x0
                  have x0e : decide (x ≥ 0) = false := decide_eq_false x0
                  go_wp2_with fail
                  go_quiet (fail)
                  have kq := (Kp.refl wr non).drewN nq
                  have HOq := hide (own_kp HO.out kq (fun _ _ f => f))
                  have HBq := hide ((Kp.of_below HB2.out non).trans kq (fun _ f => f.elim)).below
                  clear kq e1 d0 d1 d2 HO HB2
                  generalize wr.drewN nq = wq at *
                  go_wp2_with fail
                  go_roundw
                  case rel => exact ⟨j + 1, by omega, by omega, by go_num, by rw [HT2.out]; exact HOq, HBq⟩
                  case measure => simp [intOf]; omega
              · have r1 : (j : Int) < (ns.length : Int) := by omega
                have r2 : ¬ (j : Int) < 200 := by omega
                have hgl : (inF a (ns.take j)).length ≤ 200 := Nat.le_trans (inF_len a ns j) hj2
                have hgin : ∀ x ∈ inF a (ns.take j), 0 ≤ x ∧ x < (d.n : Int) := fun x hx => by rw [HP.out.2.2, HAn.out]; exact inF_in hx
                have HBad : Hid (¬ ∀ x ∈ inF a (ns.take j) ++ [a], 0 ≤ x ∧ x < (d.n : Int)) := fun q => by
                  have := q a (List.mem_append_right _ (List.mem_singleton.2 rfl))
                  rw [HP.out.2.2, HAn.out] at this
                  omega
                generalize inF a (ns.take j) = gs at *
                have HGI := hide hgin
                obtain ⟨gs2, hgs2⟩ : ∃ gs2, gs2 = gs ++ [a] := ⟨_, rfl⟩
                rw [← hgs2] at HBad
                have HG2 := hide hgs2
                have HG2L : Hid (gs2.length ≤ 1000000) := by show _ ≤ _; rw [hgs2, List.length_append, List.length_singleton]; omega
                clear hgin HFa hgs2
                obtain ⟨hgn, aog, bg, capg, rfl, hIg, hbg⟩ := own_is HO.out (by omega)
                have HIG := hide hIg
                have HBG := hide hbg
                have tkg : tk gs = gs := tk_id hgl
                clear hIg hbg hgn
                have hX2 := HX2.out
                have CP := fun (W : World) (h : IsAt W aog bg 0 gs) => copied_any (w := W) aog bg 0 capg gs h
                simp only [tkg] at CP
                have CPh := hide CP
                clear CP tkg hX2
                have CP1 := hide (CPh.out _ HIG.out)
                go_wp2_with fail
                refine Calls.mono CP1.out ?_
                rintro z X1 ⟨v1, rfl, ho1, hb1⟩
                have k1 := Kp.of_below hb1 non
                have HB1 := hide (HB2.out.trans (hb1.mono HB2.out.size))
                have HIG1 := hide (HIG.out.kp k1 (fun _ f => f))
                have HO1 := hide (own_kp HO.out k1 (fun _ _ f => f))
                obtain ⟨f1, ao1, b1, cap1, rfl, hI1, f2⟩ := own_is ho1 (by omega)
                clear f1 f2
                have OR1 := hide (Order_any (HD2.out _ HB1.out) HP.out.1.ft HP.out.2.1 ao1 b1 0 cap1 gs hI1 HGI.out (by omega))
                clear ho1 hb1 k1 hI1 CP1
                go_wp2_with fail
                refine Calls.mono OR1.out ?_
                rintro z X2 ⟨g1, rfl, hr1, hl1, hg1, hb2⟩
                have k2 := Kp.of_below hb2 non
                have HB3 := hide (HB1.out.trans (hb2.mono HB1.out.size))
                have HIG2 := hide (HIG1.out.kp k2 (fun _ f => f))
                have HO2 := hide (own_kp HO1.out k2 (fun _ _ f => f))
                have HR1 := hide hr1
                have HL1 := hide hl1
                have CP2 := hide (CPh.out _ HIG2.out)
                clear hr1 hl1 hg1 hb2 k2 OR1 HO1 HIG1
                go_wp2_with fail
                refine Calls.mono CP2.out ?_
                rintro z X3 ⟨v2, rfl, ho2, hb3⟩
                have k3 := Kp.of_below hb3 non
                have HB4 := hide (HB3.out.trans (hb3.mono HB3.out.size))
                have HIG3 := hide (HIG2.out.kp k3 (fun _ f => f))
                have HO3 := hide (own_kp HO2.out k3 (fun _ _ f => f))
                have HR2 := hide (HR1.out.kp k3 (fun f => f))
                obtain ⟨f1, ao3, b3, cap3, rfl, hI3, f2⟩ := own_is ho2 (by omega)
                clear f1 f2
                have OR2 := hide (Order_any (HD2.out _ HB4.out) HP.out.1.ft HP.out.2.1 ao3 b3 0 cap3 gs hI3 HGI.out (by omega))
                clear ho2 hb3 k3 hI3 CP2 HO2 HIG2
                go_wp2_with fail
                refine Calls.mono OR2.out ?_
                rintro z X4 ⟨g2, rfl, hr2, hl2, hg2, hb4⟩
                have k4 := Kp.of_below hb4 non
                have HB5 := hide (HB4.out.trans (hb4.mono HB4.out.size))
                have HIG4 := hide (HIG3.out.kp k4 (fun _ f => f))
                have HO4 := hide (own_kp HO3.out k4 (fun _ _ f => f))
                have HR3 := hide (HR2.out.kp k4 (fun f => f))
                have SA := same_any (w := X4) _ g1 0 gs.length (ordL d gs) (HR3.out.is (by rw [HL1.out]; omega)) _ g2 0 gs.length (ordL d gs) (hr2.is (by rw [HL1.out]; omega))
                rw [decide_eq_true rfl, HL1.out] at SA
                have SA := hide SA
                clear hr2 hl2 hg2 hb4 k4 OR2 HO3 HIG3 HR2
                go_wp2_with fail
                refine Calls.mono (NU.out _ _) ?_
                rintro z Y1 ⟨rfl, rfl⟩
                go_wp2_with fail
                refine Calls.mono (NU.out _ _) ?_
                rintro z Y1 ⟨rfl, rfl⟩
                go_wp2_with fail
                refine Calls.mono SA.out ?_
                rintro z X5 ⟨rfl, hb5⟩
                have k5 := Kp.of_below hb5 non
                have HB6 := hide (HB5.out.trans (hb5.mono HB5.out.size))
                have HIG5 := hide (HIG4.out.kp k5 (fun _ f => f))
                have HO5 := hide (own_kp HO4.out k5 (fun _ _ f => f))
                have SO := hide (sorted_any (HD2.out _ HB6.out) HP.out.1.ft HP.out.2.1 aog bg 0 capg gs HIG5.out HGI.out (by omega) g1 (HR3.out.kp k5 (fun f => f)) HL1.out)
                clear hb5 k5 SA HO4 HIG4 HR3
                go_wp2_with fail
                refine Calls.mono SO.out ?_
                rintro z X6 ⟨rfl, hb6⟩
                have k6 := Kp.of_below hb6 non
                have HB7 := hide (HB6.out.trans (hb6.mono HB6.out.size))
                have HO6 := hide (own_kp HO5.out k6 (fun _ _ f => f))
                obtain ⟨d0, d1, d2⟩ := (HSu2.out _ HB7.out).cs
                obtain ⟨X7, hX7⟩ : ∃ X7, X7 = X6.alloc (.cells #[.int .i64 a] 3) := ⟨_, rfl⟩
                have hb7 : Below X6.heap.size X6 X7 := by rw [hX7]; exact (Below.refl _ _).alloc (Nat.le_refl _) _
                have gg : X7.heap[X6.heap.size]? = some (.cells #[.int .i64 a] 3) := by rw [hX7]; exact heap_last _ _
                have HO7 := hide (own_kp HO6.out (Kp.of_below hb7 non) (fun _ _ f => f))
                have HGG := hide gg
                have HB8 := hide (HB7.out.trans (hb7.mono HB7.out.size))
                have hsz : ws.heap.size ≤ X7.heap.size := HB8.out.size
                clear hb6 k6 SO HO5 HIG5 hb7 gg
                go_wp2_with (at_builtin; rw [← hX7]; refine wpList_apI rfl (.tmp 127) (.tmp 130) rfl ws.heap.size _ gs.length gs rfl HO7.out X6.heap.size a rfl HGG.out (by omega) hsz ?_; intro v' X8 o8 g8 _; rw [← HG2.out] at o8; obtain ⟨e8, ao8, b8, cap8, rfl, hI8, e9⟩ := own_is o8 HG2L.out; clear e8 e9; have K8 : Hid (Below ws.heap.size ws X8) := ((Kp.of_below HB8.out non).trans (Kp.of_grown g8) (fun k hk => Or.inr (own_ge HO7.out hk.symm))).below; have OR3 := hide (Order_bad (HD2.out _ K8.out) HP.out.1.ft ao8 b8 0 cap8 gs2 hI8 HBad.out); clear o8 g8 hI8 hX7)
                refine Calls.mono OR3.out ?_
                rintro z X9 ⟨rfl, hb9⟩
                have HB9 := hide (K8.out.trans (hb9.mono K8.out.size))
                clear hb9 OR3
                go_wp2_with fail
                refine Calls.mono (NU.out _ _) ?_
                rintro z Y1 ⟨rfl, rfl⟩
                go_wp2_with fail
                go_ret
                exact ⟨rfl, (HIs.out.ks.trans (Kp.of_below HB9.out non) (fun _ f => f.elim)).below⟩
            · have r1 : ¬ (j : Int) < (ns.length : Int) := by omega
              have hgl : (inF a (ns.take j)).length ≤ 200 := Nat.le_trans (inF_len a ns j) hj2
              have hgin : ∀ x ∈ inF a (ns.take j), 0 ≤ x ∧ x < (d.n : Int) := fun x hx => by rw [HP.out.2.2, HAn.out]; exact inF_in hx
              have HBad : Hid (¬ ∀ x ∈ inF a (ns.take j) ++ [a], 0 ≤ x ∧ x < (d.n : Int)) := fun q => by
                have := q a (List.mem_append_right _ (List.mem_singleton.2 rfl))
                rw [HP.out.2.2, HAn.out] at this
                omega
              generalize inF a (ns.take j) = gs at *
              have HGI := hide hgin
              obtain ⟨gs2, hgs2⟩ : ∃ gs2, gs2 = gs ++ [a] := ⟨_, rfl⟩
              rw [← hgs2] at HBad
              have HG2 := hide hgs2
              have HG2L : Hid (gs2.length ≤ 1000000) := by show _ ≤ _; rw [hgs2, List.length_append, List.length_singleton]; omega
              clear hgin HFa hgs2
              obtain ⟨hgn, aog, bg, capg, rfl, hIg, hbg⟩ := own_is HO.out (by omega)
              have HIG := hide hIg
              have HBG := hide hbg
              have tkg : tk gs = gs := tk_id hgl
              clear hIg hbg hgn
              have hX2 := HX2.out
              have CP := fun (W : World) (h : IsAt W aog bg 0 gs) => copied_any (w := W) aog bg 0 capg gs h
              simp only [tkg] at CP
              have CPh := hide CP
              clear CP tkg hX2
              have CP1 := hide (CPh.out _ HIG.out)
              go_wp2_with fail
              refine Calls.mono CP1.out ?_
              rintro z X1 ⟨v1, rfl, ho1, hb1⟩
              have k1 := Kp.of_below hb1 non
              have HB1 := hide (HB2.out.trans (hb1.mono HB2.out.size))
              have HIG1 := hide (HIG.out.kp k1 (fun _ f => f))
              have HO1 := hide (own_kp HO.out k1 (fun _ _ f => f))
              obtain ⟨f1, ao1, b1, cap1, rfl, hI1, f2⟩ := own_is ho1 (by omega)
              clear f1 f2
              have OR1 := hide (Order_any (HD2.out _ HB1.out) HP.out.1.ft HP.out.2.1 ao1 b1 0 cap1 gs hI1 HGI.out (by omega))
              clear ho1 hb1 k1 hI1 CP1
              go_wp2_with fail
              refine Calls.mono OR1.out ?_
              rintro z X2 ⟨g1, rfl, hr1, hl1, hg1, hb2⟩
              have k2 := Kp.of_below hb2 non
              have HB3 := hide (HB1.out.trans (hb2.mono HB1.out.size))
              have HIG2 := hide (HIG1.out.kp k2 (fun _ f => f))
              have HO2 := hide (own_kp HO1.out k2 (fun _ _ f => f))
              have HR1 := hide hr1
              have HL1 := hide hl1
              have CP2 := hide (CPh.out _ HIG2.out)
              clear hr1 hl1 hg1 hb2 k2 OR1 HO1 HIG1
              go_wp2_with fail
              refine Calls.mono CP2.out ?_
              rintro z X3 ⟨v2, rfl, ho2, hb3⟩
              have k3 := Kp.of_below hb3 non
              have HB4 := hide (HB3.out.trans (hb3.mono HB3.out.size))
              have HIG3 := hide (HIG2.out.kp k3 (fun _ f => f))
              have HO3 := hide (own_kp HO2.out k3 (fun _ _ f => f))
              have HR2 := hide (HR1.out.kp k3 (fun f => f))
              obtain ⟨f1, ao3, b3, cap3, rfl, hI3, f2⟩ := own_is ho2 (by omega)
              clear f1 f2
              have OR2 := hide (Order_any (HD2.out _ HB4.out) HP.out.1.ft HP.out.2.1 ao3 b3 0 cap3 gs hI3 HGI.out (by omega))
              clear ho2 hb3 k3 hI3 CP2 HO2 HIG2
              go_wp2_with fail
              refine Calls.mono OR2.out ?_
              rintro z X4 ⟨g2, rfl, hr2, hl2, hg2, hb4⟩
              have k4 := Kp.of_below hb4 non
              have HB5 := hide (HB4.out.trans (hb4.mono HB4.out.size))
              have HIG4 := hide (HIG3.out.kp k4 (fun _ f => f))
              have HO4 := hide (own_kp HO3.out k4 (fun _ _ f => f))
              have HR3 := hide (HR2.out.kp k4 (fun f => f))
              have SA := same_any (w := X4) _ g1 0 gs.length (ordL d gs) (HR3.out.is (by rw [HL1.out]; omega)) _ g2 0 gs.length (ordL d gs) (hr2.is (by rw [HL1.out]; omega))
              rw [decide_eq_true rfl, HL1.out] at SA
              have SA := hide SA
              clear hr2 hl2 hg2 hb4 k4 OR2 HO3 HIG3 HR2
              go_wp2_with fail
              refine Calls.mono (NU.out _ _) ?_
              rintro z Y1 ⟨rfl, rfl⟩
              go_wp2_with fail
              refine Calls.mono (NU.out _ _) ?_
              rintro z Y1 ⟨rfl, rfl⟩
              go_wp2_with fail
              refine Calls.mono SA.out ?_
              rintro z X5 ⟨rfl, hb5⟩
              have k5 := Kp.of_below hb5 non
              have HB6 := hide (HB5.out.trans (hb5.mono HB5.out.size))
              have HIG5 := hide (HIG4.out.kp k5 (fun _ f => f))
              have HO5 := hide (own_kp HO4.out k5 (fun _ _ f => f))
              have SO := hide (sorted_any (HD2.out _ HB6.out) HP.out.1.ft HP.out.2.1 aog bg 0 capg gs HIG5.out HGI.out (by omega) g1 (HR3.out.kp k5 (fun f => f)) HL1.out)
              clear hb5 k5 SA HO4 HIG4 HR3
              go_wp2_with fail
              refine Calls.mono SO.out ?_
              rintro z X6 ⟨rfl, hb6⟩
              have k6 := Kp.of_below hb6 non
              have HB7 := hide (HB6.out.trans (hb6.mono HB6.out.size))
              have HO6 := hide (own_kp HO5.out k6 (fun _ _ f => f))
              obtain ⟨d0, d1, d2⟩ := (HSu2.out _ HB7.out).cs
              obtain ⟨X7, hX7⟩ : ∃ X7, X7 = X6.alloc (.cells #[.int .i64 a] 3) := ⟨_, rfl⟩
              have hb7 : Below X6.heap.size X6 X7 := by rw [hX7]; exact (Below.refl _ _).alloc (Nat.le_refl _) _
              have gg : X7.heap[X6.heap.size]? = some (.cells #[.int .i64 a] 3) := by rw [hX7]; exact heap_last _ _
              have HO7 := hide (own_kp HO6.out (Kp.of_below hb7 non) (fun _ _ f => f))
              have HGG := hide gg
              have HB8 := hide (HB7.out.trans (hb7.mono HB7.out.size))
              have hsz : ws.heap.size ≤ X7.heap.size := HB8.out.size
              clear hb6 k6 SO HO5 HIG5 hb7 gg
              go_wp2_with (at_builtin; rw [← hX7]; refine wpList_apI rfl (.tmp 127) (.tmp 130) rfl ws.heap.size _ gs.length gs rfl HO7.out X6.heap.size a rfl HGG.out (by omega) hsz ?_; intro v' X8 o8 g8 _; rw [← HG2.out] at o8; obtain ⟨e8, ao8, b8, cap8, rfl, hI8, e9⟩ := own_is o8 HG2L.out; clear e8 e9; have K8 : Hid (Below ws.heap.size ws X8) := ((Kp.of_below HB8.out non).trans (Kp.of_grown g8) (fun k hk => Or.inr (own_ge HO7.out hk.symm))).below; have OR3 := hide (Order_bad (HD2.out _ K8.out) HP.out.1.ft ao8 b8 0 cap8 gs2 hI8 HBad.out); clear o8 g8 hI8 hX7)
              refine Calls.mono OR3.out ?_
              rintro z X9 ⟨rfl, hb9⟩
              have HB9 := hide (K8.out.trans (hb9.mono K8.out.size))
              clear hb9 OR3
              go_wp2_with fail
              refine Calls.mono (NU.out _ _) ?_
              rintro z Y1 ⟨rfl, rfl⟩
              go_wp2_with fail
              go_ret
              exact ⟨rfl, (HIs.out.ks.trans (Kp.of_below HB9.out non) (fun _ f => f.elim)).below⟩
      · have q1 : ¬ (i : Int) < (ss.length : Int) := by omega
        obtain ⟨ws, hws⟩ : ∃ ws, ws = wr := ⟨_, rfl⟩
        have HIs : Hid (BaI w ws S D U d a b c) := by rw [hws]; exact HI.out
        have HD2 : Hid (∀ W, Below ws.heap.size ws W → DtAt W S D d) := fun W hW => HIs.out.dt.below hW
        have HSu2 : Hid (∀ W, Below ws.heap.size ws W → SuB W U a b c) := fun W hW => HIs.out.su.kp (Kp.of_below hW non) (fun f => f)
        have HNs2 : Hid (∀ W, Below ws.heap.size ws W → IsAt W ao2 nb no ns) := fun W hW => (HNS.out.kp HIs.out.ks (fun _ f => f)).kp (Kp.of_below hW non) (fun _ f => f)
        have HBs : Hid (Below ws.heap.size ws wr) := by rw [hws]; exact Below.refl _ _
        clear hws HI
        go_wp2_with fail
        go_loopw [10, 11] (fun vg vj wr => ∃ (j : Nat), j ≤ ns.length ∧ j ≤ 200 ∧ vj = .int .i64 (j : Int) ∧ Hid (wr.ownsRow ws.heap.size 3 1 vg (inF a (ns.take j)).length (ints (inF a (ns.take j)))) ∧ Hid (Below ws.heap.size ws wr)) (fun _ vj _ => 200 - (intOf vj).toNat)
        case atStart => exact ⟨0, Nat.zero_le _, Nat.zero_le _, rfl, World.ownsRow_nil _ _ _ _, HBs.out⟩
        case round =>
          clear HBs
          obtain ⟨j, hj, hj2, rfl, HO, HB2⟩ := hrel
          have HX2 : Hid True := trivial
          have HFa : Hid True := trivial
          by_cases hjl : j < ns.length
          · by_cases hjk : j < 200
            · have r1 : (j : Int) < (ns.length : Int) := by omega
              have r2 : (j : Int) < 200 := by omega
              obtain rfl := HNS.out.at0 (by omega)
              have e1 := (HNs2.out _ HB2.out).cell j hjl
              obtain ⟨d0, d1, d2⟩ := (HSu2.out _ HB2.out).cs
              have HT := hide (inF_succ (a := a) hjl)
              have HLs := hide (inF_len a ns j)
              generalize inF a (ns.take j) = fi at *
              generalize ns[j] = x at *
              by_cases x0 : 0 ≤ x
              · by_cases x1 : x < a
                · have HT2 : Hid (inF a (ns.take (j + 1)) = fi ++ [x]) := by show _ = _; rw [HT.out, if_pos ⟨x0, x1⟩]
                  go_wp2_with fail
                  go_quiet (fail)
                  have kq := (Kp.refl wr non).drewN nq
                  have HOq := hide (own_kp HO.out kq (fun _ _ f => f))
                  have HBq := hide ((Kp.of_below HB2.out non).trans kq (fun _ f => f.elim)).below
                  have e2 : (wr.drewN nq).cell? ⟨nb, no + j, none⟩ = some (.int .i64 x) := e1
                  clear kq e1 d0 d1 d2 HO HB2
                  generalize wr.drewN nq = wq at *
                  obtain ⟨W4, hW4⟩ : ∃ W4, W4 = wq.alloc (.cells #[.int .i64 x] 3) := ⟨_, rfl⟩
                  have hb4 : Below wq.heap.size wq W4 := by rw [hW4]; exact (Below.refl _ _).alloc (Nat.le_refl _) _
                  have gg : W4.heap[wq.heap.size]? = some (.cells #[.int .i64 x] 3) := by rw [hW4]; exact heap_last _ _
                  have HO4 := hide (own_kp HOq.out (Kp.of_below hb4 non) (fun _ _ f => f))
                  have HGG := hide gg
                  have hsz : ws.heap.size ≤ W4.heap.size := Nat.le_trans HBq.out.size hb4.size
                  have K4 := hide ((Kp.of_below HBq.out non).trans (Kp.of_below hb4 non) (fun _ f => f.elim))
                  clear gg hb4
                  go_wp2_with (at_builtin; rw [← hW4]; refine wpList_apI rfl (.tmp 85) (.tmp 90) rfl ws.heap.size _ fi.length fi rfl HO4.out wq.heap.size x rfl HGG.out (by have := HLs.out; omega) hsz ?_; intro v' w' o2 g2 _; have HO5 := hide o2; have K5 : Hid (Kp ws w' non) := (K4.out.trans (Kp.of_grown g2) (fun k hk => Or.inr (own_ge HO4.out hk.symm))); clear o2 g2)
                  go_roundw
                  case rel => exact ⟨j + 1, by omega, by omega, by go_num, by rw [HT2.out, List.length_append]; exact HO5, K5.out.below⟩
                  case measure => simp [intOf]; omega
                · have HT2 : Hid (inF a (ns.take (j + 1)) = fi) := by show _ = _; rw [HT.out, if_neg (fun q => x1 q.2)]
                  have x1d : decide (x < a) = false := decide_eq_false x1
                  go_wp2_with fail
                  go_quiet (fail)
                  have kq := (Kp.refl wr non).drewN nq
                  have HOq := hide (own_kp HO.out kq (fun _ _ f => f))
                  have HBq := hide ((Kp.of_below HB2.out non).trans kq (fun _ f => f.elim)).below
                  clear kq e1 d0 d1 d2 HO HB2
                  generalize wr.drewN nq = wq at *
                  go_wp2_with fail
                  go_roundw
                  case rel => exact ⟨j + 1, by omega, by omega, by go_num, by rw [HT2.out]; exact HOq, HBq⟩
                  case measure => simp [intOf]; omega
              · have HT2 : Hid (inF a (ns.take (j + 1)) = fi) := by show _ = _; rw [HT.out, if_neg (fun q => x0 q.1)]
                have x0d : decide (0 ≤ x) = false := decide_eq_false x0
                have x0e : decide (x ≥ 0) = false := decide_eq_false x0
                go_wp2_with fail
                go_quiet (fail)
                have kq := (Kp.refl wr non).drewN nq
                have HOq := hide (own_kp HO.out kq (fun _ _ f => f))
                have HBq := hide ((Kp.of_below HB2.out non).trans kq (fun _ f => f.elim)).below
                clear kq e1 d0 d1 d2 HO HB2
                generalize wr.drewN nq = wq at *
                go_wp2_with fail
                go_roundw
                case rel => exact ⟨j + 1, by omega, by omega, by go_num, by rw [HT2.out]; exact HOq, HBq⟩
                case measure => simp [intOf]; omega
            · have r1 : (j : Int) < (ns.length : Int) := by omega
              have r2 : ¬ (j : Int) < 200 := by omega
              have hgl : (inF a (ns.take j)).length ≤ 200 := Nat.le_trans (inF_len a ns j) hj2
              have hgin : ∀ x ∈ inF a (ns.take j), 0 ≤ x ∧ x < (d.n : Int) := fun x hx => by rw [HP.out.2.2, HAn.out]; exact inF_in hx
              have HBad : Hid (¬ ∀ x ∈ inF a (ns.take j) ++ [a], 0 ≤ x ∧ x < (d.n : Int)) := fun q => by
                have := q a (List.mem_append_right _ (List.mem_singleton.2 rfl))
                rw [HP.out.2.2, HAn.out] at this
                omega
              generalize inF a (ns.take j) = gs at *
              have HGI := hide hgin
              obtain ⟨gs2, hgs2⟩ : ∃ gs2, gs2 = gs ++ [a] := ⟨_, rfl⟩
              rw [← hgs2] at HBad
              have HG2 := hide hgs2
              have HG2L : Hid (gs2.length ≤ 1000000) := by show _ ≤ _; rw [hgs2, List.length_append, List.length_singleton]; omega
              clear hgin HFa hgs2
              obtain ⟨hgn, aog, bg, capg, rfl, hIg, hbg⟩ := own_is HO.out (by omega)
              have HIG := hide hIg
              have HBG := hide hbg
              have tkg : tk gs = gs := tk_id hgl
              clear hIg hbg hgn
              have hX2 := HX2.out
              have CP := fun (W : World) (h : IsAt W aog bg 0 gs) => copied_any (w := W) aog bg 0 capg gs h
              simp only [tkg] at CP
              have CPh := hide CP
              clear CP tkg hX2
              have CP1 := hide (CPh.out _ HIG.out)
              go_wp2_with fail
              refine Calls.mono CP1.out ?_
              rintro z X1 ⟨v1, rfl, ho1, hb1⟩
              have k1 := Kp.of_below hb1 non
              have HB1 := hide (HB2.out.trans (hb1.mono HB2.out.size))
              have HIG1 := hide (HIG.out.kp k1 (fun _ f => f))
              have HO1 := hide (own_kp HO.out k1 (fun _ _ f => f))
              obtain ⟨f1, ao1, b1, cap1, rfl, hI1, f2⟩ := own_is ho1 (by omega)
              clear f1 f2
              have OR1 := hide (Order_any (HD2.out _ HB1.out) HP.out.1.ft HP.out.2.1 ao1 b1 0 cap1 gs hI1 HGI.out (by omega))
              clear ho1 hb1 k1 hI1 CP1
              go_wp2_with fail
              refine Calls.mono OR1.out ?_
              rintro z X2 ⟨g1, rfl, hr1, hl1, hg1, hb2⟩
              have k2 := Kp.of_below hb2 non
              have HB3 := hide (HB1.out.trans (hb2.mono HB1.out.size))
              have HIG2 := hide (HIG1.out.kp k2 (fun _ f => f))
              have HO2 := hide (own_kp HO1.out k2 (fun _ _ f => f))
              have HR1 := hide hr1
              have HL1 := hide hl1
              have CP2 := hide (CPh.out _ HIG2.out)
              clear hr1 hl1 hg1 hb2 k2 OR1 HO1 HIG1
              go_wp2_with fail
              refine Calls.mono CP2.out ?_
              rintro z X3 ⟨v2, rfl, ho2, hb3⟩
              have k3 := Kp.of_below hb3 non
              have HB4 := hide (HB3.out.trans (hb3.mono HB3.out.size))
              have HIG3 := hide (HIG2.out.kp k3 (fun _ f => f))
              have HO3 := hide (own_kp HO2.out k3 (fun _ _ f => f))
              have HR2 := hide (HR1.out.kp k3 (fun f => f))
              obtain ⟨f1, ao3, b3, cap3, rfl, hI3, f2⟩ := own_is ho2 (by omega)
              clear f1 f2
              have OR2 := hide (Order_any (HD2.out _ HB4.out) HP.out.1.ft HP.out.2.1 ao3 b3 0 cap3 gs hI3 HGI.out (by omega))
              clear ho2 hb3 k3 hI3 CP2 HO2 HIG2
              go_wp2_with fail
              refine Calls.mono OR2.out ?_
              rintro z X4 ⟨g2, rfl, hr2, hl2, hg2, hb4⟩
              have k4 := Kp.of_below hb4 non
              have HB5 := hide (HB4.out.trans (hb4.mono HB4.out.size))
              have HIG4 := hide (HIG3.out.kp k4 (fun _ f => f))
              have HO4 := hide (own_kp HO3.out k4 (fun _ _ f => f))
              have HR3 := hide (HR2.out.kp k4 (fun f => f))
              have SA := same_any (w := X4) _ g1 0 gs.length (ordL d gs) (HR3.out.is (by rw [HL1.out]; omega)) _ g2 0 gs.length (ordL d gs) (hr2.is (by rw [HL1.out]; omega))
              rw [decide_eq_true rfl, HL1.out] at SA
              have SA := hide SA
              clear hr2 hl2 hg2 hb4 k4 OR2 HO3 HIG3 HR2
              go_wp2_with fail
              refine Calls.mono (NU.out _ _) ?_
              rintro z Y1 ⟨rfl, rfl⟩
              go_wp2_with fail
              refine Calls.mono (NU.out _ _) ?_
              rintro z Y1 ⟨rfl, rfl⟩
              go_wp2_with fail
              refine Calls.mono SA.out ?_
              rintro z X5 ⟨rfl, hb5⟩
              have k5 := Kp.of_below hb5 non
              have HB6 := hide (HB5.out.trans (hb5.mono HB5.out.size))
              have HIG5 := hide (HIG4.out.kp k5 (fun _ f => f))
              have HO5 := hide (own_kp HO4.out k5 (fun _ _ f => f))
              have SO := hide (sorted_any (HD2.out _ HB6.out) HP.out.1.ft HP.out.2.1 aog bg 0 capg gs HIG5.out HGI.out (by omega) g1 (HR3.out.kp k5 (fun f => f)) HL1.out)
              clear hb5 k5 SA HO4 HIG4 HR3
              go_wp2_with fail
              refine Calls.mono SO.out ?_
              rintro z X6 ⟨rfl, hb6⟩
              have k6 := Kp.of_below hb6 non
              have HB7 := hide (HB6.out.trans (hb6.mono HB6.out.size))
              have HO6 := hide (own_kp HO5.out k6 (fun _ _ f => f))
              obtain ⟨d0, d1, d2⟩ := (HSu2.out _ HB7.out).cs
              obtain ⟨X7, hX7⟩ : ∃ X7, X7 = X6.alloc (.cells #[.int .i64 a] 3) := ⟨_, rfl⟩
              have hb7 : Below X6.heap.size X6 X7 := by rw [hX7]; exact (Below.refl _ _).alloc (Nat.le_refl _) _
              have gg : X7.heap[X6.heap.size]? = some (.cells #[.int .i64 a] 3) := by rw [hX7]; exact heap_last _ _
              have HO7 := hide (own_kp HO6.out (Kp.of_below hb7 non) (fun _ _ f => f))
              have HGG := hide gg
              have HB8 := hide (HB7.out.trans (hb7.mono HB7.out.size))
              have hsz : ws.heap.size ≤ X7.heap.size := HB8.out.size
              clear hb6 k6 SO HO5 HIG5 hb7 gg
              go_wp2_with (at_builtin; rw [← hX7]; refine wpList_apI rfl (.tmp 127) (.tmp 130) rfl ws.heap.size _ gs.length gs rfl HO7.out X6.heap.size a rfl HGG.out (by omega) hsz ?_; intro v' X8 o8 g8 _; rw [← HG2.out] at o8; obtain ⟨e8, ao8, b8, cap8, rfl, hI8, e9⟩ := own_is o8 HG2L.out; clear e8 e9; have K8 : Hid (Below ws.heap.size ws X8) := ((Kp.of_below HB8.out non).trans (Kp.of_grown g8) (fun k hk => Or.inr (own_ge HO7.out hk.symm))).below; have OR3 := hide (Order_bad (HD2.out _ K8.out) HP.out.1.ft ao8 b8 0 cap8 gs2 hI8 HBad.out); clear o8 g8 hI8 hX7)
              refine Calls.mono OR3.out ?_
              rintro z X9 ⟨rfl, hb9⟩
              have HB9 := hide (K8.out.trans (hb9.mono K8.out.size))
              clear hb9 OR3
              go_wp2_with fail
              refine Calls.mono (NU.out _ _) ?_
              rintro z Y1 ⟨rfl, rfl⟩
              go_wp2_with fail
              go_ret
              exact ⟨rfl, (HIs.out.ks.trans (Kp.of_below HB9.out non) (fun _ f => f.elim)).below⟩
          · have r1 : ¬ (j : Int) < (ns.length : Int) := by omega
            have hgl : (inF a (ns.take j)).length ≤ 200 := Nat.le_trans (inF_len a ns j) hj2
            have hgin : ∀ x ∈ inF a (ns.take j), 0 ≤ x ∧ x < (d.n : Int) := fun x hx => by rw [HP.out.2.2, HAn.out]; exact inF_in hx
            have HBad : Hid (¬ ∀ x ∈ inF a (ns.take j) ++ [a], 0 ≤ x ∧ x < (d.n : Int)) := fun q => by
              have := q a (List.mem_append_right _ (List.mem_singleton.2 rfl))
              rw [HP.out.2.2, HAn.out] at this
              omega
            generalize inF a (ns.take j) = gs at *
            have HGI := hide hgin
            obtain ⟨gs2, hgs2⟩ : ∃ gs2, gs2 = gs ++ [a] := ⟨_, rfl⟩
            rw [← hgs2] at HBad
            have HG2 := hide hgs2
            have HG2L : Hid (gs2.length ≤ 1000000) := by show _ ≤ _; rw [hgs2, List.length_append, List.length_singleton]; omega
            clear hgin HFa hgs2
            obtain ⟨hgn, aog, bg, capg, rfl, hIg, hbg⟩ := own_is HO.out (by omega)
            have HIG := hide hIg
            have HBG := hide hbg
            have tkg : tk gs = gs := tk_id hgl
            clear hIg hbg hgn
            have hX2 := HX2.out
            have CP := fun (W : World) (h : IsAt W aog bg 0 gs) => copied_any (w := W) aog bg 0 capg gs h
            simp only [tkg] at CP
            have CPh := hide CP
            clear CP tkg hX2
            have CP1 := hide (CPh.out _ HIG.out)
            go_wp2_with fail
            refine Calls.mono CP1.out ?_
            rintro z X1 ⟨v1, rfl, ho1, hb1⟩
            have k1 := Kp.of_below hb1 non
            have HB1 := hide (HB2.out.trans (hb1.mono HB2.out.size))
            have HIG1 := hide (HIG.out.kp k1 (fun _ f => f))
            have HO1 := hide (own_kp HO.out k1 (fun _ _ f => f))
            obtain ⟨f1, ao1, b1, cap1, rfl, hI1, f2⟩ := own_is ho1 (by omega)
            clear f1 f2
            have OR1 := hide (Order_any (HD2.out _ HB1.out) HP.out.1.ft HP.out.2.1 ao1 b1 0 cap1 gs hI1 HGI.out (by omega))
            clear ho1 hb1 k1 hI1 CP1
            go_wp2_with fail
            refine Calls.mono OR1.out ?_
            rintro z X2 ⟨g1, rfl, hr1, hl1, hg1, hb2⟩
            have k2 := Kp.of_below hb2 non
            have HB3 := hide (HB1.out.trans (hb2.mono HB1.out.size))
            have HIG2 := hide (HIG1.out.kp k2 (fun _ f => f))
            have HO2 := hide (own_kp HO1.out k2 (fun _ _ f => f))
            have HR1 := hide hr1
            have HL1 := hide hl1
            have CP2 := hide (CPh.out _ HIG2.out)
            clear hr1 hl1 hg1 hb2 k2 OR1 HO1 HIG1
            go_wp2_with fail
            refine Calls.mono CP2.out ?_
            rintro z X3 ⟨v2, rfl, ho2, hb3⟩
            have k3 := Kp.of_below hb3 non
            have HB4 := hide (HB3.out.trans (hb3.mono HB3.out.size))
            have HIG3 := hide (HIG2.out.kp k3 (fun _ f => f))
            have HO3 := hide (own_kp HO2.out k3 (fun _ _ f => f))
            have HR2 := hide (HR1.out.kp k3 (fun f => f))
            obtain ⟨f1, ao3, b3, cap3, rfl, hI3, f2⟩ := own_is ho2 (by omega)
            clear f1 f2
            have OR2 := hide (Order_any (HD2.out _ HB4.out) HP.out.1.ft HP.out.2.1 ao3 b3 0 cap3 gs hI3 HGI.out (by omega))
            clear ho2 hb3 k3 hI3 CP2 HO2 HIG2
            go_wp2_with fail
            refine Calls.mono OR2.out ?_
            rintro z X4 ⟨g2, rfl, hr2, hl2, hg2, hb4⟩
            have k4 := Kp.of_below hb4 non
            have HB5 := hide (HB4.out.trans (hb4.mono HB4.out.size))
            have HIG4 := hide (HIG3.out.kp k4 (fun _ f => f))
            have HO4 := hide (own_kp HO3.out k4 (fun _ _ f => f))
            have HR3 := hide (HR2.out.kp k4 (fun f => f))
            have SA := same_any (w := X4) _ g1 0 gs.length (ordL d gs) (HR3.out.is (by rw [HL1.out]; omega)) _ g2 0 gs.length (ordL d gs) (hr2.is (by rw [HL1.out]; omega))
            rw [decide_eq_true rfl, HL1.out] at SA
            have SA := hide SA
            clear hr2 hl2 hg2 hb4 k4 OR2 HO3 HIG3 HR2
            go_wp2_with fail
            refine Calls.mono (NU.out _ _) ?_
            rintro z Y1 ⟨rfl, rfl⟩
            go_wp2_with fail
            refine Calls.mono (NU.out _ _) ?_
            rintro z Y1 ⟨rfl, rfl⟩
            go_wp2_with fail
            refine Calls.mono SA.out ?_
            rintro z X5 ⟨rfl, hb5⟩
            have k5 := Kp.of_below hb5 non
            have HB6 := hide (HB5.out.trans (hb5.mono HB5.out.size))
            have HIG5 := hide (HIG4.out.kp k5 (fun _ f => f))
            have HO5 := hide (own_kp HO4.out k5 (fun _ _ f => f))
            have SO := hide (sorted_any (HD2.out _ HB6.out) HP.out.1.ft HP.out.2.1 aog bg 0 capg gs HIG5.out HGI.out (by omega) g1 (HR3.out.kp k5 (fun f => f)) HL1.out)
            clear hb5 k5 SA HO4 HIG4 HR3
            go_wp2_with fail
            refine Calls.mono SO.out ?_
            rintro z X6 ⟨rfl, hb6⟩
            have k6 := Kp.of_below hb6 non
            have HB7 := hide (HB6.out.trans (hb6.mono HB6.out.size))
            have HO6 := hide (own_kp HO5.out k6 (fun _ _ f => f))
            obtain ⟨d0, d1, d2⟩ := (HSu2.out _ HB7.out).cs
            obtain ⟨X7, hX7⟩ : ∃ X7, X7 = X6.alloc (.cells #[.int .i64 a] 3) := ⟨_, rfl⟩
            have hb7 : Below X6.heap.size X6 X7 := by rw [hX7]; exact (Below.refl _ _).alloc (Nat.le_refl _) _
            have gg : X7.heap[X6.heap.size]? = some (.cells #[.int .i64 a] 3) := by rw [hX7]; exact heap_last _ _
            have HO7 := hide (own_kp HO6.out (Kp.of_below hb7 non) (fun _ _ f => f))
            have HGG := hide gg
            have HB8 := hide (HB7.out.trans (hb7.mono HB7.out.size))
            have hsz : ws.heap.size ≤ X7.heap.size := HB8.out.size
            clear hb6 k6 SO HO5 HIG5 hb7 gg
            go_wp2_with (at_builtin; rw [← hX7]; refine wpList_apI rfl (.tmp 127) (.tmp 130) rfl ws.heap.size _ gs.length gs rfl HO7.out X6.heap.size a rfl HGG.out (by omega) hsz ?_; intro v' X8 o8 g8 _; rw [← HG2.out] at o8; obtain ⟨e8, ao8, b8, cap8, rfl, hI8, e9⟩ := own_is o8 HG2L.out; clear e8 e9; have K8 : Hid (Below ws.heap.size ws X8) := ((Kp.of_below HB8.out non).trans (Kp.of_grown g8) (fun k hk => Or.inr (own_ge HO7.out hk.symm))).below; have OR3 := hide (Order_bad (HD2.out _ K8.out) HP.out.1.ft ao8 b8 0 cap8 gs2 hI8 HBad.out); clear o8 g8 hI8 hX7)
            refine Calls.mono OR3.out ?_
            rintro z X9 ⟨rfl, hb9⟩
            have HB9 := hide (K8.out.trans (hb9.mono K8.out.size))
            clear hb9 OR3
            go_wp2_with fail
            refine Calls.mono (NU.out _ _) ?_
            rintro z Y1 ⟨rfl, rfl⟩
            go_wp2_with fail
            go_ret
            exact ⟨rfl, (HIs.out.ks.trans (Kp.of_below HB9.out non) (fun _ f => f.elim)).below⟩
  · have NE := hide (New_no W0 a b c hok)
    have FI := fun w => fits_any w a b c
    simp only [decide_eq_false hok] at FI
    have FI := hide FI
    clear hok
    go_enter Try.func6, Try.ntmps6
    go_wp2_with fail
    rw [← hW0, ← hU]
    go_wp2_with fail
    refine Calls.mono NE.out ?_
    rintro e W1 ⟨rfl, rfl⟩
    clear hW0 hU NE
    go_wp2_with fail
    refine Calls.mono (FI.out _) ?_
    rintro e W2 ⟨rfl, hB2⟩
    have HB1 := hide (HB0.out.trans (hB2.mono HB0.out.size))
    clear hB2 c0 c1 c2 HSU HB0
    go_wp2_with fail
    refine Calls.mono (NU.out _ _) ?_
    rintro e W4 ⟨rfl, rfl⟩
    go_wp2_with fail
    go_ret
    exact ⟨rfl, HB1.out⟩
end Go.Proofs.Ytnegdhnmgkpkjaa
