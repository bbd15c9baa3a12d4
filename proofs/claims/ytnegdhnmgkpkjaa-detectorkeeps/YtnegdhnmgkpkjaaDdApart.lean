import Derived.Test.YtnegdhnmgkpkjaaGDeMem
import Derived.Test.YtnegdhnmgkpkjaaGDdDrive
namespace Go.Proofs.Ytnegdhnmgkpkjaa
open Go.RowKit
theorem does_n (d : Dt) (kd k : Int) : (d.does kd k).n = d.n := by
  unfold Dt.does
  split
  · split <;> rfl
  · split
    · split <;> rfl
    · split <;> rfl
/-- two detectors that agree on one node -/
structure Ag (d e : Dt) (nd : Int) : Prop where
  n : d.n = e.n
  lim : d.lim = e.lim
  ban : d.ban = e.ban
  now : d.now = e.now
  st : d.st nd = e.st nd
  en : d.en nd = e.en nd
theorem Ag.sil {d e : Dt} {nd : Int} (h : Ag d e nd) : silV d nd = silV e nd := by
  unfold silV
  rw [h.n, h.now, h.en]
theorem upd_other {f : Int → Int} {k v j : Int} (h : j ≠ k) : upd f k v j = f j := if_neg h
theorem upd_same {f : Int → Int} {k v : Int} : upd f k v k = v := if_pos rfl
/-- both do it -/
theorem Ag.both {d e : Dt} {nd : Int} (h : Ag d e nd) (kd k : Int) (hk : kd = 3 ∨ k = nd) : Ag (d.does kd k) (e.does kd k) nd := by
  unfold Dt.does
  rw [h.n]
  split
  · next h1 =>
    obtain rfl : k = nd := by omega
    split
    · exact ⟨h.n, h.lim, h.ban, h.now, by show upd _ _ _ _ = upd _ _ _ _; rw [upd_same, upd_same], by show upd _ _ _ _ = upd _ _ _ _; rw [upd_same, upd_same]⟩
    · exact h
  · split
    · next h1 =>
      obtain rfl : k = nd := by omega
      split
      · refine ⟨h.n, h.lim, h.ban, h.now, ?_, ?_⟩
        · show upd _ _ _ _ = upd _ _ _ _
          rw [upd_same, upd_same, h.st]
        · show (if _ then _ else _ : Int → Int) k = (if _ then _ else _ : Int → Int) k
          rw [h.lim, h.st, h.now, h.ban]
          split
          · rw [upd_same, upd_same]
          · exact h.en
      · exact h
    · split
      · exact ⟨h.n, h.lim, h.ban, by show d.now + _ = e.now + _; rw [h.now], h.st, h.en⟩
      · exact h
/-- one alone does something to another node -/
theorem Ag.one {d e : Dt} {nd : Int} (h : Ag d e nd) (kd k : Int) (h3 : kd ≠ 3) (hk : k ≠ nd) : Ag (d.does kd k) e nd := by
  unfold Dt.does
  split
  · split
    · exact ⟨h.n, h.lim, h.ban, h.now, (upd_other hk.symm).trans h.st, (upd_other hk.symm).trans h.en⟩
    · exact h
  · split
    · split
      · refine ⟨h.n, h.lim, h.ban, h.now, (upd_other hk.symm).trans h.st, ?_⟩
        show (if _ then _ else _ : Int → Int) nd = _
        split
        · exact (upd_other hk.symm).trans h.en
        · exact h.en
      · exact h
    · exact h
/-- all that the law keeps -/
structure ApI (w0 wr : World) (S T : Nat → Prop) (D A U : Nat) (d e : Dt) (a b c : Int) : Prop where
  dt : DtAt wr S D d
  et : DtAt wr T A e
  su : SuB wr U a b c
  ks : Kp w0 wr non
theorem ApI.below {w0 wr w' : World} {S T : Nat → Prop} {D A U : Nat} {d e : Dt} {a b c : Int} (h : ApI w0 wr S T D A U d e a b c) (hb : Below wr.heap.size wr w') : ApI w0 w' S T D A U d e a b c :=
  ⟨h.dt.below hb, h.et.below hb, h.su.kp (Kp.of_below hb non) (fun f => f), h.ks.trans (Kp.of_below hb non) (fun _ f => f.elim)⟩
structure ApS (w0 : World) (S T : Nat → Prop) (U : Nat) : Prop where
  s : ∀ k, S k → w0.heap.size ≤ k ∧ k ≠ U
  t : ∀ k, T k → w0.heap.size ≤ k ∧ k ≠ U
  st : ∀ k, S k → ¬ T k
theorem ApI.stepD {w0 wr w' : World} {S T : Nat → Prop} {D A U : Nat} {d e d' : Dt} {a b c : Int} (h : ApI w0 wr S T D A U d e a b c) (hS : ApS w0 S T U) (h1 : DtAt w' S D d') (hk : Kp wr w' S) : ApI w0 w' S T D A U d' e a b c :=
  ⟨h1, h.et.kp hk (fun k t s => hS.st k s t), h.su.kp hk (fun q => (hS.s U q).2 rfl), h.ks.trans hk (fun k q => Or.inr (hS.s k q).1)⟩
theorem ApI.stepE {w0 wr w' : World} {S T : Nat → Prop} {D A U : Nat} {d e e' : Dt} {a b c : Int} (h : ApI w0 wr S T D A U d e a b c) (hS : ApS w0 S T U) (h1 : DtAt w' T A e') (hk : Kp wr w' T) : ApI w0 w' S T D A U d e' a b c :=
  ⟨h.dt.kp hk hS.st, h1, h.su.kp hk (fun q => (hS.t U q).2 rfl), h.ks.trans hk (fun k q => Or.inr (hS.t k q).1)⟩
set_option maxHeartbeats 8000000 in
set_option maxRecDepth 100000 in
set_option linter.unusedSimpArgs false in
set_option linter.unusedVariables false in
theorem apart_any (w : World) (a b c : Int) (ao : Option Addr) (sb so cap : Nat) (ia : Nat → Option Addr) (ib io ic : Nat → Nat) (ss : List Stp) (hs : SsAt w ao sb so ia ib io ic ss) (nd : Int) :
    Calls Try.prog 4 #[.agg #[.int .i64 a, .int .i64 b, .int .i64 c], .slice ao ss.length cap, .int .i64 nd] w fun e w' => e = .returned (.bool true) ∧ Below w.heap.size w w' := by
  obtain ⟨W0, hW0⟩ : ∃ W0, W0 = w.alloc (.cells #[.int .i64 a, .int .i64 b, .int .i64 c] 23) := ⟨_, rfl⟩
  obtain ⟨U, hU⟩ : ∃ U, U = w.heap.size := ⟨_, rfl⟩
  have hb : Below w.heap.size w W0 := by rw [hW0]; exact (Below.refl _ _).alloc (Nat.le_refl _) _
  have su : SuB W0 U a b c := by rw [hW0, hU]; exact heap_last _ _
  obtain ⟨c0, c1, c2⟩ := su.cs
  have HUw : Hid (w.heap.size ≤ U) := by show _ ≤ _; omega
  have HSU := hide su
  have HB0 := hide hb
  have NU := hide fun w n => num_any w n
  have HL := hs.len
  have HSS := hide hs
  clear hb su hs
  by_cases hok : okN a b c
  · have MA := hide fun W => made_any W a b c hok
    have HUP : Hid ((Dt.new a.toNat b c).upto 0) := (Ba.start (nd := 0) hok).up
    have HAn : Hid ((a.toNat : Int) = a) := by show _ = _; have := hok.1.1; omega
    clear hok
    go_enter Try.func4, Try.ntmps4
    go_wp2_with fail
    rw [← hW0, ← hU]
    clear hW0 hU
    go_wp2_with fail
    refine Calls.mono (MA.out _) ?_
    rintro e W1 ⟨D, S, R, X1, rfl, hD, _, hB1, hS, _, _⟩
    have SU1 := hide (HSU.out.kp (Kp.of_below hB1 non) (fun f => f))
    have HK1 : Hid (Kp w W1 non) := (Kp.of_below HB0.out non).trans (Kp.of_below hB1 non) (fun _ f => f.elim)
    have HD := hide hD
    have HS := hide hS
    have HU1 : Hid (U < W0.heap.size) := blk_lt HSU.out
    clear c0 c1 c2 hD hB1 hS
    obtain ⟨c0, c1, c2⟩ := SU1.out.cs
    go_wp2_with fail
    refine Calls.mono (MA.out _) ?_
    rintro e W2 ⟨A, T, R2, X2, rfl, hA, _, hB2, hT, _, _⟩
    have HAS : Hid (ApS w S T U) := ⟨fun k e => by
        have := HS.out k e
        have := HB0.out.size
        have := HU1.out
        omega, fun k e => by
        have := hT k e
        have := HB0.out.size
        have := HK1.out.size
        have := blk_lt SU1.out
        have := HU1.out
        omega, fun k e t => by
        have := HD.out.lt k e
        have := hT k t
        omega⟩
    have HI : Hid (ApI w W2 S T D A U (Dt.new a.toNat b c) (Dt.new a.toNat b c) a b c) := ⟨HD.out.below hB2, hA, SU1.out.kp (Kp.of_below hB2 non) (fun f => f), HK1.out.trans (Kp.of_below hB2 non) (fun _ f => f.elim)⟩
    clear c0 c1 c2 hA hB2 hT HD HS HU1 SU1 HK1 HSU HB0 MA
    go_wp2_with fail
    go_loopw [15] (fun vi wr => ∃ (i : Nat) (d e : Dt), i ≤ ss.length ∧ i ≤ 2000 ∧ vi = .int .i64 (i : Int) ∧ Hid (ApI w wr S T D A U d e a b c) ∧ Hid (Ag d e nd) ∧ Hid (d.upto i ∧ e.upto i ∧ d.n = a.toNat)) (fun vi _ => 2000 - (intOf vi).toNat)
    case atStart => exact ⟨0, _, _, Nat.zero_le _, Nat.zero_le _, rfl, HI.out, ⟨rfl, rfl, rfl, rfl, rfl, rfl⟩, HUP.out, HUP.out, rfl⟩
    case round =>
      clear HI HUP
      obtain ⟨i, d, e, hi, hi2, rfl, HI, HG, HP⟩ := hrel
      by_cases hil : i < ss.length
      · by_cases hik : i < 2000
        · have q1 : (i : Int) < (ss.length : Int) := by omega
          have q2 : (i : Int) < 2000 := by omega
          obtain rfl := HSS.out.at0 (by omega)
          have hsw := HSS.out.kp HI.out.ks (fun _ f => f.elim)
          have s0 := hsw.c0 i hil
          have s1 := hsw.c1 i hil
          have s2 := hsw.c2 i hil
          clear hsw
          have HPT := hide fun d e (g : Ag d e nd) => g.both ss[i].kd ss[i].nd
          have HPO := hide fun d e (g : Ag d e nd) => g.one ss[i].kd ss[i].nd
          have DR := hide fun (d : Dt) (S : Nat → Prop) (D : Nat) (W : World) (m : Nat) (h : DtAt W S D d) (hf : d.upto m) (hm : m ≤ 1000000000) => drive_any h hf hm ss[i].kd ss[i].nd (ia i) ss[i].ns.length (ic i)
          generalize ss[i].kd = kd at *
          generalize ss[i].nd = sn at *
          generalize ss[i].ns.length = sl at *
          generalize ia i = iai at *
          generalize ic i = ici at *
          obtain ⟨WA, hWA⟩ : ∃ WA, WA = wr.alloc (.cells #[.int .i64 kd, .int .i64 sn, .slice iai sl ici] 40) := ⟨_, rfl⟩
          obtain ⟨B, hB⟩ : ∃ B, B = wr.heap.size := ⟨_, rfl⟩
          have hbA : Below wr.heap.size wr WA := by rw [hWA]; exact (Below.refl _ _).alloc (Nat.le_refl _) _
          have sB : StB WA B kd sn (.slice iai sl ici) := by rw [hWA, hB]; exact heap_last _ _
          have HSB : Hid (StB WA B kd sn (.slice iai sl ici)) := sB
          have HnS : Hid (¬ S B ∧ ¬ T B) := ⟨fun q => by have := HI.out.dt.lt B q; omega, fun q => by have := HI.out.et.lt B q; omega⟩
          replace HI := hide (HI.out.below hbA)
          have b0 := sB.c0
          have b1 := sB.c1
          have b2 := sB.c2
          have D1 := hide (DR.out d S D WA i HI.out.dt HP.out.1 (by omega))
          clear hbA sB
          go_upto_region 11 with fail
          rw [← hWA, ← hB]
          clear hWA hB s0 s1 s2
          go_wp2_with fail
          refine Calls.mono D1.out ?_
          rintro q W3 ⟨rfl, h1, h2⟩
          have sB := HSB.out.kp h2 HnS.out.1
          have HSB2 := hide sB
          replace HI := hide (HI.out.stepD HAS.out h1 h2)
          clear h1 h2 D1 b0 b1 b2
          have b0 := sB.c0
          have b1 := sB.c1
          have b2 := sB.c2
          clear sB
          by_cases h3 : kd = 3 ∨ sn = nd
          · have HG2 := hide (HPT.out _ _ HG.out h3)
            have UP : Hid ((d.does kd sn).upto (i + 1) ∧ (e.does kd sn).upto (i + 1) ∧ (d.does kd sn).n = a.toNat) := ⟨HP.out.1.does kd sn, HP.out.2.1.does kd sn, (does_n _ _ _).trans HP.out.2.2⟩
            have D2 := hide fun W (h : DtAt W T A e) => DR.out e T A W i h HP.out.2.1 (by omega)
            clear DR HPT HPO HP HG
            rcases Decidable.em (kd = 3) with h4 | h4
            · subst h4
              clear h3
              have D2 := hide (D2.out _ HI.out.et)
              go_wp2_with fail
              refine Calls.mono D2.out ?_
              rintro q W4 ⟨rfl, h1, h2⟩
              replace HI := hide (HI.out.stepE HAS.out h1 h2)
              clear h1 h2 D2 b0 b1 b2
              have hsl := HG2.out.sil
              have hnn := HG2.out.n
              have SD := Silent_any HI.out.dt UP.out.1.ft nd
              have SE := hide fun W (h : DtAt W T A (e.does 3 sn)) => Silent_any h UP.out.2.1.ft nd
              rw [hsl, hnn] at SD
              have SD := hide SD
              clear hsl hnn
              generalize silV (e.does 3 sn) nd = sv at *
              generalize chk1 ((e.does 3 sn)).n nd = cv at *
              go_wp2_with fail
              refine Calls.mono SD.out ?_
              rintro q W5 ⟨rfl, hB5⟩
              replace HI := hide (HI.out.below hB5)
              have SE := hide (SE.out _ HI.out.et)
              clear hB5 SD
              go_wp2_with fail
              refine Calls.mono SE.out ?_
              rintro q W6 ⟨rfl, hB6⟩
              replace HI := hide (HI.out.below hB6)
              clear hB6 SE
              go_wp2_with fail
              refine Calls.mono (NU.out _ _) ?_
              rintro q W7 ⟨rfl, rfl⟩
              go_wp2_with fail
              refine Calls.mono (NU.out _ _) ?_
              rintro q W7 ⟨rfl, rfl⟩
              go_wp2_with fail
              go_roundw
              case rel => exact ⟨i + 1, _, _, by omega, by omega, by go_num, HI, HG2, UP⟩
              case measure => simp [intOf]; omega
            · obtain rfl : sn = nd := h3.resolve_left h4
              have h5 : (kd == 3) = false := by simpa using h4
              clear h3 h4
              have D2 := hide (D2.out _ HI.out.et)
              go_wp2_with fail
              refine Calls.mono D2.out ?_
              rintro q W4 ⟨rfl, h1, h2⟩
              replace HI := hide (HI.out.stepE HAS.out h1 h2)
              clear h1 h2 D2 b0 b1 b2
              have hsl := HG2.out.sil
              have hnn := HG2.out.n
              have SD := Silent_any HI.out.dt UP.out.1.ft sn
              have SE := hide fun W (h : DtAt W T A (e.does kd sn)) => Silent_any h UP.out.2.1.ft sn
              rw [hsl, hnn] at SD
              have SD := hide SD
              clear hsl hnn
              generalize silV (e.does kd sn) sn = sv at *
              generalize chk1 ((e.does kd sn)).n sn = cv at *
              go_wp2_with fail
              refine Calls.mono SD.out ?_
              rintro q W5 ⟨rfl, hB5⟩
              replace HI := hide (HI.out.below hB5)
              have SE := hide (SE.out _ HI.out.et)
              clear hB5 SD
              go_wp2_with fail
              refine Calls.mono SE.out ?_
              rintro q W6 ⟨rfl, hB6⟩
              replace HI := hide (HI.out.below hB6)
              clear hB6 SE
              go_wp2_with fail
              refine Calls.mono (NU.out _ _) ?_
              rintro q W7 ⟨rfl, rfl⟩
              go_wp2_with fail
              refine Calls.mono (NU.out _ _) ?_
              rintro q W7 ⟨rfl, rfl⟩
              go_wp2_with fail
              go_roundw
              case rel => exact ⟨i + 1, _, _, by omega, by omega, by go_num, HI, HG2, UP⟩
              case measure => simp [intOf]; omega
          · have h4 : kd ≠ 3 := fun q => h3 (Or.inl q)
            have h5 : sn ≠ nd := fun q => h3 (Or.inr q)
            have h6 : (kd == 3) = false := by simpa using h4
            have h7 : (sn == nd) = false := by simpa using h5
            have HG2 := hide (HPO.out _ _ HG.out h4 h5)
            have UP : Hid ((d.does kd sn).upto (i + 1) ∧ e.upto (i + 1) ∧ (d.does kd sn).n = a.toNat) := ⟨HP.out.1.does kd sn, HP.out.2.1.mono (by omega), (does_n _ _ _).trans HP.out.2.2⟩
            clear DR HPT HPO HP HG h3 h4 h5
            go_upto_region 14 with fail
            clear b0 b1 b2 h6 h7
            have hsl := HG2.out.sil
            have hnn := HG2.out.n
            have SD := Silent_any HI.out.dt UP.out.1.ft nd
            have SE := hide fun W (h : DtAt W T A e) => Silent_any h UP.out.2.1.ft nd
            rw [hsl, hnn] at SD
            have SD := hide SD
            clear hsl hnn
            generalize silV e nd = sv at *
            generalize chk1 (e).n nd = cv at *
            go_wp2_with fail
            refine Calls.mono SD.out ?_
            rintro q W5 ⟨rfl, hB5⟩
            replace HI := hide (HI.out.below hB5)
            have SE := hide (SE.out _ HI.out.et)
            clear hB5 SD
            go_wp2_with fail
            refine Calls.mono SE.out ?_
            rintro q W6 ⟨rfl, hB6⟩
            replace HI := hide (HI.out.below hB6)
            clear hB6 SE
            go_wp2_with fail
            refine Calls.mono (NU.out _ _) ?_
            rintro q W7 ⟨rfl, rfl⟩
            go_wp2_with fail
            refine Calls.mono (NU.out _ _) ?_
            rintro q W7 ⟨rfl, rfl⟩
            go_wp2_with fail
            go_roundw
            case rel => exact ⟨i + 1, _, _, by omega, by omega, by go_num, HI, HG2, UP⟩
            case measure => simp [intOf]; omega
        · obtain rfl : i = 2000 := by omega
          have q1 : ((2000 : Nat) : Int) < (ss.length : Int) := by omega
          obtain ⟨c0, c1, c2⟩ := HI.out.su.cs
          have SD := Silent_any HI.out.dt HP.out.1.ft nd
          have HC : Hid (chk1 d.n nd = if 0 ≤ nd ∧ nd < a then 0 else 68) := by show _ = _; unfold chk1; rw [HP.out.2.2, HAn.out]
          generalize silV d nd = sv at *
          generalize chk1 d.n nd = cv at *
          have SD := hide SD
          by_cases n0 : 0 ≤ nd
          · by_cases n1 : nd < a
            · obtain rfl : cv = 0 := by rw [HC.out, if_pos ⟨n0, n1⟩]
              go_wp2_with fail
              refine Calls.mono SD.out ?_
              rintro q W5 ⟨rfl, hB5⟩
              replace HI := hide (HI.out.below hB5)
              clear hB5 SD c0 c1 c2
              go_wp2_with fail
              refine Calls.mono (NU.out _ _) ?_
              rintro q W7 ⟨rfl, rfl⟩
              go_wp2_with fail
              go_ret
              exact ⟨rfl, HI.out.ks.below⟩
            · obtain rfl : cv = 68 := by rw [HC.out, if_neg (by omega)]
              go_wp2_with fail
              refine Calls.mono SD.out ?_
              rintro q W5 ⟨rfl, hB5⟩
              replace HI := hide (HI.out.below hB5)
              clear hB5 SD c0 c1 c2
              go_wp2_with fail
              refine Calls.mono (NU.out _ _) ?_
              rintro q W7 ⟨rfl, rfl⟩
              go_wp2_with fail
              go_ret
              exact ⟨rfl, HI.out.ks.below⟩
          · obtain rfl : cv = 68 := by rw [HC.out, if_neg (by omega)]
            go_wp2_with fail
            refine Calls.mono SD.out ?_
            rintro q W5 ⟨rfl, hB5⟩
            replace HI := hide (HI.out.below hB5)
            clear hB5 SD c0 c1 c2
            go_wp2_with fail
            refine Calls.mono (NU.out _ _) ?_
            rintro q W7 ⟨rfl, rfl⟩
            go_wp2_with fail
            go_ret
            exact ⟨rfl, HI.out.ks.below⟩
      · have q1 : ¬ (i : Int) < (ss.length : Int) := by omega
        obtain ⟨c0, c1, c2⟩ := HI.out.su.cs
        have SD := Silent_any HI.out.dt HP.out.1.ft nd
        have HC : Hid (chk1 d.n nd = if 0 ≤ nd ∧ nd < a then 0 else 68) := by show _ = _; unfold chk1; rw [HP.out.2.2, HAn.out]
        generalize silV d nd = sv at *
        generalize chk1 d.n nd = cv at *
        have SD := hide SD
        by_cases n0 : 0 ≤ nd
        · by_cases n1 : nd < a
          · obtain rfl : cv = 0 := by rw [HC.out, if_pos ⟨n0, n1⟩]
            go_wp2_with fail
            refine Calls.mono SD.out ?_
            rintro q W5 ⟨rfl, hB5⟩
            replace HI := hide (HI.out.below hB5)
            clear hB5 SD c0 c1 c2
            go_wp2_with fail
            refine Calls.mono (NU.out _ _) ?_
            rintro q W7 ⟨rfl, rfl⟩
            go_wp2_with fail
            go_ret
            exact ⟨rfl, HI.out.ks.below⟩
          · obtain rfl : cv = 68 := by rw [HC.out, if_neg (by omega)]
            go_wp2_with fail
            refine Calls.mono SD.out ?_
            rintro q W5 ⟨rfl, hB5⟩
            replace HI := hide (HI.out.below hB5)
            clear hB5 SD c0 c1 c2
            go_wp2_with fail
            refine Calls.mono (NU.out _ _) ?_
            rintro q W7 ⟨rfl, rfl⟩
            go_wp2_with fail
            go_ret
            exact ⟨rfl, HI.out.ks.below⟩
        · obtain rfl : cv = 68 := by rw [HC.out, if_neg (by omega)]
          go_wp2_with fail
          refine Calls.mono SD.out ?_
          rintro q W5 ⟨rfl, hB5⟩
          replace HI := hide (HI.out.below hB5)
          clear hB5 SD c0 c1 c2
          go_wp2_with fail
          refine Calls.mono (NU.out _ _) ?_
          rintro q W7 ⟨rfl, rfl⟩
          go_wp2_with fail
          go_ret
          exact ⟨rfl, HI.out.ks.below⟩
  · have MA := hide fun W => made_no W a b c hok
    clear hok
    go_enter Try.func4, Try.ntmps4
    go_wp2_with fail
    rw [← hW0, ← hU]
    clear hW0 hU
    go_wp2_with fail
    refine Calls.mono (MA.out _) ?_
    rintro e W1 ⟨rfl, hB1⟩
    have HB1 := hide (HB0.out.trans (hB1.mono HB0.out.size))
    clear hB1
    go_wp2_with fail
    go_ret
    exact ⟨rfl, HB1.out⟩
end Go.Proofs.Ytnegdhnmgkpkjaa
