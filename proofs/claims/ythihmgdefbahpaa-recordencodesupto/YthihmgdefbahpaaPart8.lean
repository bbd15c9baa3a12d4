import Derived.Test.YthihmgdefbahpaaPart7
namespace Go.Proofs.Ythihmgdefbahpaa
open Go.RowKit
/-- what is wrong with group i -/
def gBad (k : Int) (gs : List GR) (i : Nat) : Int :=
  if ((gs.getD i default).1.size : Int) = k then
    if i ≠ 0 ∧ ((gs.getD i default).1 = (gs.getD (i - 1) default).1 ∨ lessS (gs.getD i default).1 (gs.getD (i - 1) default).1 = true) then 37 else errL (gs.getD i default).2
  else 34
def gWrong (k : Int) (gs : List GR) : Int := (((List.range gs.length).map (gBad k gs)).find? (fun e => decide (e ≠ 0))).getD 0
def egE (k : Int) (gs : List GR) : Int := if 1 ≤ k ∧ k ≤ 16 then if gWrong k gs = 0 then if 65536 < (encD gs).length then 3 else 0 else gWrong k gs else 30
def egS (k : Int) (gs : List GR) : Int := if egE k gs = 0 then ((encD gs).length : Int) else 0
theorem gr_at {gs : List GR} {i : Nat} (h : i < gs.length) : gs.getD i default = gs[i] := by simp [List.getD, h]
theorem eg_bad {k : Int} {gs : List GR} {i : Nat} (hk : 1 ≤ k ∧ k ≤ 16) (hi : i < gs.length) (h0 : ∀ j, j < i → gBad k gs j = 0) (hne : gBad k gs i ≠ 0) : egE k gs = gBad k gs i ∧ egS k gs = 0 := by
  have e : gWrong k gs = gBad k gs i := by unfold gWrong; rw [find_first hi h0 hne]; rfl
  have e2 : egE k gs = gBad k gs i := by unfold egE; rw [if_pos hk, e, if_neg hne]
  exact ⟨e2, by unfold egS; rw [e2, if_neg hne]⟩
theorem eg_big {k : Int} {gs : List GR} (hk : 1 ≤ k ∧ k ≤ 16) (h0 : ∀ j, j < gs.length → gBad k gs j = 0) (hz : 65536 < (encD gs).length) : egE k gs = 3 ∧ egS k gs = 0 := by
  have e : gWrong k gs = 0 := by unfold gWrong; rw [find_none h0]; rfl
  have e2 : egE k gs = 3 := by unfold egE; rw [if_pos hk, if_pos e, if_pos hz]
  exact ⟨e2, by unfold egS; rw [e2]; rfl⟩
theorem eg_ok {k : Int} {gs : List GR} (hk : 1 ≤ k ∧ k ≤ 16) (h0 : ∀ j, j < gs.length → gBad k gs j = 0) (hz : ¬ 65536 < (encD gs).length) : egE k gs = 0 ∧ egS k gs = ((encD gs).length : Int) := by
  have e : gWrong k gs = 0 := by unfold gWrong; rw [find_none h0]; rfl
  have e2 : egE k gs = 0 := by unfold egE; rw [if_pos hk, if_pos e, if_neg hz]
  exact ⟨e2, by unfold egS; rw [e2, if_pos rfl]⟩
theorem eg_width {k : Int} {gs : List GR} (hk : ¬ (1 ≤ k ∧ k ≤ 16)) : egE k gs = 30 ∧ egS k gs = 0 := by
  have e2 : egE k gs = 30 := by unfold egE; rw [if_neg hk]
  exact ⟨e2, by unfold egS; rw [e2]; rfl⟩
theorem gBad_hash {k : Int} {gs : List GR} {i : Nat} (hi : i < gs.length) (h : ¬ (gs[i].1.size : Int) = k) : gBad k gs i = 34 := by
  unfold gBad; rw [gr_at hi, if_neg h]
theorem gBad_up {k : Int} {gs : List GR} {i : Nat} (hi : i < gs.length) (h : (gs[i].1.size : Int) = k) (h2 : i ≠ 0 ∧ (gs[i].1 = (gs.getD (i - 1) default).1 ∨ lessS gs[i].1 (gs.getD (i - 1) default).1 = true)) : gBad k gs i = 37 := by
  unfold gBad; rw [gr_at hi, if_pos h, if_pos h2]
theorem gBad_rec {k : Int} {gs : List GR} {i : Nat} (hi : i < gs.length) (h : (gs[i].1.size : Int) = k) (h2 : ¬ (i ≠ 0 ∧ (gs[i].1 = (gs.getD (i - 1) default).1 ∨ lessS gs[i].1 (gs.getD (i - 1) default).1 = true))) : gBad k gs i = errL gs[i].2 := by
  unfold gBad; rw [gr_at hi, if_pos h, if_neg h2]
theorem rise_le {i : Nat} {a b : ByteArray} : ((if i = 0 then (1 : Int) else if a = b then 0 else if lessS a b then -1 else 1) ≤ 0) ↔ (i ≠ 0 ∧ (a = b ∨ lessS a b = true)) := by
  by_cases h0 : i = 0
  · simp [h0]
  · rw [if_neg h0]
    by_cases h1 : a = b
    · simp [h0, h1]
    · rw [if_neg h1]
      by_cases h2 : lessS a b = true
      · simp [h0, h2]
      · simp only [Bool.not_eq_true] at h2; simp [h0, h1, h2]
theorem encD_small {k : Int} {gs : List GR} : ∀ j, j ≤ gs.length → (∀ t, t < j → gBad k gs t = 0) → (encD (gs.take j)).length ≤ j * 65536 := by
  intro j
  induction j with
  | zero => intro _ _; simp [encD]
  | succ j ih =>
    intro hj h
    rw [encD_take gs j (by omega), List.length_append, recL_len]
    have h1 := ih (by omega) (fun t ht => h t (by omega))
    have h2 := h j (by omega)
    have h3 : errL gs[j].2 = 0 := by
      by_cases a : (gs[j].1.size : Int) = k
      · by_cases b : (j ≠ 0 ∧ (gs[j].1 = (gs.getD (j - 1) default).1 ∨ lessS gs[j].1 (gs.getD (j - 1) default).1 = true))
        · rw [gBad_up (by omega) a b] at h2; omega
        · rw [gBad_rec (by omega) a b] at h2; exact h2
      · rw [gBad_hash (by omega) a] at h2; omega
    have := (fine h3).2.2.1
    rw [Nat.succ_mul]
    omega
set_option maxHeartbeats 1000000 in
set_option maxRecDepth 100000 in
set_option linter.unusedSimpArgs false in
/-- weighGroups -/
theorem weighGroups_any (k : Int) (v : Value) (gs : List GR) (w : World) (hg : GLies w v gs) (hlen : gs.length ≤ 1048576) (hps : ∀ g ∈ gs, g.2.length ≤ 1048576) :
    Calls Try.prog 42 #[.int .i64 k, v] w fun e w' => e = .returned (.tuple #[.int .i64 (egS k gs), .int .i64 (egE k gs)]) ∧ Below w.heap.size w w' := by
  by_cases hk : 1 ≤ k ∧ k ≤ 16
  · obtain ⟨qs, ao, g, off, cap, hql, rfl, h3, h4, h5, h6⟩ := hg
    have HK := hide hk
    have HL := hide h5
    have H6 := hide h6
    have WD := hide (fun w' => isHashWidth_any k w')
    rw [decide_eq_true hk] at WD
    clear hk h5 h6
    rw [hql] at h3 h4 ⊢
    go_enter Try.func42, Try.ntmps42
    go_wp2_with fail
    refine Calls.mono (WD.out _) ?_
    rintro e w0 ⟨rfl, rfl⟩
    go_wp2_with fail
    go_loopw [6, 16] (fun a i wr => ∃ j : Nat, j ≤ gs.length ∧ i = .int .i64 (j : Int) ∧ a = .int .i64 ((encD (gs.take j)).length : Int) ∧ (∀ t, t < j → gBad k gs t = 0) ∧ Below w.heap.size w wr) (fun _ i _ => gs.length - (intOf i).toNat)
    case atStart => exact ⟨0, Nat.zero_le _, rfl, rfl, fun t ht => by omega, Below.refl _ _⟩
    case round =>
      obtain ⟨j, hj, rfl, rfl, hno, hnx⟩ := hrel
      have hsm := encD_small j hj hno
      have hjj : j * 65536 ≤ 68719476736 := by omega
      have HNO := hide hno
      have HNX := hide hnx
      by_cases hlt : j < gs.length
      · have hjq : j < qs.length := by omega
        have x0 := h3 (by omega)
        have x1 := h4 (by omega)
        subst x0
        have hliw := HL.out.below x1 hnx
        obtain ⟨c0, c1⟩ := hliw j hjq
        obtain ⟨e1, e2⟩ := H6.out j hlt hjq
        have hed := encD_take gs j hlt
        have RG := hide (fun w' (hb : Below wr.heap.size wr w') => riseG_any (some ⟨g, off, none⟩) g off cap qs j w' hjq (by omega) rfl (Nat.lt_of_lt_of_le (Nat.lt_of_lt_of_le x1 hnx.size) hb.size) (hliw.below (Nat.lt_of_lt_of_le x1 hnx.size) hb))
        rw [hql] at RG
        obtain ⟨pb, po, y1, y2, y3, y4⟩ := e2.below hnx
        have hpl := hps gs[j] (List.getElem_mem hlt)
        have WG := hide (fun w' (hb : Below wr.heap.size wr w') => weigh_any qs[j].2.1 pb po qs[j].2.2.2 gs[j].2 w' y2 (fun z => Nat.lt_of_lt_of_le (y3 z) hb.size) (by omega) (fun i hi => y4.below (y3 (by omega)) hb i hi))
        have hpre : (qs.getD (j - 1) default).1 = (gs.getD (j - 1) default).1 := by
          rw [gq_at (by omega), gr_at (by omega)]; exact (H6.out (j - 1) (by omega) (by omega)).1
        rw [hpre, e1] at RG
        rw [← y1] at WG
        rw [e1] at c0
        have NX := hide (fun w' (hb : Below wr.heap.size wr w') => hnx.trans (hb.mono hnx.size))
        have EB := hide (fun h => eg_bad (i := j) HK.out hlt HNO.out h)
        have HH := hide (gBad_hash (k := k) hlt)
        have HU := hide (gBad_up (k := k) hlt)
        have HC := hide (gBad_rec (k := k) hlt)
        have RL := hide (rise_le (i := j) (a := gs[j].1) (b := (gs.getD (j - 1) default).1))
        have hsz := hnx.size
        have HFI := hide (fun (h : errL (gs[j]'hlt).2 = 0) => (fine h).2.2.1)
        have HRL := hide (recL_len gs[j].2)
        have HWO := hide (wSize_ok (ps := gs[j].2))
        have HED := hide hed
        have hji : (j : Int) < (gs.length : Int) := by omega
        clear hno hnx hliw y1 y2 y3 y4 e1 e2 hpre hpl hed
        generalize (if j = 0 then (1 : Int) else if gs[j].1 = (gs.getD (j - 1) default).1 then 0 else if lessS gs[j].1 (gs.getD (j - 1) default).1 = true then -1 else 1) = Z at *
        generalize gs[j].1 = H at *
        generalize qs[j].2 = SQ1 at *
        generalize recL gs[j].2 = RLL at *
        generalize sizeL gs[j].2 = SZ at *
        generalize hERR : errL gs[j].2 = ERR at *
        generalize wSize gs[j].2 = WS at *
        obtain ⟨WA, hWA⟩ : ∃ WA, WA = wr.alloc (.cells #[.string H, .slice SQ1.1 SQ1.2.1 SQ1.2.2] 49) := ⟨_, rfl⟩
        have sA : WA.heap.size = wr.heap.size + 1 := by rw [hWA]; simp
        have bA : Below wr.heap.size wr WA := by rw [hWA]; exact (Below.refl _ wr).alloc (Nat.le_refl _) _
        have p0 : WA.cell? ⟨wr.heap.size, 0, none⟩ = some (.string H) := by rw [hWA]; simp
        have p1 : WA.cell? ⟨wr.heap.size, 1, none⟩ = some (.slice SQ1.1 SQ1.2.1 SQ1.2.2) := by rw [hWA]; simp
        have KEY := hide (fun w2 (hb : Below WA.heap.size WA w2) => (⟨bA.trans (hb.mono (by omega)), (hb.cell (by rw [sA]; exact Nat.lt_succ_self _)).trans p1⟩ : Below wr.heap.size wr w2 ∧ w2.cell? ⟨wr.heap.size, 1, none⟩ = some (.slice SQ1.1 SQ1.2.1 SQ1.2.2)))
        have BA := hide bA
        clear bA
        by_cases hz : (H.size : Int) = k
        · have hzb : ((H.size : Int) != k) = false := by rw [hz]; simp
          by_cases hZ : Z ≤ 0
          · have hg37 := HU.out hz (RL.out.1 hZ)
            have E := hide (EB.out (by rw [hg37]; omega))
            rw [hg37] at E
            clear hz HU HC HH hg37
            go_wp2_with fail
            rw [← hWA]
            refine Calls.mono (RG.out _ BA.out) ?_
            rintro e w2 ⟨rfl, hb2⟩
            have B2 := hide (NX.out _ (KEY.out w2 hb2).1)
            clear hb2
            go_wp2_with fail
            go_ret2
            exact ⟨by rw [E.out.1, E.out.2]; rfl, B2.out⟩
          · have hgr := HC.out hz (fun h => hZ (RL.out.2 h))
            have HGR := hide hgr
            by_cases he : ERR = 0
            · have HNO2 : Hid (∀ t, t < j + 1 → gBad k gs t = 0) := fun t ht => by
                rcases Nat.lt_or_ge t j with h9 | h9
                · exact HNO.out t h9
                · obtain rfl : t = j := by omega
                  rw [HGR.out]; exact he
              have hw := HWO.out he
              have hf := HFI.out he
              have hrl := HRL.out
              clear hz HU HC HH hgr
              subst he
              subst hw
              go_wp2_with fail
              rw [← hWA]
              refine Calls.mono (RG.out _ BA.out) ?_
              rintro e w2 ⟨rfl, hb2⟩
              obtain ⟨B2, c2⟩ := KEY.out w2 hb2
              have HB2 := hide B2
              clear hb2 B2
              go_wp2_with fail
              refine Calls.mono (WG.out _ HB2.out) ?_
              rintro e w3 ⟨rfl, hb3⟩
              have B3 := hide (NX.out _ (HB2.out.trans (hb3.mono HB2.out.size)))
              clear hb3
              go_wp2_with fail
              go_roundw
              case rel =>
                refine ⟨j + 1, by omega, by go_num, ?_, HNO2.out, B3.out⟩
                rw [HED.out, List.length_append, hrl]
                go_num
              case measure => simp [intOf]; omega
            · have E := hide (EB.out (by rw [HGR.out]; exact he))
              rw [HGR.out] at E
              have hne : (ERR != 0) = true := by simpa using he
              clear hz HU HC HH hgr
              go_wp2_with fail
              rw [← hWA]
              refine Calls.mono (RG.out _ BA.out) ?_
              rintro e w2 ⟨rfl, hb2⟩
              obtain ⟨B2, c2⟩ := KEY.out w2 hb2
              have HB2 := hide B2
              clear hb2 B2
              go_wp2_with fail
              refine Calls.mono (WG.out _ HB2.out) ?_
              rintro e w3 ⟨rfl, hb3⟩
              have B3 := hide (NX.out _ (HB2.out.trans (hb3.mono HB2.out.size)))
              clear hb3
              go_wp2_with fail
              go_ret2
              exact ⟨by rw [E.out.1, E.out.2]; rfl, B3.out⟩
        · have hzb : ((H.size : Int) != k) = true := by simpa using hz
          have E := hide (EB.out (by rw [HH.out hz]; omega))
          rw [HH.out hz] at E
          clear hz HU HC HH
          have B1 := hide (NX.out _ BA.out)
          go_wp2_with fail
          go_ret2
          exact ⟨by rw [E.out.1, E.out.2]; rfl, by rw [← hWA]; exact B1.out⟩
      · obtain rfl : j = gs.length := by omega
        rw [List.take_length] at hsm ⊢
        clear hno hnx
        by_cases hbig : 65536 < (encD gs).length
        · have E := hide (eg_big HK.out HNO.out hbig)
          have hbi : (65536 : Int) < ((encD gs).length : Int) := by omega
          go_wp2_with fail
          go_ret2
          exact ⟨by rw [E.out.1, E.out.2]; rfl, HNX.out⟩
        · have E := hide (eg_ok HK.out HNO.out hbig)
          have hbi : ¬ (65536 : Int) < ((encD gs).length : Int) := by omega
          go_wp2_with fail
          go_ret2
          exact ⟨by rw [E.out.1, E.out.2]; rfl, HNX.out⟩
  · obtain ⟨e1, e2⟩ := eg_width (gs := gs) hk
    rw [e1, e2]
    have WD := hide (fun w' => isHashWidth_any k w')
    rw [decide_eq_false hk] at WD
    go_enter Try.func42, Try.ntmps42
    go_wp2_with fail
    refine Calls.mono (WD.out _) ?_
    rintro e w0 ⟨rfl, rfl⟩
    go_wp2_with fail
    go_ret2
    exact ⟨rfl, Below.refl _ _⟩
end Go.Proofs.Ythihmgdefbahpaa
namespace Go.Proofs.Ythihmgdefbahpaa
open Go.RowKit
def egI (k : Int) (gs : List GR) : ByteArray := if egE k gs = 0 then strOf (encN gs gs.length) else ⟨#[]⟩
def egD (k : Int) (gs : List GR) : ByteArray := if egE k gs = 0 then strOf (encD gs) else ⟨#[]⟩
def egC (k : Int) (gs : List GR) : Value := .agg #[.string (egI k gs), .string (egD k gs)]
/-- what groups that Encode takes are -/
theorem eg_inv {k : Int} {gs : List GR} (h : egE k gs = 0) : (1 ≤ k ∧ k ≤ 16) ∧ (∀ i (hi : i < gs.length), (gs[i].1.size : Int) = k ∧ errL gs[i].2 = 0 ∧ ¬ (i ≠ 0 ∧ (gs[i].1 = (gs.getD (i - 1) default).1 ∨ lessS gs[i].1 (gs.getD (i - 1) default).1 = true))) ∧ (encD gs).length ≤ 65536 := by
  by_cases hk : 1 ≤ k ∧ k ≤ 16
  · by_cases hw : gWrong k gs = 0
    · have hall : ∀ j, j < gs.length → gBad k gs j = 0 := by
        intro j
        induction j using Nat.strongRecOn with
        | ind j ih =>
          intro hj
          by_cases hb : gBad k gs j = 0
          · exact hb
          · have := (eg_bad hk hj (fun i hi => ih i hi (by omega)) hb).1
            rw [h] at this
            exact this.symm
      refine ⟨hk, fun i hi => ?_, ?_⟩
      · have hb := hall i hi
        by_cases a : (gs[i].1.size : Int) = k
        · by_cases b : (i ≠ 0 ∧ (gs[i].1 = (gs.getD (i - 1) default).1 ∨ lessS gs[i].1 (gs.getD (i - 1) default).1 = true))
          · rw [gBad_up hi a b] at hb; omega
          · rw [gBad_rec hi a b] at hb; exact ⟨a, hb, b⟩
        · rw [gBad_hash hi a] at hb; omega
      · unfold egE at h
        rw [if_pos hk, if_pos hw] at h
        by_cases hz : 65536 < (encD gs).length
        · rw [if_pos hz] at h; omega
        · omega
    · unfold egE at h
      rw [if_pos hk, if_neg hw] at h
      exact absurd h hw
  · rw [(eg_width hk).1] at h; omega
set_option maxHeartbeats 1000000 in
set_option maxRecDepth 100000 in
set_option linter.unusedSimpArgs false in
/-- Encode -/
theorem encode_any (k : Int) (v : Value) (gs : List GR) (w : World) (hg : GLies w v gs) (hlen : gs.length ≤ 1048576) (hps : ∀ g ∈ gs, g.2.length ≤ 1048576) :
    Calls Try.prog 13 #[.int .i64 k, v] w fun e w' => e = .returned (.tuple #[egC k gs, .int .i64 (egE k gs)]) ∧ Below w.heap.size w w' := by
  have WG := hide (fun w' (hb : Below w.heap.size w w') => weighGroups_any k v gs w' (hg.below hb) hlen hps)
  obtain ⟨W0, hW0⟩ : ∃ W0, W0 = w.alloc (.cells #[.string ⟨#[]⟩, .string ⟨#[]⟩] 23) := ⟨_, rfl⟩
  have s0 : W0.heap.size = w.heap.size + 1 := by rw [hW0]; simp
  have b0w : Below w.heap.size w W0 := by rw [hW0]; exact (Below.refl _ w).alloc (Nat.le_refl _) _
  have HB0 := hide b0w
  have KC : Hid (∀ w', Below W0.heap.size W0 w' → w'.cell? ⟨w.heap.size, 0, none⟩ = some (.string ⟨#[]⟩) ∧ w'.cell? ⟨w.heap.size, 1, none⟩ = some (.string ⟨#[]⟩) ∧ w'.frozen? ⟨w.heap.size, 0, none⟩ = false ∧ w'.frozen? ⟨w.heap.size, 1, none⟩ = false) := fun w' hb => by
    rw [hb.cell (by rw [s0]; exact Nat.lt_succ_self _), hb.cell (by rw [s0]; exact Nat.lt_succ_self _), hb.frozen (by rw [s0]; exact Nat.lt_succ_self _), hb.frozen (by rw [s0]; exact Nat.lt_succ_self _), hW0]
    exact ⟨by simp, by simp, by simp, by simp⟩
  clear b0w
  by_cases hE : egE k gs = 0
  · obtain ⟨hk, hin, hD⟩ := eg_inv hE
    obtain ⟨i0, hi, hz0, hz1, hz2⟩ := info_parts info5
    obtain ⟨qs, ao, g, off, cap, hql, rfl, h3, h4, h5, h6⟩ := hg
    rw [hql] at h3 h4 WG ⊢
    have eC : egC k gs = .agg #[.string (strOf (encN gs gs.length)), .string (strOf (encD gs))] := by unfold egC egI egD; rw [if_pos hE, if_pos hE]
    have eS : egS k gs = ((encD gs).length : Int) := by unfold egS; rw [if_pos hE]
    rw [eC, hE]
    rw [hE, eS] at WG
    have HL := hide h5
    have H6 := hide h6
    have HIN := hide hin
    obtain ⟨kn, rfl⟩ : ∃ kn : Nat, k = (kn : Int) := ⟨k.toNat, by omega⟩
    have hk1 : 1 ≤ kn := by omega
    have hk2 : kn ≤ 16 := by omega
    have hmul : (gs.length : Int) * ((kn : Int) + 4) = ((gs.length * (kn + 4) : Nat) : Int) := by push_cast; rfl
    have hmb : gs.length * (kn + 4) ≤ 20971520 := Nat.mul_le_mul (show gs.length ≤ 1048576 by omega) (show kn + 4 ≤ 20 by omega)
    obtain ⟨MM, hMM⟩ : ∃ MM, MM = gs.length * (kn + 4) := ⟨_, rfl⟩
    rw [← hMM] at hmul hmb
    clear h5 h6 hin hE eC eS hk hMM
    go_enter Try.func13, Try.ntmps13
    go_wp2_with fail
    rw [← hW0]
    refine Calls.mono (WG.out _ HB0.out) ?_
    rintro e w1 ⟨rfl, hb1⟩
    have s1 := hb1.size
    have HB1 := hide (hb1)
    clear hb1
    go_wp2_with (at_make; refine wpList_make_own _ rfl _ _ 76 rfl w1.heap.size 5 i0 (.int .u8 0) 1 Try.underlying76 hi hz0 hz1 _ _ _ MM rfl rfl (by omega) (by rw [hz2]; omega) (by unfold maxLen; omega) (Nat.le_refl _) ?_)
    intro w2 hown2 hgrow2
    have B2 : Below w1.heap.size w1 w2 := (Below.refl _ w1).grown hgrow2 (Nat.le_refl _) (by simp)
    have s2 := B2.size
    have O2 := hide hown2
    have HB2 := hide B2
    have lt2 := (hown2.lt w1.heap.size rfl).2
    clear hown2 hgrow2 B2
    go_wp2_with (at_make; refine wpList_make_own _ rfl _ _ 76 rfl w1.heap.size 5 i0 (.int .u8 0) 1 Try.underlying76 hi hz0 hz1 _ _ _ (encD gs).length rfl rfl (by omega) (by rw [hz2]; omega) (by unfold maxLen; omega) s2 ?_)
    intro w3 hown3 hgrow3
    have B3 : Below w1.heap.size w1 w3 := HB2.out.grown hgrow3 s2 (by simp)
    have O23 := hide (O2.out.kept hgrow3 (.inr (by simp [Value.ownBlock])))
    have O3 := hide hown3
    have HB3 := hide B3
    have hne3 : Apart (.slice (some ⟨w2.heap.size, 0, none⟩) 0 (encD gs).length) (.slice (some ⟨w1.heap.size, 0, none⟩) 0 MM) := .inr (by simp [Value.ownBlock]; omega)
    clear hown3 hgrow3 B3
    go_wp2_with fail
    go_loopw [8, 9, 32] (fun vi vd i wr => ∃ j : Nat, j ≤ gs.length ∧ i = .int .i64 (j : Int) ∧ (encN gs j).length = j * (kn + 4) ∧ wr.ownsRow w1.heap.size 5 1 vi (encN gs j).length ((encN gs j).map ub) ∧ wr.ownsRow w1.heap.size 5 1 vd (encD (gs.take j)).length ((encD (gs.take j)).map ub) ∧ Apart vd vi ∧ Below w1.heap.size w1 wr)
      (fun _ _ i _ => gs.length - (intOf i).toNat)
    case atStart => exact ⟨0, by omega, rfl, by simp [encN], O23.out, O3.out, hne3, HB3.out⟩
    case round =>
      obtain ⟨j, hj, rfl, hln, hoi, hod, hap, hnx⟩ := hrel
      have hsz := hnx.size
      have hlD := encD_le gs j
      have hlnb : (encN gs j).length ≤ 20971520 := by
        rw [hln]
        exact Nat.mul_le_mul (show j ≤ 1048576 by omega) (show kn + 4 ≤ 20 by omega)
      have HLN := hide hln
      have HOI := hide hoi
      have HOD := hide hod
      have HAP := hide hap
      have HNX := hide hnx
      have bw : Below w.heap.size w wr := HB0.out.trans ((HB1.out.trans (hnx.mono s1)).mono (by omega))
      have BW := hide bw
      by_cases hlt : j < gs.length
      · obtain ⟨ad, cd, rfl⟩ := own_shape hod
        have hjq : j < qs.length := by omega
        have x0 := h3 (by omega)
        have x1 := h4 (by omega)
        subst x0
        obtain ⟨c0, c1⟩ := HL.out.below x1 bw j hjq
        obtain ⟨e1, e2⟩ := H6.out j hlt hjq
        obtain ⟨hz, herr, _⟩ := HIN.out j hlt
        obtain ⟨pb, po, y1, y2, y3, y4⟩ := e2
        obtain ⟨fl, fp, fz, fs⟩ := fine herr
        have HFS := hide fs
        have y5 := y3 fp
        have WR := hide (fun (v' : Value) (w' : World) (hb : Below w.heap.size w w') (hs : w1.heap.size ≤ w'.heap.size) (ho : w'.ownsRow w1.heap.size 5 1 v' (encD (gs.take j)).length ((encD (gs.take j)).map ub)) => write_any w1.heap.size v' _ _ qs[j].2.1 pb po qs[j].2.2.2 gs[j].2 w' ho (by omega) hs y2 (fun _ => by omega) fl HFS.out (y4.below y5 hb))
        rw [← y1] at WR
        have HED := hide (encD_take gs j hlt)
        have HEN := hide (encN_step gs j hlt)
        have hle2 := encD_le gs (j + 1)
        have HRL := hide (recL_len gs[j].2)
        rw [HED.out, List.length_append, HRL.out] at hle2
        have hji : (j : Int) < (gs.length : Int) := by omega
        have hu : IntKind.u32.wrap ((encD (gs.take j)).length : Int) = ((encD (gs.take j)).length : Int) := by simp [IntKind.wrap, IntKind.signed, IntKind.bits]; omega
        rw [e1] at c0
        clear hoi hod hap hnx hln bw e1 y1 y2 y3 y4 fs fp herr fz
        generalize gs[j].1 = H at *
        generalize qs[j].2 = SQ1 at *
        generalize recL gs[j].2 = RLL at *
        generalize sizeL gs[j].2 = SZ at *
        obtain ⟨WA, hWA⟩ : ∃ WA, WA = wr.alloc (.cells #[.string H, .slice SQ1.1 SQ1.2.1 SQ1.2.2] 49) := ⟨_, rfl⟩
        have sA : WA.heap.size = wr.heap.size + 1 := by rw [hWA]; simp
        have bA : Below wr.heap.size wr WA := by rw [hWA]; exact (Below.refl _ wr).alloc (Nat.le_refl _) _
        have p1 : WA.cell? ⟨wr.heap.size, 1, none⟩ = some (.slice SQ1.1 SQ1.2.1 SQ1.2.2) := by rw [hWA]; simp
        have OIA := hide (own_below HOI.out bA)
        have ODA := hide (own_below HOD.out bA)
        have NA := hide (HNX.out.trans (bA.mono hsz))
        have s0A : w1.heap.size ≤ WA.heap.size := by omega
        have hne1 : ∀ t, t = some wr.heap.size → True := fun _ _ => trivial
        clear hne1
        rw [hWA] at OIA
        go_wp2_with (at_builtin; refine wpList_appAny rfl _ _ rfl w1.heap.size _ _ _ H rfl rfl OIA.out (by omega) (by rw [← hWA]; exact s0A) ?_)
        rw [← hWA]
        rw [← hWA] at OIA
        intro v3 w3 o3 G3
        have s3 := G3.size
        have s03 := Nat.le_trans s0A s3
        have q1 : w3.cell? ⟨wr.heap.size, 1, none⟩ = some (.slice SQ1.1 SQ1.2.1 SQ1.2.2) := (G3.cell 1 (by omega) (own_ne' HOI.out (Nat.le_refl _))).trans p1
        have hv3 : v3.ownBlock ≠ some wr.heap.size := G3.ne (by omega) (own_ne' HOI.out (Nat.le_refl _))
        have O3 := hide o3
        have AD3 := hide (HAP.out.grew ODA.out G3)
        have N3 := hide (NA.out.trans (G3.below s0A (fun t ht => (OIA.out.lt t ht).1)))
        have P4 := hide (put32_any (encD (gs.take j)).length w1.heap.size v3 _ _ w3 o3 (by omega) s03)
        clear o3 G3
        go_wp2_with fail
        refine Calls.mono P4.out ?_
        rintro e w4 ⟨v4, rfl, o4, G4⟩
        have s4 := G4.size
        have s04 := Nat.le_trans s03 s4
        have q2 : w4.cell? ⟨wr.heap.size, 1, none⟩ = some (.slice SQ1.1 SQ1.2.1 SQ1.2.2) := (G4.cell 1 (by omega) hv3).trans q1
        have O4 := hide o4
        have AD4 := hide (AD3.out.1.grew AD3.out.2 G4)
        have N4 := hide (N3.out.trans (G4.below s03 (fun t ht => (O3.out.lt t ht).1)))
        clear o4 G4 q1
        go_wp2_with fail
        refine Calls.mono (WR.out _ _ (HB0.out.trans ((HB1.out.trans (N4.out.mono s1)).mono (by omega))) s04 AD4.out.2) ?_
        rintro e w5 ⟨v5, rfl, o5, G5⟩
        have O5 := hide o5
        have AD5 := hide (AD4.out.1.symm.grew O4.out G5)
        have N5 := hide (N4.out.trans (G5.below s04 (fun t ht => (AD4.out.2.lt t ht).1)))
        clear o5 G5
        go_wp2_with fail
        go_roundw
        case rel =>
          refine ⟨j + 1, by omega, by go_num, ?_, ?_, ?_, AD5.out.1.symm, N5.out⟩
          · rw [HEN.out]; simp only [List.length_append, dig_len, HLN.out, size_data]; rw [Nat.add_mul]; omega
          · have := AD5.out.2
            rw [HEN.out]
            simp only [List.map_append, List.length_append, dig_len, size_data] at this ⊢
            exact this
          · have := O5.out
            rw [HED.out]
            simp only [List.map_append, List.length_append] at this ⊢
            rw [HRL.out]
            exact this
        case measure => simp [intOf]; omega
      · obtain rfl : j = gs.length := by omega
        rw [List.take_length] at HOD
        obtain ⟨kc0, kc1, kf0, kf1⟩ := KC.out wr (HB1.out.trans (hnx.mono s1))
        have hc1 := own_conv (P := Try.prog) (src := 76) (dst := 9) (l := encN gs gs.length) HOI.out (by omega) Try.underlying76 Try.underlying5 Try.underlying9
        have hc2 := own_conv (P := Try.prog) (src := 76) (dst := 9) (l := encD gs) HOD.out (by omega) Try.underlying76 Try.underlying5 Try.underlying9
        have hwz : w.heap.size < wr.heap.size := by omega
        clear hoi hod hap hnx hln bw
        go_wp2_with fail
        refine bodyPost_ret (v := .tuple #[.agg #[.string (strOf (encN gs gs.length)), .string (strOf (encD gs))], .int .i64 0]) ?_ rfl ⟨rfl, ?_⟩
        · rw [results_cell_tmp rfl]
          go_simp
        · exact (BW.out.setCell (Nat.le_refl _) _).setCell (Nat.le_refl _) _
  · have HE := hide hE
    have eC : egC k gs = .agg #[.string ⟨#[]⟩, .string ⟨#[]⟩] := by unfold egC egI egD; rw [if_neg hE, if_neg hE]
    rw [eC]
    have hne : (egE k gs != 0) = true := by simpa using hE
    clear hE eC
    generalize egE k gs = E at *
    go_enter Try.func13, Try.ntmps13
    go_wp2_with fail
    rw [← hW0]
    refine Calls.mono (WG.out _ HB0.out) ?_
    rintro e w1 ⟨rfl, hb1⟩
    obtain ⟨kc0, kc1, kf0, kf1⟩ := KC.out w1 hb1
    have HB1 := hide (HB0.out.trans (hb1.mono (by omega)))
    have s1 := hb1.size
    clear hb1 hW0
    go_wp2_with fail
    refine bodyPost_ret (v := .tuple #[.agg #[.string ⟨#[]⟩, .string ⟨#[]⟩], .int .i64 E]) ?_ rfl ⟨rfl, ?_⟩
    · rw [results_cell_tmp rfl]
      go_simp
    · exact (HB1.out.setCell (by simp) _).setCell (by simp) _
end Go.Proofs.Ythihmgdefbahpaa
namespace Go.Proofs.Ythihmgdefbahpaa
open Go.RowKit
theorem ba_ext {a b : ByteArray} (h : a.data.toList = b.data.toList) : a = b := ByteArray.ext (Array.toList_inj.1 h)
theorem pair_there {d : ByteArray} {q : Nat} {p : KV} {rest : List UInt8} (h : d.data.toList.drop q = pairL p ++ rest) (h1 : p.1.size < 65536) (h2 : p.2.size < 4294967296) (hq : q ≤ d.size) : pairOk d q ∧ pairOf d q = p ∧ pairEnd d q = q + (6 + p.1.size + p.2.size) := by
  have hz := size_data d
  have hl := congrArg List.length h
  rw [List.length_drop, List.length_append, pairL_len] at hl
  unfold pairL at h
  have s1 := size_data p.1
  have s2 := size_data p.2
  have ek : kAt d q = p.1.size := by
    unfold kAt
    rw [h, List.append_assoc, List.append_assoc, List.append_assoc, List.take_left' (dig_len _ _), val_dig _ _ (by omega)]
  have d2 : d.data.toList.drop (q + 2) = dig 4 p.2.size ++ (p.1.data.toList ++ (p.2.data.toList ++ rest)) := by
    rw [← List.drop_drop, h, List.append_assoc, List.append_assoc, List.append_assoc, List.drop_left' (dig_len _ _)]
  have ev : vAt d q = p.2.size := by
    unfold vAt
    rw [d2, List.take_left' (dig_len _ _), val_dig _ _ (by omega)]
  have d6 : d.data.toList.drop (q + 6) = p.1.data.toList ++ (p.2.data.toList ++ rest) := by
    rw [show q + 6 = q + 2 + 4 by omega, ← List.drop_drop, d2, List.drop_left' (dig_len _ _)]
  have d7 : d.data.toList.drop (q + 6 + p.1.size) = p.2.data.toList ++ rest := by
    rw [← List.drop_drop, d6, List.drop_left' s1]
  have ee : pairEnd d q = q + (6 + p.1.size + p.2.size) := by unfold pairEnd; rw [ek, ev]; omega
  refine ⟨⟨by omega, by rw [ee]; omega⟩, ?_, ee⟩
  unfold pairOf
  rw [ek, ev]
  refine Prod.ext (ba_ext ?_) (ba_ext ?_)
  · simp only
    rw [slice_str, d6, show q + 6 + p.1.size - (q + 6) = p.1.size by omega, List.take_left' s1]
  · simp only
    rw [slice_str, d7, show q + 6 + p.1.size + p.2.size - (q + 6 + p.1.size) = p.2.size by omega, List.take_left' s2]
theorem bodyL_split (ps : List KV) (n : Nat) (h : n < ps.length) : bodyL ps = bodyL (ps.take n) ++ (pairL ps[n] ++ bodyL (ps.drop (n + 1))) := by
  have : ps = ps.take n ++ ps[n] :: ps.drop (n + 1) := by rw [← List.drop_eq_getElem_cons h, List.take_append_drop]
  refine (congrArg bodyL this).trans ?_
  unfold bodyL
  rw [List.flatMap_append, List.flatMap_cons]
theorem pairs_there {d : ByteArray} {p : Nat} {ps : List KV} {rest : List UInt8} (h : d.data.toList.drop p = bodyL ps ++ rest) (_ : p ≤ d.size) (hs : ∀ i (hi : i < ps.length), ps[i].1.size < 65536 ∧ ps[i].2.size < 4294967296) : ∀ n, n ≤ ps.length → pairsAt d p n = some (ps.take n, p + sizeL (ps.take n)) := by
  have hz := size_data d
  intro n
  induction n with
  | zero => intro _; simp [pairsAt, sizeL]
  | succ n ih =>
    intro hn
    have hn' : n < ps.length := by omega
    have hq : d.data.toList.drop (p + sizeL (ps.take n)) = pairL ps[n] ++ (bodyL (ps.drop (n + 1)) ++ rest) := by
      rw [← List.drop_drop, h, bodyL_split ps n hn', List.append_assoc, List.drop_left' (bodyL_len _), List.append_assoc]
    have hl := congrArg List.length hq
    rw [List.length_drop, List.length_append, pairL_len] at hl
    obtain ⟨o1, o2, o3⟩ := pair_there hq (hs n hn').1 (hs n hn').2 (by omega)
    rw [pairs_step (ih (by omega)) o1, o2, o3, List.take_succ_eq_append_getElem hn', sizeL_append]
    simp [sizeL]
    omega
theorem spell_there {d : ByteArray} {p : Nat} {ps : List KV} {rest : List UInt8} (h : d.data.toList.drop p = recL ps ++ rest) (hp : p ≤ d.size) (hn : ps.length < 65536) (hs : ∀ i (hi : i < ps.length), ps[i].1.size < 65536 ∧ ps[i].2.size < 4294967296) : spellAt d p = some (ps, p + (recL ps).length) := by
  have hz := size_data d
  have hl := congrArg List.length h
  rw [List.length_drop, List.length_append, recL_len] at hl
  unfold recL at h
  have ek : kAt d p = ps.length := by
    unfold kAt
    rw [h, List.append_assoc, List.take_left' (dig_len _ _), val_dig _ _ (by omega)]
  have d2 : d.data.toList.drop (p + 2) = bodyL ps ++ rest := by
    rw [← List.drop_drop, h, List.append_assoc, List.drop_left' (dig_len _ _)]
  unfold spellAt
  rw [if_pos (by omega), ek, pairs_there d2 (by omega) hs _ (Nat.le_refl _), List.take_length, recL_len]
  simp
  omega
theorem encN_pre (gs : List GR) : ∀ n j, j ≤ n → ∃ r, encN gs n = encN gs j ++ r := by
  intro n
  induction n with
  | zero => intro j hj; obtain rfl : j = 0 := by omega
            exact ⟨[], by simp⟩
  | succ n ih =>
    intro j hj
    rcases Nat.lt_or_ge n j with h | h
    · obtain rfl : j = n + 1 := by omega
      exact ⟨[], by simp⟩
    · obtain ⟨r, hr⟩ := ih j h
      exact ⟨r ++ (gs.getD n default).1.data.toList ++ dig 4 (encD (gs.take n)).length, by rw [encN, hr]; simp only [List.append_assoc]⟩
theorem encN_len {k : Nat} {gs : List GR} (hz : ∀ i (hi : i < gs.length), gs[i].1.size = k) : ∀ j, j ≤ gs.length → (encN gs j).length = j * (k + 4) := by
  intro j
  induction j with
  | zero => intro _; simp [encN]
  | succ j ih =>
    intro hj
    rw [encN_step gs j (by omega), List.length_append, List.length_append, dig_len, size_data, ih (by omega), hz j (by omega), Nat.add_mul]
    omega
/-- what Decode finds in what Encode wrote -/
theorem back {k : Int} {gs : List GR} (h : egE k gs = 0) : dcE k (egI k gs) (egD k gs) = 0 ∧ dcG k (egI k gs) (egD k gs) = gs := by
  obtain ⟨hk, hin, hD⟩ := eg_inv h
  obtain ⟨kn, rfl⟩ : ∃ kn : Nat, k = (kn : Int) := ⟨k.toNat, by omega⟩
  have eI : egI (kn : Int) gs = strOf (encN gs gs.length) := by unfold egI; rw [if_pos h]
  have eD : egD (kn : Int) gs = strOf (encD gs) := by unfold egD; rw [if_pos h]
  rw [eI, eD]
  have hz : ∀ i (hi : i < gs.length), gs[i].1.size = kn := fun i hi => by have := (hin i hi).1; omega
  have hxl : (strOf (encN gs gs.length)).size = gs.length * (kn + 4) := by rw [strOf_size, encN_len hz _ (Nat.le_refl _)]
  have hxd : (strOf (encN gs gs.length)).size / (kn + 4) = gs.length := by rw [hxl]; exact Nat.mul_div_cancel _ (by omega)
  have hxm : (strOf (encN gs gs.length)).size % (kn + 4) = 0 := by rw [hxl]; exact Nat.mul_mod_left _ _
  have hdz : (strOf (encD gs)).size = (encD gs).length := strOf_size _
  have hx : ∀ i (hi : i < gs.length), ∃ r, (strOf (encN gs gs.length)).data.toList.drop (i * (kn + 4)) = gs[i].1.data.toList ++ (dig 4 (encD (gs.take i)).length ++ r) := fun i hi => by
    obtain ⟨r, hr⟩ := encN_pre gs gs.length (i + 1) (by omega)
    refine ⟨r, ?_⟩
    show (encN gs gs.length).drop (i * (kn + 4)) = _
    rw [hr, encN_step gs i hi, List.append_assoc, List.append_assoc, List.drop_left' (encN_len hz i (by omega))]
  have hH : ∀ i (hi : i < gs.length), rdeH kn (strOf (encN gs gs.length)) i = gs[i].1 := fun i hi => by
    obtain ⟨r, hr⟩ := hx i hi
    refine ba_ext ?_
    unfold rdeH
    rw [slice_str, hr, show i * (kn + 4) + kn - i * (kn + 4) = kn by omega, List.take_left' (by rw [size_data, hz i hi])]
  have hO : ∀ i (hi : i < gs.length), rdeO kn (strOf (encN gs gs.length)) i = (encD (gs.take i)).length := fun i hi => by
    obtain ⟨r, hr⟩ := hx i hi
    have hle := encD_le gs i
    unfold rdeO
    rw [← List.drop_drop, hr, List.drop_left' (by rw [size_data, hz i hi]), List.take_left' (dig_len _ _), val_dig _ _ (by omega)]
  have hup : allUp kn (strOf (encN gs gs.length)) = true := by
    refine allUp_yes (fun i hi => ?_)
    rw [hxd] at hi
    unfold upB
    by_cases h0 : i = 0
    · simp [h0]
    · rw [hH i hi, hH (i - 1) (by omega)]
      have hn := (hin i hi).2.2
      rw [gr_at (by omega : i - 1 < gs.length)] at hn
      have hn2 : ¬ (gs[i].1 = gs[i - 1].1 ∨ lessS gs[i].1 gs[i - 1].1 = true) := fun q => hn ⟨h0, q⟩
      have a : decide (gs[i].1 = gs[i - 1].1) = false := decide_eq_false (fun q => hn2 (.inl q))
      have b : lessS gs[i].1 gs[i - 1].1 = false := by
        cases hc : lessS gs[i].1 gs[i - 1].1 with
        | false => rfl
        | true => exact absurd (.inr hc) hn2
      rw [a, b]; simp
  have hri := (ri_yes (m := (kn : Int)) (x := strOf (encN gs gs.length)) hk ⟨by rw [Int.toNat_natCast]; exact hxm, by rw [Int.toNat_natCast]; exact hup⟩).1
  have hdec : ∀ j, j ≤ gs.length → decAt kn (strOf (encN gs gs.length)) (strOf (encD gs)) j = some (gs.take j, (encD (gs.take j)).length) := by
    intro j
    induction j with
    | zero => intro _; simp [decAt, encD]
    | succ j ih =>
      intro hj
      have hj' : j < gs.length := by omega
      have herr := (hin j hj').2.1
      obtain ⟨fl, fp, fz, fs⟩ := fine herr
      have hle := encD_le gs j
      have hsp : spellAt (strOf (encD gs)) (encD (gs.take j)).length = some (gs[j].2, (encD (gs.take j)).length + (recL gs[j].2).length) := by
        refine spell_there (rest := encD (gs.drop (j + 1))) ?_ (by omega) (by omega) (fun i hi => ⟨by have := (fs i hi).1; omega, by have := (fs i hi).2; omega⟩)
        show (encD gs).drop _ = _
        have : gs = gs.take j ++ gs[j] :: gs.drop (j + 1) := by rw [← List.drop_eq_getElem_cons hj', List.take_append_drop]
        have e : encD gs = encD (gs.take j) ++ (recL gs[j].2 ++ encD (gs.drop (j + 1))) := by
          refine (congrArg encD this).trans ?_
          unfold encD
          rw [List.flatMap_append, List.flatMap_cons]
        rw [e, List.drop_left' rfl]
      have hs1 := (spL_some hsp).1
      have hs2 := (spL_some hsp).2
      rw [dec_step (ih (by omega)) (by rw [hs1]; exact herr) (hO j hj'), hs1, hs2, hH j hj', List.take_succ_eq_append_getElem hj', encD_snoc, List.length_append]
  have hok : dcOk (kn : Int) (strOf (encN gs gs.length)) (strOf (encD gs)) = some gs := by
    refine ok_yes ?_ (by omega)
    rw [Int.toNat_natCast, hxd, hdec _ (Nat.le_refl _), List.take_length, hdz]
  exact dc_yes hri hok
end Go.Proofs.Ythihmgdefbahpaa
namespace Go.Proofs.Ythihmgdefbahpaa
open Go.RowKit
def btw (m : Int) : Int := if 1 ≤ m ∧ m ≤ 16 then m else 16
theorem btw_in (m : Int) : 1 ≤ btw m ∧ btw m ≤ 16 := by
  unfold btw
  by_cases h : 1 ≤ m ∧ m ≤ 16
  · rw [if_pos h]; exact h
  · rw [if_neg h]; omega
set_option maxRecDepth 100000 in
theorem between_any (m : Int) (w : World) : Calls Try.prog 17 #[.int .i64 m] w fun e w' => e = .returned (.int .i64 (btw m)) ∧ w = w' := by
  unfold btw
  by_cases h : 1 ≤ m ∧ m ≤ 16
  · rw [if_pos h]
    go_enter Try.func17, Try.ntmps17
    go_wp2
    go_ret
    exact ⟨rfl, rfl⟩
  · rw [if_neg h]
    by_cases h1 : m < 1
    · clear h
      go_enter Try.func17, Try.ntmps17
      go_wp2
      go_ret
      exact ⟨rfl, rfl⟩
    · have h2 : 16 < m := by omega
      have h3 : ¬ m < 1 := h1
      clear h
      go_enter Try.func17, Try.ntmps17
      go_wp2
      go_ret
      exact ⟨rfl, rfl⟩
def kyd (k : ByteArray) : ByteArray := if k.size = 0 then ⟨#[107]⟩ else if 255 < k.size then k.extract 0 255 else k
def vld (v : ByteArray) : ByteArray := if 4096 < v.size then v.extract 0 4096 else v
theorem kyd_size (k : ByteArray) : 1 ≤ (kyd k).size ∧ (kyd k).size ≤ 255 := by
  unfold kyd
  by_cases h : k.size = 0
  · rw [if_pos h]; decide
  · rw [if_neg h]
    by_cases h2 : 255 < k.size
    · rw [if_pos h2]; simp; omega
    · rw [if_neg h2]; omega
theorem vld_size (v : ByteArray) : (vld v).size ≤ 4096 := by
  unfold vld
  by_cases h2 : 4096 < v.size
  · rw [if_pos h2]; simp; omega
  · rw [if_neg h2]; omega
set_option maxRecDepth 100000 in
theorem keyed_any (k : ByteArray) (w : World) : Calls Try.prog 29 #[.string k] w fun e w' => e = .returned (.string (kyd k)) ∧ w = w' := by
  unfold kyd
  by_cases h : k.size = 0
  · rw [if_pos h]
    have hem : k.toList.isEmpty = true := by rw [emptyS]; exact decide_eq_true h
    clear h
    go_enter Try.func29, Try.ntmps29
    go_wp2
    go_ret
    exact ⟨rfl, rfl⟩
  · rw [if_neg h]
    have hem : k.toList.isEmpty = false := by rw [emptyS]; exact decide_eq_false h
    by_cases h2 : 255 < k.size
    · rw [if_pos h2]
      have h3 : (255 : Int) < (k.size : Int) := by omega
      have h4 : (255 : Int) ≤ (k.size : Int) := by omega
      go_enter Try.func29, Try.ntmps29
      go_wp2
      go_ret
      exact ⟨rfl, rfl⟩
    · rw [if_neg h2]
      have h3 : ¬ (255 : Int) < (k.size : Int) := by omega
      go_enter Try.func29, Try.ntmps29
      go_wp2
      go_ret
      exact ⟨rfl, rfl⟩
set_option maxRecDepth 100000 in
theorem valued_any (k : ByteArray) (w : World) : Calls Try.prog 48 #[.string k] w fun e w' => e = .returned (.string (vld k)) ∧ w = w' := by
  unfold vld
  by_cases h2 : 4096 < k.size
  · rw [if_pos h2]
    have h3 : (4096 : Int) < (k.size : Int) := by omega
    have h4 : (4096 : Int) ≤ (k.size : Int) := by omega
    go_enter Try.func48, Try.ntmps48
    go_wp2
    go_ret
    exact ⟨rfl, rfl⟩
  · rw [if_neg h2]
    have h3 : ¬ (4096 : Int) < (k.size : Int) := by omega
    go_enter Try.func48, Try.ntmps48
    go_wp2
    go_ret
    exact ⟨rfl, rfl⟩
def padd (h : ByteArray) (j : Nat) : ByteArray := strOf (h.data.toList ++ List.replicate j 0)
theorem padd_size (h : ByteArray) (j : Nat) : (padd h j).size = h.size + j := by
  unfold padd; rw [strOf_size, List.length_append, List.length_replicate, size_data]
theorem padd_step (h : ByteArray) (j : Nat) : padd h j ++ (⟨#[0]⟩ : ByteArray) = padd h (j + 1) := by
  refine ba_ext ?_
  unfold padd
  rw [ByteArray.data_append, Array.toList_append, strOf_data, strOf_data, List.replicate_succ', ← List.append_assoc]
def fitB (h : ByteArray) (k : Nat) : ByteArray := (padd h (k - h.size)).extract 0 k
theorem fitB_size (h : ByteArray) (k : Nat) : (fitB h k).size = k := by
  unfold fitB; simp [padd_size]; omega
set_option maxHeartbeats 1000000 in
set_option maxRecDepth 100000 in
theorem fit_any (h : ByteArray) (k : Nat) (hk : k ≤ 16) (w : World) : Calls Try.prog 28 #[.string h, .int .i64 (k : Int)] w fun e w' => e = .returned (.string (fitB h k)) ∧ w = w' := by
  have E0 : Hid (padd h 0 = h) := by
    have e : padd h 0 = h := by unfold padd; simp [strOf_toList]
    exact e
  go_enter Try.func28, Try.ntmps28
  go_wp2_with fail
  go_loopw [5] (fun s wr => ∃ j : Nat, j ≤ k - h.size ∧ s = .string (padd h j) ∧ w = wr) (fun s _ => match s with | .string t => 16 + h.size - t.size | _ => 0)
  case atStart => exact ⟨0, by omega, by rw [E0.out], rfl⟩
  case round =>
    obtain ⟨j, hj, rfl, rfl⟩ := hrel
    have hz := padd_size h j
    have hs := padd_step h j
    have hz2 := padd_size h (j + 1)
    by_cases hlt : h.size + j < k
    · have hi : ((padd h j).size : Int) < (k : Int) := by omega
      go_wp2_with fail
      refine ⟨⟨j + 1, by omega, rfl, trivial⟩, ?_⟩
      simp only [hz, hz2]
      omega
    · have hi : ¬ ((padd h j).size : Int) < (k : Int) := by omega
      have hi2 : (k : Int) ≤ ((padd h j).size : Int) := by omega
      have HF : Hid ((padd h j).extract 0 k = fitB h k) := by
        have e : (padd h j).extract 0 k = fitB h k := by
          unfold fitB
          rw [show j = k - h.size by omega]
        exact e
      go_wp2_with fail
      go_ret
      exact ⟨by rw [← HF.out]; rfl, rfl⟩
end Go.Proofs.Ythihmgdefbahpaa
namespace Go.Proofs.Ythihmgdefbahpaa
open Go.RowKit
/-- a pair put into its place -/
def putP : List KV → KV → List KV
  | [], p => [p]
  | q :: r, p => if lessS p.1 q.1 then p :: q :: r else if p.1 = q.1 then p :: r else q :: putP r p
def putG : List GR → ByteArray → KV → List GR
  | [], h, p => [(h, [p])]
  | g :: r, h, p => if lessS h g.1 then (h, [p]) :: g :: r else if h = g.1 then (h, putP g.2 p) :: r else g :: putG r h p
abbrev UpP (l : List KV) : Prop := l.Pairwise (fun a b => lessS a.1 b.1 = true)
abbrev UpG (l : List GR) : Prop := l.Pairwise (fun a b => lessS a.1 b.1 = true)
theorem lessS_no {a b : ByteArray} (h1 : lessS a b = false) (h2 : a ≠ b) : lessS b a = true := by
  rcases lessS_total a b with h | h | h
  · exact absurd h h2
  · rw [h] at h1; cases h1
  · exact h
theorem putP_mem {l : List KV} {p q : KV} (h : q ∈ putP l p) : q = p ∨ q ∈ l := by
  induction l with
  | nil => simp [putP] at h; exact .inl h
  | cons a r ih =>
    unfold putP at h
    split at h
    · rcases List.mem_cons.1 h with h | h
      · exact .inl h
      · exact .inr h
    · split at h
      · rcases List.mem_cons.1 h with h | h
        · exact .inl h
        · exact .inr (List.mem_cons_of_mem _ h)
      · rcases List.mem_cons.1 h with h | h
        · exact .inr (by rw [h]; exact List.mem_cons_self)
        · rcases ih h with h | h
          · exact .inl h
          · exact .inr (List.mem_cons_of_mem _ h)
theorem putP_up {l : List KV} (hl : UpP l) (p : KV) : UpP (putP l p) := by
  induction l with
  | nil => simp [putP, UpP]
  | cons a r ih =>
    obtain ⟨h1, h2⟩ := List.pairwise_cons.1 hl
    unfold putP
    split
    · rename_i hlt
      refine List.pairwise_cons.2 ⟨fun x hx => ?_, hl⟩
      rcases List.mem_cons.1 hx with hx | hx
      · rw [hx]; exact hlt
      · exact lessS_trans hlt (h1 x hx)
    · split
      · rename_i he
        exact List.pairwise_cons.2 ⟨fun x hx => by rw [he]; exact h1 x hx, h2⟩
      · rename_i hnl hne
        simp only [Bool.not_eq_true] at hnl
        refine List.pairwise_cons.2 ⟨fun x hx => ?_, ih h2⟩
        rcases putP_mem hx with hx | hx
        · rw [hx]; exact lessS_no hnl hne
        · exact h1 x hx
theorem putP_ne (l : List KV) (p : KV) : putP l p ≠ [] := by
  cases l with
  | nil => simp [putP]
  | cons a r =>
    unfold putP
    split
    · simp
    · split
      · simp
      · simp
theorem putP_len (l : List KV) (p : KV) : (putP l p).length ≤ l.length + 1 := by
  induction l with
  | nil => simp [putP]
  | cons a r ih =>
    unfold putP
    split
    · simp
    · split
      · simp
      · simp only [List.length_cons]; omega
theorem putG_mem {l : List GR} {h : ByteArray} {p : KV} {q : GR} (hq : q ∈ putG l h p) : (q.1 = h ∧ (q.2 = [p] ∨ ∃ g ∈ l, g.1 = h ∧ q.2 = putP g.2 p)) ∨ q ∈ l := by
  induction l with
  | nil => simp [putG] at hq; rw [hq]; exact .inl ⟨rfl, .inl rfl⟩
  | cons a r ih =>
    unfold putG at hq
    split at hq
    · rcases List.mem_cons.1 hq with hq | hq
      · rw [hq]; exact .inl ⟨rfl, .inl rfl⟩
      · exact .inr hq
    · split at hq
      · rename_i he
        rcases List.mem_cons.1 hq with hq | hq
        · rw [hq]; exact .inl ⟨rfl, .inr ⟨a, List.mem_cons_self, he.symm, rfl⟩⟩
        · exact .inr (List.mem_cons_of_mem _ hq)
      · rcases List.mem_cons.1 hq with hq | hq
        · exact .inr (by rw [hq]; exact List.mem_cons_self)
        · rcases ih hq with ⟨h1, h2⟩ | h2
          · refine .inl ⟨h1, ?_⟩
            rcases h2 with h2 | ⟨g, hg, h3⟩
            · exact .inl h2
            · exact .inr ⟨g, List.mem_cons_of_mem _ hg, h3⟩
          · exact .inr (List.mem_cons_of_mem _ h2)
theorem putG_up {l : List GR} (hl : UpG l) (h : ByteArray) (p : KV) : UpG (putG l h p) := by
  induction l with
  | nil => simp [putG, UpG]
  | cons a r ih =>
    obtain ⟨h1, h2⟩ := List.pairwise_cons.1 hl
    unfold putG
    split
    · rename_i hlt
      refine List.pairwise_cons.2 ⟨fun x hx => ?_, hl⟩
      rcases List.mem_cons.1 hx with hx | hx
      · rw [hx]; exact hlt
      · exact lessS_trans hlt (h1 x hx)
    · split
      · rename_i he
        exact List.pairwise_cons.2 ⟨fun x hx => by show lessS h x.1 = true; rw [he]; exact h1 x hx, h2⟩
      · rename_i hnl hne
        simp only [Bool.not_eq_true] at hnl
        refine List.pairwise_cons.2 ⟨fun x hx => ?_, ih h2⟩
        rcases putG_mem hx with ⟨hx, _⟩ | hx
        · rw [hx]; exact lessS_no hnl hne
        · exact h1 x hx
/-- pairs that may be, but for how many there are -/
def OkP (l : List KV) : Prop := l ≠ [] ∧ UpP l ∧ ∀ p ∈ l, 1 ≤ p.1.size ∧ p.1.size ≤ 255 ∧ p.2.size ≤ 4096
def OkG (k : Nat) (l : List GR) : Prop := UpG l ∧ ∀ g ∈ l, g.1.size = k ∧ OkP g.2
theorem OkP.one {p : KV} (hp : 1 ≤ p.1.size ∧ p.1.size ≤ 255 ∧ p.2.size ≤ 4096) : OkP [p] := ⟨by simp, by simp [UpP], fun q hq => by rw [List.mem_singleton] at hq; rw [hq]; exact hp⟩
theorem OkP.put {l : List KV} (h : OkP l) {p : KV} (hp : 1 ≤ p.1.size ∧ p.1.size ≤ 255 ∧ p.2.size ≤ 4096) : OkP (putP l p) := by
  refine ⟨putP_ne _ _, putP_up h.2.1 p, fun q hq => ?_⟩
  rcases putP_mem hq with e | e
  · rw [e]; exact hp
  · exact h.2.2 q e
theorem OkG.put {k : Nat} {l : List GR} (hl : OkG k l) {h : ByteArray} {p : KV} (hh : h.size = k) (hp : 1 ≤ p.1.size ∧ p.1.size ≤ 255 ∧ p.2.size ≤ 4096) : OkG k (putG l h p) := by
  refine ⟨putG_up hl.1 h p, fun g hg => ?_⟩
  rcases putG_mem hg with ⟨e, e2⟩ | e
  · refine ⟨by rw [e]; exact hh, ?_⟩
    rcases e2 with e2 | ⟨g', hg', _, e2⟩
    · rw [e2]; exact OkP.one hp
    · rw [e2]; exact (hl.2 g' hg').2.put hp
  · exact hl.2 g e
def fullL : List GR → Nat
  | [] => 0
  | g :: r => max g.2.length (fullL r)
theorem fullL_mem {l : List GR} {g : GR} (h : g ∈ l) : g.2.length ≤ fullL l := by
  induction l with
  | nil => cases h
  | cons a r ih =>
    unfold fullL
    rcases List.mem_cons.1 h with h | h
    · rw [h]; omega
    · have := ih h; omega
theorem up_at {l : List KV} (h : UpP l) {i : Nat} (hi : i + 1 < l.length) : lessS l[i].1 l[i + 1].1 = true := by
  exact List.pairwise_iff_getElem.1 h i (i + 1) (by omega) hi (by omega)
theorem lessS_asymm {a b : ByteArray} (h : lessS a b = true) : lessS b a = false ∧ b ≠ a := by
  constructor
  · cases hc : lessS b a with
    | false => rfl
    | true => have := lessS_trans h hc; rw [lessS_irrefl] at this; cases this
  · intro e; rw [e, lessS_irrefl] at h; cases h
theorem okP_err {l : List KV} (h : OkP l) (hn : l.length ≤ 512) (hz : 2 + sizeL l ≤ 65536) : errL l = 0 := by
  have hl : 0 < l.length := List.length_pos_iff.2 h.1
  have hall : ∀ j, j < l.length → badAt l j = 0 := by
    intro j hj
    obtain ⟨a, b, c⟩ := h.2.2 l[j] (List.getElem_mem hj)
    unfold badAt badP
    rw [getD_at hj, if_neg (by omega), if_neg (by omega)]
    by_cases h0 : j = 0
    · rw [if_pos h0]; rfl
    · rw [if_neg h0, getD_at (by omega : j - 1 < l.length)]
      have hu := up_at h.2.1 (i := j - 1) (by omega)
      have e : l[j - 1 + 1]'(by omega) = l[j] := by congr 1; omega
      rw [e] at hu
      obtain ⟨u1, u2⟩ := lessS_asymm hu
      unfold badQ
      simp only
      rw [if_neg u2, u1]
      rfl
  rw [(wrong_none (by omega) hall).2, if_neg (by omega)]
theorem encD_mem {l : List GR} {g : GR} (h : g ∈ l) : 2 + sizeL g.2 ≤ (encD l).length := by
  induction l with
  | nil => cases h
  | cons a r ih =>
    unfold encD at ih ⊢
    rw [List.flatMap_cons, List.length_append, recL_len]
    rcases List.mem_cons.1 h with h | h
    · rw [h]; omega
    · have := ih h; omega
/-- groups that are made are groups that Encode takes -/
theorem okG_enc {k : Nat} {l : List GR} (hk : 1 ≤ k ∧ k ≤ 16) (h : OkG k l) (hf : fullL l ≤ 512) (hz : (encD l).length ≤ 65536) : egE (k : Int) l = 0 := by
  refine (eg_ok (by omega) (fun j hj => ?_) (by omega)).1
  obtain ⟨a, b⟩ := h.2 l[j] (List.getElem_mem hj)
  have hm := List.getElem_mem hj
  have f1 := fullL_mem hm
  have f2 := encD_mem hm
  rw [gBad_rec hj (by omega)]
  · exact okP_err b (by omega) (by omega)
  · intro ⟨h0, h1⟩
    rw [gr_at (by omega : j - 1 < l.length)] at h1
    have hu := List.pairwise_iff_getElem.1 h.1 (j - 1) j (by omega) hj (by omega)
    obtain ⟨u1, u2⟩ := lessS_asymm hu
    rcases h1 with h1 | h1
    · exact u2 h1
    · rw [u1] at h1; cases h1
end Go.Proofs.Ythihmgdefbahpaa
