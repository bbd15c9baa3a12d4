import Derived.Test.YtfpalfpfijcpbaaGreatDoorGPnNotes
namespace Go.Proofs.YtfpalfpfijcpbaaGreatDoor
open Go.RowKit Go.Shelf
theorem pfx_len2 {s : ByteArray} {l : List UInt8} {k : Nat} (h : pfx s l = true) (hk : k < s.size) : l[k]? = s.data.toList[k]? := by
  have := pfx_take h
  rw [← this, List.getElem?_take, if_pos hk]
set_option maxHeartbeats 2000000 in
/-- a note: the program reads what the document reads -/
theorem same_at (tx : ByteArray) : SameAt tx := by
  intro a ha
  obtain ⟨f0, f1, f2, f3, hF, w0, w1, w2, w3, s0, s1, s2, s3, n0, n1, n2, n3⟩ : ∃ f0 f1 f2 f3, noteFDs 0 = [f0, f1, f2, f3] ∧ f0.wd = ⟨#[]⟩ ∧ f1.wd = ⟨#[]⟩ ∧ f2.wd = ⟨#[]⟩ ∧ f3.wd = ⟨#[]⟩ ∧ f0.sh = 0 ∧ f1.sh = 0 ∧ f2.sh = 0 ∧ f3.sh = 1 ∧ f0.en = bl ∧ f1.en = bl ∧ f2.en = bl ∧ f3.en = bl := ⟨_, _, _, _, rfl, rfl, rfl, rfl, rfl, rfl, rfl, rfl, rfl, rfl, rfl, rfl, rfl⟩
  have hbl : bl.data.toList = [32] := rfl
  have e0 : (⟨#[]⟩ : ByteArray).size = 0 := rfl
  have ebl : bl ++ ⟨#[]⟩ = bl := by decide
  obtain ⟨P1, hP1⟩ : ∃ P, P = a + fldN f0 (tx.data.toList.drop a) := ⟨_, rfl⟩
  obtain ⟨P2, hP2⟩ : ∃ P, P = P1 + fldN f1 (tx.data.toList.drop P1) := ⟨_, rfl⟩
  obtain ⟨P3, hP3⟩ : ∃ P, P = P2 + fldN f2 (tx.data.toList.drop P2) := ⟨_, rfl⟩
  -- the program's side
  have hX : (restS tx a).data.toList = tx.data.toList.drop a := restS_data tx a
  have hTab : tabOk (noteFDs 0) (restS tx a).data.toList = (fldOk f0 (tx.data.toList.drop a) && (fldOk f1 (tx.data.toList.drop P1) && (fldOk f2 (tx.data.toList.drop P2) && fldOk f3 (tx.data.toList.drop P3)))) := by
    rw [hX, hF]
    simp only [tabOk, List.drop_drop, ← hP1, ← hP2, ← hP3, Bool.and_true]
  have hN : ntN (restS tx a) = (fldN f0 (tx.data.toList.drop a) + (fldN f1 (tx.data.toList.drop P1) + (fldN f2 (tx.data.toList.drop P2) + fldN f3 (tx.data.toList.drop P3)))) := by
    unfold ntN
    rw [hX, hF]
    simp only [tabN, List.drop_drop, ← hP1, ← hP2, ← hP3]
    omega
  have hVs : tabVs (noteFDs 0) (restS tx a).data.toList = [fldV f0 (tx.data.toList.drop a), fldV f1 (tx.data.toList.drop P1), fldV f2 (tx.data.toList.drop P2), fldV f3 (tx.data.toList.drop P3)] := by
    rw [hX, hF]
    simp only [tabVs, List.drop_drop, ← hP1, ← hP2, ← hP3]
  have hR0 : noteRd (restS tx a) 0 = (fldV f0 (tx.data.toList.drop a)).1 := by unfold noteRd vN; rw [hVs]; rfl
  have hR1 : noteRd (restS tx a) 1 = (fldV f1 (tx.data.toList.drop P1)).1 := by unfold noteRd vN; rw [hVs]; rfl
  have hR2 : noteRd (restS tx a) 2 = (fldV f2 (tx.data.toList.drop P2)).1 := by unfold noteRd vN; rw [hVs]; rfl
  have hR3 : noteRd (restS tx a) 3 = (fldV f3 (tx.data.toList.drop P3)).1 := by unfold noteRd vN; rw [hVs]; rfl
  -- the document's stations
  have b1 := st_num (tx := tx) (q := m0 a) (P := a) (B := true) (f := f0) (y := ⟨#[]⟩) s0 (by rw [n0]; exact hbl) rfl rfl (by rw [w0, empty_pfx]; rfl) (fun _ => by rw [w0, e0]; rfl)
  rw [← hP1, n0, ebl, Bool.true_and] at b1
  have b3 := st_num (tx := tx) (q := m2 tx a) (P := P1) (f := f1) (y := ⟨#[]⟩) s1 (by rw [n1]; exact hbl) rfl rfl (by rw [w1]; exact b1.1) (by rw [w1]; exact b1.2.1)
  rw [← hP2, n1, ebl] at b3
  have b5 := st_num (tx := tx) (q := m4 tx a) (P := P2) (f := f2) (y := ⟨#[]⟩) s2 (by rw [n2]; exact hbl) rfl rfl (by rw [w2]; exact b3.1) (by rw [w2]; exact b3.2.1)
  rw [← hP3, n2, ebl, empty_pfx, Bool.and_true] at b5
  have c6 : (m6 tx a).bad = !((fldOk f0 (tx.data.toList.drop a) && fldOk f1 (tx.data.toList.drop P1)) && fldOk f2 (tx.data.toList.drop P2)) := b5.1
  have c6a : ((fldOk f0 (tx.data.toList.drop a) && fldOk f1 (tx.data.toList.drop P1)) && fldOk f2 (tx.data.toList.drop P2)) = true → (m6 tx a).a = P3 := fun h => b5.2.1 h
  obtain ⟨g1, g2⟩ := fld_sum s3 w3 (by rw [n3]; exact hbl) rfl (tx.data.toList.drop P3)
  have no : rtOk tx a = false → ntOk (restS tx a) = false → rtSize tx a = nsz tx a ∧ rtV tx a (ntC tx a) = (nvAt tx a).1 ∧ rtV tx a (ntP tx a) = (nvAt tx a).2.1 ∧ rtV tx a (ntU tx a) = (nvAt tx a).2.2.1 ∧ rtV tx a (ntX tx a) = (nvAt tx a).2.2.2 := fun h1 h2 => by
    unfold rtSize rtV nsz nvAt ntSize ntV
    rw [h1, h2]
    exact ⟨rfl, rfl, rfl, rfl, rfl⟩
  by_cases hB3 : ((fldOk f0 (tx.data.toList.drop a) && fldOk f1 (tx.data.toList.drop P1)) && fldOk f2 (tx.data.toList.drop P2)) = true
  rotate_left 1
  · have hB3 : ((fldOk f0 (tx.data.toList.drop a) && fldOk f1 (tx.data.toList.drop P1)) && fldOk f2 (tx.data.toList.drop P2)) = false := by simpa using hB3
    apply no
    · rw [hB3] at c6
      unfold rtOk ntB; rw [c6]; rfl
    · unfold ntOk
      have : tabOk (noteFDs 0) (restS tx a).data.toList = false := by rw [hTab, ← Bool.and_assoc, ← Bool.and_assoc, hB3]; rfl
      rw [this]; rfl
  have hm6b : (m6 tx a).bad = false := by rw [c6, hB3]; rfl
  have hm6a := c6a hB3
  have hNB : ntB tx a = rbOk false 4 (tx.data.toList.drop P3) := by unfold ntB; rw [hm6b, hm6a]
  have hNX : ntX tx a = (rsV false (tx.data.toList.drop P3) : Int) := by unfold ntX; rw [hm6b, hm6a]
  rw [Bool.and_eq_true, Bool.and_eq_true] at hB3
  obtain ⟨⟨k0, k1⟩, k2⟩ := hB3
  have hC : ntC tx a = (fldV f0 (tx.data.toList.drop a)).1 := b1.2.2 k0
  have hP' : ntP tx a = (fldV f1 (tx.data.toList.drop P1)).1 := b3.2.2 (by rw [k0, k1]; simp)
  have hU : ntU tx a = (fldV f2 (tx.data.toList.drop P2)).1 := b5.2.2 (by rw [k0, k1, k2]; simp)
  have hTab2 : tabOk (noteFDs 0) (restS tx a).data.toList = (rbOk false 4 (tx.data.toList.drop P3) && pfx bl ((tx.data.toList.drop P3).drop 8)) := by
    rw [hTab, k0, k1, k2, g1, n3]; rfl
  by_cases hrb : rbOk false 4 (tx.data.toList.drop P3) = true
  rotate_left 1
  · have hrb : rbOk false 4 (tx.data.toList.drop P3) = false := by simpa using hrb
    apply no
    · unfold rtOk; rw [hNB, hrb]; rfl
    · unfold ntOk; rw [hTab2, hrb]; rfl
  -- what both have read, as it is printed
  have t0 := fld_back s0 w0 n0 k0
  have t1 := fld_back s1 w1 n1 k1
  have t2 := fld_back s2 w2 n2 k2
  rw [← hC] at t0
  rw [← hP'] at t1
  rw [← hU] at t2
  have hrb2 := hrb
  unfold rbOk at hrb2
  simp only [Bool.not_false, Bool.true_and, Bool.and_eq_true, decide_eq_true_eq] at hrb2
  obtain ⟨t, ht⟩ := Option.isSome_iff_exists.1 hrb2.2
  have hl8 : 8 ≤ (tx.data.toList.drop P3).length := hrb2.1
  have hxt : ntX tx a = ((beV t : Nat) : Int) := by
    rw [hNX]; unfold rsV; rw [if_pos hrb, show (tx.data.toList.drop P3).take 8 = (tx.data.toList.drop P3).take (2 * 4) from rfl, ht]; rfl
  have h8 : (tx.data.toList.drop P3).take 8 = hexL (be4 (ntX tx a).toNat) := by
    rw [hxt, Int.toNat_natCast]
    exact (hex_back ht (by rw [List.length_take]; omega)).symm
  obtain ⟨M, hM⟩ : ∃ M, M = fldN f0 (tx.data.toList.drop a) + (fldN f1 (tx.data.toList.drop P1) + fldN f2 (tx.data.toList.drop P2)) := ⟨_, rfl⟩
  have hMP : a + M = P3 := by omega
  have hM8 : (tx.data.toList.drop a).take (M + 8) = [] ++ Lib.itoa (ntC tx a) ++ [32] ++ ([] ++ Lib.itoa (ntP tx a) ++ [32]) ++ ([] ++ Lib.itoa (ntU tx a) ++ [32]) ++ hexL (be4 (ntX tx a).toNat) := by
    rw [List.take_add, List.drop_drop, hMP, h8, hM, List.take_add, List.drop_drop, ← hP1, List.take_add, List.drop_drop, ← hP2, t0, t1, t2]
    simp only [List.append_assoc]
  have hNL : noteL (ntC tx a) (ntP tx a) (ntU tx a) (ntX tx a) = (tx.data.toList.drop a).take (M + 8) ++ [32] := by
    rw [hM8]; unfold noteL; simp only [List.append_assoc, List.nil_append]
  have hlen8 : ((tx.data.toList.drop a).take (M + 8)).length = M + 8 := by
    rw [List.length_take]
    rw [List.length_drop] at hl8 ⊢
    omega
  by_cases hpb : pfx bl ((tx.data.toList.drop P3).drop 8) = true
  rotate_left 1
  · have hpb : pfx bl ((tx.data.toList.drop P3).drop 8) = false := by simpa using hpb
    apply no
    · unfold rtOk
      cases hok : noteOk (ntC tx a) (ntP tx a) (ntU tx a) (ntX tx a) with
      | false => simp
      | true =>
        have hT : ntT tx a = strOf (noteL (ntC tx a) (ntP tx a) (ntU tx a) (ntX tx a)) ++ strOf (sealL ⟨#[]⟩ (crcN 0 (noteL (ntC tx a) (ntP tx a) (ntU tx a) (ntX tx a)))) := by unfold ntT noteS; rw [if_pos hok]
        have : pfx (ntT tx a) (tx.data.toList.drop a) = false := by
          rw [hT, pfx_app]
          cases hp : pfx (strOf (noteL (ntC tx a) (ntP tx a) (ntU tx a) (ntX tx a))) (tx.data.toList.drop a) with
          | false => rfl
          | true =>
            exfalso
            have h1 := pfx_take hp
            rw [strOf_size, strOf_data, hNL, List.length_append, hlen8, show [(32 : UInt8)].length = 1 from rfl, List.take_add] at h1
            have h2 := (List.append_inj h1 rfl).2
            rw [List.drop_drop, show a + (M + 8) = P3 + 8 by omega] at h2
            have h3 := pfx_of_take (s := bl) (l := (tx.data.toList.drop P3).drop 8) (by rw [List.drop_drop]; exact h2)
            rw [hpb] at h3
            cases h3
        rw [this]; simp
    · unfold ntOk; rw [hTab2, hpb]; simp
  -- all of the line but its sum
  have hok3 : fldOk f3 (tx.data.toList.drop P3) = true := by rw [g1, n3, hrb, hpb]; rfl
  obtain ⟨g3, g4⟩ := g2 hok3
  have hNN : ntN (restS tx a) = M + 9 := by rw [hN, g3, hM]; omega
  have hX3 : ntX tx a = (fldV f3 (tx.data.toList.drop P3)).1 := by rw [hNX, g4]
  have hFit : ntFit (restS tx a) = noteOk (ntC tx a) (ntP tx a) (ntU tx a) (ntX tx a) := by unfold ntFit; rw [hR0, hR1, hR2, hR3, hC, hP', hU, hX3]
  have hNLt : noteL (ntC tx a) (ntP tx a) (ntU tx a) (ntX tx a) = (tx.data.toList.drop a).take (M + 9) := by
    rw [hNL]
    have := pfx_take hpb
    rw [List.drop_drop, show P3 + 8 = a + (M + 8) by omega, ← List.drop_drop] at this
    rw [show M + 9 = (M + 8) + 1 by omega, List.take_add (l := tx.data.toList.drop a) (i := M + 8) (j := 1)]
    congr 1
    exact this.symm
  have hdrop : (restS tx a).data.toList.drop (M + 9) = tx.data.toList.drop (a + (M + 9)) := by rw [hX, List.drop_drop]
  obtain ⟨u1, u2⟩ := fld_sum (f := sumFD ⟨#[]⟩ 0) (e := 10) rfl rfl rfl rfl ((restS tx a).data.toList.drop (M + 9))
  have hUn : unsFit ⟨#[]⟩ (restS tx a) (ntN (restS tx a)) = pfx (strOf (sealL ⟨#[]⟩ (crcN 0 (noteL (ntC tx a) (ntP tx a) (ntU tx a) (ntX tx a))))) (tx.data.toList.drop (a + (M + 9))) := by
    rw [seal_pfx _ (crcN_lt _ (by omega)), hNN]
    unfold unsFit unsOk
    rw [u1, ← hdrop, hNLt, ← hX]
    cases hq : (rbOk false 4 ((restS tx a).data.toList.drop (M + 9)) && pfx (sumFD ⟨#[]⟩ 0).en (((restS tx a).data.toList.drop (M + 9)).drop 8)) with
    | false =>
      have hq' : (rbOk false 4 ((restS tx a).data.toList.drop (M + 9)) && pfx nl (((restS tx a).data.toList.drop (M + 9)).drop 8)) = false := hq
      rw [hq']; rfl
    | true =>
      have hq' : (rbOk false 4 ((restS tx a).data.toList.drop (M + 9)) && pfx nl (((restS tx a).data.toList.drop (M + 9)).drop 8)) = true := hq
      rw [hq', (u2 (by rw [u1]; exact hq)).2]
  have hOK : ntOk (restS tx a) = rtOk tx a := by
    unfold ntOk rtOk
    rw [hTab2, hrb, hpb, hFit, hUn, hNB, hrb]
    cases hok : noteOk (ntC tx a) (ntP tx a) (ntU tx a) (ntX tx a) with
    | false => simp
    | true =>
      have hT : ntT tx a = strOf (noteL (ntC tx a) (ntP tx a) (ntU tx a) (ntX tx a)) ++ strOf (sealL ⟨#[]⟩ (crcN 0 (noteL (ntC tx a) (ntP tx a) (ntU tx a) (ntX tx a)))) := by unfold ntT noteS; rw [if_pos hok]
      have hp : pfx (strOf (noteL (ntC tx a) (ntP tx a) (ntU tx a) (ntX tx a))) (tx.data.toList.drop a) = true := by
        apply pfx_of_take
        rw [strOf_size, strOf_data, hNLt, ← hNLt, hNL, List.length_append, hlen8, ← hNL, hNLt]
        rfl
      have hsz : (strOf (noteL (ntC tx a) (ntP tx a) (ntU tx a) (ntX tx a))).size = M + 9 := by rw [strOf_size, hNL, List.length_append, hlen8]; rfl
      rw [hT, pfx_app, hp, hsz, List.drop_drop]
      simp
  cases hok : rtOk tx a with
  | false => exact no hok (by rw [hOK]; exact hok)
  | true =>
    have hok2 : ntOk (restS tx a) = true := by rw [hOK]; exact hok
    have hno : noteOk (ntC tx a) (ntP tx a) (ntU tx a) (ntX tx a) = true := by
      unfold rtOk at hok
      simp only [Bool.and_eq_true] at hok
      exact hok.2.1
    have hun : unsOk ⟨#[]⟩ (restS tx a) (M + 9) = true := by
      have := hok2
      unfold ntOk at this
      simp only [Bool.and_eq_true] at this
      have h2 := this.2.1
      unfold unsFit at h2
      simp only [Bool.and_eq_true] at h2
      rw [hNN] at h2
      exact h2.1
    unfold rtSize rtV nsz nvAt ntSize ntV
    rw [hok, hok2]
    simp only [if_true]
    refine ⟨?_, ?_, ?_, ?_, ?_⟩
    · have hT : ntT tx a = strOf (noteL (ntC tx a) (ntP tx a) (ntU tx a) (ntX tx a)) ++ strOf (sealL ⟨#[]⟩ (crcN 0 (noteL (ntC tx a) (ntP tx a) (ntU tx a) (ntX tx a)))) := by unfold ntT noteS; rw [if_pos hno]
      rw [hT, ByteArray.size_append, strOf_size, strOf_size, sealL_len, hNL, List.length_append, hlen8, hNN]
      have : unsN ⟨#[]⟩ (restS tx a) (M + 9) = 9 := (u2 hun).1
      rw [this, e0]
      rfl
    · rw [hR0]; exact hC
    · rw [hR1]; exact hP'
    · rw [hR2]; exact hU
    · rw [hR3]; exact hX3
end Go.Proofs.YtfpalfpfijcpbaaGreatDoor
namespace Go.Proofs.YtfpalfpfijcpbaaGreatDoor
open Go.RowKit Go.Shelf
theorem dec_facts : ∀ (u : Nat), (Lib.decDigits u).all isDig = true ∧ valD (Lib.decDigits u) = u ∧ Lib.decDigits u ≠ [] ∧ (1 ≤ u → (Lib.decDigits u).head? ≠ some 48) ∧ (u = 0 → (Lib.decDigits u).length = 1) := by
  intro u
  induction u using Nat.strongRecOn with
  | ind u ih =>
    rw [Lib.decDigits]
    by_cases h : u < 10
    · rw [dif_pos h]
      have e : (UInt8.ofNat (48 + u)).toNat = 48 + u := by rw [UInt8.toNat_ofNat']; omega
      refine ⟨?_, ?_, by simp, ?_, fun _ => rfl⟩
      · simp only [List.all_cons, List.all_nil, Bool.and_true]; unfold isDig; rw [e]; simp; omega
      · show 10 * 0 + ((UInt8.ofNat (48 + u)).toNat - 48) = u; rw [e]; omega
      · intro h1 h2
        simp only [List.head?_cons, Option.some.injEq] at h2
        have := congrArg UInt8.toNat h2
        rw [e] at this
        have e48 : (48 : UInt8).toNat = 48 := rfl
        rw [e48] at this
        omega
    · rw [dif_neg h]
      obtain ⟨i1, i2, i3, i4, _⟩ := ih (u / 10) (by omega)
      have e : (UInt8.ofNat (48 + u % 10)).toNat = 48 + u % 10 := by rw [UInt8.toNat_ofNat']; omega
      refine ⟨?_, ?_, by simp, ?_, fun z => by omega⟩
      · rw [List.all_append, i1]; simp only [List.all_cons, List.all_nil, Bool.and_true, Bool.true_and]; unfold isDig; rw [e]; simp; omega
      · rw [valD_snoc, i2, e]; omega
      · intro _
        have := i4 (by omega)
        cases hd : Lib.decDigits (u / 10) with
        | nil => exact absurd hd i3
        | cons x y => rw [hd] at this; simpa using this
/-- a printed number, a blank behind it, is read as it was -/
theorem num_fwd (n : Nat) (hn : n < 10000000000000000) (r : List UInt8) : numD (Lib.decDigits n ++ 32 :: r) = Lib.decDigits n ∧ rnOk (Lib.decDigits n ++ 32 :: r) = true ∧ rnV (Lib.decDigits n ++ 32 :: r) = n := by
  obtain ⟨d1, d2, d3, d4, d5⟩ := dec_facts n
  have hlen : (Lib.decDigits n).length ≤ 16 := decDigits_len 16 n (by have : (10 : Nat) ^ 16 = 10000000000000000 := rfl; omega) (by omega)
  have hl1 : 1 ≤ (Lib.decDigits n).length := by rcases h : Lib.decDigits n with _ | ⟨x, y⟩; exact absurd h d3; simp
  have hD : numD (Lib.decDigits n ++ 32 :: r) = Lib.decDigits n := by
    have := numD_at (l := Lib.decDigits n ++ 32 :: r) (k := (Lib.decDigits n).length) (by rw [List.take_left]; exact d1) (by omega) (by simp) (.inr (.inr ⟨32, by rw [List.getElem?_append_right (Nat.le_refl _)]; simp, rfl⟩))
    rw [List.take_left] at this
    exact this
  have hO : rnOk (Lib.decDigits n ++ 32 :: r) = true := by
    unfold rnOk
    rw [hD, decide_eq_true hl1, decide_eq_true hlen]
    simp only [Bool.and_self, Bool.true_and, Bool.not_eq_true']
    by_cases h0 : n = 0
    · rw [d5 h0]; rfl
    · have h4 := d4 (by omega)
      have : (Lib.decDigits n ++ 32 :: r).head? = (Lib.decDigits n).head? := by
        cases hd : Lib.decDigits n with
        | nil => exact absurd hd d3
        | cons x y => rfl
      rw [this]
      simp only [Bool.and_eq_false_iff]
      right
      simpa using h4
  exact ⟨hD, hO, by unfold rnV; rw [if_pos hO, hD, d2]⟩
theorem st_fwd {tx : ByteArray} {q : RpS} (hq : q.bad = false) (n : Nat) (hn : n < 10000000000000000) (r : List UInt8) (hl : tx.data.toList.drop q.a = Lib.decDigits n ++ 32 :: r) :
    rVal tx q = (n : Int) ∧ (rLit bl tx (rNum tx q)).bad = false ∧ tx.data.toList.drop (rLit bl tx (rNum tx q)).a = r := by
  obtain ⟨h1, h2, h3⟩ := num_fwd n hn r
  have hb : (rNum tx q).bad = false := by show (q.bad || !rnOk _) = false; rw [hq, hl, h2]; rfl
  have ha : (rNum tx q).a = q.a + (Lib.decDigits n).length := by show q.a + (numD _).length = _; rw [hl, h1]
  have hdr : tx.data.toList.drop (rNum tx q).a = 32 :: r := by rw [ha, ← List.drop_drop, hl, List.drop_left]
  have hok : rlOk bl tx (rNum tx q).a (rNum tx q).bad = true := by unfold rlOk; rw [hb, hdr]; exact pfx_of_take (s := bl) rfl
  refine ⟨?_, ?_, ?_⟩
  · show (rnV (tx.data.toList.drop q.a) : Int) = _; rw [hl, h3]
  · show (!rlOk bl tx (rNum tx q).a (rNum tx q).bad) = false; rw [hok]; rfl
  · show tx.data.toList.drop (rlA bl tx (rNum tx q).a (rNum tx q).bad) = r
    rw [rlA_ok hok, ← List.drop_drop, hdr]; rfl
/-- a printed note is read as it was, whatever stands behind it -/
theorem note_fwd {c p e s : Int} (hok : noteOk c p e s = true) {tx : ByteArray} {a : Nat} (ha : a ≤ tx.size) (hp : pfx (noteS c p e s) (tx.data.toList.drop a) = true) : nvAt tx a = (c, p, e, s) ∧ nsz tx a = (noteS c p e s).size := by
  have hok' := hok
  unfold noteOk inR at hok'
  simp only [Bool.and_eq_true, decide_eq_true_eq] at hok'
  obtain ⟨⟨⟨⟨c0, c1⟩, p0, p1⟩, e0, e1⟩, s0, s1⟩ := hok'
  obtain ⟨C, rfl⟩ := Int.eq_ofNat_of_zero_le (show 0 ≤ c by omega)
  obtain ⟨P, rfl⟩ := Int.eq_ofNat_of_zero_le (show 0 ≤ p by omega)
  obtain ⟨E, rfl⟩ := Int.eq_ofNat_of_zero_le (show 0 ≤ e by omega)
  obtain ⟨S, rfl⟩ := Int.eq_ofNat_of_zero_le (show 0 ≤ s by omega)
  have hS : noteS C P E S = strOf (noteL C P E S) ++ strOf (sealL ⟨#[]⟩ (crcN 0 (noteL C P E S))) := by unfold noteS; rw [if_pos hok]
  have hT := hp
  rw [hS, pfx_app, Bool.and_eq_true] at hT
  have hit : ∀ n : Nat, Lib.itoa (n : Int) = Lib.decDigits n := fun n => by unfold Lib.itoa; rw [if_neg (by omega), Int.toNat_natCast]
  obtain ⟨r, hr⟩ := List.isPrefixOf_iff_prefix.1 hT.1
  have hL : tx.data.toList.drop a = Lib.decDigits C ++ 32 :: (Lib.decDigits P ++ 32 :: (Lib.decDigits E ++ 32 :: (hexL (be4 S) ++ 32 :: r))) := by
    rw [← hr, strOf_data]
    unfold noteL
    rw [hit, hit, hit, Int.toNat_natCast]
    simp
  obtain ⟨x1, x2, x3⟩ := st_fwd (q := m0 a) rfl C (by omega) _ hL
  obtain ⟨y1, y2, y3⟩ := st_fwd (q := m2 tx a) x2 P (by omega) _ x3
  obtain ⟨z1, z2, z3⟩ := st_fwd (q := m4 tx a) y2 E (by omega) _ y3
  have hx : (hexL (be4 S)).length = 8 := by rw [hexL_len]; rfl
  have htk : (hexL (be4 S) ++ 32 :: r).take 8 = hexL (be4 S) := by rw [← hx, List.take_left]
  have hrb : rbOk false 4 (hexL (be4 S) ++ 32 :: r) = true := by
    unfold rbOk
    rw [show 2 * 4 = 8 from rfl, htk, unhex_hex, List.length_append, hx, decide_eq_true (by omega)]; rfl
  have hB : ntB tx a = true := by unfold ntB; rw [show (m6 tx a).bad = false from z2, show tx.data.toList.drop (m6 tx a).a = _ from z3]; exact hrb
  have hX : ntX tx a = (S : Int) := by
    unfold ntX; rw [show (m6 tx a).bad = false from z2, show tx.data.toList.drop (m6 tx a).a = _ from z3]
    unfold rsV
    rw [if_pos hrb, htk, unhex_hex]
    show ((beV (be4 S) : Nat) : Int) = _
    rw [beV_be4 S (by omega)]
  have hCe : ntC tx a = (C : Int) := x1
  have hPe : ntP tx a = (P : Int) := y1
  have hEe : ntU tx a = (E : Int) := z1
  have hTe : ntT tx a = noteS C P E S := by unfold ntT; rw [hCe, hPe, hEe, hX]
  have hrt : rtOk tx a = true := by unfold rtOk; rw [hB, hCe, hPe, hEe, hX, hTe, hok, hp]; rfl
  obtain ⟨f0, f1, f2, f3, f4⟩ := same_at tx a ha
  unfold rtSize at f0
  unfold rtV at f1 f2 f3 f4
  rw [if_pos hrt] at f0 f1 f2 f3 f4
  rw [hTe] at f0
  rw [hCe] at f1
  rw [hPe] at f2
  rw [hEe] at f3
  rw [hX] at f4
  exact ⟨by rw [Prod.ext_iff, Prod.ext_iff, Prod.ext_iff]; exact ⟨f1.symm, f2.symm, f3.symm, f4.symm⟩, f0.symm⟩
end Go.Proofs.YtfpalfpfijcpbaaGreatDoor
namespace Go.Proofs.YtfpalfpfijcpbaaGreatDoor
open Go.RowKit Go.Shelf
/-- a printed number, no digit behind it, is read as it was -/
theorem num_fwd2 (n : Nat) (hn : n < 10000000000000000) (b : UInt8) (hb : isDig b = false) (r : List UInt8) : numD (Lib.decDigits n ++ b :: r) = Lib.decDigits n ∧ rnOk (Lib.decDigits n ++ b :: r) = true ∧ rnV (Lib.decDigits n ++ b :: r) = n := by
  obtain ⟨d1, d2, d3, d4, d5⟩ := dec_facts n
  have hlen : (Lib.decDigits n).length ≤ 16 := decDigits_len 16 n (by have : (10 : Nat) ^ 16 = 10000000000000000 := rfl; omega) (by omega)
  have hl1 : 1 ≤ (Lib.decDigits n).length := by rcases h : Lib.decDigits n with _ | ⟨x, y⟩; exact absurd h d3; simp
  have hD : numD (Lib.decDigits n ++ b :: r) = Lib.decDigits n := by
    have := numD_at (l := Lib.decDigits n ++ b :: r) (k := (Lib.decDigits n).length) (by rw [List.take_left]; exact d1) (by omega) (by simp) (.inr (.inr ⟨b, by rw [List.getElem?_append_right (Nat.le_refl _)]; simp, hb⟩))
    rw [List.take_left] at this
    exact this
  have hO : rnOk (Lib.decDigits n ++ b :: r) = true := by
    unfold rnOk
    rw [hD, decide_eq_true hl1, decide_eq_true hlen]
    simp only [Bool.and_self, Bool.true_and, Bool.not_eq_true']
    by_cases h0 : n = 0
    · rw [d5 h0]; rfl
    · have h4 := d4 (by omega)
      have : (Lib.decDigits n ++ b :: r).head? = (Lib.decDigits n).head? := by
        cases hd : Lib.decDigits n with
        | nil => exact absurd hd d3
        | cons x y => rfl
      rw [this]
      simp only [Bool.and_eq_false_iff]
      right
      simpa using h4
  exact ⟨hD, hO, by unfold rnV; rw [if_pos hO, hD, d2]⟩
theorem st_fwd2 {tx y : ByteArray} {q : RpS} {b : UInt8} {yr : List UInt8} (hy : y.data.toList = b :: yr) (hb : isDig b = false) (hq : q.bad = false) (n : Nat) (hn : n < 10000000000000000) (r : List UInt8) (hl : tx.data.toList.drop q.a = Lib.decDigits n ++ (y.data.toList ++ r)) :
    rVal tx q = (n : Int) ∧ (rLit y tx (rNum tx q)).bad = false ∧ tx.data.toList.drop (rLit y tx (rNum tx q)).a = r ∧ (rLit y tx (rNum tx q)).a = q.a + (Lib.decDigits n).length + y.size := by
  have hl' : tx.data.toList.drop q.a = Lib.decDigits n ++ b :: (yr ++ r) := by rw [hl, hy]; rfl
  obtain ⟨h1, h2, h3⟩ := num_fwd2 n hn b hb (yr ++ r)
  have hbd : (rNum tx q).bad = false := by show (q.bad || !rnOk _) = false; rw [hq, hl', h2]; rfl
  have ha : (rNum tx q).a = q.a + (Lib.decDigits n).length := by show q.a + (numD _).length = _; rw [hl', h1]
  have hdr : tx.data.toList.drop (rNum tx q).a = y.data.toList ++ r := by rw [ha, ← List.drop_drop, hl, List.drop_left]
  have hok : rlOk y tx (rNum tx q).a (rNum tx q).bad = true := by
    unfold rlOk; rw [hbd, hdr]
    exact pfx_of_take (by rw [← size_data, List.take_left])
  refine ⟨?_, ?_, ?_, ?_⟩
  · show (rnV (tx.data.toList.drop q.a) : Int) = _; rw [hl', h3]
  · show (!rlOk y tx (rNum tx q).a (rNum tx q).bad) = false; rw [hok]; rfl
  · show tx.data.toList.drop (rlA y tx (rNum tx q).a (rNum tx q).bad) = r
    rw [rlA_ok hok, ← List.drop_drop, hdr, ← size_data, List.drop_left]
  · show rlA y tx (rNum tx q).a (rNum tx q).bad = _
    rw [rlA_ok hok, ha]
/-- a printed pointer is read as it was -/
theorem ptr_fwd {c p e s : Int} (hok : ptrOk c p e s = true) : ptrPE (ptrS c p e s) = 0 ∧ ptrPV (ptrS c p e s) 0 = c ∧ ptrPV (ptrS c p e s) 1 = p ∧ ptrPV (ptrS c p e s) 2 = e ∧ ptrPV (ptrS c p e s) 3 = s := by
  have hok' := hok
  unfold ptrOk inR at hok'
  simp only [Bool.and_eq_true, decide_eq_true_eq] at hok'
  obtain ⟨⟨⟨⟨c0, c1⟩, p0, p1⟩, e0, e1⟩, s0, s1⟩ := hok'
  obtain ⟨C, rfl⟩ := Int.eq_ofNat_of_zero_le c0
  obtain ⟨P, rfl⟩ := Int.eq_ofNat_of_zero_le p0
  obtain ⟨E, rfl⟩ := Int.eq_ofNat_of_zero_le e0
  obtain ⟨S, rfl⟩ := Int.eq_ofNat_of_zero_le s0
  obtain ⟨tx, htx⟩ : ∃ tx, tx = ptrS C P E S := ⟨_, rfl⟩
  rw [← htx]
  have hS : tx = (ptrTitle ++ strOf (ptrL C P E S)) ++ strOf (sealL sumWd (crcN 0 (ptrTitle ++ strOf (ptrL C P E S)).data.toList)) := by rw [htx]; unfold ptrS; rw [if_pos hok]; rfl
  have hit : ∀ n : Nat, Lib.itoa (n : Int) = Lib.decDigits n := fun n => by unfold Lib.itoa; rw [if_neg (by omega), Int.toNat_natCast]
  obtain ⟨B, hB⟩ : ∃ B, B = (ptrTitle ++ strOf (ptrL C P E S)).data.toList := ⟨_, rfl⟩
  rw [← hB] at hS
  have hD : tx.data.toList = B ++ sealL sumWd (crcN 0 B) := by rw [hS, ba_app, strOf_data, ← hB]
  obtain ⟨R, hR⟩ : ∃ R, R = sealL sumWd (crcN 0 B) := ⟨_, rfl⟩
  rw [← hR] at hD
  have hBB : B = pS1.data.toList ++ (Lib.decDigits C ++ (pS2.data.toList ++ (Lib.decDigits P ++ (pS3.data.toList ++ (Lib.decDigits E ++ (pS4.data.toList ++ (Lib.decDigits S ++ nl.data.toList))))))) := by
    rw [hB, ba_app, strOf_data]
    unfold ptrL
    rw [hit, hit, hit, hit]
    simp only [List.append_assoc]
    rfl
  have hL : tx.data.toList = pS1.data.toList ++ (Lib.decDigits C ++ (pS2.data.toList ++ (Lib.decDigits P ++ (pS3.data.toList ++ (Lib.decDigits E ++ (pS4.data.toList ++ (Lib.decDigits S ++ (nl.data.toList ++ R)))))))) := by
    rw [hD, hBB]; simp only [List.append_assoc]
  have hq1 : rlOk pS1 tx 0 false = true := by unfold rlOk; rw [List.drop_zero, hL]; exact pfx_of_take (by rw [← size_data, List.take_left])
  have a1 : (q1 tx).bad = false := by show (!rlOk pS1 tx 0 false) = false; rw [hq1]; rfl
  have a2 : (q1 tx).a = 0 + pS1.size := rlA_ok hq1
  have a3 : tx.data.toList.drop (q1 tx).a = Lib.decDigits C ++ (pS2.data.toList ++ (Lib.decDigits P ++ (pS3.data.toList ++ (Lib.decDigits E ++ (pS4.data.toList ++ (Lib.decDigits S ++ (nl.data.toList ++ R))))))) := by
    rw [a2, hL, Nat.zero_add, ← size_data, List.drop_left]
  obtain ⟨x1, x2, x3, x4⟩ := st_fwd2 (y := pS2) (q := q1 tx) rfl rfl a1 C (by omega) _ a3
  obtain ⟨y1, y2, y3, y4⟩ := st_fwd2 (y := pS3) (q := q3 tx) rfl rfl x2 P (by omega) _ x3
  obtain ⟨z1, z2, z3, z4⟩ := st_fwd2 (y := pS4) (q := q5 tx) rfl rfl y2 E (by omega) _ y3
  obtain ⟨u1, u2, u3, u4⟩ := st_fwd2 (y := nl) (q := q7 tx) rfl rfl z2 S (by omega) _ z3
  have hq9a : (q9 tx).a = B.length := by
    rw [show (q9 tx).a = _ from u4, show (q7 tx).a = _ from z4, show (q5 tx).a = _ from y4, show (q3 tx).a = _ from x4, a2, hBB]
    simp only [List.length_append, size_data]
    omega
  have hK : crcN 0 B < 4294967296 := crcN_lt _ (by omega)
  have hRd : R = sumWd.data.toList ++ (hexL (be4 (crcN 0 B)) ++ [10]) := by rw [hR]; unfold sealL; rw [List.append_assoc]
  have hx : (hexL (be4 (crcN 0 B))).length = 8 := by rw [hexL_len]; rfl
  have hdB : tx.data.toList.drop B.length = R := by rw [hD, List.drop_left]
  have hd4 : tx.data.toList.drop (B.length + 4) = hexL (be4 (crcN 0 B)) ++ [10] := by rw [← List.drop_drop, hdB, hRd, show 4 = sumWd.data.toList.length from rfl, List.drop_left]
  have hd12 : tx.data.toList.drop (B.length + 12) = [10] := by rw [show B.length + 12 = B.length + 4 + 8 by omega, ← List.drop_drop, hd4, ← hx, List.drop_left]
  have htk : (hexL (be4 (crcN 0 B)) ++ [10]).take 8 = hexL (be4 (crcN 0 B)) := by rw [← hx, List.take_left]
  have hrb : rbOk false 4 (hexL (be4 (crcN 0 B)) ++ [10]) = true := by
    unfold rbOk
    rw [show 2 * 4 = 8 from rfl, htk, unhex_hex, List.length_append, hx]; rfl
  obtain ⟨v1, v2⟩ := uns_same tx B.length
  have hun : unsOk sumWd tx B.length = true := by
    rw [v1, hd4, hd12, hrb, hdB, hRd, pfx_of_take (s := sumWd) (by rw [← size_data, List.take_left]), pfx_of_take (s := nl) rfl]; rfl
  obtain ⟨v3, v4⟩ := v2 hun
  have hfit : unsFit sumWd tx B.length = true := by
    unfold unsFit
    rw [hun, v4, hd4, hD, List.take_left]
    unfold rsV
    rw [if_pos hrb, htk, unhex_hex]
    simp [beV_be4 _ hK]
  have hsz : tx.size = B.length + 13 := by rw [← size_data, hD, List.length_append, hRd, List.length_append, List.length_append, hx]; rfl
  have hcls : clsE tx B.length = 0 := by
    unfold clsE
    rw [hun, hfit, v3, hsz]
    simp
  have hRl : rpL tx = 0 := by unfold rpL lstE; rw [show (q9 tx).bad = false from u2, hq9a, hcls]; rfl
  have hpe : ptrE (rpC tx) (rpP tx) (rpEp tx) (rpSq tx) = 0 := by
    rw [show rpC tx = _ from x1, show rpP tx = _ from y1, show rpEp tx = _ from z1, show rpSq tx = _ from u1]
    unfold ptrE; rw [if_pos hok]
  have hErr : rpErr tx = 0 := by unfold rpErr; rw [if_pos hRl, hpe]
  obtain ⟨g0, g1, g2, g3, g4⟩ := ptr_err tx
  rw [← g0, ← g1, ← g2, ← g3, ← g4]
  unfold rpV
  rw [hErr]
  exact ⟨rfl, x1, y1, z1, u1⟩
end Go.Proofs.YtfpalfpfijcpbaaGreatDoor
