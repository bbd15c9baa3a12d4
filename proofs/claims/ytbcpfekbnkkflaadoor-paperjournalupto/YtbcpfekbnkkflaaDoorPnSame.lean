import Derived.Test.YtbcpfekbnkkflaaDoorGPnRns
namespace Go.Proofs.YtbcpfekbnkkflaaDoor
open Go.RowKit Go.Shelf
theorem pfx_len2 {s : ByteArray} {l : List UInt8} {k : Nat} (h : pfx s l = true) (hk : k < s.size) : l[k]? = s.data.toList[k]? := by
  have := pfx_take h
  rw [← this, List.getElem?_take, if_pos hk]
set_option maxHeartbeats 2000000 in
/-- a note: the program reads what the document reads -/
theorem same_at (tx : ByteArray) : SameAt tx := by
  intro a ha
  obtain ⟨f0, f1, f2, f3, hF, w0, w1, w2, w3, s0, s1, s2, s3, n0, n1, n2, n3⟩ : ∃ f0 f1 f2 f3, noteFDs 0 = [f0, f1, f2, f3] ∧ f0.wd = ⟨#[]⟩ ∧ f1.wd = ⟨#[]⟩ ∧ f2.wd = ⟨#[]⟩ ∧ f3.wd = ⟨#[]⟩ ∧ f0.sh = 0 ∧ f1.sh = 0 ∧ f2.sh = 0 ∧ f3.sh = 1 ∧ f0.en = bl ∧ f1.en = bl ∧ f2.en = bl ∧ f3.en = bl := ⟨_, _, _, _, rfl, rfl, rfl, rfl, rfl, rfl, rfl, rfl, rfl, rfl, rfl, rfl, rfl⟩
  have hbl : bl.data.toList = [32] := rfl
  have e0 : (⟨#[]⟩ : ByteArray).size = 0 := rfl
  have ebl : bl ++ ⟨#[]⟩ = bl := by decide
  obtain ⟨P1, hP1⟩ : ∃ P, P = a + fldN f0 (tx.data.toList.drop a) := ⟨_, rfl⟩
  obtain ⟨P2, hP2⟩ : ∃ P, P = P1 + fldN f1 (tx.data.toList.drop P1) := ⟨_, rfl⟩
  obtain ⟨P3, hP3⟩ : ∃ P, P = P2 + fldN f2 (tx.data.toList.drop P2) := ⟨_, rfl⟩
  -- the program's side
  have hX : (restS tx a).data.toList = tx.data.toList.drop a := restS_data tx a
  have hTab : tabOk (noteFDs 0) (restS tx a).data.toList = (fldOk f0 (tx.data.toList.drop a) && (fldOk f1 (tx.data.toList.drop P1) && (fldOk f2 (tx.data.toList.drop P2) && fldOk f3 (tx.data.toList.drop P3)))) := by
    rw [hX, hF]
    simp only [tabOk, List.drop_drop, ← hP1, ← hP2, ← hP3, Bool.and_true]
  have hN : ntN (restS tx a) = (fldN f0 (tx.data.toList.drop a) + (fldN f1 (tx.data.toList.drop P1) + (fldN f2 (tx.data.toList.drop P2) + fldN f3 (tx.data.toList.drop P3)))) := by
    unfold ntN
    rw [hX, hF]
    simp only [tabN, List.drop_drop, ← hP1, ← hP2, ← hP3]
    omega
  have hVs : tabVs (noteFDs 0) (restS tx a).data.toList = [fldV f0 (tx.data.toList.drop a), fldV f1 (tx.data.toList.drop P1), fldV f2 (tx.data.toList.drop P2), fldV f3 (tx.data.toList.drop P3)] := by
    rw [hX, hF]
    simp only [tabVs, List.drop_drop, ← hP1, ← hP2, ← hP3]
  have hR0 : noteRd (restS tx a) 0 = (fldV f0 (tx.data.toList.drop a)).1 := by unfold noteRd vN; rw [hVs]; rfl
  have hR1 : noteRd (restS tx a) 1 = (fldV f1 (tx.data.toList.drop P1)).1 := by unfold noteRd vN; rw [hVs]; rfl
  have hR2 : noteRd (restS tx a) 2 = (fldV f2 (tx.data.toList.drop P2)).1 := by unfold noteRd vN; rw [hVs]; rfl
  have hR3 : noteRd (restS tx a) 3 = (fldV f3 (tx.data.toList.drop P3)).1 := by unfold noteRd vN; rw [hVs]; rfl
  -- the document's stations
  have b1 := st_num (tx := tx) (q := m0 a) (P := a) (B := true) (f := f0) (y := ⟨#[]⟩) s0 (by rw [n0]; exact hbl) rfl rfl (by rw [w0, empty_pfx]; rfl) (fun _ => by rw [w0, e0]; rfl)
  rw [← hP1, n0, ebl, Bool.true_and] at b1
  have b3 := st_num (tx := tx) (q := m2 tx a) (P := P1) (f := f1) (y := ⟨#[]⟩) s1 (by rw [n1]; exact hbl) rfl rfl (by rw [w1]; exact b1.1) (by rw [w1]; exact b1.2.1)
  rw [← hP2, n1, ebl] at b3
  have b5 := st_num (tx := tx) (q := m4 tx a) (P := P2) (f := f2) (y := ⟨#[]⟩) s2 (by rw [n2]; exact hbl) rfl rfl (by rw [w2]; exact b3.1) (by rw [w2]; exact b3.2.1)
  rw [← hP3, n2, ebl, empty_pfx, Bool.and_true] at b5
  have c6 : (m6 tx a).bad = !((fldOk f0 (tx.data.toList.drop a) && fldOk f1 (tx.data.toList.drop P1)) && fldOk f2 (tx.data.toList.drop P2)) := b5.1
  have c6a : ((fldOk f0 (tx.data.toList.drop a) && fldOk f1 (tx.data.toList.drop P1)) && fldOk f2 (tx.data.toList.drop P2)) = true → (m6 tx a).a = P3 := fun h => b5.2.1 h
  obtain ⟨g1, g2⟩ := fld_sum s3 w3 (by rw [n3]; exact hbl) rfl (tx.data.toList.drop P3)
  have no : rtOk tx a = false → ntOk (restS tx a) = false → rtSize tx a = nsz tx a ∧ rtV tx a (ntC tx a) = (nvAt tx a).1 ∧ rtV tx a (ntP tx a) = (nvAt tx a).2.1 ∧ rtV tx a (ntU tx a) = (nvAt tx a).2.2.1 ∧ rtV tx a (ntX tx a) = (nvAt tx a).2.2.2 := fun h1 h2 => by
    unfold rtSize rtV nsz nvAt ntSize ntV
    rw [h1, h2]
    exact ⟨rfl, rfl, rfl, rfl, rfl⟩
  by_cases hB3 : ((fldOk f0 (tx.data.toList.drop a) && fldOk f1 (tx.data.toList.drop P1)) && fldOk f2 (tx.data.toList.drop P2)) = true
  rotate_left 1
  · have hB3 : ((fldOk f0 (tx.data.toList.drop a) && fldOk f1 (tx.data.toList.drop P1)) && fldOk f2 (tx.data.toList.drop P2)) = false := by simpa using hB3
    apply no
    · rw [hB3] at c6
      unfold rtOk ntB; rw [c6]; rfl
    · unfold ntOk
      have : tabOk (noteFDs 0) (restS tx a).data.toList = false := by rw [hTab, ← Bool.and_assoc, ← Bool.and_assoc, hB3]; rfl
      rw [this]; rfl
  have hm6b : (m6 tx a).bad = false := by rw [c6, hB3]; rfl
  have hm6a := c6a hB3
  have hNB : ntB tx a = rbOk false 4 (tx.data.toList.drop P3) := by unfold ntB; rw [hm6b, hm6a]
  have hNX : ntX tx a = (rsV false (tx.data.toList.drop P3) : Int) := by unfold ntX; rw [hm6b, hm6a]
  rw [Bool.and_eq_true, Bool.and_eq_true] at hB3
  obtain ⟨⟨k0, k1⟩, k2⟩ := hB3
  have hC : ntC tx a = (fldV f0 (tx.data.toList.drop a)).1 := b1.2.2 k0
  have hP' : ntP tx a = (fldV f1 (tx.data.toList.drop P1)).1 := b3.2.2 (by rw [k0, k1]; simp)
  have hU : ntU tx a = (fldV f2 (tx.data.toList.drop P2)).1 := b5.2.2 (by rw [k0, k1, k2]; simp)
  have hTab2 : tabOk (noteFDs 0) (restS tx a).data.toList = (rbOk false 4 (tx.data.toList.drop P3) && pfx bl ((tx.data.toList.drop P3).drop 8)) := by
    rw [hTab, k0, k1, k2, g1, n3]; rfl
  by_cases hrb : rbOk false 4 (tx.data.toList.drop P3) = true
  rotate_left 1
  · have hrb : rbOk false 4 (tx.data.toList.drop P3) = false := by simpa using hrb
    apply no
    · unfold rtOk; rw [hNB, hrb]; rfl
    · unfold ntOk; rw [hTab2, hrb]; rfl
  -- what both have read, as it is printed
  have t0 := fld_back s0 w0 n0 k0
  have t1 := fld_back s1 w1 n1 k1
  have t2 := fld_back s2 w2 n2 k2
  rw [← hC] at t0
  rw [← hP'] at t1
  rw [← hU] at t2
  have hrb2 := hrb
  unfold rbOk at hrb2
  simp only [Bool.not_false, Bool.true_and, Bool.and_eq_true, decide_eq_true_eq] at hrb2
  obtain ⟨t, ht⟩ := Option.isSome_iff_exists.1 hrb2.2
  have hl8 : 8 ≤ (tx.data.toList.drop P3).length := hrb2.1
  have hxt : ntX tx a = ((beV t : Nat) : Int) := by
    rw [hNX]; unfold rsV; rw [if_pos hrb, show (tx.data.toList.drop P3).take 8 = (tx.data.toList.drop P3).take (2 * 4) from rfl, ht]; rfl
  have h8 : (tx.data.toList.drop P3).take 8 = hexL (be4 (ntX tx a).toNat) := by
    rw [hxt, Int.toNat_natCast]
    exact (hex_back ht (by rw [List.length_take]; omega)).symm
  obtain ⟨M, hM⟩ : ∃ M, M = fldN f0 (tx.data.toList.drop a) + (fldN f1 (tx.data.toList.drop P1) + fldN f2 (tx.data.toList.drop P2)) := ⟨_, rfl⟩
  have hMP : a + M = P3 := by omega
  have hM8 : (tx.data.toList.drop a).take (M + 8) = [] ++ Lib.itoa (ntC tx a) ++ [32] ++ ([] ++ Lib.itoa (ntP tx a) ++ [32]) ++ ([] ++ Lib.itoa (ntU tx a) ++ [32]) ++ hexL (be4 (ntX tx a).toNat) := by
    rw [List.take_add, List.drop_drop, hMP, h8, hM, List.take_add, List.drop_drop, ← hP1, List.take_add, List.drop_drop, ← hP2, t0, t1, t2]
    simp only [List.append_assoc]
  have hNL : noteL (ntC tx a) (ntP tx a) (ntU tx a) (ntX tx a) = (tx.data.toList.drop a).take (M + 8) ++ [32] := by
    rw [hM8]; unfold noteL; simp only [List.append_assoc, List.nil_append]
  have hlen8 : ((tx.data.toList.drop a).take (M + 8)).length = M + 8 := by
    rw [List.length_take]
    rw [List.length_drop] at hl8 ⊢
    omega
  by_cases hpb : pfx bl ((tx.data.toList.drop P3).drop 8) = true
  rotate_left 1
  · have hpb : pfx bl ((tx.data.toList.drop P3).drop 8) = false := by simpa using hpb
    apply no
    · unfold rtOk
      cases hok : noteOk (ntC tx a) (ntP tx a) (ntU tx a) (ntX tx a) with
      | false => simp
      | true =>
        have hT : ntT tx a = strOf (noteL (ntC tx a) (ntP tx a) (ntU tx a) (ntX tx a)) ++ strOf (sealL ⟨#[]⟩ (crcN 0 (noteL (ntC tx a) (ntP tx a) (ntU tx a) (ntX tx a)))) := by unfold ntT noteS; rw [if_pos hok]
        have : pfx (ntT tx a) (tx.data.toList.drop a) = false := by
          rw [hT, pfx_app]
          cases hp : pfx (strOf (noteL (ntC tx a) (ntP tx a) (ntU tx a) (ntX tx a))) (tx.data.toList.drop a) with
          | false => rfl
          | true =>
            exfalso
            have h1 := pfx_take hp
            rw [strOf_size, strOf_data, hNL, List.length_append, hlen8, show [(32 : UInt8)].length = 1 from rfl, List.take_add] at h1
            have h2 := (List.append_inj h1 rfl).2
            rw [List.drop_drop, show a + (M + 8) = P3 + 8 by omega] at h2
            have h3 := pfx_of_take (s := bl) (l := (tx.data.toList.drop P3).drop 8) (by rw [List.drop_drop]; exact h2)
            rw [hpb] at h3
            cases h3
        rw [this]; simp
    · unfold ntOk; rw [hTab2, hpb]; simp
  -- all of the line but its sum
  have hok3 : fldOk f3 (tx.data.toList.drop P3) = true := by rw [g1, n3, hrb, hpb]; rfl
  obtain ⟨g3, g4⟩ := g2 hok3
  have hNN : ntN (restS tx a) = M + 9 := by rw [hN, g3, hM]; omega
  have hX3 : ntX tx a = (fldV f3 (tx.data.toList.drop P3)).1 := by rw [hNX, g4]
  have hFit : ntFit (restS tx a) = noteOk (ntC tx a) (ntP tx a) (ntU tx a) (ntX tx a) := by unfold ntFit; rw [hR0, hR1, hR2, hR3, hC, hP', hU, hX3]
  have hNLt : noteL (ntC tx a) (ntP tx a) (ntU tx a) (ntX tx a) = (tx.data.toList.drop a).take (M + 9) := by
    rw [hNL]
    have := pfx_take hpb
    rw [List.drop_drop, show P3 + 8 = a + (M + 8) by omega, ← List.drop_drop] at this
    rw [show M + 9 = (M + 8) + 1 by omega, List.take_add (l := tx.data.toList.drop a) (i := M + 8) (j := 1)]
    congr 1
    exact this.symm
  have hdrop : (restS tx a).data.toList.drop (M + 9) = tx.data.toList.drop (a + (M + 9)) := by rw [hX, List.drop_drop]
  obtain ⟨u1, u2⟩ := fld_sum (f := sumFD ⟨#[]⟩ 0) (e := 10) rfl rfl rfl rfl ((restS tx a).data.toList.drop (M + 9))
  have hUn : unsFit ⟨#[]⟩ (restS tx a) (ntN (restS tx a)) = pfx (strOf (sealL ⟨#[]⟩ (crcN 0 (noteL (ntC tx a) (ntP tx a) (ntU tx a) (ntX tx a))))) (tx.data.toList.drop (a + (M + 9))) := by
    rw [seal_pfx _ (crcN_lt _ (by omega)), hNN]
    unfold unsFit unsOk
    rw [u1, ← hdrop, hNLt, ← hX]
    cases hq : (rbOk false 4 ((restS tx a).data.toList.drop (M + 9)) && pfx (sumFD ⟨#[]⟩ 0).en (((restS tx a).data.toList.drop (M + 9)).drop 8)) with
    | false =>
      have hq' : (rbOk false 4 ((restS tx a).data.toList.drop (M + 9)) && pfx nl (((restS tx a).data.toList.drop (M + 9)).drop 8)) = false := hq
      rw [hq']; rfl
    | true =>
      have hq' : (rbOk false 4 ((restS tx a).data.toList.drop (M + 9)) && pfx nl (((restS tx a).data.toList.drop (M + 9)).drop 8)) = true := hq
      rw [hq', (u2 (by rw [u1]; exact hq)).2]
  have hOK : ntOk (restS tx a) = rtOk tx a := by
    unfold ntOk rtOk
    rw [hTab2, hrb, hpb, hFit, hUn, hNB, hrb]
    cases hok : noteOk (ntC tx a) (ntP tx a) (ntU tx a) (ntX tx a) with
    | false => simp
    | true =>
      have hT : ntT tx a = strOf (noteL (ntC tx a) (ntP tx a) (ntU tx a) (ntX tx a)) ++ strOf (sealL ⟨#[]⟩ (crcN 0 (noteL (ntC tx a) (ntP tx a) (ntU tx a) (ntX tx a)))) := by unfold ntT noteS; rw [if_pos hok]
      have hp : pfx (strOf (noteL (ntC tx a) (ntP tx a) (ntU tx a) (ntX tx a))) (tx.data.toList.drop a) = true := by
        apply pfx_of_take
        rw [strOf_size, strOf_data, hNLt, ← hNLt, hNL, List.length_append, hlen8, ← hNL, hNLt]
        rfl
      have hsz : (strOf (noteL (ntC tx a) (ntP tx a) (ntU tx a) (ntX tx a))).size = M + 9 := by rw [strOf_size, hNL, List.length_append, hlen8]; rfl
      rw [hT, pfx_app, hp, hsz, List.drop_drop]
      simp
  cases hok : rtOk tx a with
  | false => exact no hok (by rw [hOK]; exact hok)
  | true =>
    have hok2 : ntOk (restS tx a) = true := by rw [hOK]; exact hok
    have hno : noteOk (ntC tx a) (ntP tx a) (ntU tx a) (ntX tx a) = true := by
      unfold rtOk at hok
      simp only [Bool.and_eq_true] at hok
      exact hok.2.1
    have hun : unsOk ⟨#[]⟩ (restS tx a) (M + 9) = true := by
      have := hok2
      unfold ntOk at this
      simp only [Bool.and_eq_true] at this
      have h2 := this.2.1
      unfold unsFit at h2
      simp only [Bool.and_eq_true] at h2
      rw [hNN] at h2
      exact h2.1
    unfold rtSize rtV nsz nvAt ntSize ntV
    rw [hok, hok2]
    simp only [if_true]
    refine ⟨?_, ?_, ?_, ?_, ?_⟩
    · have hT : ntT tx a = strOf (noteL (ntC tx a) (ntP tx a) (ntU tx a) (ntX tx a)) ++ strOf (sealL ⟨#[]⟩ (crcN 0 (noteL (ntC tx a) (ntP tx a) (ntU tx a) (ntX tx a)))) := by unfold ntT noteS; rw [if_pos hno]
      rw [hT, ByteArray.size_append, strOf_size, strOf_size, sealL_len, hNL, List.length_append, hlen8, hNN]
      have : unsN ⟨#[]⟩ (restS tx a) (M + 9) = 9 := (u2 hun).1
      rw [this, e0]
      rfl
    · rw [hR0]; exact hC
    · rw [hR1]; exact hP'
    · rw [hR2]; exact hU
    · rw [hR3]; exact hX3
end Go.Proofs.YtbcpfekbnkkflaaDoor
