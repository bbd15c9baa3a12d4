import Derived.Test.YtfpalfpfijcpbaaGreatDoorGPnSame
import Derived.Test.YtfpalfpfijcpbaaGreatDoorGPmParse
import Derived.Test.YtfpalfpfijcpbaaGreatDoorPxParse
namespace Go.Proofs.YtfpalfpfijcpbaaGreatDoor
open Go.RowKit Go.Shelf
theorem word_fwd : ∀ (w : List UInt8) (b : UInt8) (r : List UInt8), (∀ c ∈ w, isSep c = false) → isSep b = true → wordL (w ++ b :: r) = w
  | [], b, r, _, hb => by unfold wordL; rw [List.nil_append, List.takeWhile_cons, if_neg (by rw [hb]; simp)]
  | c :: w, b, r, h, hb => by
    have := word_fwd w b r (fun x hx => h x (List.mem_cons_of_mem _ hx)) hb
    unfold wordL at this ⊢
    rw [List.cons_append, List.takeWhile_cons, if_pos (by rw [h c List.mem_cons_self]; rfl), this]
/-- a field that stands there is read -/
theorem fld_fwd (f : FD) (w rest : List UInt8) (b : UInt8) (er : List UInt8) (he : f.en.data.toList = b :: er) (hb : isSep b = true) (hw : ∀ c ∈ w, isSep c = false) (hok : rdOk f.sh w = true) :
    fldOk f (f.wd.data.toList ++ w ++ f.en.data.toList ++ rest) = true ∧ fldN f (f.wd.data.toList ++ w ++ f.en.data.toList ++ rest) = (f.wd.data.toList ++ w ++ f.en.data.toList).length ∧ fldV f (f.wd.data.toList ++ w ++ f.en.data.toList ++ rest) = (rdN f.sh w, rdT f.sh w) := by
  have hl : f.wd.data.toList ++ w ++ f.en.data.toList ++ rest = f.wd.data.toList ++ (w ++ (f.en.data.toList ++ rest)) := by simp only [List.append_assoc]
  have hd : (f.wd.data.toList ++ (w ++ (f.en.data.toList ++ rest))).drop f.wd.size = w ++ (f.en.data.toList ++ rest) := by rw [← size_data, List.drop_left]
  have hW : fldW f (f.wd.data.toList ++ (w ++ (f.en.data.toList ++ rest))) = w := by
    unfold fldW; rw [hd, he]; exact word_fwd w b (er ++ rest) hw hb
  rw [hl]
  refine ⟨?_, ?_, ?_⟩
  · unfold fldOk
    rw [hW, hd, hok, List.drop_left, pfx_of_take (s := f.wd) (by rw [← size_data, List.take_left]), pfx_of_take (s := f.en) (by rw [← size_data, List.take_left])]
    rfl
  · unfold fldN
    rw [hW]
    simp only [List.length_append, size_data]
  · unfold fldV; rw [hW]
/-- a table that stands there is read -/
theorem tab_fwd (ts : List FD) (out : Nat → ByteArray) (hen : ∀ i (h : i < ts.length), ts[i].en.data.toList = [10]) (hw : ∀ i (_ : i < ts.length), ∀ c ∈ (out i).data.toList, isSep c = false) (hok : ∀ i (h : i < ts.length), rdOk ts[i].sh (out i).data.toList = true) :
    ∀ k, k ≤ ts.length → ∀ rest, tabOk (ts.take k) (wrL ts out k ++ rest) = true ∧ tabN (ts.take k) (wrL ts out k ++ rest) = (wrL ts out k).length ∧ ∀ i (_ : i < k) (h2 : i < ts.length), (tabVs (ts.take k) (wrL ts out k ++ rest))[i]? = some (rdN ts[i].sh (out i).data.toList, rdT ts[i].sh (out i).data.toList) := by
  intro k
  induction k with
  | zero => intro _ rest; exact ⟨rfl, rfl, fun i h => by omega⟩
  | succ k ih =>
    intro hk rest
    have hk' : k < ts.length := by omega
    have e : wrL ts out (k + 1) ++ rest = wrL ts out k ++ (ts[k].wd.data.toList ++ (out k).data.toList ++ ts[k].en.data.toList ++ rest) := by rw [wrL_succ ts out k hk', List.append_assoc]
    obtain ⟨i1, i2, i3⟩ := ih (by omega) (ts[k].wd.data.toList ++ (out k).data.toList ++ ts[k].en.data.toList ++ rest)
    obtain ⟨j1, j2, j3⟩ := fld_fwd ts[k] (out k).data.toList rest 10 [] (hen k hk') (by decide) (hw k hk') (hok k hk')
    have hd : (wrL ts out k ++ (ts[k].wd.data.toList ++ (out k).data.toList ++ ts[k].en.data.toList ++ rest)).drop (wrL ts out k).length = ts[k].wd.data.toList ++ (out k).data.toList ++ ts[k].en.data.toList ++ rest := List.drop_left
    rw [e, take_snoc ts k hk']
    refine ⟨?_, ?_, fun i hi h2 => ?_⟩
    · rw [tabOk_app, i1, i2, hd, tabOk_one, j1]; rfl
    · rw [tabN_app, i2, hd, tabN_one, j2, wrL_succ ts out k hk', @List.length_append _ (wrL ts out k)]
    · rw [tabVs_app, i2, hd]
      have hl : (tabVs (ts.take k) (wrL ts out k ++ (ts[k].wd.data.toList ++ (out k).data.toList ++ ts[k].en.data.toList ++ rest))).length = k := by rw [tabVs_len, List.length_take]; omega
      by_cases hik : i < k
      · rw [List.getElem?_append_left (by omega)]; exact i3 i hik h2
      · obtain rfl : i = k := by omega
        rw [List.getElem?_append_right (by omega), hl, Nat.sub_self]
        show some (fldV ts[i] _) = _
        rw [j3]
/-- a paper's last line is read -/
theorem cls_fwd {tx : ByteArray} {B : List UInt8} (hD : tx.data.toList = B ++ sealL sumWd (crcN 0 B)) : clsE tx B.length = 0 := by
  obtain ⟨R, hR⟩ : ∃ R, R = sealL sumWd (crcN 0 B) := ⟨_, rfl⟩
  rw [← hR] at hD
  have hK : crcN 0 B < 4294967296 := crcN_lt _ (by omega)
  have hRd : R = sumWd.data.toList ++ (hexL (be4 (crcN 0 B)) ++ [10]) := by rw [hR]; unfold sealL; rw [List.append_assoc]
  have hx : (hexL (be4 (crcN 0 B))).length = 8 := by rw [hexL_len]; rfl
  have hdB : tx.data.toList.drop B.length = R := by rw [hD, List.drop_left]
  have hd4 : tx.data.toList.drop (B.length + 4) = hexL (be4 (crcN 0 B)) ++ [10] := by rw [← List.drop_drop, hdB, hRd, show 4 = sumWd.data.toList.length from rfl, List.drop_left]
  have hd12 : tx.data.toList.drop (B.length + 12) = [10] := by rw [show B.length + 12 = B.length + 4 + 8 by omega, ← List.drop_drop, hd4, ← hx, List.drop_left]
  have htk : (hexL (be4 (crcN 0 B)) ++ [10]).take 8 = hexL (be4 (crcN 0 B)) := by rw [← hx, List.take_left]
  have hrb : rbOk false 4 (hexL (be4 (crcN 0 B)) ++ [10]) = true := by
    unfold rbOk
    rw [show 2 * 4 = 8 from rfl, htk, unhex_hex, List.length_append, hx]; rfl
  obtain ⟨v1, v2⟩ := uns_same tx B.length
  have hun : unsOk sumWd tx B.length = true := by
    rw [v1, hd4, hd12, hrb, hdB, hRd, pfx_of_take (s := sumWd) (by rw [← size_data, List.take_left]), pfx_of_take (s := nl) rfl]; rfl
  obtain ⟨v3, v4⟩ := v2 hun
  have hfit : unsFit sumWd tx B.length = true := by
    unfold unsFit
    rw [hun, v4, hd4, hD, List.take_left]
    unfold rsV
    rw [if_pos hrb, htk, unhex_hex]
    simp [beV_be4 _ hK]
  have hsz : tx.size = B.length + 13 := by rw [← size_data, hD, List.length_append, hRd, List.length_append, List.length_append, hx]; rfl
  unfold clsE
  rw [hun, hfit, v3, hsz]
  simp
/-- a printed number is a number -/
theorem dig_sep2 {c : UInt8} (h : isDig c = true) : isSep c = false := by
  unfold isDig at h
  simp only [Bool.and_eq_true, decide_eq_true_eq] at h
  unfold isSep
  have h1 : c ≠ 32 := fun e => by rw [e] at h; exact absurd h.1 (by decide)
  have h2 : c ≠ 10 := fun e => by rw [e] at h; exact absurd h.1 (by decide)
  simp [h1, h2]
theorem rd_num (n : Int) (h0 : 0 ≤ n) (h1 : n < 10000000000000000) : rdOk 0 (Lib.itoa n) = true ∧ rdN 0 (Lib.itoa n) = n ∧ ∀ c ∈ Lib.itoa n, isSep c = false := by
  obtain ⟨u, rfl⟩ := Int.eq_ofNat_of_zero_le h0
  have hit : Lib.itoa (u : Int) = Lib.decDigits u := by unfold Lib.itoa; rw [if_neg (by omega), Int.toNat_natCast]
  rw [hit]
  obtain ⟨d1, d2, d3, d4, d5⟩ := dec_facts u
  have hlen : (Lib.decDigits u).length ≤ 16 := decDigits_len 16 u (by have : (10 : Nat) ^ 16 = 10000000000000000 := rfl; omega) (by omega)
  have hz : zeroHd (Lib.decDigits u) = false := by
    unfold zeroHd
    by_cases hu : u = 0
    · subst hu
      have h1 := d5 rfl
      match hd : Lib.decDigits 0, h1 with
      | [c], _ =>
        have h2 : valD [c] = 0 := by rw [← hd]; exact d2
        have h3 : isDig c = true := by rw [hd] at d1; simpa using d1
        unfold isDig at h3
        simp only [Bool.and_eq_true, decide_eq_true_eq] at h3
        have h4 : c.toNat = 48 := by unfold valD at h2; simp at h2; omega
        have h5 : c = 48 := UInt8.toNat_inj.1 h4
        rw [h5]; rfl
    · have := d4 (by omega)
      rw [beq_eq_false_iff_ne.2 this]; rfl
  have hemp : (Lib.decDigits u).isEmpty = false := by
    cases hd : Lib.decDigits u with
    | nil => exact absurd hd d3
    | cons a b => rfl
  have hok : numOk (Lib.decDigits u) = true := by unfold numOk; rw [hemp, decide_eq_true hlen, hz, d1]; rfl
  refine ⟨hok, ?_, fun c hc => dig_sep2 (List.all_eq_true.1 d1 c hc)⟩
  show (numV (Lib.decDigits u) : Int) = _
  unfold numV; rw [if_pos hok, d2]
theorem stL_sep : ∀ c ∈ stL.data.toList, isSep c = false := by decide
theorem st_sep {t : List UInt8} (h : isSt t = true) : ∀ c ∈ t, isSep c = false := by
  intro c hc
  unfold isSt at h
  simp only [Bool.and_eq_true] at h
  have h2 := h.2
  unfold allOf at h2
  have := List.all_eq_true.1 h2 c hc
  exact stL_sep c (by simpa using this)
theorem metaOk_n {st : ByteArray} {n : Nat → Int} (h : metaOk st n = true) : ∀ i, 1 ≤ i → i < 8 → 0 ≤ n i ∧ n i < 10000000000000000 := by
  unfold metaOk inR at h
  simp only [Bool.and_eq_true, decide_eq_true_eq] at h
  obtain ⟨⟨⟨⟨⟨⟨⟨_, h1⟩, h2⟩, h3⟩, h4⟩, h5⟩, h6⟩, h7⟩ := h
  intro i hi1 hi2
  match i, hi1, hi2 with
  | 1, _, _ => omega
  | 2, _, _ => omega
  | 3, _, _ => omega
  | 4, _, _ => omega
  | 5, _, _ => omega
  | 6, _, _ => omega
  | 7, _, _ => omega
theorem metaO_0 (st : ByteArray) (n : Nat → Int) : metaO st n 0 = st := rfl
theorem metaO_s (st : ByteArray) (n : Nat → Int) (i : Nat) : metaO st n (i + 1) = itS (n (i + 1)) := rfl
theorem metaFD_nl : ∀ i (h : i < (metaFDs 0).length), (metaFDs 0)[i].en.data.toList = [10] := by
  intro i hi
  match i, hi with
  | 0, _ => rfl
  | 1, _ => rfl
  | 2, _ => rfl
  | 3, _ => rfl
  | 4, _ => rfl
  | 5, _ => rfl
  | 6, _ => rfl
  | 7, _ => rfl
theorem metaFD_sh : ∀ i (h : i + 1 < (metaFDs 0).length), (metaFDs 0)[i + 1].sh = 0 := by
  intro i hi
  match i, hi with
  | 0, _ => rfl
  | 1, _ => rfl
  | 2, _ => rfl
  | 3, _ => rfl
  | 4, _ => rfl
  | 5, _ => rfl
  | 6, _ => rfl
/-- a printed meta is read as it was -/
theorem meta_fwd {st : ByteArray} {n : Nat → Int} (hok : metaOk st n = true) : metaPE (metaS st n) = 0 ∧ metaPT (metaS st n) = st ∧ ∀ i, 1 ≤ i → i < 8 → metaPV (metaS st n) i = n i := by
  obtain ⟨s1, s2, s3⟩ := metaOk_st hok
  have hn := metaOk_n hok
  obtain ⟨tx, htx⟩ : ∃ tx, tx = metaS st n := ⟨_, rfl⟩
  rw [← htx]
  have hl8 : (metaFDs 0).length = 8 := rfl
  have hS : tx.data.toList = metaTitle.data.toList ++ metaL st n ++ sealL sumWd (crcN 0 (metaTitle.data.toList ++ metaL st n)) := by
    rw [htx]; unfold metaS; rw [if_pos hok]; unfold paperS
    rw [ba_app, ba_app, strOf_data, strOf_data]
  have hcl := cls_fwd hS
  have T := tab_fwd (metaFDs 0) (metaO st n) metaFD_nl
    (fun i h => by
      cases i with
      | zero => rw [metaO_0]; exact st_sep s3
      | succ i => rw [metaO_s]; exact (rd_num _ (hn (i + 1) (by omega) (by omega)).1 (hn (i + 1) (by omega) (by omega)).2).2.2)
    (fun i h => by
      cases i with
      | zero =>
        show (!st.data.toList.isEmpty) = true
        cases hd : st.data.toList with
        | nil => rw [← size_data, hd] at s1; simp at s1
        | cons a b => rfl
      | succ i => rw [metaFD_sh i h, metaO_s]; exact (rd_num _ (hn (i + 1) (by omega) (by omega)).1 (hn (i + 1) (by omega) (by omega)).2).1)
    8 (Nat.le_refl _) (sealL sumWd (crcN 0 (metaTitle.data.toList ++ metaL st n)))
  rw [List.take_of_length_le (by rw [hl8]; omega)] at T
  obtain ⟨t1, t2, t3⟩ := T
  have hdr : tx.data.toList.drop metaTitle.size = wrL (metaFDs 0) (metaO st n) 8 ++ sealL sumWd (crcN 0 (metaTitle.data.toList ++ metaL st n)) := by
    rw [hS, List.append_assoc, ← size_data, List.drop_left]; rfl
  have hV : ∀ i (h : i < 8) (h2 : i < (metaFDs 0).length), (metaVs tx)[i]? = some (rdN (metaFDs 0)[i].sh (metaO st n i).data.toList, rdT (metaFDs 0)[i].sh (metaO st n i).data.toList) := fun i h h2 => by
    unfold metaVs rpVs; rw [hdr]; exact t3 i h h2
  have v0 : vT (metaVs tx) 0 = st := by
    unfold vT; rw [hV 0 (by omega) (by omega)]; exact strOf_toList st
  have vi : ∀ i, 1 ≤ i → i < 8 → vN (metaVs tx) i = n i := fun i h1 h2 => by
    cases i with
    | zero => omega
    | succ i =>
      unfold vN
      rw [hV (i + 1) h2 (by omega), metaFD_sh i (by omega), metaO_s]
      exact (rd_num _ (hn (i + 1) h1 h2).1 (hn (i + 1) h1 h2).2).2.1
  have hok2 : metaOk (vT (metaVs tx) 0) (vN (metaVs tx)) = true := by
    rw [← hok]
    unfold metaOk
    rw [v0, vi 1 (by omega) (by omega), vi 2 (by omega) (by omega), vi 3 (by omega) (by omega), vi 4 (by omega) (by omega), vi 5 (by omega) (by omega), vi 6 (by omega) (by omega), vi 7 (by omega) (by omega)]
  have hA : rpA metaTitle tx (metaFDs 0) = (metaTitle.data.toList ++ metaL st n).length := by
    unfold rpA; rw [hdr, t2, List.length_append, size_data]; rfl
  have hE : metaPE tx = 0 := by
    unfold metaPE rpE rpForm
    rw [hA, hcl, hdr, t1, hok2, hS, List.append_assoc, pfx_of_take (s := metaTitle) (by rw [← size_data, List.take_left])]
    rfl
  refine ⟨hE, ?_, fun i h1 h2 => ?_⟩
  · unfold metaPT; rw [if_pos hE, v0]
  · unfold metaPV; rw [if_pos hE, vi i h1 h2]
end Go.Proofs.YtfpalfpfijcpbaaGreatDoor
namespace Go.Proofs.YtfpalfpfijcpbaaGreatDoor
open Go.RowKit Go.Shelf
theorem numW_back {w : List UInt8} (h : numOk w = true) : Lib.itoa (numV w : Int) = w := by
  have hv : numV w = valD w := by unfold numV; rw [if_pos h]
  unfold numOk at h
  simp only [Bool.and_eq_true, decide_eq_true_eq, Bool.not_eq_true'] at h
  obtain ⟨⟨⟨h1, h2⟩, h3⟩, h4⟩ := h
  have hne : w ≠ [] := fun e => by rw [e] at h1; simp at h1
  unfold Lib.itoa
  rw [if_neg (by omega), Int.toNat_natCast, hv]
  by_cases hz : w.head? = some 48
  · unfold zeroHd at h3
    rw [hz] at h3
    have h5 : w = [48] := by simpa using h3
    rw [h5, Lib.decDigits]
    decide
  · exact (dec_back _ _ rfl h4 hne hz).1
theorem hexW_back {w : List UInt8} {n : Nat} (h : hexOk w n = true) : (hexV w n).data.toList = (unhexL w).getD [] ∧ hexL (hexV w n).data.toList = w ∧ (hexV w n).data.toList.length = n := by
  unfold hexOk at h
  simp only [Bool.and_eq_true, decide_eq_true_eq] at h
  obtain ⟨t, ht⟩ := Option.isSome_iff_exists.1 h.2
  have e : (hexV w n).data.toList = t := by
    unfold hexV
    rw [if_pos h.1]
    unfold unS
    rw [ht]; rfl
  have := unhex_len ht
  rw [e]
  exact ⟨by rw [ht]; rfl, hex_unhex ht, by omega⟩
theorem sumW_back {w : List UInt8} (h : sumOk w = true) : hexL (be4 (sumV w)) = w := by
  obtain ⟨h1, h2, h3⟩ := hexW_back h
  unfold sumV
  rw [be4_beV _ h3]
  exact h2
/-- what a shape writes of a value -/
def prL (sh : Int) (v : Val) : List UInt8 := if sh = 0 then Lib.itoa v.1 else if sh = 1 then hexL (be4 v.1.toNat) else if sh = 2 then hexL v.2.data.toList else v.2.data.toList
theorem pr_rd (sh : Int) (w : List UInt8) (h : rdOk sh w = true) : prL sh (rdN sh w, rdT sh w) = w := by
  unfold prL
  unfold rdOk at h
  by_cases h0 : sh = 0
  · subst h0
    exact numW_back (by simpa using h)
  · rw [if_neg h0] at h ⊢
    by_cases h1 : sh = 1
    · subst h1
      rw [if_pos rfl] at h ⊢
      show hexL (be4 ((sumV w : Int)).toNat) = w
      rw [Int.toNat_natCast]
      exact sumW_back h
    · rw [if_neg h1] at h ⊢
      by_cases h2 : sh = 2
      · subst h2
        rw [if_pos rfl] at h ⊢
        exact (hexW_back h).2.1
      · rw [if_neg h2]
        unfold rdT
        rw [if_neg (by rintro (e | e); exact h0 e; exact h1 e), if_neg h2]
        exact strOf_data _
/-- a field that is read is written as it stood -/
theorem fldG_back (f : FD) (l : List UInt8) (h : fldOk f l = true) : l = f.wd.data.toList ++ prL f.sh (fldV f l) ++ f.en.data.toList ++ l.drop (fldN f l) := by
  unfold fldOk at h
  rw [Bool.and_eq_true, Bool.and_eq_true] at h
  have h1 := pfx_take h.1
  have h3 := pfx_take h.2.2
  have hw : (l.drop f.wd.size).take (fldW f l).length = fldW f l := (wordL_take (l.drop f.wd.size)).symm
  have hp : prL f.sh (fldV f l) = fldW f l := pr_rd f.sh (fldW f l) h.2.1
  rw [hp]
  have e1 : l.take (fldN f l) = f.wd.data.toList ++ fldW f l ++ f.en.data.toList := by
    unfold fldN
    rw [List.take_add, List.take_add, h1, hw, ← List.drop_drop, h3]
  rw [← e1, List.take_append_drop]
def prT : List FD → List Val → List UInt8
  | f :: r, v :: vs => f.wd.data.toList ++ prL f.sh v ++ f.en.data.toList ++ prT r vs
  | _, _ => []
theorem tab_back : ∀ (ts : List FD) (l : List UInt8), tabOk ts l = true → l = prT ts (tabVs ts l) ++ l.drop (tabN ts l)
  | [], l, _ => by simp [prT, tabN]
  | f :: r, l, h => by
    rw [tabOk, Bool.and_eq_true] at h
    have h1 := fldG_back f l h.1
    have h2 := tab_back r (l.drop (fldN f l)) h.2
    show l = (f.wd.data.toList ++ prL f.sh (fldV f l) ++ f.en.data.toList ++ prT r (tabVs r (l.drop (fldN f l)))) ++ l.drop (fldN f l + tabN r (l.drop (fldN f l)))
    rw [List.drop_drop] at h2
    rw [List.append_assoc, ← h2]
    exact h1
/-- a last line that is read -/
theorem cls_back {tx : ByteArray} {a : Nat} (h : clsE tx a = 0) : a ≤ tx.size ∧ tx.data.toList.drop a = sealL sumWd (crcN 0 (tx.data.toList.take a)) := by
  unfold clsE at h
  split at h
  · rename_i h1
    rw [Bool.and_eq_true] at h1
    have h2 : a + unsN sumWd tx a = tx.size := of_decide_eq_true h1.2
    split at h
    · rename_i h3
      have h4 := fldG_back (sumFD sumWd 0) (tx.data.toList.drop a) h1.1
      unfold unsFit at h3
      rw [Bool.and_eq_true] at h3
      have h5 := of_decide_eq_true h3.2
      have h6 : (tx.data.toList.drop a).drop (fldN (sumFD sumWd 0) (tx.data.toList.drop a)) = [] := by
        apply List.drop_eq_nil_of_le
        rw [List.length_drop, size_data]
        unfold unsN at h2
        omega
      refine ⟨by omega, ?_⟩
      rw [h6, List.append_nil] at h4
      rw [h4]
      show sumWd.data.toList ++ hexL (be4 ((fldV (sumFD sumWd 0) (tx.data.toList.drop a)).1).toNat) ++ [10] = _
      rw [h5, Int.toNat_natCast]
      rfl
    · exact absurd h (by decide)
  · exact absurd h (by decide)
/-- a paper that is read is what is printed of its values -/
theorem body_back {title tx : ByteArray} {l : List UInt8} {a : Nat} (h1 : tx.data.toList.take a = title.data.toList ++ l) (h2 : clsE tx a = 0) : tx = paperS title l := by
  obtain ⟨h3, h4⟩ := cls_back h2
  apply ba_eq
  unfold paperS
  rw [ba_app, ba_app, strOf_data, strOf_data, ← h1, ← h4, List.take_append_drop]
theorem paper_back {title tx : ByteArray} {ts : List FD} (h1 : rpForm title tx ts = true) (h2 : clsE tx (rpA title tx ts) = 0) : tx = paperS title (prT ts (rpVs title tx ts)) := by
  unfold rpForm at h1
  rw [Bool.and_eq_true] at h1
  refine body_back (a := rpA title tx ts) ?_ h2
  have h3 := pfx_take h1.1
  have h4 := tab_back ts _ h1.2
  have h5 := tabN_le ts _ h1.2
  unfold rpA
  rw [List.take_add, h3]
  congr 1
  show (tx.data.toList.drop title.size).take (tabN ts (tx.data.toList.drop title.size)) = prT ts (tabVs ts (tx.data.toList.drop title.size))
  generalize tx.data.toList.drop title.size = l at *
  have h6 := List.take_append_drop (tabN ts l) l
  exact List.append_cancel_right (h6.trans h4)
theorem metaL_pr : ∀ vs : List Val, vs.length = 8 → metaL (vT vs 0) (vN vs) = prT (metaFDs 0) vs
  | [v0, v1, v2, v3, v4, v5, v6, v7], _ => by
    simp [metaL, wrL, metaFDs, metaO, prT, prL, vN, vT, itS, strOf_data]
theorem ptrL_pr : ∀ vs : List Val, vs.length = 4 → ptrL (vN vs 0) (vN vs 1) (vN vs 2) (vN vs 3) = prT (ptrFDs 0) vs
  | [v0, v1, v2, v3], _ => by
    simp [ptrL, ptrFDs, prT, prL, vN, nl]
theorem headL_pr : ∀ vs : List Val, vs.length = 4 → headL (headOf vs) = prT (headFDs 0 0) vs
  | [v0, v1, v2, v3], _ => by
    simp [headL, headOf, headO, wrL, headFDs, prT, prL, vN, itS, strOf_data]
theorem tailL_pr : ∀ vs : List Val, vs.length = 2 → tailL (tailOf vs) = prT (tailFDs 0) vs
  | [v0, v1], _ => by
    simp [tailL, tailOf, tailO, wrL, tailFDs, prT, prL, vN, itS, strOf_data]
theorem rowL_pr : ∀ vs : List Val, vs.length = 4 → rowL (rowOf vs) = prT (rowFDs 0) vs
  | [v0, v1, v2, v3], _ => by
    simp [rowL, rowOf, rowO, wrL, rowFDs, prT, prL, vN, itS, strOf_data]
/-- a meta that is read is printed as it stood -/
theorem meta_back {tx : ByteArray} (h : metaPE tx = 0) : metaOk (metaPT tx) (metaPV tx) = true ∧ metaS (metaPT tx) (metaPV tx) = tx := by
  have e1 : metaPT tx = vT (metaVs tx) 0 := by unfold metaPT; rw [if_pos h]
  have e2 : metaPV tx = vN (metaVs tx) := by funext i; unfold metaPV; rw [if_pos h]
  rw [e1, e2]
  unfold metaPE rpE at h
  split at h
  · rename_i h1
    split at h
    · rename_i h2
      split at h
      · rename_i h3
        refine ⟨h3, ?_⟩
        unfold metaS
        rw [if_pos h3, metaL_pr _ (by unfold metaVs rpVs; rw [tabVs_len]; rfl)]
        exact (paper_back h1 h2).symm
      · exact absurd h (by decide)
    · rename_i h2; exact absurd h h2
  · exact absurd h (by decide)
theorem ptr_back {tx : ByteArray} (h : ptrPE tx = 0) : ptrOk (ptrPV tx 0) (ptrPV tx 1) (ptrPV tx 2) (ptrPV tx 3) = true ∧ ptrS (ptrPV tx 0) (ptrPV tx 1) (ptrPV tx 2) (ptrPV tx 3) = tx := by
  have e2 : ∀ i, ptrPV tx i = vN (rpVs ptrTitle tx (ptrFDs 0)) i := fun i => by unfold ptrPV; rw [if_pos h]; rfl
  rw [e2, e2, e2, e2]
  unfold ptrPE rpE at h
  split at h
  · rename_i h1
    split at h
    · rename_i h2
      split at h
      · rename_i h3
        refine ⟨h3, ?_⟩
        unfold ptrS
        rw [if_pos (by exact h3), ptrL_pr _ (by unfold rpVs; rw [tabVs_len]; rfl)]
        exact (paper_back h1 h2).symm
      · exact absurd h (by decide)
    · rename_i h2; exact absurd h h2
  · exact absurd h (by decide)
theorem rows_back {tx : ByteArray} {a : Nat} : ∀ k l q, rowsAt tx a k = some (l, q) → tx.data.toList.drop a = rowsL l ++ tx.data.toList.drop q := by
  intro k
  induction k with
  | zero => intro l q h; simp [rowsAt] at h; obtain ⟨rfl, rfl⟩ := h; rfl
  | succ k ih =>
    intro l q h
    rw [rowsAt] at h
    split at h
    · cases h
    · rename_i l' q' h'
      have e1 := ih _ _ h'
      by_cases hz : tabOk (rowFDs 0) (tx.data.toList.drop q') = true
      · rw [if_pos hz] at h
        simp only [Option.some.injEq, Prod.mk.injEq] at h
        obtain ⟨rfl, rfl⟩ := h
        have h2 := tab_back _ _ hz
        rw [← rowL_pr _ (by rw [tabVs_len]; rfl)] at h2
        rw [rowsL_snoc, List.append_assoc, e1]
        congr 1
        rw [List.drop_drop] at h2
        exact h2
      · rw [if_neg hz] at h; cases h
/-- a manifest that is read is printed as it stood -/
theorem man_back {tx : ByteArray} (h : pmE tx = 0) : mfE (pmM tx) = 0 ∧ mfS (pmM tx) = tx := by
  unfold pmE at h
  split at h
  · rename_i h1
    split at h
    · rename_i h2
      refine ⟨h, ?_⟩
      unfold mfS
      rw [if_pos h]
      symm
      refine body_back (a := pmA3 tx) ?_ h2
      obtain ⟨h3, h4⟩ := cls_back h2
      unfold pmForm at h1
      simp only [Bool.and_eq_true] at h1
      obtain ⟨p1, p2, p3, p4⟩ := h1
      obtain ⟨⟨rs, q⟩, hr⟩ := Option.isSome_iff_exists.1 p3
      have hrs : pmRs tx = rs := by unfold pmRs; rw [hr]; rfl
      have hq : pmA2 tx = q := by unfold pmA2; rw [hr]; rfl
      have t1 := pfx_take p1
      have t2 := tab_back _ _ p2
      have t3 := rows_back _ _ _ hr
      have t4 := tab_back _ _ p4
      have n2 := tabN_le _ _ p2
      have hpl : manTitle.size ≤ tx.size := by have := pfx_le p1; rw [size_data] at this; exact this
      rw [List.length_drop, size_data] at n2
      have hA1 : pmA1 tx ≤ tx.size := by unfold pmA1; omega
      obtain ⟨l1, l2, l3⟩ := rowsAt_le hA1 _ _ _ hr
      rw [← headL_pr _ (by rw [tabVs_len]; rfl)] at t2
      rw [← tailL_pr _ (by rw [tabVs_len]; rfl)] at t4
      have hh : (pmM tx).hv = pmH tx := by
        show ((pmH tx).1, (pmH tx).2.1, (pmH tx).2.2.1, ((pmRs tx).length : Int)) = pmH tx
        rw [hrs, l1, ← (pmN_eq tx).1]
      unfold mfL
      rw [hh]
      show _ = manTitle.data.toList ++ (headL (pmH tx) ++ rowsL (pmRs tx) ++ tailL (pmT tx))
      rw [hrs]
      have a1 : tx.data.toList.drop (manTitle.size) = headL (pmH tx) ++ tx.data.toList.drop (pmA1 tx) := by
        rw [List.drop_drop] at t2; exact t2
      have a2 : tx.data.toList.drop q = tailL (pmT tx) ++ tx.data.toList.drop (pmA3 tx) := by
        rw [← hq]; rw [List.drop_drop] at t4; exact t4
      have a3 : tx.data.toList = (manTitle.data.toList ++ (headL (pmH tx) ++ rowsL rs ++ tailL (pmT tx))) ++ tx.data.toList.drop (pmA3 tx) := by
        have : tx.data.toList = manTitle.data.toList ++ tx.data.toList.drop manTitle.size := by rw [← t1, List.take_append_drop]
        rw [a1, t3, a2] at this
        simp only [List.append_assoc]
        exact this
      exact List.append_cancel_right ((List.take_append_drop (pmA3 tx) tx.data.toList).trans a3)
    · rename_i h2; exact absurd h h2
  · exact absurd h (by decide)
theorem noteL_pr : ∀ vs : List Val, vs.length = 4 → noteL (vN vs 0) (vN vs 1) (vN vs 2) (vN vs 3) = prT (noteFDs 0) vs
  | [v0, v1, v2, v3], _ => by
    simp [noteL, noteFDs, prT, prL, vN, bl]
/-- a note that is read is printed as it stood -/
theorem note_back {tx : ByteArray} (h : ntSize tx ≠ 0) : noteOk (ntV tx 0) (ntV tx 1) (ntV tx 2) (ntV tx 3) = true ∧ tx.data.toList.take (ntSize tx) = (noteS (ntV tx 0) (ntV tx 1) (ntV tx 2) (ntV tx 3)).data.toList := by
  have hok : ntOk tx = true := by
    cases e : ntOk tx with
    | true => rfl
    | false => exact absurd (by unfold ntSize; rw [e]; rfl) h
  have e1 : ∀ i, ntV tx i = vN (tabVs (noteFDs 0) tx.data.toList) i := fun i => by unfold ntV; rw [if_pos hok]; rfl
  have e2 : ntSize tx = ntN tx + unsN ⟨#[]⟩ tx (ntN tx) := by unfold ntSize; rw [if_pos hok]
  rw [e1, e1, e1, e1, e2]
  unfold ntOk at hok
  rw [Bool.and_eq_true, Bool.and_eq_true] at hok
  obtain ⟨h1, h2, h3⟩ := hok
  have hn : noteOk (vN (tabVs (noteFDs 0) tx.data.toList) 0) (vN (tabVs (noteFDs 0) tx.data.toList) 1) (vN (tabVs (noteFDs 0) tx.data.toList) 2) (vN (tabVs (noteFDs 0) tx.data.toList) 3) = true := h3
  refine ⟨hn, ?_⟩
  unfold noteS
  rw [if_pos hn]
  have t1 := tab_back _ _ h1
  rw [← noteL_pr _ (by rw [tabVs_len]; rfl)] at t1
  generalize noteL (vN (tabVs (noteFDs 0) tx.data.toList) 0) (vN (tabVs (noteFDs 0) tx.data.toList) 1) (vN (tabVs (noteFDs 0) tx.data.toList) 2) (vN (tabVs (noteFDs 0) tx.data.toList) 3) = N at *
  have t1' : tx.data.toList = N ++ tx.data.toList.drop (ntN tx) := t1
  have t2 : tx.data.toList.take (ntN tx) = N := List.append_cancel_right ((List.take_append_drop (ntN tx) tx.data.toList).trans t1')
  unfold unsFit at h2
  rw [Bool.and_eq_true] at h2
  have h5 := of_decide_eq_true h2.2
  have h4 := fldG_back (sumFD ⟨#[]⟩ 0) (tx.data.toList.drop (ntN tx)) h2.1
  have h6 : tx.data.toList.drop (ntN tx) = sealL ⟨#[]⟩ (crcN 0 N) ++ (tx.data.toList.drop (ntN tx)).drop (unsN ⟨#[]⟩ tx (ntN tx)) := by
    have h7 : prL (sumFD ⟨#[]⟩ 0).sh (fldV (sumFD ⟨#[]⟩ 0) (tx.data.toList.drop (ntN tx))) = hexL (be4 (crcN 0 N)) := by
      show hexL (be4 ((fldV (sumFD ⟨#[]⟩ 0) (tx.data.toList.drop (ntN tx))).1).toNat) = _
      rw [h5, Int.toNat_natCast, t2]
    rw [h7] at h4
    exact h4
  rw [ba_app, strOf_data, strOf_data, List.take_add, t2]
  congr 1
  generalize tx.data.toList.drop (ntN tx) = Q at *
  generalize unsN ⟨#[]⟩ tx (ntN tx) = U at *
  exact List.append_cancel_right ((List.take_append_drop U Q).trans h6)
def nvS (n : NV) : List UInt8 := (noteS n.1 n.2.1 n.2.2.1 n.2.2.2).data.toList
def nvsL (l : List NV) : List UInt8 := l.flatMap nvS
def nvOk (n : NV) : Bool := noteOk n.1 n.2.1 n.2.2.1 n.2.2.2
theorem nvsL_snoc (l : List NV) (n : NV) : nvsL (l ++ [n]) = nvsL l ++ nvS n := by unfold nvsL; rw [List.flatMap_append, List.flatMap_cons, List.flatMap_nil, List.append_nil]
theorem notes_back {tx : ByteArray} : ∀ k l q, notesAt tx k = some (l, q) → tx.data.toList.take q = nvsL l ∧ ∀ n ∈ l, nvOk n = true := by
  intro k
  induction k with
  | zero => intro l q h; simp [notesAt] at h; obtain ⟨rfl, rfl⟩ := h; exact ⟨rfl, fun n hn => by cases hn⟩
  | succ k ih =>
    intro l q h
    rw [notesAt] at h
    split at h
    · cases h
    · rename_i l' q' h'
      obtain ⟨e1, e2⟩ := ih _ _ h'
      by_cases hz : nsz tx q' = 0
      · rw [if_pos hz] at h; cases h
      · rw [if_neg hz] at h
        simp only [Option.some.injEq, Prod.mk.injEq] at h
        obtain ⟨rfl, rfl⟩ := h
        obtain ⟨g1, g2⟩ := note_back (tx := restS tx q') hz
        refine ⟨?_, fun n hn => ?_⟩
        · rw [List.take_add, e1, nvsL_snoc]
          congr 1
          have hr : (restS tx q').data.toList = tx.data.toList.drop q' := by
            unfold restS
            rw [Lib.extract_data]
            rw [List.take_of_length_le (by rw [List.length_drop, size_data]; exact Nat.le_refl _)]
          rw [hr] at g2
          exact g2
        · rcases List.mem_append.1 hn with hn | hn
          · exact e2 n hn
          · rw [List.mem_singleton] at hn
            rw [hn]; exact g1
/-- the titles are told apart -/
theorem title_apart {a b : ByteArray} {l : List UInt8} (ha : pfx a l = true) (hb : pfx b l = true) : a.data.toList.take (min a.size b.size) = b.data.toList.take (min a.size b.size) := by
  rw [← pfx_take ha, ← pfx_take hb, List.take_take, List.take_take]
  congr 1
  omega
theorem not_meta_man {tx : ByteArray} (h1 : metaPE tx = 0) (h2 : pmE tx = 0) : False := by
  have a : pfx metaTitle tx.data.toList = true := by
    unfold metaPE rpE at h1
    split at h1
    · rename_i h; unfold rpForm at h; rw [Bool.and_eq_true] at h; exact h.1
    · exact absurd h1 (by decide)
  have b : pfx manTitle tx.data.toList = true := by
    unfold pmE at h2
    split at h2
    · rename_i h; unfold pmForm at h; rw [Bool.and_eq_true] at h; exact h.1
    · exact absurd h2 (by decide)
  exact absurd (title_apart a b) (by decide)
theorem not_meta_ptr {tx : ByteArray} (h1 : metaPE tx = 0) (h2 : ptrPE tx = 0) : False := by
  have a : pfx metaTitle tx.data.toList = true := by
    unfold metaPE rpE at h1
    split at h1
    · rename_i h; unfold rpForm at h; rw [Bool.and_eq_true] at h; exact h.1
    · exact absurd h1 (by decide)
  have b : pfx ptrTitle tx.data.toList = true := by
    unfold ptrPE rpE at h2
    split at h2
    · rename_i h; unfold rpForm at h; rw [Bool.and_eq_true] at h; exact h.1
    · exact absurd h2 (by decide)
  exact absurd (title_apart a b) (by decide)
theorem not_man_ptr {tx : ByteArray} (h1 : pmE tx = 0) (h2 : ptrPE tx = 0) : False := by
  have a : pfx manTitle tx.data.toList = true := by
    unfold pmE at h1
    split at h1
    · rename_i h; unfold pmForm at h; rw [Bool.and_eq_true] at h; exact h.1
    · exact absurd h1 (by decide)
  have b : pfx ptrTitle tx.data.toList = true := by
    unfold ptrPE rpE at h2
    split at h2
    · rename_i h; unfold rpForm at h; rw [Bool.and_eq_true] at h; exact h.1
    · exact absurd h2 (by decide)
  exact absurd (title_apart a b) (by decide)
end Go.Proofs.YtfpalfpfijcpbaaGreatDoor
