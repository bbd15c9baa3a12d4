import Derived.Test.YtaclbffacnoddaaGreatDoorPart34
import Derived.Test.YtaclbffacnoddaaGreatDoorPmParse
namespace Go.Proofs.YtaclbffacnoddaaGreatDoor
open Go.RowKit Go.Shelf
theorem word_fwd : ∀ (w : List UInt8) (b : UInt8) (r : List UInt8), (∀ c ∈ w, isSep c = false) → isSep b = true → wordL (w ++ b :: r) = w
  | [], b, r, _, hb => by unfold wordL; rw [List.nil_append, List.takeWhile_cons, if_neg (by rw [hb]; simp)]
  | c :: w, b, r, h, hb => by
    have := word_fwd w b r (fun x hx => h x (List.mem_cons_of_mem _ hx)) hb
    unfold wordL at this ⊢
    rw [List.cons_append, List.takeWhile_cons, if_pos (by rw [h c List.mem_cons_self]; rfl), this]
/-- a field that stands there is read -/
theorem fld_fwd (f : FD) (w rest : List UInt8) (b : UInt8) (er : List UInt8) (he : f.en.data.toList = b :: er) (hb : isSep b = true) (hw : ∀ c ∈ w, isSep c = false) (hok : rdOk f.sh w = true) :
    fldOk f (f.wd.data.toList ++ w ++ f.en.data.toList ++ rest) = true ∧ fldN f (f.wd.data.toList ++ w ++ f.en.data.toList ++ rest) = (f.wd.data.toList ++ w ++ f.en.data.toList).length ∧ fldV f (f.wd.data.toList ++ w ++ f.en.data.toList ++ rest) = (rdN f.sh w, rdT f.sh w) := by
  have hl : f.wd.data.toList ++ w ++ f.en.data.toList ++ rest = f.wd.data.toList ++ (w ++ (f.en.data.toList ++ rest)) := by simp only [List.append_assoc]
  have hd : (f.wd.data.toList ++ (w ++ (f.en.data.toList ++ rest))).drop f.wd.size = w ++ (f.en.data.toList ++ rest) := by rw [← size_data, List.drop_left]
  have hW : fldW f (f.wd.data.toList ++ (w ++ (f.en.data.toList ++ rest))) = w := by
    unfold fldW; rw [hd, he]; exact word_fwd w b (er ++ rest) hw hb
  rw [hl]
  refine ⟨?_, ?_, ?_⟩
  · unfold fldOk
    rw [hW, hd, hok, List.drop_left, pfx_of_take (s := f.wd) (by rw [← size_data, List.take_left]), pfx_of_take (s := f.en) (by rw [← size_data, List.take_left])]
    rfl
  · unfold fldN
    rw [hW]
    simp only [List.length_append, size_data]
  · unfold fldV; rw [hW]
/-- a table that stands there is read -/
theorem tab_fwd (ts : List FD) (out : Nat → ByteArray) (hen : ∀ i (h : i < ts.length), ts[i].en.data.toList = [10]) (hw : ∀ i (_ : i < ts.length), ∀ c ∈ (out i).data.toList, isSep c = false) (hok : ∀ i (h : i < ts.length), rdOk ts[i].sh (out i).data.toList = true) :
    ∀ k, k ≤ ts.length → ∀ rest, tabOk (ts.take k) (wrL ts out k ++ rest) = true ∧ tabN (ts.take k) (wrL ts out k ++ rest) = (wrL ts out k).length ∧ ∀ i (_ : i < k) (h2 : i < ts.length), (tabVs (ts.take k) (wrL ts out k ++ rest))[i]? = some (rdN ts[i].sh (out i).data.toList, rdT ts[i].sh (out i).data.toList) := by
  intro k
  induction k with
  | zero => intro _ rest; exact ⟨rfl, rfl, fun i h => by omega⟩
  | succ k ih =>
    intro hk rest
    have hk' : k < ts.length := by omega
    have e : wrL ts out (k + 1) ++ rest = wrL ts out k ++ (ts[k].wd.data.toList ++ (out k).data.toList ++ ts[k].en.data.toList ++ rest) := by rw [wrL_succ ts out k hk', List.append_assoc]
    obtain ⟨i1, i2, i3⟩ := ih (by omega) (ts[k].wd.data.toList ++ (out k).data.toList ++ ts[k].en.data.toList ++ rest)
    obtain ⟨j1, j2, j3⟩ := fld_fwd ts[k] (out k).data.toList rest 10 [] (hen k hk') (by decide) (hw k hk') (hok k hk')
    have hd : (wrL ts out k ++ (ts[k].wd.data.toList ++ (out k).data.toList ++ ts[k].en.data.toList ++ rest)).drop (wrL ts out k).length = ts[k].wd.data.toList ++ (out k).data.toList ++ ts[k].en.data.toList ++ rest := List.drop_left
    rw [e, take_snoc ts k hk']
    refine ⟨?_, ?_, fun i hi h2 => ?_⟩
    · rw [tabOk_app, i1, i2, hd, tabOk_one, j1]; rfl
    · rw [tabN_app, i2, hd, tabN_one, j2, wrL_succ ts out k hk', @List.length_append _ (wrL ts out k)]
    · rw [tabVs_app, i2, hd]
      have hl : (tabVs (ts.take k) (wrL ts out k ++ (ts[k].wd.data.toList ++ (out k).data.toList ++ ts[k].en.data.toList ++ rest))).length = k := by rw [tabVs_len, List.length_take]; omega
      by_cases hik : i < k
      · rw [List.getElem?_append_left (by omega)]; exact i3 i hik h2
      · obtain rfl : i = k := by omega
        rw [List.getElem?_append_right (by omega), hl, Nat.sub_self]
        show some (fldV ts[i] _) = _
        rw [j3]
/-- a paper's last line is read -/
theorem cls_fwd {tx : ByteArray} {B : List UInt8} (hD : tx.data.toList = B ++ sealL sumWd (crcN 0 B)) : clsE tx B.length = 0 := by
  obtain ⟨R, hR⟩ : ∃ R, R = sealL sumWd (crcN 0 B) := ⟨_, rfl⟩
  rw [← hR] at hD
  have hK : crcN 0 B < 4294967296 := crcN_lt _ (by omega)
  have hRd : R = sumWd.data.toList ++ (hexL (be4 (crcN 0 B)) ++ [10]) := by rw [hR]; unfold sealL; rw [List.append_assoc]
  have hx : (hexL (be4 (crcN 0 B))).length = 8 := by rw [hexL_len]; rfl
  have hdB : tx.data.toList.drop B.length = R := by rw [hD, List.drop_left]
  have hd4 : tx.data.toList.drop (B.length + 4) = hexL (be4 (crcN 0 B)) ++ [10] := by rw [← List.drop_drop, hdB, hRd, show 4 = sumWd.data.toList.length from rfl, List.drop_left]
  have hd12 : tx.data.toList.drop (B.length + 12) = [10] := by rw [show B.length + 12 = B.length + 4 + 8 by omega, ← List.drop_drop, hd4, ← hx, List.drop_left]
  have htk : (hexL (be4 (crcN 0 B)) ++ [10]).take 8 = hexL (be4 (crcN 0 B)) := by rw [← hx, List.take_left]
  have hrb : rbOk false 4 (hexL (be4 (crcN 0 B)) ++ [10]) = true := by
    unfold rbOk
    rw [show 2 * 4 = 8 from rfl, htk, unhex_hex, List.length_append, hx]; rfl
  obtain ⟨v1, v2⟩ := uns_same tx B.length
  have hun : unsOk sumWd tx B.length = true := by
    rw [v1, hd4, hd12, hrb, hdB, hRd, pfx_of_take (s := sumWd) (by rw [← size_data, List.take_left]), pfx_of_take (s := nl) rfl]; rfl
  obtain ⟨v3, v4⟩ := v2 hun
  have hfit : unsFit sumWd tx B.length = true := by
    unfold unsFit
    rw [hun, v4, hd4, hD, List.take_left]
    unfold rsV
    rw [if_pos hrb, htk, unhex_hex]
    simp [beV_be4 _ hK]
  have hsz : tx.size = B.length + 13 := by rw [← size_data, hD, List.length_append, hRd, List.length_append, List.length_append, hx]; rfl
  unfold clsE
  rw [hun, hfit, v3, hsz]
  simp
/-- a printed number is a number -/
theorem dig_sep2 {c : UInt8} (h : isDig c = true) : isSep c = false := by
  unfold isDig at h
  simp only [Bool.and_eq_true, decide_eq_true_eq] at h
  unfold isSep
  have h1 : c ≠ 32 := fun e => by rw [e] at h; exact absurd h.1 (by decide)
  have h2 : c ≠ 10 := fun e => by rw [e] at h; exact absurd h.1 (by decide)
  simp [h1, h2]
theorem rd_num (n : Int) (h0 : 0 ≤ n) (h1 : n < 10000000000000000) : rdOk 0 (Lib.itoa n) = true ∧ rdN 0 (Lib.itoa n) = n ∧ ∀ c ∈ Lib.itoa n, isSep c = false := by
  obtain ⟨u, rfl⟩ := Int.eq_ofNat_of_zero_le h0
  have hit : Lib.itoa (u : Int) = Lib.decDigits u := by unfold Lib.itoa; rw [if_neg (by omega), Int.toNat_natCast]
  rw [hit]
  obtain ⟨d1, d2, d3, d4, d5⟩ := dec_facts u
  have hlen : (Lib.decDigits u).length ≤ 16 := decDigits_len 16 u (by have : (10 : Nat) ^ 16 = 10000000000000000 := rfl; omega) (by omega)
  have hz : zeroHd (Lib.decDigits u) = false := by
    unfold zeroHd
    by_cases hu : u = 0
    · subst hu
      have h1 := d5 rfl
      match hd : Lib.decDigits 0, h1 with
      | [c], _ =>
        have h2 : valD [c] = 0 := by rw [← hd]; exact d2
        have h3 : isDig c = true := by rw [hd] at d1; simpa using d1
        unfold isDig at h3
        simp only [Bool.and_eq_true, decide_eq_true_eq] at h3
        have h4 : c.toNat = 48 := by unfold valD at h2; simp at h2; omega
        have h5 : c = 48 := UInt8.toNat_inj.1 h4
        rw [h5]; rfl
    · have := d4 (by omega)
      rw [beq_eq_false_iff_ne.2 this]; rfl
  have hemp : (Lib.decDigits u).isEmpty = false := by
    cases hd : Lib.decDigits u with
    | nil => exact absurd hd d3
    | cons a b => rfl
  have hok : numOk (Lib.decDigits u) = true := by unfold numOk; rw [hemp, decide_eq_true hlen, hz, d1]; rfl
  refine ⟨hok, ?_, fun c hc => dig_sep2 (List.all_eq_true.1 d1 c hc)⟩
  show (numV (Lib.decDigits u) : Int) = _
  unfold numV; rw [if_pos hok, d2]
theorem stL_sep : ∀ c ∈ stL.data.toList, isSep c = false := by decide
theorem st_sep {t : List UInt8} (h : isSt t = true) : ∀ c ∈ t, isSep c = false := by
  intro c hc
  unfold isSt at h
  simp only [Bool.and_eq_true] at h
  have h2 := h.2
  unfold allOf at h2
  have := List.all_eq_true.1 h2 c hc
  exact stL_sep c (by simpa using this)
theorem metaOk_n {st : ByteArray} {n : Nat → Int} (h : metaOk st n = true) : ∀ i, 1 ≤ i → i < 8 → 0 ≤ n i ∧ n i < 10000000000000000 := by
  unfold metaOk inR at h
  simp only [Bool.and_eq_true, decide_eq_true_eq] at h
  obtain ⟨⟨⟨⟨⟨⟨⟨_, h1⟩, h2⟩, h3⟩, h4⟩, h5⟩, h6⟩, h7⟩ := h
  intro i hi1 hi2
  match i, hi1, hi2 with
  | 1, _, _ => omega
  | 2, _, _ => omega
  | 3, _, _ => omega
  | 4, _, _ => omega
  | 5, _, _ => omega
  | 6, _, _ => omega
  | 7, _, _ => omega
theorem metaO_0 (st : ByteArray) (n : Nat → Int) : metaO st n 0 = st := rfl
theorem metaO_s (st : ByteArray) (n : Nat → Int) (i : Nat) : metaO st n (i + 1) = itS (n (i + 1)) := rfl
theorem metaFD_nl : ∀ i (h : i < (metaFDs 0).length), (metaFDs 0)[i].en.data.toList = [10] := by
  intro i hi
  match i, hi with
  | 0, _ => rfl
  | 1, _ => rfl
  | 2, _ => rfl
  | 3, _ => rfl
  | 4, _ => rfl
  | 5, _ => rfl
  | 6, _ => rfl
  | 7, _ => rfl
theorem metaFD_sh : ∀ i (h : i + 1 < (metaFDs 0).length), (metaFDs 0)[i + 1].sh = 0 := by
  intro i hi
  match i, hi with
  | 0, _ => rfl
  | 1, _ => rfl
  | 2, _ => rfl
  | 3, _ => rfl
  | 4, _ => rfl
  | 5, _ => rfl
  | 6, _ => rfl
/-- a printed meta is read as it was -/
theorem meta_fwd {st : ByteArray} {n : Nat → Int} (hok : metaOk st n = true) : metaPE (metaS st n) = 0 ∧ metaPT (metaS st n) = st ∧ ∀ i, 1 ≤ i → i < 8 → metaPV (metaS st n) i = n i := by
  obtain ⟨s1, s2, s3⟩ := metaOk_st hok
  have hn := metaOk_n hok
  obtain ⟨tx, htx⟩ : ∃ tx, tx = metaS st n := ⟨_, rfl⟩
  rw [← htx]
  have hl8 : (metaFDs 0).length = 8 := rfl
  have hS : tx.data.toList = metaTitle.data.toList ++ metaL st n ++ sealL sumWd (crcN 0 (metaTitle.data.toList ++ metaL st n)) := by
    rw [htx]; unfold metaS; rw [if_pos hok]; unfold paperS
    rw [ba_app, ba_app, strOf_data, strOf_data]
  have hcl := cls_fwd hS
  have T := tab_fwd (metaFDs 0) (metaO st n) metaFD_nl
    (fun i h => by
      cases i with
      | zero => rw [metaO_0]; exact st_sep s3
      | succ i => rw [metaO_s]; exact (rd_num _ (hn (i + 1) (by omega) (by omega)).1 (hn (i + 1) (by omega) (by omega)).2).2.2)
    (fun i h => by
      cases i with
      | zero =>
        show (!st.data.toList.isEmpty) = true
        cases hd : st.data.toList with
        | nil => rw [← size_data, hd] at s1; simp at s1
        | cons a b => rfl
      | succ i => rw [metaFD_sh i h, metaO_s]; exact (rd_num _ (hn (i + 1) (by omega) (by omega)).1 (hn (i + 1) (by omega) (by omega)).2).1)
    8 (Nat.le_refl _) (sealL sumWd (crcN 0 (metaTitle.data.toList ++ metaL st n)))
  rw [List.take_of_length_le (by rw [hl8]; omega)] at T
  obtain ⟨t1, t2, t3⟩ := T
  have hdr : tx.data.toList.drop metaTitle.size = wrL (metaFDs 0) (metaO st n) 8 ++ sealL sumWd (crcN 0 (metaTitle.data.toList ++ metaL st n)) := by
    rw [hS, List.append_assoc, ← size_data, List.drop_left]; rfl
  have hV : ∀ i (h : i < 8) (h2 : i < (metaFDs 0).length), (metaVs tx)[i]? = some (rdN (metaFDs 0)[i].sh (metaO st n i).data.toList, rdT (metaFDs 0)[i].sh (metaO st n i).data.toList) := fun i h h2 => by
    unfold metaVs rpVs; rw [hdr]; exact t3 i h h2
  have v0 : vT (metaVs tx) 0 = st := by
    unfold vT; rw [hV 0 (by omega) (by omega)]; exact strOf_toList st
  have vi : ∀ i, 1 ≤ i → i < 8 → vN (metaVs tx) i = n i := fun i h1 h2 => by
    cases i with
    | zero => omega
    | succ i =>
      unfold vN
      rw [hV (i + 1) h2 (by omega), metaFD_sh i (by omega), metaO_s]
      exact (rd_num _ (hn (i + 1) h1 h2).1 (hn (i + 1) h1 h2).2).2.1
  have hok2 : metaOk (vT (metaVs tx) 0) (vN (metaVs tx)) = true := by
    rw [← hok]
    unfold metaOk
    rw [v0, vi 1 (by omega) (by omega), vi 2 (by omega) (by omega), vi 3 (by omega) (by omega), vi 4 (by omega) (by omega), vi 5 (by omega) (by omega), vi 6 (by omega) (by omega), vi 7 (by omega) (by omega)]
  have hA : rpA metaTitle tx (metaFDs 0) = (metaTitle.data.toList ++ metaL st n).length := by
    unfold rpA; rw [hdr, t2, List.length_append, size_data]; rfl
  have hE : metaPE tx = 0 := by
    unfold metaPE rpE rpForm
    rw [hA, hcl, hdr, t1, hok2, hS, List.append_assoc, pfx_of_take (s := metaTitle) (by rw [← size_data, List.take_left])]
    rfl
  refine ⟨hE, ?_, fun i h1 h2 => ?_⟩
  · unfold metaPT; rw [if_pos hE, v0]
  · unfold metaPV; rw [if_pos hE, vi i h1 h2]
end Go.Proofs.YtaclbffacnoddaaGreatDoor
namespace Go.Proofs.YtaclbffacnoddaaGreatDoor
open Go.RowKit Go.Shelf
set_option maxHeartbeats 2000000 in
set_option maxRecDepth 100000 in
/-- first: a pointer that is printed and read -/
theorem first_any (w : World) (hT4 : Tab4 0 w) (hP : Pow w) :
    Calls Tryz.prog 15 #[] w fun x w' => x = .returned (.bool true) ∧ Below w.heap.size w w' := by
  have i1 : I64 1 := by unfold I64; omega
  have i0 : I64 0 := by unfold I64; omega
  have C1 := hide (fun w' (hb : Below w.heap.size w w') => printPointer_any 1 0 1 1 i1 i0 i1 i1 w' (hP.below hb) (hT4.below hb hT4.lt))
  have C2 := hide (fun w' (hb : Below w.heap.size w w') => parsePointer_any (ptrS 1 0 1 1) w' (ptrS_len 1 0 1 1 i1 i0 i1 i1) (hT4.below hb hT4.lt))
  obtain ⟨f0, f1, f2, f3, f4⟩ := ptr_fwd (c := 1) (p := 0) (e := 1) (s := 1) (by decide)
  rw [f0, f1, f2, f3, f4] at C2
  have eE : ptrE 1 0 1 1 = 0 := by decide
  rw [eE] at C1
  clear f0 f1 f2 f3 f4 eE hT4 hP i1 i0
  generalize ptrS 1 0 1 1 = S at *
  go_enter Tryz.func15, Tryz.ntmps15
  go_wp2_with fail
  refine Calls.mono (C1.out w (Below.refl _ _)) ?_
  rintro x w1 ⟨rfl, b1⟩
  have B1 := hide b1
  have D2 := hide (C2.out w1 b1)
  clear b1 C1 C2
  go_wp2_with fail
  refine Calls.mono D2.out ?_
  rintro x w2 ⟨rfl, b2⟩
  have B2 := hide (B1.out.trans (b2.mono B1.out.size))
  clear b2 D2 B1
  go_wp2_with (go_at_call 8; refine Calls.mono (pnum_any _ _) ?_; rintro e w' ⟨rfl, rfl⟩)
  go_ret
  exact ⟨rfl, B2.out.alloc B2.out.size _⟩
end Go.Proofs.YtaclbffacnoddaaGreatDoor
