import Derived.Test.YtgdopepghmjopaaGreatDoorPxParse
import Derived.Test.YtgdopepghmjopaaGreatDoorGPnBack
namespace Go.Proofs.YtgdopepghmjopaaGreatDoor
open Go.RowKit Go.Shelf
theorem numW_back {w : List UInt8} (h : numOk w = true) : Lib.itoa (numV w : Int) = w := by
  have hv : numV w = valD w := by unfold numV; rw [if_pos h]
  unfold numOk at h
  simp only [Bool.and_eq_true, decide_eq_true_eq, Bool.not_eq_true'] at h
  obtain ⟨⟨⟨h1, h2⟩, h3⟩, h4⟩ := h
  have hne : w ≠ [] := fun e => by rw [e] at h1; simp at h1
  unfold Lib.itoa
  rw [if_neg (by omega), Int.toNat_natCast, hv]
  by_cases hz : w.head? = some 48
  · unfold zeroHd at h3
    rw [hz] at h3
    have h5 : w = [48] := by simpa using h3
    rw [h5, Lib.decDigits]
    decide
  · exact (dec_back _ _ rfl h4 hne hz).1
theorem hexW_back {w : List UInt8} {n : Nat} (h : hexOk w n = true) : (hexV w n).data.toList = (unhexL w).getD [] ∧ hexL (hexV w n).data.toList = w ∧ (hexV w n).data.toList.length = n := by
  unfold hexOk at h
  simp only [Bool.and_eq_true, decide_eq_true_eq] at h
  obtain ⟨t, ht⟩ := Option.isSome_iff_exists.1 h.2
  have e : (hexV w n).data.toList = t := by
    unfold hexV
    rw [if_pos h.1]
    unfold unS
    rw [ht]; rfl
  have := unhex_len ht
  rw [e]
  exact ⟨by rw [ht]; rfl, hex_unhex ht, by omega⟩
theorem sumW_back {w : List UInt8} (h : sumOk w = true) : hexL (be4 (sumV w)) = w := by
  obtain ⟨h1, h2, h3⟩ := hexW_back h
  unfold sumV
  rw [be4_beV _ h3]
  exact h2
/-- what a shape writes of a value -/
def prL (sh : Int) (v : Val) : List UInt8 := if sh = 0 then Lib.itoa v.1 else if sh = 1 then hexL (be4 v.1.toNat) else if sh = 2 then hexL v.2.data.toList else v.2.data.toList
theorem pr_rd (sh : Int) (w : List UInt8) (h : rdOk sh w = true) : prL sh (rdN sh w, rdT sh w) = w := by
  unfold prL
  unfold rdOk at h
  by_cases h0 : sh = 0
  · subst h0
    exact numW_back (by simpa using h)
  · rw [if_neg h0] at h ⊢
    by_cases h1 : sh = 1
    · subst h1
      rw [if_pos rfl] at h ⊢
      show hexL (be4 ((sumV w : Int)).toNat) = w
      rw [Int.toNat_natCast]
      exact sumW_back h
    · rw [if_neg h1] at h ⊢
      by_cases h2 : sh = 2
      · subst h2
        rw [if_pos rfl] at h ⊢
        exact (hexW_back h).2.1
      · rw [if_neg h2]
        unfold rdT
        rw [if_neg (by rintro (e | e); exact h0 e; exact h1 e), if_neg h2]
        exact strOf_data _
/-- a field that is read is written as it stood -/
theorem fldG_back (f : FD) (l : List UInt8) (h : fldOk f l = true) : l = f.wd.data.toList ++ prL f.sh (fldV f l) ++ f.en.data.toList ++ l.drop (fldN f l) := by
  unfold fldOk at h
  rw [Bool.and_eq_true, Bool.and_eq_true] at h
  have h1 := pfx_take h.1
  have h3 := pfx_take h.2.2
  have hw : (l.drop f.wd.size).take (fldW f l).length = fldW f l := (wordL_take (l.drop f.wd.size)).symm
  have hp : prL f.sh (fldV f l) = fldW f l := pr_rd f.sh (fldW f l) h.2.1
  rw [hp]
  have e1 : l.take (fldN f l) = f.wd.data.toList ++ fldW f l ++ f.en.data.toList := by
    unfold fldN
    rw [List.take_add, List.take_add, h1, hw, ← List.drop_drop, h3]
  rw [← e1, List.take_append_drop]
def prT : List FD → List Val → List UInt8
  | f :: r, v :: vs => f.wd.data.toList ++ prL f.sh v ++ f.en.data.toList ++ prT r vs
  | _, _ => []
theorem tab_back : ∀ (ts : List FD) (l : List UInt8), tabOk ts l = true → l = prT ts (tabVs ts l) ++ l.drop (tabN ts l)
  | [], l, _ => by simp [prT, tabN]
  | f :: r, l, h => by
    rw [tabOk, Bool.and_eq_true] at h
    have h1 := fldG_back f l h.1
    have h2 := tab_back r (l.drop (fldN f l)) h.2
    show l = (f.wd.data.toList ++ prL f.sh (fldV f l) ++ f.en.data.toList ++ prT r (tabVs r (l.drop (fldN f l)))) ++ l.drop (fldN f l + tabN r (l.drop (fldN f l)))
    rw [List.drop_drop] at h2
    rw [List.append_assoc, ← h2]
    exact h1
/-- a last line that is read -/
theorem cls_back {tx : ByteArray} {a : Nat} (h : clsE tx a = 0) : a ≤ tx.size ∧ tx.data.toList.drop a = sealL sumWd (crcN 0 (tx.data.toList.take a)) := by
  unfold clsE at h
  split at h
  · rename_i h1
    rw [Bool.and_eq_true] at h1
    have h2 : a + unsN sumWd tx a = tx.size := of_decide_eq_true h1.2
    split at h
    · rename_i h3
      have h4 := fldG_back (sumFD sumWd 0) (tx.data.toList.drop a) h1.1
      unfold unsFit at h3
      rw [Bool.and_eq_true] at h3
      have h5 := of_decide_eq_true h3.2
      have h6 : (tx.data.toList.drop a).drop (fldN (sumFD sumWd 0) (tx.data.toList.drop a)) = [] := by
        apply List.drop_eq_nil_of_le
        rw [List.length_drop, size_data]
        unfold unsN at h2
        omega
      refine ⟨by omega, ?_⟩
      rw [h6, List.append_nil] at h4
      rw [h4]
      show sumWd.data.toList ++ hexL (be4 ((fldV (sumFD sumWd 0) (tx.data.toList.drop a)).1).toNat) ++ [10] = _
      rw [h5, Int.toNat_natCast]
      rfl
    · exact absurd h (by decide)
  · exact absurd h (by decide)
/-- a paper that is read is what is printed of its values -/
theorem body_back {title tx : ByteArray} {l : List UInt8} {a : Nat} (h1 : tx.data.toList.take a = title.data.toList ++ l) (h2 : clsE tx a = 0) : tx = paperS title l := by
  obtain ⟨h3, h4⟩ := cls_back h2
  apply ba_eq
  unfold paperS
  rw [ba_app, ba_app, strOf_data, strOf_data, ← h1, ← h4, List.take_append_drop]
theorem paper_back {title tx : ByteArray} {ts : List FD} (h1 : rpForm title tx ts = true) (h2 : clsE tx (rpA title tx ts) = 0) : tx = paperS title (prT ts (rpVs title tx ts)) := by
  unfold rpForm at h1
  rw [Bool.and_eq_true] at h1
  refine body_back (a := rpA title tx ts) ?_ h2
  have h3 := pfx_take h1.1
  have h4 := tab_back ts _ h1.2
  have h5 := tabN_le ts _ h1.2
  unfold rpA
  rw [List.take_add, h3]
  congr 1
  show (tx.data.toList.drop title.size).take (tabN ts (tx.data.toList.drop title.size)) = prT ts (tabVs ts (tx.data.toList.drop title.size))
  generalize tx.data.toList.drop title.size = l at *
  have h6 := List.take_append_drop (tabN ts l) l
  exact List.append_cancel_right (h6.trans h4)
theorem headL_pr : ∀ vs : List Val, vs.length = 4 → headL (headOf vs) = prT (headFDs 0 0) vs
  | [v0, v1, v2, v3], _ => by
    simp [headL, headOf, headO, wrL, headFDs, prT, prL, vN, itS, strOf_data]
theorem tailL_pr : ∀ vs : List Val, vs.length = 2 → tailL (tailOf vs) = prT (tailFDs 0) vs
  | [v0, v1], _ => by
    simp [tailL, tailOf, tailO, wrL, tailFDs, prT, prL, vN, itS, strOf_data]
theorem rowL_pr : ∀ vs : List Val, vs.length = 4 → rowL (rowOf vs) = prT (rowFDs 0) vs
  | [v0, v1, v2, v3], _ => by
    simp [rowL, rowOf, rowO, wrL, rowFDs, prT, prL, vN, itS, strOf_data]
theorem rows_back {tx : ByteArray} {a : Nat} : ∀ k l q, rowsAt tx a k = some (l, q) → tx.data.toList.drop a = rowsL l ++ tx.data.toList.drop q := by
  intro k
  induction k with
  | zero => intro l q h; simp [rowsAt] at h; obtain ⟨rfl, rfl⟩ := h; rfl
  | succ k ih =>
    intro l q h
    rw [rowsAt] at h
    split at h
    · cases h
    · rename_i l' q' h'
      have e1 := ih _ _ h'
      by_cases hz : tabOk (rowFDs 0) (tx.data.toList.drop q') = true
      · rw [if_pos hz] at h
        simp only [Option.some.injEq, Prod.mk.injEq] at h
        obtain ⟨rfl, rfl⟩ := h
        have h2 := tab_back _ _ hz
        rw [← rowL_pr _ (by rw [tabVs_len]; rfl)] at h2
        rw [rowsL_snoc, List.append_assoc, e1]
        congr 1
        rw [List.drop_drop] at h2
        exact h2
      · rw [if_neg hz] at h; cases h
/-- a manifest that is read is printed as it stood -/
theorem man_back {tx : ByteArray} (h : pmE tx = 0) : mfE (pmM tx) = 0 ∧ mfS (pmM tx) = tx := by
  unfold pmE at h
  split at h
  · rename_i h1
    split at h
    · rename_i h2
      refine ⟨h, ?_⟩
      unfold mfS
      rw [if_pos h]
      symm
      refine body_back (a := pmA3 tx) ?_ h2
      obtain ⟨h3, h4⟩ := cls_back h2
      unfold pmForm at h1
      simp only [Bool.and_eq_true] at h1
      obtain ⟨p1, p2, p3, p4⟩ := h1
      obtain ⟨⟨rs, q⟩, hr⟩ := Option.isSome_iff_exists.1 p3
      have hrs : pmRs tx = rs := by unfold pmRs; rw [hr]; rfl
      have hq : pmA2 tx = q := by unfold pmA2; rw [hr]; rfl
      have t1 := pfx_take p1
      have t2 := tab_back _ _ p2
      have t3 := rows_back _ _ _ hr
      have t4 := tab_back _ _ p4
      have n2 := tabN_le _ _ p2
      have hpl : manTitle.size ≤ tx.size := by have := pfx_le p1; rw [size_data] at this; exact this
      rw [List.length_drop, size_data] at n2
      have hA1 : pmA1 tx ≤ tx.size := by unfold pmA1; omega
      obtain ⟨l1, l2, l3⟩ := rowsAt_le hA1 _ _ _ hr
      rw [← headL_pr _ (by rw [tabVs_len]; rfl)] at t2
      rw [← tailL_pr _ (by rw [tabVs_len]; rfl)] at t4
      have hh : (pmM tx).hv = pmH tx := by
        show ((pmH tx).1, (pmH tx).2.1, (pmH tx).2.2.1, ((pmRs tx).length : Int)) = pmH tx
        rw [hrs, l1, ← (pmN_eq tx).1]
      unfold mfL
      rw [hh]
      show _ = manTitle.data.toList ++ (headL (pmH tx) ++ rowsL (pmRs tx) ++ tailL (pmT tx))
      rw [hrs]
      have a1 : tx.data.toList.drop (manTitle.size) = headL (pmH tx) ++ tx.data.toList.drop (pmA1 tx) := by
        rw [List.drop_drop] at t2; exact t2
      have a2 : tx.data.toList.drop q = tailL (pmT tx) ++ tx.data.toList.drop (pmA3 tx) := by
        rw [← hq]; rw [List.drop_drop] at t4; exact t4
      have a3 : tx.data.toList = (manTitle.data.toList ++ (headL (pmH tx) ++ rowsL rs ++ tailL (pmT tx))) ++ tx.data.toList.drop (pmA3 tx) := by
        have : tx.data.toList = manTitle.data.toList ++ tx.data.toList.drop manTitle.size := by rw [← t1, List.take_append_drop]
        rw [a1, t3, a2] at this
        simp only [List.append_assoc]
        exact this
      exact List.append_cancel_right ((List.take_append_drop (pmA3 tx) tx.data.toList).trans a3)
    · rename_i h2; exact absurd h h2
  · exact absurd h (by decide)
def nvS (n : NV) : List UInt8 := (noteS n.1 n.2.1 n.2.2.1 n.2.2.2).data.toList
def nvsL (l : List NV) : List UInt8 := l.flatMap nvS
def nvOk (n : NV) : Bool := noteOk n.1 n.2.1 n.2.2.1 n.2.2.2
theorem nvsL_snoc (l : List NV) (n : NV) : nvsL (l ++ [n]) = nvsL l ++ nvS n := by unfold nvsL; rw [List.flatMap_append, List.flatMap_cons, List.flatMap_nil, List.append_nil]
/-- the titles are told apart -/
theorem title_apart {a b : ByteArray} {l : List UInt8} (ha : pfx a l = true) (hb : pfx b l = true) : a.data.toList.take (min a.size b.size) = b.data.toList.take (min a.size b.size) := by
  rw [← pfx_take ha, ← pfx_take hb, List.take_take, List.take_take]
  congr 1
  omega
end Go.Proofs.YtgdopepghmjopaaGreatDoor
namespace Go.Proofs.YtgdopepghmjopaaGreatDoor
open Go.RowKit Go.Shelf
/-- a value that is read as it was written -/
def GoodF (f : FD) (v : Val) : Prop := (∃ b er, f.en.data.toList = b :: er ∧ isSep b = true) ∧ (∀ c ∈ prL f.sh v, isSep c = false) ∧ rdOk f.sh (prL f.sh v) = true ∧ (rdN f.sh (prL f.sh v), rdT f.sh (prL f.sh v)) = v
def Goods : List FD → List Val → Prop
  | f :: r, v :: vs => GoodF f v ∧ Goods r vs
  | [], [] => True
  | _, _ => False
theorem tabP_fwd : ∀ (ts : List FD) (vs : List Val), Goods ts vs → ∀ rest, tabOk ts (prT ts vs ++ rest) = true ∧ tabN ts (prT ts vs ++ rest) = (prT ts vs).length ∧ tabVs ts (prT ts vs ++ rest) = vs
  | [], [], _, rest => ⟨rfl, rfl, rfl⟩
  | f :: r, v :: vs, h, rest => by
    obtain ⟨⟨⟨b, er, he, hb⟩, h1, h2, h3⟩, h4⟩ := h
    obtain ⟨i1, i2, i3⟩ := tabP_fwd r vs h4 rest
    obtain ⟨j1, j2, j3⟩ := fld_fwd f (prL f.sh v) (prT r vs ++ rest) b er he hb h1 h2
    have e : prT (f :: r) (v :: vs) ++ rest = f.wd.data.toList ++ prL f.sh v ++ f.en.data.toList ++ (prT r vs ++ rest) := by
      show f.wd.data.toList ++ prL f.sh v ++ f.en.data.toList ++ prT r vs ++ rest = _
      rw [List.append_assoc _ (prT r vs) rest]
    have hd : (f.wd.data.toList ++ prL f.sh v ++ f.en.data.toList ++ (prT r vs ++ rest)).drop (f.wd.data.toList ++ prL f.sh v ++ f.en.data.toList).length = prT r vs ++ rest := List.drop_left
    rw [e]
    refine ⟨?_, ?_, ?_⟩
    · rw [tabOk, j1, j2, hd, i1]; rfl
    · rw [tabN, j2, hd, i2]
      show _ = (f.wd.data.toList ++ prL f.sh v ++ f.en.data.toList ++ prT r vs).length
      rw [@List.length_append _ (f.wd.data.toList ++ prL f.sh v ++ f.en.data.toList)]
    · rw [tabVs, j2, hd, i3, j3, h3]
  | [], _ :: _, h, _ => h.elim
  | _ :: _, [], h, _ => h.elim
theorem good_num {f : FD} (hs : f.sh = 0) {b : UInt8} (he : f.en.data.toList = [b]) (hb : isSep b = true) (n : Int) (h0 : 0 ≤ n) (h1 : n < 10000000000000000) : GoodF f (n, ⟨#[]⟩) := by
  obtain ⟨r1, r2, r3⟩ := rd_num n h0 h1
  refine ⟨⟨b, [], he, hb⟩, ?_, ?_, ?_⟩
  · rw [hs]; exact r3
  · rw [hs]; exact r1
  · rw [hs]
    show (rdN 0 (Lib.itoa n), rdT 0 (Lib.itoa n)) = _
    rw [r2]; rfl
theorem hexL_sep (l : List UInt8) : ∀ c ∈ hexL l, isSep c = false := by
  intro c hc
  have := List.all_eq_true.1 (unhexL_sep (hexL l) (by rw [unhex_hex]; rfl)) c hc
  simpa using this
theorem hexOk_hex (l : List UInt8) : hexOk (hexL l) l.length = true := by
  unfold hexOk
  rw [unhex_hex, hexL_len]
  simp
theorem hexV_hex (l : List UInt8) : hexV (hexL l) l.length = strOf l := by
  unfold hexV
  rw [if_pos (hexL_len l)]
  unfold unS
  rw [unhex_hex]; rfl
theorem good_sum {f : FD} (hs : f.sh = 1) {b : UInt8} (he : f.en.data.toList = [b]) (hb : isSep b = true) (n : Int) (h0 : 0 ≤ n) (h1 : n ≤ 4294967295) : GoodF f (n, ⟨#[]⟩) := by
  obtain ⟨u, rfl⟩ := Int.eq_ofNat_of_zero_le h0
  have e : prL 1 ((u : Int), ⟨#[]⟩) = hexL (be4 u) := by
    show hexL (be4 ((u : Int).toNat)) = _
    rw [Int.toNat_natCast]
  refine ⟨⟨b, [], he, hb⟩, ?_, ?_, ?_⟩
  · rw [hs, e]; exact hexL_sep _
  · rw [hs, e]
    show sumOk (hexL (be4 u)) = true
    unfold sumOk
    exact hexOk_hex (be4 u)
  · rw [hs, e]
    show ((sumV (hexL (be4 u)) : Int), (⟨#[]⟩ : ByteArray)) = _
    unfold sumV
    rw [show hexV (hexL (be4 u)) 4 = strOf (be4 u) from hexV_hex (be4 u), strOf_data, beV_be4 u (by omega)]
theorem good_hex {f : FD} (hs : f.sh = 2) {b : UInt8} (he : f.en.data.toList = [b]) (hb : isSep b = true) (t : ByteArray) (h : t.size = 16) : GoodF f (0, t) := by
  have hl : t.data.toList.length = 16 := by rw [size_data]; exact h
  have e : prL 2 (0, t) = hexL t.data.toList := rfl
  refine ⟨⟨b, [], he, hb⟩, ?_, ?_, ?_⟩
  · rw [hs, e]; exact hexL_sep _
  · rw [hs, e]
    show hexOk (hexL t.data.toList) 16 = true
    rw [← hl]
    exact hexOk_hex _
  · rw [hs, e]
    show ((0 : Int), hexV (hexL t.data.toList) 16) = _
    rw [← hl, hexV_hex, strOf_toList]
theorem good_txt {f : FD} (hs : f.sh = 3 ∨ f.sh = 4) {b : UInt8} (he : f.en.data.toList = [b]) (hb : isSep b = true) (t : ByteArray) (h0 : 0 < t.size) (h : ∀ c ∈ t.data.toList, isSep c = false) : GoodF f (0, t) := by
  have hne : (!t.data.toList.isEmpty) = true := by
    cases hd : t.data.toList with
    | nil => rw [← size_data, hd] at h0; simp at h0
    | cons a b => rfl
  rcases hs with hs | hs
  all_goals
    refine ⟨⟨b, [], he, hb⟩, ?_, ?_, ?_⟩
    · rw [hs]; exact h
    · rw [hs]; exact hne
    · rw [hs]
      show (0, strOf t.data.toList) = _
      rw [strOf_toList]
theorem nmL_sep : ∀ c ∈ nmL.data.toList, isSep c = false := by decide
theorem nm_sep {t : List UInt8} (h : isNm t = true) : ∀ c ∈ t, isSep c = false := by
  intro c hc
  unfold isNm at h
  simp only [Bool.and_eq_true] at h
  have h2 := h.1.1
  unfold allOf at h2
  have := List.all_eq_true.1 h2 c hc
  exact nmL_sep c (by simpa using this)
def rowVs (r : RV) : List Val := [(0, r.1), (r.2.1, ⟨#[]⟩), (r.2.2.1, ⟨#[]⟩), (0, r.2.2.2)]
theorem row_good {r : RV} (h : rowOk r = true) : Goods (rowFDs 0) (rowVs r) := by
  unfold rowOk nmOk inR at h
  simp only [Bool.and_eq_true, decide_eq_true_eq] at h
  obtain ⟨⟨⟨⟨⟨h1, h2⟩, h3⟩, h4, h5⟩, h6, h7⟩, h8, h9⟩ := h
  exact ⟨good_txt (.inl rfl) rfl rfl r.1 (by omega) (nm_sep h3), good_num rfl rfl rfl _ h4 (by omega), good_sum rfl rfl rfl _ h6 h7, good_hex rfl rfl rfl _ (by omega), trivial⟩
theorem row_fwd {r : RV} (h : rowOk r = true) (rest : List UInt8) : tabOk (rowFDs 0) (rowL r ++ rest) = true ∧ tabN (rowFDs 0) (rowL r ++ rest) = (rowL r).length ∧ rdRow (rowL r ++ rest) = r := by
  have e : rowL r = prT (rowFDs 0) (rowVs r) := rowL_pr (rowVs r) rfl
  obtain ⟨t1, t2, t3⟩ := tabP_fwd _ _ (row_good h) rest
  rw [e]
  refine ⟨t1, t2, ?_⟩
  unfold rdRow
  rw [t3]
  rfl
theorem rows_fwd {tx : ByteArray} {a : Nat} {rs : List RV} {rest : List UInt8} (hd : tx.data.toList.drop a = rowsL rs ++ rest) (hok : ∀ r ∈ rs, rowOk r = true) : ∀ k, k ≤ rs.length → rowsAt tx a k = some (rs.take k, a + (rowsL (rs.take k)).length)
  | 0, _ => by simp [rowsAt, rowsL]
  | k + 1, hk => by
    have ih := rows_fwd hd hok k (by omega)
    have hsp : rowsL rs = rowsL (rs.take k) ++ (rowL rs[k] ++ rowsL (rs.drop (k + 1))) := by
      have : rs = rs.take k ++ (rs[k] :: rs.drop (k + 1)) := by rw [← List.drop_eq_getElem_cons (by omega), List.take_append_drop]
      rw [congrArg rowsL this]
      unfold rowsL
      rw [List.flatMap_append, List.flatMap_cons]
    have hdk : tx.data.toList.drop (a + (rowsL (rs.take k)).length) = rowL rs[k] ++ (rowsL (rs.drop (k + 1)) ++ rest) := by
      rw [← List.drop_drop, hd, hsp, List.append_assoc, List.drop_left, List.append_assoc]
    obtain ⟨f1, f2, f3⟩ := row_fwd (hok rs[k] (List.getElem_mem _)) (rowsL (rs.drop (k + 1)) ++ rest)
    rw [rowsAt, ih]
    show (if tabOk (rowFDs 0) (tx.data.toList.drop (a + (rowsL (rs.take k)).length)) then _ else _) = _
    rw [hdk, if_pos f1, f2, f3, List.take_succ_eq_append_getElem (by omega), rowsL_snoc, List.length_append, Nat.add_assoc]
def headVs (x : HV) : List Val := [(0, x.1), (x.2.1, ⟨#[]⟩), (x.2.2.1, ⟨#[]⟩), (x.2.2.2, ⟨#[]⟩)]
def tailVs (x : TV) : List Val := [(x.1, ⟨#[]⟩), (x.2, ⟨#[]⟩)]
theorem head_good {x : HV} (h : headOk x = true) : Goods (headFDs 0 0) (headVs x) := by
  unfold headOk stOk inR at h
  simp only [Bool.and_eq_true, decide_eq_true_eq] at h
  obtain ⟨⟨⟨⟨⟨h1, h2⟩, h3⟩, h4, h5⟩, h6, h7⟩, h8, h9⟩ := h
  exact ⟨good_txt (.inr rfl) rfl rfl _ (by omega) (st_sep h3), good_num rfl rfl rfl _ (by omega) (by omega), good_num rfl rfl rfl _ (by omega) (by omega), good_num rfl rfl rfl _ (by omega) (by omega), trivial⟩
theorem tail_good {x : TV} (h : tailOk x = true) : Goods (tailFDs 0) (tailVs x) := by
  unfold tailOk inR at h
  simp only [Bool.and_eq_true, decide_eq_true_eq] at h
  obtain ⟨⟨h4, h5⟩, h6, h7⟩ := h
  exact ⟨good_num rfl rfl rfl _ (by omega) (by omega), good_sum rfl rfl rfl _ h6 h7, trivial⟩
/-- a printed manifest is read as it was -/
theorem man_fwd {m : MF} (h : mfE m = 0) : pmE (mfS m) = 0 ∧ pmM (mfS m) = m := by
  have h0 := h
  unfold mfE at h0
  split at h0
  · rename_i hf
    unfold mfFit at hf
    simp only [Bool.and_eq_true] at hf
    obtain ⟨⟨h1, h2⟩, h3⟩ := hf
    have hrow := rowsOk_all h3
    obtain ⟨tx, htx⟩ : ∃ tx, tx = mfS m := ⟨_, rfl⟩
    rw [← htx]
    have hS : tx.data.toList = manTitle.data.toList ++ mfL m ++ sealL sumWd (crcN 0 (manTitle.data.toList ++ mfL m)) := by
      rw [htx]; unfold mfS; rw [if_pos h]; unfold paperS
      rw [ba_app, ba_app, strOf_data, strOf_data]
    have hcl := cls_fwd hS
    generalize hSS : sealL sumWd (crcN 0 (manTitle.data.toList ++ mfL m)) = SS at *
    have eh : headL m.hv = prT (headFDs 0 0) (headVs m.hv) := headL_pr (headVs m.hv) rfl
    have et : tailL m.tv = prT (tailFDs 0) (tailVs m.tv) := tailL_pr (tailVs m.tv) rfl
    have d1 : tx.data.toList.drop manTitle.size = headL m.hv ++ (rowsL m.rs ++ (tailL m.tv ++ SS)) := by
      rw [hS, List.append_assoc, ← size_data, List.drop_left]
      unfold mfL
      simp only [List.append_assoc]
    obtain ⟨a1, a2, a3⟩ := tabP_fwd _ _ (head_good h1) (rowsL m.rs ++ (tailL m.tv ++ SS))
    rw [← eh, ← d1] at a1 a2 a3
    have eH : pmH tx = m.hv := by unfold pmH rdHead; rw [a3]; rfl
    have eN : pmN tx = m.rs.length := by unfold pmN; rw [eH]; exact Int.toNat_natCast _
    have eA1 : pmA1 tx = manTitle.size + (headL m.hv).length := by unfold pmA1; rw [a2]
    have d2 : tx.data.toList.drop (pmA1 tx) = rowsL m.rs ++ (tailL m.tv ++ SS) := by rw [eA1, ← List.drop_drop, d1, List.drop_left]
    have eR : pmR tx = some (m.rs, pmA1 tx + (rowsL m.rs).length) := by
      unfold pmR
      rw [eN]
      have := rows_fwd d2 hrow m.rs.length (Nat.le_refl _)
      rw [List.take_length] at this
      exact this
    have eA2 : pmA2 tx = pmA1 tx + (rowsL m.rs).length := by unfold pmA2; rw [eR]; rfl
    have eRs : pmRs tx = m.rs := by unfold pmRs; rw [eR]; rfl
    have d3 : tx.data.toList.drop (pmA2 tx) = tailL m.tv ++ SS := by rw [eA2, ← List.drop_drop, d2, List.drop_left]
    obtain ⟨b1, b2, b3⟩ := tabP_fwd _ _ (tail_good h2) SS
    rw [← et, ← d3] at b1 b2 b3
    have eT : pmT tx = m.tv := by unfold pmT rdTail; rw [b3]; rfl
    have eA3 : pmA3 tx = (manTitle.data.toList ++ mfL m).length := by
      unfold pmA3
      rw [b2, eA2, eA1]
      unfold mfL
      simp only [List.length_append, size_data]
      omega
    have eM : pmM tx = m := by unfold pmM; rw [eH, eRs, eT]; rfl
    refine ⟨?_, eM⟩
    unfold pmE pmForm
    rw [eM, eA3, hcl, h, a1, b1, eR]
    have : pfx manTitle tx.data.toList = true := by rw [hS, List.append_assoc]; exact pfx_of_take (by rw [← size_data, List.take_left])
    rw [this]
    rfl
  · exact absurd h0 (by decide)
end Go.Proofs.YtgdopepghmjopaaGreatDoor
