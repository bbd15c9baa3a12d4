import Derived.Test.YtfpalfpfijcpbaaGreatDoorGPmFwd
import Derived.Test.YtfpalfpfijcpbaaGreatDoorGPnSame
import Derived.Test.YtfpalfpfijcpbaaGreatDoorGDaAlg
namespace Go.Proofs.YtfpalfpfijcpbaaGreatDoor
open Go.RowKit Go.Shelf
/-- a value that is read as it was written -/
def GoodF (f : FD) (v : Val) : Prop := (∃ b er, f.en.data.toList = b :: er ∧ isSep b = true) ∧ (∀ c ∈ prL f.sh v, isSep c = false) ∧ rdOk f.sh (prL f.sh v) = true ∧ (rdN f.sh (prL f.sh v), rdT f.sh (prL f.sh v)) = v
def Goods : List FD → List Val → Prop
  | f :: r, v :: vs => GoodF f v ∧ Goods r vs
  | [], [] => True
  | _, _ => False
theorem tabP_fwd : ∀ (ts : List FD) (vs : List Val), Goods ts vs → ∀ rest, tabOk ts (prT ts vs ++ rest) = true ∧ tabN ts (prT ts vs ++ rest) = (prT ts vs).length ∧ tabVs ts (prT ts vs ++ rest) = vs
  | [], [], _, rest => ⟨rfl, rfl, rfl⟩
  | f :: r, v :: vs, h, rest => by
    obtain ⟨⟨⟨b, er, he, hb⟩, h1, h2, h3⟩, h4⟩ := h
    obtain ⟨i1, i2, i3⟩ := tabP_fwd r vs h4 rest
    obtain ⟨j1, j2, j3⟩ := fld_fwd f (prL f.sh v) (prT r vs ++ rest) b er he hb h1 h2
    have e : prT (f :: r) (v :: vs) ++ rest = f.wd.data.toList ++ prL f.sh v ++ f.en.data.toList ++ (prT r vs ++ rest) := by
      show f.wd.data.toList ++ prL f.sh v ++ f.en.data.toList ++ prT r vs ++ rest = _
      rw [List.append_assoc _ (prT r vs) rest]
    have hd : (f.wd.data.toList ++ prL f.sh v ++ f.en.data.toList ++ (prT r vs ++ rest)).drop (f.wd.data.toList ++ prL f.sh v ++ f.en.data.toList).length = prT r vs ++ rest := List.drop_left
    rw [e]
    refine ⟨?_, ?_, ?_⟩
    · rw [tabOk, j1, j2, hd, i1]; rfl
    · rw [tabN, j2, hd, i2]
      show _ = (f.wd.data.toList ++ prL f.sh v ++ f.en.data.toList ++ prT r vs).length
      rw [@List.length_append _ (f.wd.data.toList ++ prL f.sh v ++ f.en.data.toList)]
    · rw [tabVs, j2, hd, i3, j3, h3]
  | [], _ :: _, h, _ => h.elim
  | _ :: _, [], h, _ => h.elim
theorem good_num {f : FD} (hs : f.sh = 0) {b : UInt8} (he : f.en.data.toList = [b]) (hb : isSep b = true) (n : Int) (h0 : 0 ≤ n) (h1 : n < 10000000000000000) : GoodF f (n, ⟨#[]⟩) := by
  obtain ⟨r1, r2, r3⟩ := rd_num n h0 h1
  refine ⟨⟨b, [], he, hb⟩, ?_, ?_, ?_⟩
  · rw [hs]; exact r3
  · rw [hs]; exact r1
  · rw [hs]
    show (rdN 0 (Lib.itoa n), rdT 0 (Lib.itoa n)) = _
    rw [r2]; rfl
theorem hexL_sep (l : List UInt8) : ∀ c ∈ hexL l, isSep c = false := by
  intro c hc
  have := List.all_eq_true.1 (unhexL_sep (hexL l) (by rw [unhex_hex]; rfl)) c hc
  simpa using this
theorem hexOk_hex (l : List UInt8) : hexOk (hexL l) l.length = true := by
  unfold hexOk
  rw [unhex_hex, hexL_len]
  simp
theorem hexV_hex (l : List UInt8) : hexV (hexL l) l.length = strOf l := by
  unfold hexV
  rw [if_pos (hexL_len l)]
  unfold unS
  rw [unhex_hex]; rfl
theorem good_sum {f : FD} (hs : f.sh = 1) {b : UInt8} (he : f.en.data.toList = [b]) (hb : isSep b = true) (n : Int) (h0 : 0 ≤ n) (h1 : n ≤ 4294967295) : GoodF f (n, ⟨#[]⟩) := by
  obtain ⟨u, rfl⟩ := Int.eq_ofNat_of_zero_le h0
  have e : prL 1 ((u : Int), ⟨#[]⟩) = hexL (be4 u) := by
    show hexL (be4 ((u : Int).toNat)) = _
    rw [Int.toNat_natCast]
  refine ⟨⟨b, [], he, hb⟩, ?_, ?_, ?_⟩
  · rw [hs, e]; exact hexL_sep _
  · rw [hs, e]
    show sumOk (hexL (be4 u)) = true
    unfold sumOk
    exact hexOk_hex (be4 u)
  · rw [hs, e]
    show ((sumV (hexL (be4 u)) : Int), (⟨#[]⟩ : ByteArray)) = _
    unfold sumV
    rw [show hexV (hexL (be4 u)) 4 = strOf (be4 u) from hexV_hex (be4 u), strOf_data, beV_be4 u (by omega)]
theorem good_hex {f : FD} (hs : f.sh = 2) {b : UInt8} (he : f.en.data.toList = [b]) (hb : isSep b = true) (t : ByteArray) (h : t.size = 16) : GoodF f (0, t) := by
  have hl : t.data.toList.length = 16 := by rw [size_data]; exact h
  have e : prL 2 (0, t) = hexL t.data.toList := rfl
  refine ⟨⟨b, [], he, hb⟩, ?_, ?_, ?_⟩
  · rw [hs, e]; exact hexL_sep _
  · rw [hs, e]
    show hexOk (hexL t.data.toList) 16 = true
    rw [← hl]
    exact hexOk_hex _
  · rw [hs, e]
    show ((0 : Int), hexV (hexL t.data.toList) 16) = _
    rw [← hl, hexV_hex, strOf_toList]
theorem good_txt {f : FD} (hs : f.sh = 3 ∨ f.sh = 4) {b : UInt8} (he : f.en.data.toList = [b]) (hb : isSep b = true) (t : ByteArray) (h0 : 0 < t.size) (h : ∀ c ∈ t.data.toList, isSep c = false) : GoodF f (0, t) := by
  have hne : (!t.data.toList.isEmpty) = true := by
    cases hd : t.data.toList with
    | nil => rw [← size_data, hd] at h0; simp at h0
    | cons a b => rfl
  rcases hs with hs | hs
  all_goals
    refine ⟨⟨b, [], he, hb⟩, ?_, ?_, ?_⟩
    · rw [hs]; exact h
    · rw [hs]; exact hne
    · rw [hs]
      show (0, strOf t.data.toList) = _
      rw [strOf_toList]
theorem nmL_sep : ∀ c ∈ nmL.data.toList, isSep c = false := by decide
theorem nm_sep {t : List UInt8} (h : isNm t = true) : ∀ c ∈ t, isSep c = false := by
  intro c hc
  unfold isNm at h
  simp only [Bool.and_eq_true] at h
  have h2 := h.1.1
  unfold allOf at h2
  have := List.all_eq_true.1 h2 c hc
  exact nmL_sep c (by simpa using this)
def rowVs (r : RV) : List Val := [(0, r.1), (r.2.1, ⟨#[]⟩), (r.2.2.1, ⟨#[]⟩), (0, r.2.2.2)]
theorem row_good {r : RV} (h : rowOk r = true) : Goods (rowFDs 0) (rowVs r) := by
  unfold rowOk nmOk inR at h
  simp only [Bool.and_eq_true, decide_eq_true_eq] at h
  obtain ⟨⟨⟨⟨⟨h1, h2⟩, h3⟩, h4, h5⟩, h6, h7⟩, h8, h9⟩ := h
  exact ⟨good_txt (.inl rfl) rfl rfl r.1 (by omega) (nm_sep h3), good_num rfl rfl rfl _ h4 (by omega), good_sum rfl rfl rfl _ h6 h7, good_hex rfl rfl rfl _ (by omega), trivial⟩
theorem row_fwd {r : RV} (h : rowOk r = true) (rest : List UInt8) : tabOk (rowFDs 0) (rowL r ++ rest) = true ∧ tabN (rowFDs 0) (rowL r ++ rest) = (rowL r).length ∧ rdRow (rowL r ++ rest) = r := by
  have e : rowL r = prT (rowFDs 0) (rowVs r) := rowL_pr (rowVs r) rfl
  obtain ⟨t1, t2, t3⟩ := tabP_fwd _ _ (row_good h) rest
  rw [e]
  refine ⟨t1, t2, ?_⟩
  unfold rdRow
  rw [t3]
  rfl
theorem rows_fwd {tx : ByteArray} {a : Nat} {rs : List RV} {rest : List UInt8} (hd : tx.data.toList.drop a = rowsL rs ++ rest) (hok : ∀ r ∈ rs, rowOk r = true) : ∀ k, k ≤ rs.length → rowsAt tx a k = some (rs.take k, a + (rowsL (rs.take k)).length)
  | 0, _ => by simp [rowsAt, rowsL]
  | k + 1, hk => by
    have ih := rows_fwd hd hok k (by omega)
    have hsp : rowsL rs = rowsL (rs.take k) ++ (rowL rs[k] ++ rowsL (rs.drop (k + 1))) := by
      have : rs = rs.take k ++ (rs[k] :: rs.drop (k + 1)) := by rw [← List.drop_eq_getElem_cons (by omega), List.take_append_drop]
      rw [congrArg rowsL this]
      unfold rowsL
      rw [List.flatMap_append, List.flatMap_cons]
    have hdk : tx.data.toList.drop (a + (rowsL (rs.take k)).length) = rowL rs[k] ++ (rowsL (rs.drop (k + 1)) ++ rest) := by
      rw [← List.drop_drop, hd, hsp, List.append_assoc, List.drop_left, List.append_assoc]
    obtain ⟨f1, f2, f3⟩ := row_fwd (hok rs[k] (List.getElem_mem _)) (rowsL (rs.drop (k + 1)) ++ rest)
    rw [rowsAt, ih]
    show (if tabOk (rowFDs 0) (tx.data.toList.drop (a + (rowsL (rs.take k)).length)) then _ else _) = _
    rw [hdk, if_pos f1, f2, f3, List.take_succ_eq_append_getElem (by omega), rowsL_snoc, List.length_append, Nat.add_assoc]
def headVs (x : HV) : List Val := [(0, x.1), (x.2.1, ⟨#[]⟩), (x.2.2.1, ⟨#[]⟩), (x.2.2.2, ⟨#[]⟩)]
def tailVs (x : TV) : List Val := [(x.1, ⟨#[]⟩), (x.2, ⟨#[]⟩)]
theorem head_good {x : HV} (h : headOk x = true) : Goods (headFDs 0 0) (headVs x) := by
  unfold headOk stOk inR at h
  simp only [Bool.and_eq_true, decide_eq_true_eq] at h
  obtain ⟨⟨⟨⟨⟨h1, h2⟩, h3⟩, h4, h5⟩, h6, h7⟩, h8, h9⟩ := h
  exact ⟨good_txt (.inr rfl) rfl rfl _ (by omega) (st_sep h3), good_num rfl rfl rfl _ (by omega) (by omega), good_num rfl rfl rfl _ (by omega) (by omega), good_num rfl rfl rfl _ (by omega) (by omega), trivial⟩
theorem tail_good {x : TV} (h : tailOk x = true) : Goods (tailFDs 0) (tailVs x) := by
  unfold tailOk inR at h
  simp only [Bool.and_eq_true, decide_eq_true_eq] at h
  obtain ⟨⟨h4, h5⟩, h6, h7⟩ := h
  exact ⟨good_num rfl rfl rfl _ (by omega) (by omega), good_sum rfl rfl rfl _ h6 h7, trivial⟩
/-- a printed manifest is read as it was -/
theorem man_fwd {m : MF} (h : mfE m = 0) : pmE (mfS m) = 0 ∧ pmM (mfS m) = m := by
  have h0 := h
  unfold mfE at h0
  split at h0
  · rename_i hf
    unfold mfFit at hf
    simp only [Bool.and_eq_true] at hf
    obtain ⟨⟨h1, h2⟩, h3⟩ := hf
    have hrow := rowsOk_all h3
    obtain ⟨tx, htx⟩ : ∃ tx, tx = mfS m := ⟨_, rfl⟩
    rw [← htx]
    have hS : tx.data.toList = manTitle.data.toList ++ mfL m ++ sealL sumWd (crcN 0 (manTitle.data.toList ++ mfL m)) := by
      rw [htx]; unfold mfS; rw [if_pos h]; unfold paperS
      rw [ba_app, ba_app, strOf_data, strOf_data]
    have hcl := cls_fwd hS
    generalize hSS : sealL sumWd (crcN 0 (manTitle.data.toList ++ mfL m)) = SS at *
    have eh : headL m.hv = prT (headFDs 0 0) (headVs m.hv) := headL_pr (headVs m.hv) rfl
    have et : tailL m.tv = prT (tailFDs 0) (tailVs m.tv) := tailL_pr (tailVs m.tv) rfl
    have d1 : tx.data.toList.drop manTitle.size = headL m.hv ++ (rowsL m.rs ++ (tailL m.tv ++ SS)) := by
      rw [hS, List.append_assoc, ← size_data, List.drop_left]
      unfold mfL
      simp only [List.append_assoc]
    obtain ⟨a1, a2, a3⟩ := tabP_fwd _ _ (head_good h1) (rowsL m.rs ++ (tailL m.tv ++ SS))
    rw [← eh, ← d1] at a1 a2 a3
    have eH : pmH tx = m.hv := by unfold pmH rdHead; rw [a3]; rfl
    have eN : pmN tx = m.rs.length := by unfold pmN; rw [eH]; exact Int.toNat_natCast _
    have eA1 : pmA1 tx = manTitle.size + (headL m.hv).length := by unfold pmA1; rw [a2]
    have d2 : tx.data.toList.drop (pmA1 tx) = rowsL m.rs ++ (tailL m.tv ++ SS) := by rw [eA1, ← List.drop_drop, d1, List.drop_left]
    have eR : pmR tx = some (m.rs, pmA1 tx + (rowsL m.rs).length) := by
      unfold pmR
      rw [eN]
      have := rows_fwd d2 hrow m.rs.length (Nat.le_refl _)
      rw [List.take_length] at this
      exact this
    have eA2 : pmA2 tx = pmA1 tx + (rowsL m.rs).length := by unfold pmA2; rw [eR]; rfl
    have eRs : pmRs tx = m.rs := by unfold pmRs; rw [eR]; rfl
    have d3 : tx.data.toList.drop (pmA2 tx) = tailL m.tv ++ SS := by rw [eA2, ← List.drop_drop, d2, List.drop_left]
    obtain ⟨b1, b2, b3⟩ := tabP_fwd _ _ (tail_good h2) SS
    rw [← et, ← d3] at b1 b2 b3
    have eT : pmT tx = m.tv := by unfold pmT rdTail; rw [b3]; rfl
    have eA3 : pmA3 tx = (manTitle.data.toList ++ mfL m).length := by
      unfold pmA3
      rw [b2, eA2, eA1]
      unfold mfL
      simp only [List.length_append, size_data]
      omega
    have eM : pmM tx = m := by unfold pmM; rw [eH, eRs, eT]; rfl
    refine ⟨?_, eM⟩
    unfold pmE pmForm
    rw [eM, eA3, hcl, h, a1, b1, eR]
    have : pfx manTitle tx.data.toList = true := by rw [hS, List.append_assoc]; exact pfx_of_take (by rw [← size_data, List.take_left])
    rw [this]
    rfl
  · exact absurd h0 (by decide)
end Go.Proofs.YtfpalfpfijcpbaaGreatDoor
namespace Go.Proofs.YtfpalfpfijcpbaaGreatDoor
open Go.RowKit Go.Shelf
def nOk (n : NV) : Prop := noteOk n.1 n.2.1 n.2.2.1 n.2.2.2 = true
def nS (n : NV) : ByteArray := noteS n.1 n.2.1 n.2.2.1 n.2.2.2
/-- a journal -/
def jl (ns : List NV) : List UInt8 := ns.flatMap fun n => (nS n).data.toList
theorem jl_snoc (ns : List NV) (n : NV) : jl (ns ++ [n]) = jl ns ++ (nS n).data.toList := by simp [jl]
theorem jl_take (ns : List NV) (k : Nat) (hk : k < ns.length) : jl (ns.take (k + 1)) = jl (ns.take k) ++ (nS ns[k]).data.toList := by
  rw [List.take_succ_eq_append_getElem hk, jl_snoc]
theorem jl_split (ns : List NV) (k : Nat) : jl ns = jl (ns.take k) ++ jl (ns.drop k) := by
  unfold jl; rw [← List.flatMap_append, List.take_append_drop]
/-- of a journal the notes are read, whatever stands behind it -/
theorem notes_of {ns : List NV} (hg : ∀ n ∈ ns, nOk n) {tx : ByteArray} {Y : List UInt8} (h : tx.data.toList = jl ns ++ Y) : ∀ k, k ≤ ns.length → notesAt tx k = some (ns.take k, (jl (ns.take k)).length) := by
  intro k
  induction k with
  | zero => intro _; rfl
  | succ k ih =>
    intro hk
    have hk' : k < ns.length := by omega
    have hlen : (jl (ns.take k)).length ≤ tx.size := by rw [← size_data, h, jl_split ns k, List.length_append, List.length_append]; omega
    have hdr : tx.data.toList.drop (jl (ns.take k)).length = (nS ns[k]).data.toList ++ (jl (ns.drop (k + 1)) ++ Y) := by
      rw [h, jl_split ns (k + 1), jl_take ns k hk', List.append_assoc, List.append_assoc, List.drop_left]
    have hok : nOk ns[k] := hg _ (List.getElem_mem hk')
    obtain ⟨f1, f2⟩ := note_fwd hok hlen (by
      show pfx (nS ns[k]) _ = true
      rw [hdr]
      exact pfx_of_take (by rw [← size_data, List.take_left]))
    have hpos : nsz tx (jl (ns.take k)).length ≠ 0 := by
      rw [f2]
      unfold noteS
      rw [if_pos (show noteOk ns[k].1 ns[k].2.1 ns[k].2.2.1 ns[k].2.2.2 = true from hok), ByteArray.size_append, strOf_size, strOf_size, sealL_len]
      omega
    have := notes_step (ih (by omega)) hpos
    rw [this, f1, f2, List.take_succ_eq_append_getElem hk', jl_snoc, List.length_append, size_data]
    rfl
/-- where no line feed stands behind a place, no note stands there -/
theorem nsz_none {tx : ByteArray} {q : Nat} (h : ∀ c ∈ tx.data.toList.drop q, c ≠ 10) : nsz tx q = 0 := by
  unfold nsz ntSize
  cases hok : ntOk (restS tx q) with
  | false => rfl
  | true =>
    exfalso
    unfold ntOk at hok
    simp only [Bool.and_eq_true] at hok
    have h2 := hok.2.1
    unfold unsFit at h2
    simp only [Bool.and_eq_true] at h2
    have h3 : fldOk (sumFD ⟨#[]⟩ 0) ((restS tx q).data.toList.drop (ntN (restS tx q))) = true := h2.1
    rw [(fld_sum (f := sumFD ⟨#[]⟩ 0) (e := 10) rfl rfl rfl rfl _).1, Bool.and_eq_true] at h3
    have h4 := (pfx_nl (h3.2 : pfx nl _ = true)).2
    have h5 := List.mem_of_getElem? h4
    rw [restS_data] at h5
    exact h 10 (List.mem_of_mem_drop h5) rfl
theorem hd_ne : ∀ n : Fin 16, hd n.1 ≠ 10 := by decide
theorem hexL_ne : ∀ (l : List UInt8), ∀ c ∈ hexL l, c ≠ 10
  | [], c, h => by cases h
  | b :: r, c, h => by
    have hb := b.toNat_lt
    rcases List.mem_cons.1 h with rfl | h
    · exact hd_ne ⟨b.toNat / 16, by omega⟩
    · rcases List.mem_cons.1 h with rfl | h
      · exact hd_ne ⟨b.toNat % 16, by omega⟩
      · exact hexL_ne r c h
theorem dec_ne (u : Nat) : ∀ c ∈ Lib.decDigits u, c ≠ 10 := by
  intro c hc e
  have := (dec_facts u).1
  rw [List.all_eq_true] at this
  have := this c hc
  rw [e] at this
  revert this
  decide
/-- a line's only line feed is its last byte -/
theorem line_ne {n : NV} (h : nOk n) : ∀ c ∈ (nS n).data.toList.take ((nS n).size - 1), c ≠ 10 := by
  obtain ⟨c, p, e, s⟩ := n
  have hok : noteOk c p e s = true := h
  have hok' := hok
  unfold noteOk inR at hok'
  simp only [Bool.and_eq_true, decide_eq_true_eq] at hok'
  obtain ⟨⟨⟨⟨c0, c1⟩, p0, p1⟩, e0, e1⟩, s0, s1⟩ := hok'
  have hS : (nS (c, p, e, s)).data.toList = (noteL c p e s ++ hexL (be4 (crcN 0 (noteL c p e s)))) ++ [10] := by
    show (noteS c p e s).data.toList = _
    unfold noteS
    rw [if_pos hok, ba_app, strOf_data, strOf_data]
    unfold sealL
    simp only [List.append_assoc]
    rfl
  have hsz : (nS (c, p, e, s)).size - 1 = (noteL c p e s ++ hexL (be4 (crcN 0 (noteL c p e s)))).length := by rw [← size_data, hS, List.length_append]; simp
  rw [hsz, hS, List.take_left]
  have hit : ∀ n : Int, 0 ≤ n → ∀ x ∈ Lib.itoa n, x ≠ 10 := fun n hn x hx => by
    unfold Lib.itoa at hx; rw [if_neg (by omega)] at hx; exact dec_ne _ x hx
  intro x hx
  rcases List.mem_append.1 hx with hx | hx
  · unfold noteL at hx
    simp only [List.mem_append, List.not_mem_nil, List.mem_singleton, false_or] at hx
    rcases hx with (((hx | hx) | (hx | hx)) | (hx | hx)) | (hx | hx)
    · exact hit c (by omega) x hx
    · subst hx; decide
    · exact hit p (by omega) x hx
    · subst hx; decide
    · exact hit e (by omega) x hx
    · subst hx; decide
    · exact hexL_ne _ x hx
    · subst hx; decide
  · exact hexL_ne _ x hx
/-- of a journal whose last line is torn just the whole lines are read -/
theorem torn_notes {ns : List NV} (hg : ∀ n ∈ ns, nOk n) {n : NV} (hn : nOk n) {k : Nat} (hk : k < (nS n).size) {tx : ByteArray} (h : tx.data.toList = jl ns ++ (nS n).data.toList.take k) : notesAt tx ns.length = some (ns, (jl ns).length) ∧ nsz tx (jl ns).length = 0 := by
  have h1 := notes_of hg h ns.length (Nat.le_refl _)
  rw [List.take_length] at h1
  refine ⟨h1, nsz_none ?_⟩
  rw [h, List.drop_left]
  intro c hc
  refine line_ne hn c ?_
  have : (nS n).data.toList.take k = ((nS n).data.toList.take ((nS n).size - 1)).take k := by rw [List.take_take]; congr 1; omega
  rw [this] at hc
  exact List.mem_of_mem_take hc
end Go.Proofs.YtfpalfpfijcpbaaGreatDoor
namespace Go.Proofs.YtfpalfpfijcpbaaGreatDoor
open Go.RowKit Go.Shelf
theorem crcW_inj {d e : Nat} (hd : d < 4294967296) (he : e < 4294967296) (l : List UInt8) (h : crcW d l = crcW e l) : d = e := by
  have h1 := crcW_lin d (d ^^^ e) l
  rw [← Nat.xor_assoc, Nat.xor_self, Nat.zero_xor, ← h] at h1
  have h0 : stps (8 * l.length) (d ^^^ e) = 0 := by
    have := congrArg (crcW d l ^^^ ·) h1
    simp only [← Nat.xor_assoc, Nat.xor_self, Nat.zero_xor] at this
    exact this.symm
  apply xor_eq_zero'
  rcases Nat.eq_zero_or_pos (d ^^^ e) with h2 | h2
  · exact h2
  · exact absurd h0 (stps_ne _ (xor32_lt hd he) (by omega))
theorem crcB_inj {w a b : Nat} (ha : a < 256) (hb : b < 256) (h : crcB w a = crcB w b) : a = b := by
  rw [crcB_eq, crcB_eq] at h
  have h0 : stps 8 (a ^^^ b) = 0 := by
    have h1 : (w ^^^ a) ^^^ (w ^^^ b) = a ^^^ b := by
      rw [Nat.xor_comm w a, Nat.xor_comm w b]; exact xor_cancel a b w
    rw [← h1, stps_xor, h, Nat.xor_self]
  apply xor_eq_zero'
  rcases Nat.eq_zero_or_pos (a ^^^ b) with h2 | h2
  · exact h2
  · exact absurd h0 (stps_ne _ (xor32_lt (by omega) (by omega)) (by omega))
/-- one byte turned into another turns the sum into another -/
theorem crc_byte (x y : List UInt8) (b c : UInt8) (h : crcN 0 (x ++ b :: y) = crcN 0 (x ++ c :: y)) : b = c := by
  unfold crcN at h
  have h1 := congrArg (4294967295 ^^^ ·) h
  simp only [not_not32] at h1
  rw [crcW_append, crcW_append] at h1
  have hw := crcW_lt (w := 4294967295 ^^^ 0) x (by decide)
  generalize crcW (4294967295 ^^^ 0) x = w at h1 hw
  have h2 : crcW (crcB w b.toNat) y = crcW (crcB w c.toNat) y := h1
  have h3 := crcW_inj (crcB_lt hw b.toNat_lt) (crcB_lt hw c.toNat_lt) y h2
  exact UInt8.toNat_inj.1 (crcB_inj b.toNat_lt c.toNat_lt h3)
/-- the form of a line -/
def Line (T : List UInt8) (u : List UInt8) : Prop := T = (u ++ [32]) ++ (hexL (be4 (crcN 0 (u ++ [32]))) ++ [10]) ∧ u.count 32 = 3 ∧ ∀ x ∈ u, x ≠ 10
theorem count_dec (n : Int) (hn : 0 ≤ n) : (Lib.itoa n).count 32 = 0 := by
  rw [List.count_eq_zero]
  intro h
  unfold Lib.itoa at h
  rw [if_neg (by omega)] at h
  have := (dec_facts n.toNat).1
  rw [List.all_eq_true] at this
  have := this _ h
  revert this
  decide
theorem hd_nb : ∀ n : Fin 16, hd n.1 ≠ 32 := by decide
theorem hexL_nb : ∀ (l : List UInt8), ∀ c ∈ hexL l, c ≠ 32
  | [], c, h => by cases h
  | b :: r, c, h => by
    have hb := b.toNat_lt
    rcases List.mem_cons.1 h with rfl | h
    · exact hd_nb ⟨b.toNat / 16, by omega⟩
    · rcases List.mem_cons.1 h with rfl | h
      · exact hd_nb ⟨b.toNat % 16, by omega⟩
      · exact hexL_nb r c h
theorem line_of {n : NV} (h : nOk n) : ∃ u, Line (nS n).data.toList u := by
  obtain ⟨c, p, e, s⟩ := n
  have hok : noteOk c p e s = true := h
  have hok' := hok
  unfold noteOk inR at hok'
  simp only [Bool.and_eq_true, decide_eq_true_eq] at hok'
  obtain ⟨⟨⟨⟨c0, c1⟩, p0, p1⟩, e0, e1⟩, s0, s1⟩ := hok'
  have hit : ∀ n : Int, 0 ≤ n → ∀ x ∈ Lib.itoa n, x ≠ 10 := fun n hn x hx => by
    unfold Lib.itoa at hx; rw [if_neg (by omega)] at hx; exact dec_ne _ x hx
  have hx : (hexL (be4 s.toNat)).count 32 = 0 := by rw [List.count_eq_zero]; exact fun h => hexL_nb _ _ h rfl
  refine ⟨Lib.itoa c ++ [32] ++ (Lib.itoa p ++ [32]) ++ (Lib.itoa e ++ [32]) ++ hexL (be4 s.toNat), ?_, ?_, ?_⟩
  · have hN : noteL c p e s = Lib.itoa c ++ [32] ++ (Lib.itoa p ++ [32]) ++ (Lib.itoa e ++ [32]) ++ hexL (be4 s.toNat) ++ [32] := by unfold noteL; simp only [List.nil_append, List.append_assoc]
    rw [← hN]
    show (noteS c p e s).data.toList = _
    unfold noteS
    rw [if_pos hok, ba_app, strOf_data, strOf_data]
    rfl
  · simp only [List.count_append, count_dec c (by omega), count_dec p (by omega), count_dec e (by omega), hx]
    rfl
  · intro x hx'
    simp only [List.mem_append, List.mem_singleton] at hx'
    rcases hx' with (((hx' | hx') | (hx' | hx')) | (hx' | hx')) | hx'
    · exact hit c (by omega) x hx'
    · subst hx'; decide
    · exact hit p (by omega) x hx'
    · subst hx'; decide
    · exact hit e (by omega) x hx'
    · subst hx'; decide
    · exact hexL_ne _ x hx'
theorem Line.len {T u : List UInt8} (h : Line T u) : T.length = u.length + 10 := by
  rw [h.1]; simp only [List.length_append, hexL_len]; rfl
theorem Line.last {T u : List UInt8} (h : Line T u) : T[u.length + 9]? = some 10 := by
  have hx : (hexL (be4 (crcN 0 (u ++ [32])))).length = 8 := by rw [hexL_len]; rfl
  have e : T = (u ++ [32] ++ hexL (be4 (crcN 0 (u ++ [32])))) ++ [10] := by rw [h.1]; simp only [List.append_assoc]
  rw [e, List.getElem?_append_right (by simp [hx]), show u.length + 9 - (u ++ [(32 : UInt8)] ++ hexL (be4 (crcN 0 (u ++ [(32 : UInt8)])))).length = 0 by simp [hx]]
  rfl
theorem Line.inner {T u : List UInt8} (h : Line T u) {i : Nat} (hi : i < u.length + 9) : T[i]? ≠ some 10 := by
  have hx : (hexL (be4 (crcN 0 (u ++ [32])))).length = 8 := by rw [hexL_len]; rfl
  have e : T = (u ++ [32] ++ hexL (be4 (crcN 0 (u ++ [32])))) ++ [10] := by rw [h.1]; simp only [List.append_assoc]
  intro q
  rw [e, List.getElem?_append_left (by simp [hx]; omega)] at q
  have hm := List.mem_of_getElem? q
  simp only [List.mem_append, List.mem_singleton] at hm
  rcases hm with (hm | hm) | hm
  · exact h.2.2 _ hm rfl
  · exact absurd hm (by decide)
  · exact hexL_ne _ _ hm rfl
theorem Line.head {T u : List UInt8} (h : Line T u) : T.take (u.length + 1) = u ++ [32] := by
  rw [h.1, List.take_left' (by simp)]
theorem Line.few {T u : List UInt8} (h : Line T u) {k : Nat} (hk : k ≤ u.length) : (T.take k).count 32 ≤ 3 := by
  have e : T.take k = u.take k := by
    rw [h.1, List.append_assoc, List.take_append_of_le_length hk]
  rw [e, ← h.2.1]
  exact (List.take_sublist k u).count_le _
/-- a line with one byte turned into another begins no line -/
theorem spoil {T u T' u' R : List UInt8} (h : Line T u) (h' : Line T' u') {j : Nat} {b : UInt8} (hj : j < T.length) (hb : T[j]? ≠ some b) (hp : T' <+: T.set j b ++ R) : False := by
  have l1 := h.len
  have l2 := h'.len
  have hset : ∀ i, i < T.length → i ≠ j → (T.set j b ++ R)[i]? = T[i]? := fun i hi hn => by
    rw [List.getElem?_append_left (by simpa using hi), List.getElem?_set_ne (fun e => hn e.symm)]
  have hseq : (T.set j b ++ R)[j]? = some b := by
    rw [List.getElem?_append_left (by simpa using hj), List.getElem?_set_self hj]
  have hT : T' = (T.set j b ++ R).take T'.length := List.prefix_iff_eq_take.1 hp
  have hget : ∀ i, i < T'.length → T'[i]? = (T.set j b ++ R)[i]? := fun i hi => by
    conv => lhs; rw [hT]
    rw [List.getElem?_take, if_pos hi]
  have htake : ∀ k, k ≤ T'.length → k ≤ T.length → k ≤ j → T'.take k = T.take k := fun k h1 h2 h3 => by
    rw [hT, List.take_take, Nat.min_eq_left h1, List.take_append_of_le_length (by simpa using h2), List.take_set_of_le h3]
  have c4 : ∀ {X v : List UInt8}, Line X v → (X.take (v.length + 1)).count 32 = 4 := fun hl => by rw [hl.head, List.count_append, hl.2.1]; rfl
  rcases Nat.lt_trichotomy u'.length u.length with hlt | heq | hgt
  · have g1 := hget (u'.length + 9) (by omega)
    rw [h'.last] at g1
    have hjj : j = u'.length + 9 := by
      rcases Nat.decEq j (u'.length + 9) with hne | he
      · rw [hset _ (by omega) (fun e => hne e.symm)] at g1
        exact absurd g1.symm (h.inner (by omega))
      · exact he
    have t1 := htake (u'.length + 1) (by omega) (by omega) (by omega)
    have := c4 h'
    rw [t1] at this
    have := h.few (k := u'.length + 1) (by omega)
    omega
  · have hlen : T'.length = (T.set j b).length := by simp; omega
    have hTT : T' = T.set j b := by rw [hT, hlen, List.take_left]
    have hgj : T'[j]? = some b := by rw [hget j (by omega)]; exact hseq
    by_cases j1 : j < u.length + 1
    · -- the body
      have e1 : T'.take (u.length + 1) = (T.take (u.length + 1)).set j b := by rw [hTT, List.take_set]
      have e2 : T'.drop (u.length + 1) = T.drop (u.length + 1) := by rw [hTT, List.drop_set_of_lt j1]
      rw [← heq, h'.head, heq, h.head] at e1
      have d1 : T'.drop (u.length + 1) = hexL (be4 (crcN 0 (u' ++ [32]))) ++ [10] := by rw [← heq, h'.1, List.drop_left' (by simp)]
      have d2 : T.drop (u.length + 1) = hexL (be4 (crcN 0 (u ++ [32]))) ++ [10] := by
        conv => lhs; rw [h.1]
        rw [List.drop_left' (by simp)]
      rw [d1, d2] at e2
      have e3 := (List.append_inj' e2 rfl).1
      have e4 : be4 (crcN 0 (u' ++ [32])) = be4 (crcN 0 (u ++ [32])) := by
        have := congrArg unhexL e3
        rw [unhex_hex, unhex_hex] at this
        exact Option.some.inj this
      have e5 : crcN 0 (u' ++ [32]) = crcN 0 (u ++ [32]) := by
        rw [← beV_be4 _ (crcN_lt (u' ++ [32]) (by omega)), e4, beV_be4 _ (crcN_lt (u ++ [32]) (by omega))]
      have hjl : j < (u ++ [(32 : UInt8)]).length := by simpa using j1
      rw [e1, List.set_eq_take_append_cons_drop, if_pos hjl] at e5
      have e6 : u ++ [(32 : UInt8)] = (u ++ [(32 : UInt8)]).take j ++ (u ++ [(32 : UInt8)])[j] :: (u ++ [(32 : UInt8)]).drop (j + 1) := by rw [← List.drop_eq_getElem_cons hjl, List.take_append_drop]
      conv at e5 => rhs; rw [e6]
      have e7 := crc_byte _ _ _ _ e5
      apply hb
      rw [e7]
      have : T[j]? = (T.take (u.length + 1))[j]? := by rw [List.getElem?_take, if_pos j1]
      rw [this, h.head, List.getElem?_eq_getElem hjl]
    · by_cases j2 : j = u.length + 9
      · subst j2
        rw [← heq] at hgj
        rw [h'.last] at hgj
        exact hb (by rw [h.last]; exact hgj)
      · have e1 : T'.take (u.length + 1) = T.take (u.length + 1) := htake _ (by omega) (by omega) (by omega)
        rw [← heq, h'.head, heq, h.head] at e1
        have : T' = T := by rw [h'.1, e1, ← h.1]
        rw [this] at hgj
        exact hb hgj
  · have g1 := hget (u.length + 9) (by omega)
    have hjj : j = u.length + 9 := by
      rcases Nat.decEq j (u.length + 9) with hne | he
      · rw [hset _ (by omega) (fun e => hne e.symm), h.last] at g1
        exact absurd g1 (h'.inner (by omega))
      · exact he
    have t1 := htake (u.length + 1) (by omega) (by omega) (by omega)
    have := c4 h
    rw [← t1] at this
    have := h'.few (k := u.length + 1) (by omega)
    omega
end Go.Proofs.YtfpalfpfijcpbaaGreatDoor
