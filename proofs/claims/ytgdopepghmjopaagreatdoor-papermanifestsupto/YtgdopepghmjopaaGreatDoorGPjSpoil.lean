import Derived.Test.YtgdopepghmjopaaGreatDoorGPnBack
import Derived.Test.YtgdopepghmjopaaGreatDoorGDaAlg
namespace Go.Proofs.YtgdopepghmjopaaGreatDoor
open Go.RowKit Go.Shelf
theorem crcW_inj {d e : Nat} (hd : d < 4294967296) (he : e < 4294967296) (l : List UInt8) (h : crcW d l = crcW e l) : d = e := by
  have h1 := crcW_lin d (d ^^^ e) l
  rw [← Nat.xor_assoc, Nat.xor_self, Nat.zero_xor, ← h] at h1
  have h0 : stps (8 * l.length) (d ^^^ e) = 0 := by
    have := congrArg (crcW d l ^^^ ·) h1
    simp only [← Nat.xor_assoc, Nat.xor_self, Nat.zero_xor] at this
    exact this.symm
  apply xor_eq_zero'
  rcases Nat.eq_zero_or_pos (d ^^^ e) with h2 | h2
  · exact h2
  · exact absurd h0 (stps_ne _ (xor32_lt hd he) (by omega))
theorem crcB_inj {w a b : Nat} (ha : a < 256) (hb : b < 256) (h : crcB w a = crcB w b) : a = b := by
  rw [crcB_eq, crcB_eq] at h
  have h0 : stps 8 (a ^^^ b) = 0 := by
    have h1 : (w ^^^ a) ^^^ (w ^^^ b) = a ^^^ b := by
      rw [Nat.xor_comm w a, Nat.xor_comm w b]; exact xor_cancel a b w
    rw [← h1, stps_xor, h, Nat.xor_self]
  apply xor_eq_zero'
  rcases Nat.eq_zero_or_pos (a ^^^ b) with h2 | h2
  · exact h2
  · exact absurd h0 (stps_ne _ (xor32_lt (by omega) (by omega)) (by omega))
/-- one byte turned into another turns the sum into another -/
theorem crc_byte (x y : List UInt8) (b c : UInt8) (h : crcN 0 (x ++ b :: y) = crcN 0 (x ++ c :: y)) : b = c := by
  unfold crcN at h
  have h1 := congrArg (4294967295 ^^^ ·) h
  simp only [not_not32] at h1
  rw [crcW_append, crcW_append] at h1
  have hw := crcW_lt (w := 4294967295 ^^^ 0) x (by decide)
  generalize crcW (4294967295 ^^^ 0) x = w at h1 hw
  have h2 : crcW (crcB w b.toNat) y = crcW (crcB w c.toNat) y := h1
  have h3 := crcW_inj (crcB_lt hw b.toNat_lt) (crcB_lt hw c.toNat_lt) y h2
  exact UInt8.toNat_inj.1 (crcB_inj b.toNat_lt c.toNat_lt h3)
/-- the form of a line -/
def Line (T : List UInt8) (u : List UInt8) : Prop := T = (u ++ [32]) ++ (hexL (be4 (crcN 0 (u ++ [32]))) ++ [10]) ∧ u.count 32 = 3 ∧ ∀ x ∈ u, x ≠ 10
theorem count_dec (n : Int) (hn : 0 ≤ n) : (Lib.itoa n).count 32 = 0 := by
  rw [List.count_eq_zero]
  intro h
  unfold Lib.itoa at h
  rw [if_neg (by omega)] at h
  have := (dec_facts n.toNat).1
  rw [List.all_eq_true] at this
  have := this _ h
  revert this
  decide
theorem hd_nb : ∀ n : Fin 16, hd n.1 ≠ 32 := by decide
theorem hexL_nb : ∀ (l : List UInt8), ∀ c ∈ hexL l, c ≠ 32
  | [], c, h => by cases h
  | b :: r, c, h => by
    have hb := b.toNat_lt
    rcases List.mem_cons.1 h with rfl | h
    · exact hd_nb ⟨b.toNat / 16, by omega⟩
    · rcases List.mem_cons.1 h with rfl | h
      · exact hd_nb ⟨b.toNat % 16, by omega⟩
      · exact hexL_nb r c h
theorem line_of {n : NV} (h : nOk n) : ∃ u, Line (nS n).data.toList u := by
  obtain ⟨c, p, e, s⟩ := n
  have hok : noteOk c p e s = true := h
  have hok' := hok
  unfold noteOk inR at hok'
  simp only [Bool.and_eq_true, decide_eq_true_eq] at hok'
  obtain ⟨⟨⟨⟨c0, c1⟩, p0, p1⟩, e0, e1⟩, s0, s1⟩ := hok'
  have hit : ∀ n : Int, 0 ≤ n → ∀ x ∈ Lib.itoa n, x ≠ 10 := fun n hn x hx => by
    unfold Lib.itoa at hx; rw [if_neg (by omega)] at hx; exact dec_ne _ x hx
  have hx : (hexL (be4 s.toNat)).count 32 = 0 := by rw [List.count_eq_zero]; exact fun h => hexL_nb _ _ h rfl
  refine ⟨Lib.itoa c ++ [32] ++ (Lib.itoa p ++ [32]) ++ (Lib.itoa e ++ [32]) ++ hexL (be4 s.toNat), ?_, ?_, ?_⟩
  · have hN : noteL c p e s = Lib.itoa c ++ [32] ++ (Lib.itoa p ++ [32]) ++ (Lib.itoa e ++ [32]) ++ hexL (be4 s.toNat) ++ [32] := by unfold noteL; simp only [List.nil_append, List.append_assoc]
    rw [← hN]
    show (noteS c p e s).data.toList = _
    unfold noteS
    rw [if_pos hok, ba_app, strOf_data, strOf_data]
    rfl
  · simp only [List.count_append, count_dec c (by omega), count_dec p (by omega), count_dec e (by omega), hx]
    rfl
  · intro x hx'
    simp only [List.mem_append, List.mem_singleton] at hx'
    rcases hx' with (((hx' | hx') | (hx' | hx')) | (hx' | hx')) | hx'
    · exact hit c (by omega) x hx'
    · subst hx'; decide
    · exact hit p (by omega) x hx'
    · subst hx'; decide
    · exact hit e (by omega) x hx'
    · subst hx'; decide
    · exact hexL_ne _ x hx'
theorem Line.len {T u : List UInt8} (h : Line T u) : T.length = u.length + 10 := by
  rw [h.1]; simp only [List.length_append, hexL_len]; rfl
theorem Line.last {T u : List UInt8} (h : Line T u) : T[u.length + 9]? = some 10 := by
  have hx : (hexL (be4 (crcN 0 (u ++ [32])))).length = 8 := by rw [hexL_len]; rfl
  have e : T = (u ++ [32] ++ hexL (be4 (crcN 0 (u ++ [32])))) ++ [10] := by rw [h.1]; simp only [List.append_assoc]
  rw [e, List.getElem?_append_right (by simp [hx]), show u.length + 9 - (u ++ [(32 : UInt8)] ++ hexL (be4 (crcN 0 (u ++ [(32 : UInt8)])))).length = 0 by simp [hx]]
  rfl
theorem Line.inner {T u : List UInt8} (h : Line T u) {i : Nat} (hi : i < u.length + 9) : T[i]? ≠ some 10 := by
  have hx : (hexL (be4 (crcN 0 (u ++ [32])))).length = 8 := by rw [hexL_len]; rfl
  have e : T = (u ++ [32] ++ hexL (be4 (crcN 0 (u ++ [32])))) ++ [10] := by rw [h.1]; simp only [List.append_assoc]
  intro q
  rw [e, List.getElem?_append_left (by simp [hx]; omega)] at q
  have hm := List.mem_of_getElem? q
  simp only [List.mem_append, List.mem_singleton] at hm
  rcases hm with (hm | hm) | hm
  · exact h.2.2 _ hm rfl
  · exact absurd hm (by decide)
  · exact hexL_ne _ _ hm rfl
theorem Line.head {T u : List UInt8} (h : Line T u) : T.take (u.length + 1) = u ++ [32] := by
  rw [h.1, List.take_left' (by simp)]
theorem Line.few {T u : List UInt8} (h : Line T u) {k : Nat} (hk : k ≤ u.length) : (T.take k).count 32 ≤ 3 := by
  have e : T.take k = u.take k := by
    rw [h.1, List.append_assoc, List.take_append_of_le_length hk]
  rw [e, ← h.2.1]
  exact (List.take_sublist k u).count_le _
/-- a line with one byte turned into another begins no line -/
theorem spoil {T u T' u' R : List UInt8} (h : Line T u) (h' : Line T' u') {j : Nat} {b : UInt8} (hj : j < T.length) (hb : T[j]? ≠ some b) (hp : T' <+: T.set j b ++ R) : False := by
  have l1 := h.len
  have l2 := h'.len
  have hset : ∀ i, i < T.length → i ≠ j → (T.set j b ++ R)[i]? = T[i]? := fun i hi hn => by
    rw [List.getElem?_append_left (by simpa using hi), List.getElem?_set_ne (fun e => hn e.symm)]
  have hseq : (T.set j b ++ R)[j]? = some b := by
    rw [List.getElem?_append_left (by simpa using hj), List.getElem?_set_self hj]
  have hT : T' = (T.set j b ++ R).take T'.length := List.prefix_iff_eq_take.1 hp
  have hget : ∀ i, i < T'.length → T'[i]? = (T.set j b ++ R)[i]? := fun i hi => by
    conv => lhs; rw [hT]
    rw [List.getElem?_take, if_pos hi]
  have htake : ∀ k, k ≤ T'.length → k ≤ T.length → k ≤ j → T'.take k = T.take k := fun k h1 h2 h3 => by
    rw [hT, List.take_take, Nat.min_eq_left h1, List.take_append_of_le_length (by simpa using h2), List.take_set_of_le h3]
  have c4 : ∀ {X v : List UInt8}, Line X v → (X.take (v.length + 1)).count 32 = 4 := fun hl => by rw [hl.head, List.count_append, hl.2.1]; rfl
  rcases Nat.lt_trichotomy u'.length u.length with hlt | heq | hgt
  · have g1 := hget (u'.length + 9) (by omega)
    rw [h'.last] at g1
    have hjj : j = u'.length + 9 := by
      rcases Nat.decEq j (u'.length + 9) with hne | he
      · rw [hset _ (by omega) (fun e => hne e.symm)] at g1
        exact absurd g1.symm (h.inner (by omega))
      · exact he
    have t1 := htake (u'.length + 1) (by omega) (by omega) (by omega)
    have := c4 h'
    rw [t1] at this
    have := h.few (k := u'.length + 1) (by omega)
    omega
  · have hlen : T'.length = (T.set j b).length := by simp; omega
    have hTT : T' = T.set j b := by rw [hT, hlen, List.take_left]
    have hgj : T'[j]? = some b := by rw [hget j (by omega)]; exact hseq
    by_cases j1 : j < u.length + 1
    · -- the body
      have e1 : T'.take (u.length + 1) = (T.take (u.length + 1)).set j b := by rw [hTT, List.take_set]
      have e2 : T'.drop (u.length + 1) = T.drop (u.length + 1) := by rw [hTT, List.drop_set_of_lt j1]
      rw [← heq, h'.head, heq, h.head] at e1
      have d1 : T'.drop (u.length + 1) = hexL (be4 (crcN 0 (u' ++ [32]))) ++ [10] := by rw [← heq, h'.1, List.drop_left' (by simp)]
      have d2 : T.drop (u.length + 1) = hexL (be4 (crcN 0 (u ++ [32]))) ++ [10] := by
        conv => lhs; rw [h.1]
        rw [List.drop_left' (by simp)]
      rw [d1, d2] at e2
      have e3 := (List.append_inj' e2 rfl).1
      have e4 : be4 (crcN 0 (u' ++ [32])) = be4 (crcN 0 (u ++ [32])) := by
        have := congrArg unhexL e3
        rw [unhex_hex, unhex_hex] at this
        exact Option.some.inj this
      have e5 : crcN 0 (u' ++ [32]) = crcN 0 (u ++ [32]) := by
        rw [← beV_be4 _ (crcN_lt (u' ++ [32]) (by omega)), e4, beV_be4 _ (crcN_lt (u ++ [32]) (by omega))]
      have hjl : j < (u ++ [(32 : UInt8)]).length := by simpa using j1
      rw [e1, List.set_eq_take_append_cons_drop, if_pos hjl] at e5
      have e6 : u ++ [(32 : UInt8)] = (u ++ [(32 : UInt8)]).take j ++ (u ++ [(32 : UInt8)])[j] :: (u ++ [(32 : UInt8)]).drop (j + 1) := by rw [← List.drop_eq_getElem_cons hjl, List.take_append_drop]
      conv at e5 => rhs; rw [e6]
      have e7 := crc_byte _ _ _ _ e5
      apply hb
      rw [e7]
      have : T[j]? = (T.take (u.length + 1))[j]? := by rw [List.getElem?_take, if_pos j1]
      rw [this, h.head, List.getElem?_eq_getElem hjl]
    · by_cases j2 : j = u.length + 9
      · subst j2
        rw [← heq] at hgj
        rw [h'.last] at hgj
        exact hb (by rw [h.last]; exact hgj)
      · have e1 : T'.take (u.length + 1) = T.take (u.length + 1) := htake _ (by omega) (by omega) (by omega)
        rw [← heq, h'.head, heq, h.head] at e1
        have : T' = T := by rw [h'.1, e1, ← h.1]
        rw [this] at hgj
        exact hb hgj
  · have g1 := hget (u.length + 9) (by omega)
    have hjj : j = u.length + 9 := by
      rcases Nat.decEq j (u.length + 9) with hne | he
      · rw [hset _ (by omega) (fun e => hne e.symm), h.last] at g1
        exact absurd g1 (h'.inner (by omega))
      · exact he
    have t1 := htake (u.length + 1) (by omega) (by omega) (by omega)
    have := c4 h
    rw [← t1] at this
    have := h'.few (k := u.length + 1) (by omega)
    omega
end Go.Proofs.YtgdopepghmjopaaGreatDoor
namespace Go.Proofs.YtgdopepghmjopaaGreatDoor
open Go.RowKit Go.Shelf
end Go.Proofs.YtgdopepghmjopaaGreatDoor
namespace Go.Proofs.YtgdopepghmjopaaGreatDoor
open Go.RowKit Go.Shelf
end Go.Proofs.YtgdopepghmjopaaGreatDoor
namespace Go.Proofs.YtgdopepghmjopaaGreatDoor
open Go.RowKit Go.Shelf
def isLow (c : UInt8) : Bool := decide (97 ≤ c.toNat) && decide (c.toNat ≤ 122)
def lettersB (t : ByteArray) : Bool := decide (1 ≤ t.size) && decide (t.size ≤ 40) && t.data.toList.all isLow
theorem low_snoc (t : ByteArray) (k : Nat) (h : k < t.size) : (t.data.toList.take (k + 1)).all isLow = ((t.data.toList.take k).all isLow && isLow t[k]) := by
  rw [List.take_succ_eq_append_getElem (by simpa using h), List.all_append]
  simp
  rfl
theorem low_false (t : ByteArray) (k : Nat) (h : k < t.size) (hc : isLow t[k] = false) : t.data.toList.all isLow = false := by
  rw [List.all_eq_false]
  exact ⟨t[k], by have : t[k] = t.data.toList[k]'(by simpa using h) := rfl; rw [this]; exact List.getElem_mem _, by rw [hc]; simp⟩
def gmOk (st : ByteArray) (n : Nat → Int) : Bool := lettersB st && inR (n 1) 1 999999 && inR (n 2) 0 15 && inR (n 3) 1 64 && inR (n 4) 1 16 && inR (n 5) 1 16 && inR (n 6) 1 16 && inR (n 7) 0 9007199254740992
theorem low_lt : ∀ n : Fin 256, isLow (UInt8.ofNat n.1) = true → ltL.data.toList.contains (UInt8.ofNat n.1) = true ∧ stL.data.toList.contains (UInt8.ofNat n.1) = true := by decide +kernel
theorem low_in {c : UInt8} (h : isLow c = true) : ltL.data.toList.contains c = true ∧ stL.data.toList.contains c = true := by
  have := low_lt ⟨c.toNat, c.toNat_lt⟩
  simp only [UInt8.ofNat_toNat] at this
  exact this h
theorem letters_st {t : ByteArray} (h : lettersB t = true) : stOk t 1 40 = true := by
  unfold lettersB at h
  simp only [Bool.and_eq_true, decide_eq_true_eq] at h
  obtain ⟨⟨h1, h2⟩, h3⟩ := h
  have ha := List.all_eq_true.1 h3
  unfold stOk inR isSt allOf
  have e0 : t.data.toList.isEmpty = false := by
    cases hd : t.data.toList with
    | nil => rw [← size_data, hd] at h1; simp at h1
    | cons a b => rfl
  have e1 : (t.data.toList.take 1).all (fun c => ltL.data.toList.contains c) = true := List.all_eq_true.2 fun c hc => (low_in (ha c (List.mem_of_mem_take hc))).1
  have e2 : t.data.toList.all (fun c => stL.data.toList.contains c) = true := List.all_eq_true.2 fun c hc => (low_in (ha c hc)).2
  rw [e0, e1, e2, decide_eq_true (by omega), decide_eq_true (by omega)]
  rfl
theorem gm_meta {st : ByteArray} {n : Nat → Int} (h : gmOk st n = true) : metaOk st n = true := by
  unfold gmOk at h
  unfold metaOk
  simp only [Bool.and_eq_true] at h ⊢
  obtain ⟨⟨⟨⟨⟨⟨⟨h0, h1⟩, h2⟩, h3⟩, h4⟩, h5⟩, h6⟩, h7⟩ := h
  exact ⟨⟨⟨⟨⟨⟨⟨letters_st h0, h1⟩, h2⟩, h3⟩, h4⟩, h5⟩, h6⟩, h7⟩
end Go.Proofs.YtgdopepghmjopaaGreatDoor
namespace Go.Proofs.YtgdopepghmjopaaGreatDoor
open Go.RowKit Go.Shelf
def isStC (c : UInt8) : Bool := isLow c || isDig c || c == 45
theorem st_class : ∀ n : Fin 256, stL.data.toList.contains (UInt8.ofNat n.1) = isStC (UInt8.ofNat n.1) ∧ ltL.data.toList.contains (UInt8.ofNat n.1) = isLow (UInt8.ofNat n.1) := by decide +kernel
theorem st_in (c : UInt8) : stL.data.toList.contains c = isStC c ∧ ltL.data.toList.contains c = isLow c := by
  have := st_class ⟨c.toNat, c.toNat_lt⟩
  simp only [UInt8.ofNat_toNat] at this
  exact this
theorem stA_snoc (t : ByteArray) (k : Nat) (h : k < t.size) : (t.data.toList.take (k + 1)).all isStC = ((t.data.toList.take k).all isStC && isStC t[k]) := by
  rw [List.take_succ_eq_append_getElem (by simpa using h), List.all_append]
  simp
  rfl
theorem stA_false (t : ByteArray) (k : Nat) (h : k < t.size) (hc : isStC t[k] = false) : t.data.toList.all isStC = false := by
  rw [List.all_eq_false]
  exact ⟨t[k], by have : t[k] = t.data.toList[k]'(by simpa using h) := rfl; rw [this]; exact List.getElem_mem _, by rw [hc]; simp⟩
theorem stOk_eq (t : ByteArray) (h0 : 0 < t.size) : stOk t 1 40 = (decide (t.size ≤ 40) && isLow t[0] && t.data.toList.all isStC) := by
  unfold stOk inR isSt allOf
  have e0 : t.data.toList.isEmpty = false := by
    cases hd : t.data.toList with
    | nil => rw [← size_data, hd] at h0; simp at h0
    | cons a b => rfl
  have e1 : (t.data.toList.take 1).all (fun c => ltL.data.toList.contains c) = isLow t[0] := by
    rw [List.take_succ_eq_append_getElem (by simpa using h0)]
    simp only [List.take_zero, List.nil_append, List.all_cons, List.all_nil, Bool.and_true]
    exact (st_in _).2
  have e2 : (t.data.toList.all fun c => stL.data.toList.contains c) = t.data.toList.all isStC := by
    congr 1; funext c; exact (st_in c).1
  rw [e0, e1, e2, decide_eq_true (show (1 : Int) ≤ (t.size : Int) by omega)]
  have e3 : decide ((t.size : Int) ≤ 40) = decide (t.size ≤ 40) := by rw [decide_eq_decide]; omega
  rw [e3]
  simp [Bool.and_assoc]
set_option maxHeartbeats 2000000 in
set_option maxRecDepth 100000 in
/-- the document's store -/
theorem rstore_any (t : ByteArray) (w : World) :
    Calls Tryz.prog 55 #[.string t] w fun e w' => e = .returned (.bool (stOk t 1 40)) ∧ w = w' := by
  by_cases h1 : t.size = 0
  · have e1 : stOk t 1 40 = false := by unfold stOk inR; rw [h1]; rfl
    rw [e1]
    go_enter Tryz.func55, Tryz.ntmps55
    go_wp2_with fail
    go_ret
    exact ⟨rfl, rfl⟩
  · have HE := hide (stOk_eq t (by omega))
    obtain ⟨E, hE⟩ : ∃ E, E = stOk t 1 40 := ⟨_, rfl⟩
    rw [← hE] at HE ⊢
    clear hE
    have h1' : ¬ (t.size : Int) < 1 := by omega
    by_cases h2 : 40 < t.size
    · have h2' : (40 : Int) < (t.size : Int) := by omega
      go_enter Tryz.func55, Tryz.ntmps55
      go_wp2_with fail
      go_ret
      exact ⟨ret_bool (by rw [HE.out, decide_eq_false (by omega)]; rfl), rfl⟩
    · have h2' : ¬ (40 : Int) < (t.size : Int) := by omega
      have hx0 : ∀ w', (Instr.index 9 (.string t) (.int .i64 0)).run Tryz.prog w' = .ok (.int .u8 ((t[0]'(by omega)).toNat : Int)) w' := fun w' => ix_str w' t 0 (by omega)
      have HE2 : Hid (E = (isLow (t[0]'(by omega)) && t.data.toList.all isStC)) := by show _ = _; rw [HE.out, decide_eq_true (by omega)]; rfl
      clear HE
      generalize (t[0]'(by omega)) = c0 at *
      by_cases ha : c0.toNat < 97
      · have ha' : (c0.toNat : Int) < 97 := by omega
        go_enter Tryz.func55, Tryz.ntmps55
        go_wp2_with fail
        go_ret
        exact ⟨ret_bool (by rw [HE2.out]; unfold isLow; rw [decide_eq_false (by omega)]; rfl), rfl⟩
      · have ha' : ¬ (c0.toNat : Int) < 97 := by omega
        by_cases hb : 122 < c0.toNat
        · have hb' : (122 : Int) < (c0.toNat : Int) := by omega
          go_enter Tryz.func55, Tryz.ntmps55
          go_wp2_with fail
          go_ret
          exact ⟨ret_bool (by rw [HE2.out]; unfold isLow; rw [decide_eq_false (p := c0.toNat ≤ 122) (by omega)]; simp), rfl⟩
        · have hb' : ¬ (122 : Int) < (c0.toNat : Int) := by omega
          have HE3 : Hid (E = t.data.toList.all isStC) := by show _ = _; rw [HE2.out]; unfold isLow; rw [decide_eq_true (by omega), decide_eq_true (by omega)]; rfl
          clear HE2
          go_enter Tryz.func55, Tryz.ntmps55
          go_wp2_with fail
          clear hx0 ha' hb' ha hb
          go_loop [3] (fun v => ∃ k : Nat, k ≤ t.size ∧ v = .int .i64 k ∧ Hid ((t.data.toList.take k).all isStC = true)) (fun v => t.size - (intOf v).toNat)
          case atStart => exact ⟨0, Nat.zero_le _, rfl, rfl⟩
          case round =>
            obtain ⟨k, hk, rfl, hA⟩ := hrel
            by_cases hlt : k < t.size
            · have hxs : ∀ w', (Instr.index 9 (.string t) (.int .i64 (k : Int))).run Tryz.prog w' = .ok (.int .u8 (t[k].toNat : Int)) w' := fun w' => ix_str w' t k hlt
              have HS := hide (stA_snoc t k hlt)
              have HF := hide (stA_false t k hlt)
              generalize t[k] = c at *
              have hlt' : (k : Int) < (t.size : Int) := by omega
              by_cases hl : 97 ≤ c.toNat ∧ c.toNat ≤ 122
              · have x1 : (97 : Int) ≤ (c.toNat : Int) := by omega
                have x2 : (c.toNat : Int) ≤ 122 := by omega
                have hC : Hid (isStC c = true) := by show _ = _; unfold isStC isLow; rw [decide_eq_true hl.1, decide_eq_true hl.2]; rfl
                clear hl
                go_wp2_with fail
                go_round
                case rel => exact ⟨k + 1, by omega, by go_num, by rw [HS.out, hA.out, hC.out]; rfl⟩
                case measure => simp [intOf]; omega
              · by_cases hd : 48 ≤ c.toNat ∧ c.toNat ≤ 57
                · have x1 : ¬ (97 : Int) ≤ (c.toNat : Int) := by omega
                  have x3 : (48 : Int) ≤ (c.toNat : Int) := by omega
                  have x4 : (c.toNat : Int) ≤ 57 := by omega
                  have hC : Hid (isStC c = true) := by show _ = _; unfold isStC isDig; rw [decide_eq_true hd.1, decide_eq_true hd.2]; simp
                  clear hl hd
                  go_wp2_with fail
                  go_round
                  case rel => exact ⟨k + 1, by omega, by go_num, by rw [HS.out, hA.out, hC.out]; rfl⟩
                  case measure => simp [intOf]; omega
                · by_cases h45 : c.toNat = 45
                  · have x1 : ¬ (97 : Int) ≤ (c.toNat : Int) := by omega
                    have x3 : ¬ (48 : Int) ≤ (c.toNat : Int) := by omega
                    have x5 : ((c.toNat : Int) == 45) = true := by rw [h45]; rfl
                    have hC : Hid (isStC c = true) := by
                      show _ = _
                      have : c = 45 := UInt8.toNat_inj.1 h45
                      rw [this]; rfl
                    clear hl hd h45
                    go_wp2_with fail
                    go_round
                    case rel => exact ⟨k + 1, by omega, by go_num, by rw [HS.out, hA.out, hC.out]; rfl⟩
                    case measure => simp [intOf]; omega
                  · have x5 : ((c.toNat : Int) == 45) = false := beq_eq_false_iff_ne.2 (by omega)
                    have hC : Hid (isStC c = false) := by
                      show _ = _
                      unfold isStC isLow isDig
                      have e1 : (decide (97 ≤ c.toNat) && decide (c.toNat ≤ 122)) = false := by rw [← Bool.decide_and]; exact decide_eq_false hl
                      have e2 : (decide (48 ≤ c.toNat) && decide (c.toNat ≤ 57)) = false := by rw [← Bool.decide_and]; exact decide_eq_false hd
                      have e3 : (c == 45) = false := beq_eq_false_iff_ne.2 (fun e => h45 (by rw [e]; rfl))
                      rw [e1, e2, e3]; rfl
                    by_cases y1 : 97 ≤ c.toNat
                    · have x1 : (97 : Int) ≤ (c.toNat : Int) := by omega
                      have x2 : ¬ (c.toNat : Int) ≤ 122 := by omega
                      have x3 : (48 : Int) ≤ (c.toNat : Int) := by omega
                      have x4 : ¬ (c.toNat : Int) ≤ 57 := by omega
                      clear hl hd h45 y1
                      go_wp2_with fail
                      go_ret
                      exact ⟨ret_bool (by rw [HE3.out, HF.out hC.out]), rfl⟩
                    · have x1 : ¬ (97 : Int) ≤ (c.toNat : Int) := by omega
                      by_cases y2 : 48 ≤ c.toNat
                      · have x3 : (48 : Int) ≤ (c.toNat : Int) := by omega
                        have x4 : ¬ (c.toNat : Int) ≤ 57 := by omega
                        clear hl hd h45 y1 y2
                        go_wp2_with fail
                        go_ret
                        exact ⟨ret_bool (by rw [HE3.out, HF.out hC.out]), rfl⟩
                      · have x3 : ¬ (48 : Int) ≤ (c.toNat : Int) := by omega
                        clear hl hd h45 y1 y2
                        go_wp2_with fail
                        go_ret
                        exact ⟨ret_bool (by rw [HE3.out, HF.out hC.out]), rfl⟩
            · obtain rfl : k = t.size := by omega
              have hA' := hA.out
              rw [List.take_of_length_le (by simp)] at hA'
              have HA := hide hA'
              clear hA' hA
              go_wp2_with fail
              go_ret
              exact ⟨ret_bool (by rw [HE3.out, HA.out]), rfl⟩
end Go.Proofs.YtgdopepghmjopaaGreatDoor
namespace Go.Proofs.YtgdopepghmjopaaGreatDoor
open Go.RowKit Go.Shelf
set_option maxHeartbeats 1000000 in
set_option maxRecDepth 100000 in
theorem isName_any (t : ByteArray) (w : World) (hs : t.size ≤ 9223372036854775807) :
    Calls Tryz.prog 92 #[.string t] w fun e w' => e = .returned (.bool (isNm t.data.toList)) ∧ Below w.heap.size w w' := by
  have C1 := hide (fun w' => isOf_any t nmL w' hs)
  have HE : Hid (isNm t.data.toList = (allOf t.data.toList nmL && !(t.toList == [46]) && !(t.toList == [46, 46]))) := by show _ = _; unfold isNm; rw [toList_data]
  obtain ⟨E, hE⟩ : ∃ E, E = isNm t.data.toList := ⟨_, rfl⟩
  rw [← hE] at HE ⊢
  clear hE
  unfold nmL at C1 HE
  generalize allOf t.data.toList _ = A at *
  cases hA : A with
  | false =>
    rw [hA] at C1 HE
    go_enter Tryz.func92, Tryz.ntmps92
    go_wp2_with fail
    refine Calls.mono (C1.out _) ?_
    rintro e w1 ⟨rfl, rfl⟩
    go_wp2_with fail
    go_ret
    exact ⟨ret_bool HE.out.symm, Below.refl _ _⟩
  | true =>
    rw [hA] at C1 HE
    cases h1 : (t.toList == [46]) with
    | true =>
      rw [h1] at HE
      go_enter Tryz.func92, Tryz.ntmps92
      go_wp2_with fail
      refine Calls.mono (C1.out _) ?_
      rintro e w1 ⟨rfl, rfl⟩
      go_wp2_with fail
      go_ret
      exact ⟨ret_bool HE.out.symm, Below.refl _ _⟩
    | false =>
      rw [h1] at HE
      go_enter Tryz.func92, Tryz.ntmps92
      go_wp2_with fail
      refine Calls.mono (C1.out _) ?_
      rintro e w1 ⟨rfl, rfl⟩
      go_wp2_with fail
      go_ret
      exact ⟨ret_bool HE.out.symm, Below.refl _ _⟩
/-- a file's name that may be -/
def nmOk (t : ByteArray) (lo hi : Int) : Bool := inR (t.size : Int) lo hi && isNm t.data.toList
set_option maxHeartbeats 1000000 in
set_option maxRecDepth 100000 in
theorem allows_name (n lo hi : Int) (t : ByteArray) (w : World) (ht : t.size ≤ 9223372036854775807) :
    Calls Tryz.prog 72 #[.int .i64 3, .agg #[.int .i64 n, .string t], .int .i64 lo, .int .i64 hi] w fun e w' => e = .returned (.bool (nmOk t lo hi)) ∧ Below w.heap.size w w' := by
  have hb : Below w.heap.size w (w.alloc (.cells #[.int .i64 n, .string t] 76)) := (Below.refl _ _).alloc (Nat.le_refl _) _
  have C := hide (fun w' => isName_any t w' ht)
  obtain ⟨E, hE⟩ : ∃ E, E = nmOk t lo hi := ⟨_, rfl⟩
  unfold nmOk inR at hE
  rw [show nmOk t lo hi = E by rw [hE]; rfl]
  have HE := hide hE
  clear hE
  generalize isNm t.data.toList = S at *
  by_cases h1 : (t.size : Int) < lo
  · go_enter Tryz.func72, Tryz.ntmps72
    go_wp2_with (go_at_call 91; refine Calls.mono (isNumeric_any _ _) ?_; rintro e w' ⟨rfl, rfl⟩)
    go_ret
    exact ⟨ret_bool (by rw [HE.out, decide_eq_false (by omega)]; rfl), hb⟩
  · by_cases h2 : hi < (t.size : Int)
    · go_enter Tryz.func72, Tryz.ntmps72
      go_wp2_with (go_at_call 91; refine Calls.mono (isNumeric_any _ _) ?_; rintro e w' ⟨rfl, rfl⟩)
      go_ret
      exact ⟨ret_bool (by rw [HE.out, decide_eq_false (p := (t.size : Int) ≤ hi) (by omega)]; simp), hb⟩
    · have HB := hide hb
      clear hb
      go_enter Tryz.func72, Tryz.ntmps72
      go_wp2_with (go_at_call 91; refine Calls.mono (isNumeric_any _ _) ?_; rintro e w' ⟨rfl, rfl⟩)
      refine Calls.mono (C.out _) ?_
      rintro e w1 ⟨rfl, b1⟩
      have B1 := hide (HB.out.trans (b1.mono HB.out.size))
      clear b1
      go_wp2_with fail
      go_ret
      exact ⟨ret_bool (by rw [HE.out, decide_eq_true (by omega), decide_eq_true (by omega)]; rfl), B1.out⟩
set_option maxHeartbeats 1000000 in
set_option maxRecDepth 100000 in
theorem allows_md5 (n lo hi : Int) (t : ByteArray) (w : World) :
    Calls Tryz.prog 72 #[.int .i64 2, .agg #[.int .i64 n, .string t], .int .i64 lo, .int .i64 hi] w fun e w' => e = .returned (.bool (inR (t.size : Int) lo hi)) ∧ Below w.heap.size w w' := by
  have hb : Below w.heap.size w (w.alloc (.cells #[.int .i64 n, .string t] 76)) := (Below.refl _ _).alloc (Nat.le_refl _) _
  obtain ⟨E, hE⟩ : ∃ E, E = inR (t.size : Int) lo hi := ⟨_, rfl⟩
  unfold inR at hE
  rw [show inR (t.size : Int) lo hi = E by rw [hE]; rfl]
  have HE := hide hE
  clear hE
  by_cases h1 : (t.size : Int) < lo
  · go_enter Tryz.func72, Tryz.ntmps72
    go_wp2_with (go_at_call 91; refine Calls.mono (isNumeric_any _ _) ?_; rintro e w' ⟨rfl, rfl⟩)
    go_ret
    exact ⟨ret_bool (by rw [HE.out, decide_eq_false (by omega)]; rfl), hb⟩
  · by_cases h2 : hi < (t.size : Int)
    · go_enter Tryz.func72, Tryz.ntmps72
      go_wp2_with (go_at_call 91; refine Calls.mono (isNumeric_any _ _) ?_; rintro e w' ⟨rfl, rfl⟩)
      go_ret
      exact ⟨ret_bool (by rw [HE.out, decide_eq_false (p := (t.size : Int) ≤ hi) (by omega)]; simp), hb⟩
    · go_enter Tryz.func72, Tryz.ntmps72
      go_wp2_with (go_at_call 91; refine Calls.mono (isNumeric_any _ _) ?_; rintro e w' ⟨rfl, rfl⟩)
      go_ret
      exact ⟨ret_bool (by rw [HE.out, decide_eq_true (by omega), decide_eq_true (by omega)]; rfl), hb⟩
set_option maxHeartbeats 1000000 in
set_option maxRecDepth 100000 in
theorem print_md5 (n : Int) (t : ByteArray) (w : World) (ht : t.size ≤ 1099511627776) :
    Calls Tryz.prog 32 #[.int .i64 2, .agg #[.int .i64 n, .string t]] w fun e w' => e = .returned (.string (strOf (hexL t.data.toList))) ∧ Below w.heap.size w w' := by
  obtain ⟨W0, hW0⟩ : ∃ W0, W0 = w.alloc (.cells #[.int .i64 n, .string t] 76) := ⟨_, rfl⟩
  have b0 : Below w.heap.size w W0 := by rw [hW0]; exact (Below.refl _ w).alloc (Nat.le_refl _) _
  have C := hide (hex_any t W0 ht)
  have B0 := hide b0
  clear b0
  go_enter Tryz.func32, Tryz.ntmps32
  go_wp2_with fail
  rw [← hW0]
  clear hW0
  refine Calls.mono C.out ?_
  rintro e w1 ⟨rfl, b1⟩
  have B1 := hide (B0.out.trans (b1.mono B0.out.size))
  clear C b1
  go_wp2
  go_ret
  exact ⟨rfl, B1.out⟩
set_option maxHeartbeats 1000000 in
set_option maxRecDepth 100000 in
theorem reads_name : ReadsAs 3 := fun s w hs => by
  have e3 : (!s.toList.isEmpty) = !s.data.toList.isEmpty := by rw [toList_data]
  rw [show rdN 3 s.data.toList = 0 from rfl, show rdT 3 s.data.toList = s from strOf_toList s, show rdOk 3 s.data.toList = !s.data.toList.isEmpty from rfl, ← e3]
  clear e3
  go_enter Tryz.func87, Tryz.ntmps87
  go_wp2_with fail
  exact bodyPost_ret (v := .tuple #[.agg #[.int .i64 0, .string s], .bool (!s.toList.isEmpty)]) (by simp [results, Tryz.results87, go_sem]) rfl ⟨rfl, (Below.refl _ _).alloc (Nat.le_refl _) _⟩
set_option maxHeartbeats 1000000 in
set_option maxRecDepth 100000 in
theorem reads_md5 : ReadsAs 2 := fun s w hs => by
  have C := hide (fun w' => readHex_any s 16 w' hs (by omega))
  rw [show rdN 2 s.data.toList = 0 from rfl, show rdT 2 s.data.toList = hexV s.data.toList 16 from rfl, show rdOk 2 s.data.toList = hexOk s.data.toList 16 from rfl]
  generalize hexV s.data.toList 16 = N at *
  generalize hexOk s.data.toList 16 = O at *
  go_enter Tryz.func87, Tryz.ntmps87
  go_wp2_with fail
  refine Calls.mono (C.out _) ?_
  rintro e w1 ⟨rfl, b1⟩
  have hl : w.heap.size < (w.alloc (.cells #[.int .i64 0, .string ⟨#[]⟩] 76)).heap.size := by simp
  have k0 : w1.cell? ⟨w.heap.size, 0, none⟩ = some (.int .i64 0) := by rw [b1.cell (by exact hl)]; simp
  have k1 : w1.cell? ⟨w.heap.size, 1, none⟩ = some (.string ⟨#[]⟩) := by rw [b1.cell (by exact hl)]; simp
  have f0 : w1.frozen? ⟨w.heap.size, 0, none⟩ = false := by rw [b1.frozen (by exact hl)]; simp
  have f1 : w1.frozen? ⟨w.heap.size, 1, none⟩ = false := by rw [b1.frozen (by exact hl)]; simp
  have B1 := hide (((Below.refl w.heap.size w).alloc (Nat.le_refl _) _).trans (b1.mono (by simp)))
  clear b1 C
  go_wp2_with fail
  exact bodyPost_ret (v := .tuple #[.agg #[.int .i64 0, .string N], .bool O]) (by simp [results, Tryz.results87, go_sem, k0, k1]) rfl ⟨rfl, (B1.out.setCell (Nat.le_refl _) _).setCell (Nat.le_refl _) _⟩
end Go.Proofs.YtgdopepghmjopaaGreatDoor
