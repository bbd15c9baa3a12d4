import Derived.Test.YtaclbffacnoddaaGreatDoorPjPure
import Derived.Test.YtaclbffacnoddaaGreatDoorDaAlg
import Derived.Test.YtaclbffacnoddaaGreatDoorPart39
namespace Go.Proofs.YtaclbffacnoddaaGreatDoor
open Go.RowKit Go.Shelf
theorem crcW_inj {d e : Nat} (hd : d < 4294967296) (he : e < 4294967296) (l : List UInt8) (h : crcW d l = crcW e l) : d = e := by
  have h1 := crcW_lin d (d ^^^ e) l
  rw [← Nat.xor_assoc, Nat.xor_self, Nat.zero_xor, ← h] at h1
  have h0 : stps (8 * l.length) (d ^^^ e) = 0 := by
    have := congrArg (crcW d l ^^^ ·) h1
    simp only [← Nat.xor_assoc, Nat.xor_self, Nat.zero_xor] at this
    exact this.symm
  apply xor_eq_zero'
  rcases Nat.eq_zero_or_pos (d ^^^ e) with h2 | h2
  · exact h2
  · exact absurd h0 (stps_ne _ (xor32_lt hd he) (by omega))
theorem crcB_inj {w a b : Nat} (ha : a < 256) (hb : b < 256) (h : crcB w a = crcB w b) : a = b := by
  rw [crcB_eq, crcB_eq] at h
  have h0 : stps 8 (a ^^^ b) = 0 := by
    have h1 : (w ^^^ a) ^^^ (w ^^^ b) = a ^^^ b := by
      rw [Nat.xor_comm w a, Nat.xor_comm w b]; exact xor_cancel a b w
    rw [← h1, stps_xor, h, Nat.xor_self]
  apply xor_eq_zero'
  rcases Nat.eq_zero_or_pos (a ^^^ b) with h2 | h2
  · exact h2
  · exact absurd h0 (stps_ne _ (xor32_lt (by omega) (by omega)) (by omega))
/-- one byte turned into another turns the sum into another -/
theorem crc_byte (x y : List UInt8) (b c : UInt8) (h : crcN 0 (x ++ b :: y) = crcN 0 (x ++ c :: y)) : b = c := by
  unfold crcN at h
  have h1 := congrArg (4294967295 ^^^ ·) h
  simp only [not_not32] at h1
  rw [crcW_append, crcW_append] at h1
  have hw := crcW_lt (w := 4294967295 ^^^ 0) x (by decide)
  generalize crcW (4294967295 ^^^ 0) x = w at h1 hw
  have h2 : crcW (crcB w b.toNat) y = crcW (crcB w c.toNat) y := h1
  have h3 := crcW_inj (crcB_lt hw b.toNat_lt) (crcB_lt hw c.toNat_lt) y h2
  exact UInt8.toNat_inj.1 (crcB_inj b.toNat_lt c.toNat_lt h3)
/-- the form of a line -/
def Line (T : List UInt8) (u : List UInt8) : Prop := T = (u ++ [32]) ++ (hexL (be4 (crcN 0 (u ++ [32]))) ++ [10]) ∧ u.count 32 = 3 ∧ ∀ x ∈ u, x ≠ 10
theorem count_dec (n : Int) (hn : 0 ≤ n) : (Lib.itoa n).count 32 = 0 := by
  rw [List.count_eq_zero]
  intro h
  unfold Lib.itoa at h
  rw [if_neg (by omega)] at h
  have := (dec_facts n.toNat).1
  rw [List.all_eq_true] at this
  have := this _ h
  revert this
  decide
theorem hd_nb : ∀ n : Fin 16, hd n.1 ≠ 32 := by decide
theorem hexL_nb : ∀ (l : List UInt8), ∀ c ∈ hexL l, c ≠ 32
  | [], c, h => by cases h
  | b :: r, c, h => by
    have hb := b.toNat_lt
    rcases List.mem_cons.1 h with rfl | h
    · exact hd_nb ⟨b.toNat / 16, by omega⟩
    · rcases List.mem_cons.1 h with rfl | h
      · exact hd_nb ⟨b.toNat % 16, by omega⟩
      · exact hexL_nb r c h
theorem line_of {n : NV} (h : nOk n) : ∃ u, Line (nS n).data.toList u := by
  obtain ⟨c, p, e, s⟩ := n
  have hok : noteOk c p e s = true := h
  have hok' := hok
  unfold noteOk inR at hok'
  simp only [Bool.and_eq_true, decide_eq_true_eq] at hok'
  obtain ⟨⟨⟨⟨c0, c1⟩, p0, p1⟩, e0, e1⟩, s0, s1⟩ := hok'
  have hit : ∀ n : Int, 0 ≤ n → ∀ x ∈ Lib.itoa n, x ≠ 10 := fun n hn x hx => by
    unfold Lib.itoa at hx; rw [if_neg (by omega)] at hx; exact dec_ne _ x hx
  have hx : (hexL (be4 s.toNat)).count 32 = 0 := by rw [List.count_eq_zero]; exact fun h => hexL_nb _ _ h rfl
  refine ⟨Lib.itoa c ++ [32] ++ (Lib.itoa p ++ [32]) ++ (Lib.itoa e ++ [32]) ++ hexL (be4 s.toNat), ?_, ?_, ?_⟩
  · have hN : noteL c p e s = Lib.itoa c ++ [32] ++ (Lib.itoa p ++ [32]) ++ (Lib.itoa e ++ [32]) ++ hexL (be4 s.toNat) ++ [32] := by unfold noteL; simp only [List.nil_append, List.append_assoc]
    rw [← hN]
    show (noteS c p e s).data.toList = _
    unfold noteS
    rw [if_pos hok, ba_app, strOf_data, strOf_data]
    rfl
  · simp only [List.count_append, count_dec c (by omega), count_dec p (by omega), count_dec e (by omega), hx]
    rfl
  · intro x hx'
    simp only [List.mem_append, List.mem_singleton] at hx'
    rcases hx' with (((hx' | hx') | (hx' | hx')) | (hx' | hx')) | hx'
    · exact hit c (by omega) x hx'
    · subst hx'; decide
    · exact hit p (by omega) x hx'
    · subst hx'; decide
    · exact hit e (by omega) x hx'
    · subst hx'; decide
    · exact hexL_ne _ x hx'
theorem Line.len {T u : List UInt8} (h : Line T u) : T.length = u.length + 10 := by
  rw [h.1]; simp only [List.length_append, hexL_len]; rfl
theorem Line.last {T u : List UInt8} (h : Line T u) : T[u.length + 9]? = some 10 := by
  have hx : (hexL (be4 (crcN 0 (u ++ [32])))).length = 8 := by rw [hexL_len]; rfl
  have e : T = (u ++ [32] ++ hexL (be4 (crcN 0 (u ++ [32])))) ++ [10] := by rw [h.1]; simp only [List.append_assoc]
  rw [e, List.getElem?_append_right (by simp [hx]), show u.length + 9 - (u ++ [(32 : UInt8)] ++ hexL (be4 (crcN 0 (u ++ [(32 : UInt8)])))).length = 0 by simp [hx]]
  rfl
theorem Line.inner {T u : List UInt8} (h : Line T u) {i : Nat} (hi : i < u.length + 9) : T[i]? ≠ some 10 := by
  have hx : (hexL (be4 (crcN 0 (u ++ [32])))).length = 8 := by rw [hexL_len]; rfl
  have e : T = (u ++ [32] ++ hexL (be4 (crcN 0 (u ++ [32])))) ++ [10] := by rw [h.1]; simp only [List.append_assoc]
  intro q
  rw [e, List.getElem?_append_left (by simp [hx]; omega)] at q
  have hm := List.mem_of_getElem? q
  simp only [List.mem_append, List.mem_singleton] at hm
  rcases hm with (hm | hm) | hm
  · exact h.2.2 _ hm rfl
  · exact absurd hm (by decide)
  · exact hexL_ne _ _ hm rfl
theorem Line.head {T u : List UInt8} (h : Line T u) : T.take (u.length + 1) = u ++ [32] := by
  rw [h.1, List.take_left' (by simp)]
theorem Line.few {T u : List UInt8} (h : Line T u) {k : Nat} (hk : k ≤ u.length) : (T.take k).count 32 ≤ 3 := by
  have e : T.take k = u.take k := by
    rw [h.1, List.append_assoc, List.take_append_of_le_length hk]
  rw [e, ← h.2.1]
  exact (List.take_sublist k u).count_le _
/-- a line with one byte turned into another begins no line -/
theorem spoil {T u T' u' R : List UInt8} (h : Line T u) (h' : Line T' u') {j : Nat} {b : UInt8} (hj : j < T.length) (hb : T[j]? ≠ some b) (hp : T' <+: T.set j b ++ R) : False := by
  have l1 := h.len
  have l2 := h'.len
  have hset : ∀ i, i < T.length → i ≠ j → (T.set j b ++ R)[i]? = T[i]? := fun i hi hn => by
    rw [List.getElem?_append_left (by simpa using hi), List.getElem?_set_ne (fun e => hn e.symm)]
  have hseq : (T.set j b ++ R)[j]? = some b := by
    rw [List.getElem?_append_left (by simpa using hj), List.getElem?_set_self hj]
  have hT : T' = (T.set j b ++ R).take T'.length := List.prefix_iff_eq_take.1 hp
  have hget : ∀ i, i < T'.length → T'[i]? = (T.set j b ++ R)[i]? := fun i hi => by
    conv => lhs; rw [hT]
    rw [List.getElem?_take, if_pos hi]
  have htake : ∀ k, k ≤ T'.length → k ≤ T.length → k ≤ j → T'.take k = T.take k := fun k h1 h2 h3 => by
    rw [hT, List.take_take, Nat.min_eq_left h1, List.take_append_of_le_length (by simpa using h2), List.take_set_of_le h3]
  have c4 : ∀ {X v : List UInt8}, Line X v → (X.take (v.length + 1)).count 32 = 4 := fun hl => by rw [hl.head, List.count_append, hl.2.1]; rfl
  rcases Nat.lt_trichotomy u'.length u.length with hlt | heq | hgt
  · have g1 := hget (u'.length + 9) (by omega)
    rw [h'.last] at g1
    have hjj : j = u'.length + 9 := by
      rcases Nat.decEq j (u'.length + 9) with hne | he
      · rw [hset _ (by omega) (fun e => hne e.symm)] at g1
        exact absurd g1.symm (h.inner (by omega))
      · exact he
    have t1 := htake (u'.length + 1) (by omega) (by omega) (by omega)
    have := c4 h'
    rw [t1] at this
    have := h.few (k := u'.length + 1) (by omega)
    omega
  · have hlen : T'.length = (T.set j b).length := by simp; omega
    have hTT : T' = T.set j b := by rw [hT, hlen, List.take_left]
    have hgj : T'[j]? = some b := by rw [hget j (by omega)]; exact hseq
    by_cases j1 : j < u.length + 1
    · -- the body
      have e1 : T'.take (u.length + 1) = (T.take (u.length + 1)).set j b := by rw [hTT, List.take_set]
      have e2 : T'.drop (u.length + 1) = T.drop (u.length + 1) := by rw [hTT, List.drop_set_of_lt j1]
      rw [← heq, h'.head, heq, h.head] at e1
      have d1 : T'.drop (u.length + 1) = hexL (be4 (crcN 0 (u' ++ [32]))) ++ [10] := by rw [← heq, h'.1, List.drop_left' (by simp)]
      have d2 : T.drop (u.length + 1) = hexL (be4 (crcN 0 (u ++ [32]))) ++ [10] := by
        conv => lhs; rw [h.1]
        rw [List.drop_left' (by simp)]
      rw [d1, d2] at e2
      have e3 := (List.append_inj' e2 rfl).1
      have e4 : be4 (crcN 0 (u' ++ [32])) = be4 (crcN 0 (u ++ [32])) := by
        have := congrArg unhexL e3
        rw [unhex_hex, unhex_hex] at this
        exact Option.some.inj this
      have e5 : crcN 0 (u' ++ [32]) = crcN 0 (u ++ [32]) := by
        rw [← beV_be4 _ (crcN_lt (u' ++ [32]) (by omega)), e4, beV_be4 _ (crcN_lt (u ++ [32]) (by omega))]
      have hjl : j < (u ++ [(32 : UInt8)]).length := by simpa using j1
      rw [e1, List.set_eq_take_append_cons_drop, if_pos hjl] at e5
      have e6 : u ++ [(32 : UInt8)] = (u ++ [(32 : UInt8)]).take j ++ (u ++ [(32 : UInt8)])[j] :: (u ++ [(32 : UInt8)]).drop (j + 1) := by rw [← List.drop_eq_getElem_cons hjl, List.take_append_drop]
      conv at e5 => rhs; rw [e6]
      have e7 := crc_byte _ _ _ _ e5
      apply hb
      rw [e7]
      have : T[j]? = (T.take (u.length + 1))[j]? := by rw [List.getElem?_take, if_pos j1]
      rw [this, h.head, List.getElem?_eq_getElem hjl]
    · by_cases j2 : j = u.length + 9
      · subst j2
        rw [← heq] at hgj
        rw [h'.last] at hgj
        exact hb (by rw [h.last]; exact hgj)
      · have e1 : T'.take (u.length + 1) = T.take (u.length + 1) := htake _ (by omega) (by omega) (by omega)
        rw [← heq, h'.head, heq, h.head] at e1
        have : T' = T := by rw [h'.1, e1, ← h.1]
        rw [this] at hgj
        exact hb hgj
  · have g1 := hget (u.length + 9) (by omega)
    have hjj : j = u.length + 9 := by
      rcases Nat.decEq j (u.length + 9) with hne | he
      · rw [hset _ (by omega) (fun e => hne e.symm), h.last] at g1
        exact absurd g1 (h'.inner (by omega))
      · exact he
    have t1 := htake (u.length + 1) (by omega) (by omega) (by omega)
    have := c4 h
    rw [← t1] at this
    have := h'.few (k := u.length + 1) (by omega)
    omega
end Go.Proofs.YtaclbffacnoddaaGreatDoor
namespace Go.Proofs.YtaclbffacnoddaaGreatDoor
open Go.RowKit Go.Shelf
theorem nsz_line {tx : ByteArray} {q : Nat} (hq : q ≤ tx.size) (h : nsz tx q ≠ 0) : ∃ n : NV, nOk n ∧ (nS n).data.toList <+: tx.data.toList.drop q := by
  obtain ⟨f0, _⟩ := same_at tx q hq
  have hr : rtOk tx q = true := by
    cases hr : rtOk tx q with
    | true => rfl
    | false => exfalso; apply h; rw [← f0]; unfold rtSize; rw [hr]; rfl
  unfold rtOk at hr
  simp only [Bool.and_eq_true] at hr
  exact ⟨(ntC tx q, ntP tx q, ntU tx q, ntX tx q), hr.2.1, List.isPrefixOf_iff_prefix.1 hr.2.2⟩
/-- of a journal with one byte turned into another just the lines ahead of that byte's line are read -/
theorem spoilt_notes {ns : List NV} (hg : ∀ n ∈ ns, nOk n) {k : Nat} (hk : k < ns.length) {j : Nat} (hj : j < (nS ns[k]).size) {b : UInt8} (hb : (jl ns)[(jl (ns.take k)).length + j]? ≠ some b) {tx : ByteArray} {Y : List UInt8} (h : tx.data.toList = (jl ns).set ((jl (ns.take k)).length + j) b ++ Y) :
    notesAt tx k = some (ns.take k, (jl (ns.take k)).length) ∧ nsz tx (jl (ns.take k)).length = 0 := by
  have hsp : jl ns = jl (ns.take k) ++ ((nS ns[k]).data.toList ++ jl (ns.drop (k + 1))) := by
    rw [jl_split ns (k + 1), jl_take ns k hk, List.append_assoc]
  have hjd : j < (nS ns[k]).data.toList.length := by rw [size_data]; exact hj
  have hset : (jl ns).set ((jl (ns.take k)).length + j) b = jl (ns.take k) ++ ((nS ns[k]).data.toList.set j b ++ jl (ns.drop (k + 1))) := by
    conv => lhs; rw [hsp]
    rw [List.set_append_right _ _ (by omega), Nat.add_sub_cancel_left, List.set_append_left _ _ hjd]
  have hgt : ∀ n ∈ ns.take k, nOk n := fun n hn => hg n (List.mem_of_mem_take hn)
  have h1 : tx.data.toList = jl (ns.take k) ++ ((nS ns[k]).data.toList.set j b ++ (jl (ns.drop (k + 1)) ++ Y)) := by rw [h, hset]; simp only [List.append_assoc]
  have n1 := notes_of hgt h1 (ns.take k).length (Nat.le_refl _)
  rw [List.take_length, List.length_take, Nat.min_eq_left (by omega)] at n1
  refine ⟨n1, ?_⟩
  rcases Nat.eq_zero_or_pos (nsz tx (jl (ns.take k)).length) with hz | hz
  · exact hz
  · exfalso
    have hle : (jl (ns.take k)).length ≤ tx.size := by rw [← size_data, h1, List.length_append]; omega
    obtain ⟨n, hn, hp⟩ := nsz_line hle (by omega)
    rw [h1, List.drop_left] at hp
    obtain ⟨u, hu⟩ := line_of (hg _ (List.getElem_mem hk))
    obtain ⟨u', hu'⟩ := line_of hn
    refine spoil hu hu' hjd ?_ hp
    rw [hsp, List.getElem?_append_right (by omega), Nat.add_sub_cancel_left, List.getElem?_append_left hjd] at hb
    exact hb
end Go.Proofs.YtaclbffacnoddaaGreatDoor
namespace Go.Proofs.YtaclbffacnoddaaGreatDoor
open Go.RowKit Go.Shelf
set_option maxHeartbeats 1000000 in
set_option maxRecDepth 100000 in
theorem lin_any (n lo hi : Int) (w : World) :
    Calls Tryz.prog 19 #[.int .i64 n, .int .i64 lo, .int .i64 hi] w fun e w' => e = .returned (.bool (inR n lo hi)) ∧ w = w' := by
  obtain ⟨B, hB⟩ : ∃ B, B = inR n lo hi := ⟨_, rfl⟩
  rw [← hB]
  unfold inR at hB
  have HB := hide hB
  clear hB
  by_cases h : lo ≤ n
  · go_enter Tryz.func19, Tryz.ntmps19
    go_wp2
    go_ret
    refine ⟨ret_bool ?_, rfl⟩
    rw [HB.out, decide_eq_true h]; rfl
  · go_enter Tryz.func19, Tryz.ntmps19
    go_wp2
    go_ret
    refine ⟨ret_bool ?_, rfl⟩
    rw [HB.out, decide_eq_false (by omega)]; rfl
set_option maxHeartbeats 2000000 in
set_option maxRecDepth 100000 in
theorem goodNote_any (c p e s : Int) (w : World) :
    Calls Tryz.prog 12 #[.agg #[.int .i64 c, .int .i64 p, .int .i64 e, .int .i64 s]] w fun x w' => x = .returned (.bool (noteOk c p e s)) ∧ Below w.heap.size w w' := by
  have hb : Hid (Below w.heap.size w (w.alloc (.cells #[.int .i64 c, .int .i64 p, .int .i64 e, .int .i64 s] 27))) := (Below.refl _ _).alloc (Nat.le_refl _) _
  obtain ⟨B, hB⟩ : ∃ B, B = noteOk c p e s := ⟨_, rfl⟩
  rw [← hB]
  unfold noteOk at hB
  have HB := hide hB
  clear hB
  cases h1 : inR c 1 4 with
  | false =>
    go_enter Tryz.func12, Tryz.ntmps12
    go_wp2_with (go_at_call 19; refine Calls.mono (lin_any _ _ _ _) ?_; rintro e w' ⟨rfl, rfl⟩)
    go_ret
    exact ⟨ret_bool (by rw [HB.out, h1]; rfl), hb.out⟩
  | true =>
    cases h2 : inR p 0 9007199254740992 with
    | false =>
      go_enter Tryz.func12, Tryz.ntmps12
      go_wp2_with (go_at_call 19; refine Calls.mono (lin_any _ _ _ _) ?_; rintro e w' ⟨rfl, rfl⟩)
      go_ret
      exact ⟨ret_bool (by rw [HB.out, h1, h2]; rfl), hb.out⟩
    | true =>
      cases h3 : inR e 0 9007199254740992 with
      | false =>
        go_enter Tryz.func12, Tryz.ntmps12
        go_wp2_with (go_at_call 19; refine Calls.mono (lin_any _ _ _ _) ?_; rintro e w' ⟨rfl, rfl⟩)
        go_ret
        exact ⟨ret_bool (by rw [HB.out, h1, h2, h3]; rfl), hb.out⟩
      | true =>
        cases h4 : inR s 0 4294967295 with
        | false =>
          go_enter Tryz.func12, Tryz.ntmps12
          go_wp2_with (go_at_call 19; refine Calls.mono (lin_any _ _ _ _) ?_; rintro e w' ⟨rfl, rfl⟩)
          go_ret
          exact ⟨ret_bool (by rw [HB.out, h1, h2, h3, h4]; rfl), hb.out⟩
        | true =>
          go_enter Tryz.func12, Tryz.ntmps12
          go_wp2_with (go_at_call 19; refine Calls.mono (lin_any _ _ _ _) ?_; rintro e w' ⟨rfl, rfl⟩)
          go_ret
          exact ⟨ret_bool (by rw [HB.out, h1, h2, h3, h4]; rfl), hb.out⟩
end Go.Proofs.YtaclbffacnoddaaGreatDoor
