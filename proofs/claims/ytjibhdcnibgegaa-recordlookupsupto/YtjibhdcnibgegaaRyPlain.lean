import Derived.Test.YtjibhdcnibgegaaRxDec2
namespace Go.Proofs.Ytjibhdcnibgegaa
open Go.RowKit
/-- the groups without a look at the offsets -/
def chAt (m : Nat) (x d : ByteArray) : Nat → Option (List GR × Nat)
  | 0 => some ([], 0)
  | n + 1 => match chAt m x d n with
    | none => none
    | some (l, q) => if errL (spL d q) = 0 then some (l ++ [(rdeH m x n, spL d q)], spN d q) else none
theorem ch_step {m : Nat} {x d : ByteArray} {n : Nat} {l : List GR} {q : Nat} (h : chAt m x d n = some (l, q)) (h1 : errL (spL d q) = 0) : chAt m x d (n + 1) = some (l ++ [(rdeH m x n, spL d q)], spN d q) := by
  rw [chAt, h]; simp only; rw [if_pos h1]
theorem ch_stop {m : Nat} {x d : ByteArray} {n : Nat} {l : List GR} {q : Nat} (h : chAt m x d n = some (l, q)) (h1 : ¬ errL (spL d q) = 0) : chAt m x d (n + 1) = none := by
  rw [chAt, h]; simp only; rw [if_neg h1]
theorem ch_none {m : Nat} {x d : ByteArray} {n : Nat} (h : chAt m x d n = none) (t : Nat) : chAt m x d (n + t) = none := by
  induction t with
  | zero => exact h
  | succ t ih => rw [show n + (t + 1) = n + t + 1 by omega, chAt, ih]
/-- the data and the index that groups make -/
def encD (gs : List GR) : List UInt8 := gs.flatMap fun g => recL g.2
def encN (gs : List GR) : Nat → List UInt8
  | 0 => []
  | n + 1 => encN gs n ++ (gs.getD n default).1.data.toList ++ dig 4 (encD (gs.take n)).length
theorem encD_snoc (l : List GR) (g : GR) : encD (l ++ [g]) = encD l ++ recL g.2 := by simp [encD]
theorem encN_more (l r : List GR) : ∀ n, n ≤ l.length → encN (l ++ r) n = encN l n := by
  intro n
  induction n with
  | zero => intro _; rfl
  | succ n ih =>
    intro h
    rw [encN, encN, ih (by omega), List.take_append_of_le_length (by omega)]
    rw [List.getD_eq_getElem?_getD, List.getD_eq_getElem?_getD, List.getElem?_append_left (by omega)]
theorem encN_snoc (l : List GR) (g : GR) : encN (l ++ [g]) (l.length + 1) = encN l l.length ++ g.1.data.toList ++ dig 4 (encD l).length := by
  rw [encN, encN_more l [g] _ (Nat.le_refl _), List.take_left' rfl, List.getD_eq_getElem?_getD, List.getElem?_append_right (Nat.le_refl _)]
  simp
theorem recL_sp {d : ByteArray} {q : Nat} (h : errL (spL d q) = 0) : recL (spL d q) = (d.data.toList.drop q).take (spN d q - q) := by
  cases hs : spellAt d q with
  | none =>
    rw [(spL_none hs).1] at h
    have : errL [] = 36 := rfl
    omega
  | some y =>
    obtain ⟨l, r⟩ := y
    rw [(spL_some hs).1, (spL_some hs).2]
    exact (spell_rec hs).2.2.2
theorem rdeH_size {k : Nat} {x : ByteArray} {i : Nat} (hi : i < x.size / (k + 4)) : (rdeH k x i).size = k := by
  have := in_index hi
  unfold rdeH
  simp; omega
/-- what a chain is -/
theorem ch_facts {k : Nat} {x d : ByteArray} : ∀ n l q, n ≤ x.size / (k + 4) → chAt k x d n = some (l, q) → q ≤ d.size ∧ l.length = n ∧ encD l = d.data.toList.take q ∧ (∀ i (h : i < l.length), l[i].1 = rdeH k x i ∧ errL l[i].2 = 0) := by
  intro n
  induction n with
  | zero => intro l q _ h; simp [chAt] at h; obtain ⟨rfl, rfl⟩ := h; simp [encD]
  | succ n ih =>
    intro l q hn h
    rw [chAt] at h
    split at h
    · cases h
    · rename_i l' q' h'
      obtain ⟨i1, i2, i3, i4⟩ := ih l' q' (by omega) h'
      by_cases hc : errL (spL d q') = 0
      · rw [if_pos hc] at h
        simp only [Option.some.injEq, Prod.mk.injEq] at h
        obtain ⟨rfl, rfl⟩ := h
        have hsp := sp_le hc
        refine ⟨hsp.2, by simp [i2], ?_, fun i hi => ?_⟩
        · rw [encD_snoc, i3, recL_sp hc]
          rw [show d.data.toList.take (spN d q') = d.data.toList.take (q' + (spN d q' - q')) by congr 1; omega, List.take_add]
        · rcases Nat.lt_or_ge i l'.length with hlt | hge
          · rw [List.getElem_append_left hlt]; exact i4 i hlt
          · have : i = l'.length := by simp at hi; omega
            subst this
            rw [List.getElem_append_right (Nat.le_refl _)]
            simp [i2, hc]
      · rw [if_neg hc] at h; cases h
theorem entry_bytes {k : Nat} {x : ByteArray} {i : Nat} (hi : i < x.size / (k + 4)) : x.data.toList.take ((i + 1) * (k + 4)) = x.data.toList.take (i * (k + 4)) ++ (rdeH k x i).data.toList ++ dig 4 (rdeO k x i) := by
  have hin := in_index hi
  have hz := size_data x
  have e1 : (rdeH k x i).data.toList = (x.data.toList.drop (i * (k + 4))).take k := by
    unfold rdeH; rw [slice_str, show i * (k + 4) + k - i * (k + 4) = k by omega]
  have e2 : dig 4 (rdeO k x i) = (x.data.toList.drop (i * (k + 4) + k)).take 4 := by
    have := dig_val ((x.data.toList.drop (i * (k + 4) + k)).take 4)
    rw [show ((x.data.toList.drop (i * (k + 4) + k)).take 4).length = 4 by rw [List.length_take, List.length_drop]; omega] at this
    exact this
  rw [e1, e2, show (i + 1) * (k + 4) = i * (k + 4) + (k + 4) by rw [Nat.succ_mul], List.take_add, List.take_add, List.drop_drop, List.append_assoc]
theorem rdeO_lt (k : Nat) (x : ByteArray) (i : Nat) : rdeO k x i < 256 ^ 4 := by
  unfold rdeO
  exact Nat.lt_of_lt_of_le (val_lt _) (Nat.pow_le_pow_right (show 256 > 0 by omega) (show ((x.data.toList.drop (i * (k + 4) + k)).take 4).length ≤ 4 by rw [List.length_take]; omega))
theorem dig_eq {w n m : Nat} (hn : n < 256 ^ w) (hm : m < 256 ^ w) (h : dig w n = dig w m) : n = m := by
  rw [← val_dig w n hn, ← val_dig w m hm, h]
theorem dec_ch {m : Nat} {x d : ByteArray} : ∀ n r, decAt m x d n = some r → chAt m x d n = some r := by
  intro n
  induction n with
  | zero => intro r h; exact h
  | succ n ih =>
    intro r h
    rw [decAt] at h
    split at h
    · cases h
    · rename_i l q h'
      by_cases hc : errL (spL d q) = 0 ∧ rdeO m x n = q
      · rw [if_pos hc] at h
        rw [ch_step (ih _ h') hc.1]
        exact h
      · rw [if_neg hc] at h; cases h
/-- offsets that fit are an index that fits -/
theorem ch_dec {k : Nat} {x d : ByteArray} (hd : d.size ≤ 65536) : ∀ n l q, n ≤ x.size / (k + 4) → chAt k x d n = some (l, q) → (encN l n).length = n * (k + 4) ∧ (encN l n = x.data.toList.take (n * (k + 4)) ↔ decAt k x d n = some (l, q)) := by
  intro n
  induction n with
  | zero => intro l q _ h; simp [chAt] at h; obtain ⟨rfl, rfl⟩ := h; simp [encN, decAt]
  | succ n ih =>
    intro l q hn h
    rw [chAt] at h
    split at h
    · cases h
    · rename_i l' q' h'
      by_cases hc : errL (spL d q') = 0
      · rw [if_pos hc] at h
        simp only [Option.some.injEq, Prod.mk.injEq] at h
        obtain ⟨rfl, rfl⟩ := h
        obtain ⟨j1, j2⟩ := ih l' q' (by omega) h'
        obtain ⟨f1, f2, f3, _⟩ := ch_facts n l' q' (by omega) h'
        have hq : (encD l').length = q' := by rw [f3, List.length_take, size_data]; omega
        have hs := encN_snoc l' (rdeH k x n, spL d q')
        rw [f2, hq] at hs
        rw [hs, entry_bytes (by omega)]
        have hk : (rdeH k x n).data.toList.length = k := by rw [size_data]; exact rdeH_size (by omega)
        have hl : (x.data.toList.take (n * (k + 4))).length = n * (k + 4) := by
          have := in_index (x := x) (m := k) (i := n) (by omega)
          rw [List.length_take, size_data]; omega
        refine ⟨by simp only [List.length_append, j1, hk, dig_len]; rw [Nat.succ_mul]; omega, ?_⟩
        constructor
        · intro he
          rw [List.append_assoc, List.append_assoc] at he
          obtain ⟨h1, h2⟩ := List.append_inj he (by rw [j1, hl])
          obtain ⟨_, h3⟩ := List.append_inj h2 rfl
          have := dig_eq (by omega) (rdeO_lt k x n) h3
          exact dec_step (j2.1 h1) hc this.symm
        · intro he
          rw [decAt] at he
          split at he
          · cases he
          · rename_i l2 q2 h2
            by_cases hc2 : errL (spL d q2) = 0 ∧ rdeO k x n = q2
            · rw [if_pos hc2] at he
              simp only [Option.some.injEq, Prod.mk.injEq] at he
              have e2 := (dec_ch n _ h2).symm.trans h'
              simp only [Option.some.injEq, Prod.mk.injEq] at e2
              obtain ⟨rfl, rfl⟩ := e2
              rw [j2.2 h2, hc2.2]
            · rw [if_neg hc2] at he; cases he
      · rw [if_neg hc] at h; cases h
/-- the two looks at a chunk are one -/
theorem dc_ref {k : Nat} {x d : ByteArray} {l : List GR} {q : Nat} (hx : x.size % (k + 4) = 0) (hd : d.size ≤ 65536) (h : chAt k x d (x.size / (k + 4)) = some (l, q)) :
    dcOk (k : Int) x d = if strOf (encN l l.length) = x ∧ strOf (encD l) = d then some l else none := by
  obtain ⟨f1, f2, f3, _⟩ := ch_facts _ l q (Nat.le_refl _) h
  obtain ⟨_, j2⟩ := ch_dec hd _ l q (Nat.le_refl _) h
  have hN : x.size / (k + 4) * (k + 4) = x.size := Nat.div_mul_cancel (Nat.dvd_of_mod_eq_zero hx)
  rw [hN, List.take_of_length_le (by rw [size_data]; exact Nat.le_refl _)] at j2
  have hI : strOf (encN l l.length) = x ↔ encN l (x.size / (k + 4)) = x.data.toList := by
    rw [f2]
    constructor
    · intro e; rw [← strOf_data (encN l _), e]
    · intro e; rw [e, strOf_toList]
  have hD : strOf (encD l) = d ↔ q = d.size := by
    rw [f3]
    constructor
    · intro e
      have := congrArg ByteArray.size e
      rw [strOf_size, List.length_take, size_data] at this
      omega
    · intro e; rw [e, List.take_of_length_le (by rw [size_data]; exact Nat.le_refl _), strOf_toList]
  by_cases hi : encN l (x.size / (k + 4)) = x.data.toList
  · have hdec := j2.1 hi
    by_cases hq : q = d.size
    · rw [if_pos ⟨hI.2 hi, hD.2 hq⟩]
      subst hq
      exact ok_yes (by rw [Int.toNat_natCast]; exact hdec) hd
    · rw [if_neg (fun e => hq (hD.1 e.2))]
      exact ok_end (by rw [Int.toNat_natCast]; exact hdec) hq
  · rw [if_neg (fun e => hi (hI.1 e.1))]
    apply ok_none
    rw [Int.toNat_natCast]
    cases hdc : decAt k x d (x.size / (k + 4)) with
    | none => rfl
    | some r =>
      have := (dec_ch _ _ hdc).symm.trans h
      rw [this] at hdc
      exact absurd (j2.2 hdc) hi
theorem dc_ref_none {k : Nat} {x d : ByteArray} (h : chAt k x d (x.size / (k + 4)) = none) : dcOk (k : Int) x d = none := by
  apply ok_none
  rw [Int.toNat_natCast]
  cases hdc : decAt k x d (x.size / (k + 4)) with
  | none => rfl
  | some r => rw [dec_ch _ _ hdc] at h; cases h
end Go.Proofs.Ytjibhdcnibgegaa
