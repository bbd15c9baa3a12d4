import Derived.Test.YtjibhdcnibgegaaRpRecs
import Derived.Test.YtjibhdcnibgegaaRnRef
namespace Go.Proofs.Ytjibhdcnibgegaa
open Go.RowKit
def kAt (d : ByteArray) (p : Nat) : Nat := val ((d.data.toList.drop p).take 2)
def vAt (d : ByteArray) (p : Nat) : Nat := val ((d.data.toList.drop (p + 2)).take 4)
def pairOf (d : ByteArray) (p : Nat) : KV := (d.extract (p + 6) (p + 6 + kAt d p), d.extract (p + 6 + kAt d p) (p + 6 + kAt d p + vAt d p))
def pairEnd (d : ByteArray) (p : Nat) : Nat := p + 6 + kAt d p + vAt d p
def pairOk (d : ByteArray) (p : Nat) : Prop := p + 6 ≤ d.size ∧ pairEnd d p ≤ d.size
instance (d : ByteArray) (p : Nat) : Decidable (pairOk d p) := by unfold pairOk; exact inferInstance
def pairsAt (d : ByteArray) (p : Nat) : Nat → Option (List KV × Nat)
  | 0 => some ([], p)
  | n + 1 => match pairsAt d p n with
    | none => none
    | some (l, q) => if pairOk d q then some (l ++ [pairOf d q], pairEnd d q) else none
def spellAt (d : ByteArray) (p : Nat) : Option (List KV × Nat) := if p + 2 ≤ d.size then pairsAt d (p + 2) (kAt d p) else none
theorem kAt_lt (d : ByteArray) (p : Nat) : kAt d p < 65536 := by
  unfold kAt
  exact Nat.lt_of_lt_of_le (val_lt _) (Nat.pow_le_pow_right (show 256 > 0 by omega) (show ((d.data.toList.drop p).take 2).length ≤ 2 by rw [List.length_take]; omega))
theorem vAt_lt (d : ByteArray) (p : Nat) : vAt d p < 4294967296 := by
  unfold vAt
  exact Nat.lt_of_lt_of_le (val_lt _) (Nat.pow_le_pow_right (show 256 > 0 by omega) (show ((d.data.toList.drop (p + 2)).take 4).length ≤ 4 by rw [List.length_take]; omega))
theorem pairs_step {d : ByteArray} {p n : Nat} {l : List KV} {q : Nat} (h : pairsAt d p n = some (l, q)) (hk : pairOk d q) : pairsAt d p (n + 1) = some (l ++ [pairOf d q], pairEnd d q) := by
  unfold pairsAt; rw [h]; simp only; rw [if_pos hk]
theorem pairs_stop {d : ByteArray} {p n : Nat} {l : List KV} {q : Nat} (h : pairsAt d p n = some (l, q)) (hk : ¬ pairOk d q) : pairsAt d p (n + 1) = none := by
  unfold pairsAt; rw [h]; simp only; rw [if_neg hk]
theorem pairs_none {d : ByteArray} {p n : Nat} (h : pairsAt d p n = none) (m : Nat) : pairsAt d p (n + m) = none := by
  induction m with
  | zero => exact h
  | succ m ih => rw [show n + (m + 1) = n + m + 1 by omega, pairsAt, ih]
theorem pair_body {d : ByteArray} {q : Nat} (h : pairOk d q) : pairL (pairOf d q) = (d.data.toList.drop q).take (pairEnd d q - q) := by
  obtain ⟨h6, he⟩ := h
  have hz := size_data d
  unfold pairEnd at he
  have s1 : (pairOf d q).1.size = kAt d q := by unfold pairOf; simp; omega
  have s2 : (pairOf d q).2.size = vAt d q := by unfold pairOf; simp; omega
  have e1 : dig 2 (kAt d q) = (d.data.toList.drop q).take 2 := by
    have := dig_val ((d.data.toList.drop q).take 2)
    rw [show ((d.data.toList.drop q).take 2).length = 2 by rw [List.length_take, List.length_drop]; omega] at this
    exact this
  have e2 : dig 4 (vAt d q) = (d.data.toList.drop (q + 2)).take 4 := by
    have := dig_val ((d.data.toList.drop (q + 2)).take 4)
    rw [show ((d.data.toList.drop (q + 2)).take 4).length = 4 by rw [List.length_take, List.length_drop]; omega] at this
    exact this
  have e3 : (pairOf d q).1.data.toList = (d.data.toList.drop (q + 6)).take (kAt d q) := by
    unfold pairOf; simp only; rw [slice_str, show q + 6 + kAt d q - (q + 6) = kAt d q by omega]
  have e4 : (pairOf d q).2.data.toList = (d.data.toList.drop (q + 6 + kAt d q)).take (vAt d q) := by
    unfold pairOf; simp only; rw [slice_str, show q + 6 + kAt d q + vAt d q - (q + 6 + kAt d q) = vAt d q by omega]
  unfold pairL pairEnd
  rw [s1, s2, e1, e2, e3, e4, show q + 6 + kAt d q + vAt d q - q = 2 + (4 + (kAt d q + vAt d q)) by omega, List.take_add, List.take_add, List.take_add]
  simp only [List.drop_drop, List.append_assoc]
theorem pairs_body {d : ByteArray} {p : Nat} (hp : p ≤ d.size) : ∀ n l q, pairsAt d p n = some (l, q) → p ≤ q ∧ q ≤ d.size ∧ l.length = n ∧ bodyL l = (d.data.toList.drop p).take (q - p) := by
  intro n
  induction n with
  | zero => intro l q h; simp [pairsAt] at h; obtain ⟨rfl, rfl⟩ := h; simp [bodyL, hp]
  | succ n ih =>
    intro l q h
    rw [pairsAt] at h
    split at h
    · cases h
    · rename_i l' q' h'
      obtain ⟨i1, i2, i3, i4⟩ := ih l' q' h'
      by_cases hk : pairOk d q'
      · rw [if_pos hk] at h
        simp only [Option.some.injEq, Prod.mk.injEq] at h
        obtain ⟨rfl, rfl⟩ := h
        have hb := pair_body hk
        have hq : q' ≤ pairEnd d q' := by unfold pairEnd; omega
        refine ⟨by omega, hk.2, by simp [i3], ?_⟩
        have : bodyL (l' ++ [pairOf d q']) = bodyL l' ++ pairL (pairOf d q') := by simp [bodyL]
        rw [this, i4, hb, show pairEnd d q' - p = (q' - p) + (pairEnd d q' - q') by omega, List.take_add, List.drop_drop, show p + (q' - p) = q' by omega]
      · rw [if_neg hk] at h; cases h
theorem spell_rec {d : ByteArray} {p : Nat} {l : List KV} {q : Nat} (h : spellAt d p = some (l, q)) : p + 2 ≤ q ∧ q ≤ d.size ∧ l.length < 65536 ∧ recL l = (d.data.toList.drop p).take (q - p) := by
  unfold spellAt at h
  by_cases hp : p + 2 ≤ d.size
  · rw [if_pos hp] at h
    obtain ⟨i1, i2, i3, i4⟩ := pairs_body hp _ _ _ h
    have e1 : dig 2 (kAt d p) = (d.data.toList.drop p).take 2 := by
      have := dig_val ((d.data.toList.drop p).take 2)
      rw [show ((d.data.toList.drop p).take 2).length = 2 by rw [List.length_take, List.length_drop, size_data]; omega] at this
      exact this
    refine ⟨i1, i2, by rw [i3]; exact kAt_lt _ _, ?_⟩
    unfold recL
    rw [i3, i4, e1, show q - p = 2 + (q - (p + 2)) by omega, List.take_add, List.drop_drop]
  · rw [if_neg hp] at h; cases h
theorem spell_text {d : ByteArray} {p : Nat} {l : List KV} {q : Nat} (h : spellAt d p = some (l, q)) : strOf (recL l) = d.extract p q := by
  rw [(spell_rec h).2.2.2, ← slice_str, strOf_toList]
end Go.Proofs.Ytjibhdcnibgegaa
