import Derived.Test.YtjibhdcnibgegaaRpWrite
namespace Go.Proofs.Ytjibhdcnibgegaa
open Go.RowKit
theorem less_irrefl (a : List UInt8) : Op.bytesLess a a = false := by
  induction a with
  | nil => rfl
  | cons x a ih => unfold Op.bytesLess; simp [ih]
theorem less_trans {a b c : List UInt8} (h1 : Op.bytesLess a b = true) (h2 : Op.bytesLess b c = true) : Op.bytesLess a c = true := by
  induction a generalizing b c with
  | nil =>
    cases c with
    | nil => cases b with
      | nil => exact h1
      | cons y b => simp [Op.bytesLess] at h2
    | cons z c => rfl
  | cons x a ih =>
    cases b with
    | nil => simp [Op.bytesLess] at h1
    | cons y b =>
      cases c with
      | nil => simp [Op.bytesLess] at h2
      | cons z c =>
        unfold Op.bytesLess at h1 h2 ⊢
        simp only [Bool.or_eq_true, decide_eq_true_eq, Bool.and_eq_true, beq_iff_eq, UInt8.lt_iff_toNat_lt] at h1 h2 ⊢
        rcases h1 with h1 | ⟨rfl, h1⟩
        · rcases h2 with h2 | ⟨rfl, h2⟩
          · left; omega
          · left; exact h1
        · rcases h2 with h2 | ⟨rfl, h2⟩
          · left; exact h2
          · right; exact ⟨rfl, ih h1 h2⟩
theorem less_total (a b : List UInt8) : a = b ∨ Op.bytesLess a b = true ∨ Op.bytesLess b a = true := by
  induction a generalizing b with
  | nil => cases b with
    | nil => exact .inl rfl
    | cons y b => exact .inr (.inl rfl)
  | cons x a ih =>
    cases b with
    | nil => exact .inr (.inr rfl)
    | cons y b =>
      unfold Op.bytesLess
      simp only [Bool.or_eq_true, decide_eq_true_eq, Bool.and_eq_true, beq_iff_eq, UInt8.lt_iff_toNat_lt]
      rcases Nat.lt_trichotomy x.toNat y.toNat with h | h | h
      · exact .inr (.inl (.inl h))
      · rw [UInt8.toNat_inj] at h
        subst h
        rcases ih b with rfl | h | h
        · exact .inl rfl
        · exact .inr (.inl (.inr ⟨rfl, h⟩))
        · exact .inr (.inr (.inr ⟨rfl, h⟩))
      · exact .inr (.inr (.inl h))
theorem toList_inj {a b : ByteArray} (h : a.toList = b.toList) : a = b := by
  rw [ByteArray.toList_eq, ByteArray.toList_eq] at h
  exact ByteArray.ext (Array.toList_inj.1 h)
theorem lessS_irrefl (a : ByteArray) : lessS a a = false := less_irrefl _
theorem lessS_trans {a b c : ByteArray} (h1 : lessS a b = true) (h2 : lessS b c = true) : lessS a c = true := less_trans h1 h2
theorem lessS_total (a b : ByteArray) : a = b ∨ lessS a b = true ∨ lessS b a = true := by
  rcases less_total a.toList b.toList with h | h | h
  · exact .inl (toList_inj h)
  · exact .inr (.inl h)
  · exact .inr (.inr h)
/-- texts that rise -/
def Rises (n : Nat) (ks : Nat → ByteArray) : Prop := ∀ i, i + 1 < n → lessS (ks i) (ks (i + 1)) = true
theorem Rises.lt {n : Nat} {ks : Nat → ByteArray} (h : Rises n ks) : ∀ j i, i < j → j < n → lessS (ks i) (ks j) = true := by
  intro j
  induction j with
  | zero => intro i h1 _; omega
  | succ j ih =>
    intro i h1 h2
    rcases Nat.lt_or_ge i j with hl | hl
    · exact lessS_trans (ih i hl (by omega)) (h j h2)
    · obtain rfl : i = j := by omega
      exact h i h2
theorem Rises.inj {n : Nat} {ks : Nat → ByteArray} (h : Rises n ks) {i j : Nat} (hi : i < n) (hj : j < n) (e : ks i = ks j) : i = j := by
  rcases Nat.lt_trichotomy i j with hl | hl | hl
  · have := h.lt j i hl hj; rw [e, lessS_irrefl] at this; cases this
  · exact hl
  · have := h.lt i j hl hi; rw [e, lessS_irrefl] at this; cases this
/-- the place that the search by halves ends at -/
theorem search_end {n : Nat} {ks : Nat → ByteArray} (h : Rises n ks) {x : ByteArray} {i : Nat} (hi : i ≤ n) (h1 : ∀ t, t < i → lessS (ks t) x = true) (h2 : ∀ t, i ≤ t → t < n → lessS (ks t) x = false) {j : Nat} (hj : j < n) (e : ks j = x) : j = i := by
  rcases Nat.lt_trichotomy j i with hl | hl | hl
  · have := h1 j hl; rw [e, lessS_irrefl] at this; cases this
  · exact hl
  · have h3 := h.lt j i hl hj
    rw [e] at h3
    have h4 := h2 i (Nat.le_refl _) (by omega)
    rw [h3] at h4; cases h4
theorem search_up {n : Nat} {ks : Nat → ByteArray} (h : Rises n ks) {x : ByteArray} {m : Nat} (hm : m < n) (hl : lessS (ks m) x = true) : ∀ t, t ≤ m → lessS (ks t) x = true := by
  intro t ht
  rcases Nat.lt_or_ge t m with h1 | h1
  · exact lessS_trans (h.lt m t h1 hm) hl
  · obtain rfl : t = m := by omega
    exact hl
theorem search_down {n : Nat} {ks : Nat → ByteArray} (h : Rises n ks) {x : ByteArray} {m : Nat} (hl : lessS (ks m) x = false) : ∀ t, m ≤ t → t < n → lessS (ks t) x = false := by
  intro t ht hn
  cases hc : lessS (ks t) x with
  | false => rfl
  | true =>
    rcases Nat.lt_or_ge m t with h1 | h1
    · have := lessS_trans (h.lt t m h1 hn) hc; rw [hl] at this; cases this
    · obtain rfl : t = m := by omega
      rw [hl] at hc; cases hc
/-- keys of a right record rise -/
theorem keys_rise {ps : List KV} (h : errL ps = 0) : Rises ps.length (fun i => (ps.getD i default).1) := by
  have hg : ¬ (ps.length = 0 ∨ 512 < ps.length) := by obtain ⟨a, b, _⟩ := fine h; omega
  have hall : ∀ j, j < ps.length → badAt ps j = 0 := by
    intro j
    induction j using Nat.strongRecOn with
    | ind j ih =>
      intro hj
      by_cases hb : badAt ps j = 0
      · exact hb
      · have := (wrong_at hg hj (fun i hi => ih i hi (by omega)) hb).2
        rw [h] at this
        exact this.symm
  intro i hi
  have hb := hall (i + 1) hi
  have hs := badAt_small hi hb
  unfold badAt badP at hb
  rw [if_neg (by omega : ¬ i + 1 = 0), show i + 1 - 1 = i by omega] at hb
  rw [getD_at hi] at hb
  rw [if_neg (by omega), if_neg (by omega), badQ] at hb
  simp only
  rw [getD_at hi]
  rcases lessS_total (ps.getD i default).1 ps[i + 1].1 with e | e | e
  · rw [if_pos e.symm] at hb; omega
  · exact e
  · by_cases hq : ps[i + 1].1 = (ps.getD i default).1
    · rw [if_pos hq] at hb; omega
    · rw [if_neg hq, if_pos e] at hb; omega
end Go.Proofs.Ytjibhdcnibgegaa
