import Derived.Test.YtgdibjnendjhnaaGreatDoorPlain
namespace Go.Proofs.YtgdibjnendjhnaaGreatDoor
open Go

/-- the road of the document's loop over a path's bytes -/
def NR (l : List UInt8) (i f m : Nat) : Prop :=
  (i ≤ l.length ∧ f ≤ i ∧ (47 : UInt8) ∉ (l.drop f).take (i - f) ∧ isPath l = chk m (l.drop f) ∧ m + (pcs (l.drop f)).length = (pcs l).length ∧ m ≤ 8) ∨
  (i = l.length + 1 ∧ f = l.length + 1 ∧ isPath l = true ∧ m = (pcs l).length ∧ m ≤ 8)

theorem NR_start (l : List UInt8) (h : l ≠ []) : NR l 0 0 0 :=
  Or.inl ⟨Nat.zero_le _, Nat.le_refl _, by simp, by rw [List.drop_zero]; exact isPath_chk l h, by simp, by omega⟩

theorem NR_skip {l : List UInt8} {i f m : Nat} (h : NR l i f m) (hi : i < l.length) (h47 : l[i] ≠ 47) : NR l (i + 1) f m := by
  rcases h with ⟨_, hf, hno, hp, hc, hm⟩ | ⟨he, _⟩
  · exact Or.inl ⟨by omega, by omega, no47_snoc l f i hf hi h47 hno, hp, hc, hm⟩
  · omega

theorem NR_cut {l : List UInt8} {i f m : Nat} (h : NR l i f m) (hi : i < l.length) (h47 : l[i] = 47) (hn : nm ((l.drop f).take (i - f)) = true) (h8 : m ≠ 8) : NR l (i + 1) (i + 1) (m + 1) := by
  rcases h with ⟨_, hf, hno, hp, hc, hm⟩ | ⟨he, _⟩
  · refine Or.inl ⟨by omega, Nat.le_refl _, by simp, ?_, ?_, by omega⟩
    · rw [hp, chk_cut l m f i hf hi h47 hno, hn, Bool.true_and, show decide (m < 8) = true by simp; omega, Bool.true_and]
    · rw [piece_cut l f i hf hi h47 hno, List.length_cons] at hc
      omega
  · omega

theorem NR_last {l : List UInt8} {i f m : Nat} (h : NR l i f m) (hi : i = l.length) (hn : nm ((l.drop f).take (i - f)) = true) (h8 : m ≠ 8) : NR l (i + 1) (i + 1) (m + 1) := by
  rcases h with ⟨_, hf, hno, hp, hc, hm⟩ | ⟨he, _⟩
  · subst hi
    have ht : (l.drop f).take (l.length - f) = l.drop f := List.take_of_length_le (by simp)
    rw [ht] at hno hn
    refine Or.inr ⟨rfl, rfl, ?_, ?_, by omega⟩
    · rw [hp, chk_end l m f hno, hn, Bool.true_and]; simp; omega
    · rw [pcs_last _ hno] at hc
      simpa using hc
  · omega

theorem NR_bad {l : List UInt8} {i f m : Nat} (h : NR l i f m) (hi : i = l.length ∨ ∃ hl : i < l.length, l[i] = 47) (hn : nm ((l.drop f).take (i - f)) = false ∨ m = 8) : isPath l = false := by
  rcases h with ⟨_, hf, hno, hp, hc, hm⟩ | ⟨he, _⟩
  · rw [hp]
    rcases hi with hi | ⟨hl, h47⟩
    · subst hi
      have ht : (l.drop f).take (l.length - f) = l.drop f := List.take_of_length_le (by simp)
      rw [ht] at hno hn
      rw [chk_end l m f hno]
      rcases hn with hn | hn
      · rw [hn, Bool.false_and]
      · rw [hn]; simp
    · rw [chk_cut l m f i hf hl h47 hno]
      rcases hn with hn | hn
      · rw [hn, Bool.false_and, Bool.false_and]
      · rw [hn]; simp
  · rcases hi with hi | ⟨hl, _⟩ <;> omega

theorem NR_end {l : List UInt8} {f m : Nat} (h : NR l (l.length + 1) f m) : isPath l = true ∧ m = (pcs l).length := by
  rcases h with ⟨hi, _⟩ | ⟨_, _, h1, h2, _⟩
  · omega
  · exact ⟨h1, h2⟩
theorem NR_le {l : List UInt8} {i f m : Nat} (h : NR l i f m) : i ≤ l.length + 1 ∧ f ≤ i ∧ m ≤ 8 := by
  rcases h with ⟨h1, h2, _, _, _, h3⟩ | ⟨h1, h2, _, _, h3⟩ <;> omega
theorem isPath_n8 {l : List UInt8} (h : isPath l = true) : nNames l ≤ 8 := by
  unfold nNames
  split
  · omega
  · rename_i hne
    rw [isPath_chk l hne] at h
    unfold chk at h
    simp only [Bool.and_eq_true, decide_eq_true_eq] at h
    omega
end Go.Proofs.YtgdibjnendjhnaaGreatDoor
