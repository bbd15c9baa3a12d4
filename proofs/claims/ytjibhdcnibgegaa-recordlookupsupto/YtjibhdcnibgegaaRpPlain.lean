import Derived.Test.YtjibhdcnibgegaaRnPlain
import Derived.Lib.Bytealg
namespace Go.Proofs.Ytjibhdcnibgegaa
open Go.RowKit
abbrev KV := ByteArray × ByteArray
def pairL (p : KV) : List UInt8 := dig 2 p.1.size ++ dig 4 p.2.size ++ p.1.data.toList ++ p.2.data.toList
def bodyL (ps : List KV) : List UInt8 := ps.flatMap pairL
def recL (ps : List KV) : List UInt8 := dig 2 ps.length ++ bodyL ps
def sizeL : List KV → Nat
  | [] => 0
  | p :: r => 6 + p.1.size + p.2.size + sizeL r
theorem pairL_len (p : KV) : (pairL p).length = 6 + p.1.size + p.2.size := by simp [pairL, dig_len]; omega
theorem bodyL_len (ps : List KV) : (bodyL ps).length = sizeL ps := by
  induction ps with
  | nil => rfl
  | cons p r ih => simp only [bodyL, List.flatMap_cons, List.length_append, pairL_len, sizeL]; unfold bodyL at ih; rw [ih]
theorem recL_len (ps : List KV) : (recL ps).length = 2 + sizeL ps := by simp only [recL, List.length_append, dig_len, bodyL_len]
theorem sizeL_append (a b : List KV) : sizeL (a ++ b) = sizeL a + sizeL b := by
  induction a with
  | nil => simp [sizeL]
  | cons p r ih => simp only [List.cons_append, sizeL, ih]; omega
theorem sizeL_take (ps : List KV) (i : Nat) (h : i < ps.length) : sizeL (ps.take (i + 1)) = sizeL (ps.take i) + (6 + ps[i].1.size + ps[i].2.size) := by
  rw [List.take_succ_eq_append_getElem h, sizeL_append]; rfl
theorem bodyL_take (ps : List KV) (i : Nat) (h : i < ps.length) : bodyL (ps.take (i + 1)) = bodyL (ps.take i) ++ pairL ps[i] := by
  unfold bodyL; rw [List.take_succ_eq_append_getElem h, List.flatMap_append, List.flatMap_singleton]
def lessS (a b : ByteArray) : Bool := Op.bytesLess a.toList b.toList
/-- what is wrong with a pair behind another -/
def badQ (q : Option ByteArray) (k : ByteArray) : Int := match q with
  | none => 0
  | some q => if k = q then 35 else if lessS k q then 37 else 0
def badP (q : Option ByteArray) (p : KV) : Int :=
  if p.1.size = 0 ∨ 255 < p.1.size then 32 else if 4096 < p.2.size then 33 else badQ q p.1
def badAt (ps : List KV) (i : Nat) : Int := badP (if i = 0 then none else some (ps.getD (i - 1) default).1) (ps.getD i default)
def wrongL (ps : List KV) : Int := if ps.length = 0 ∨ 512 < ps.length then 36 else (((List.range ps.length).map (badAt ps)).find? (fun e => decide (e ≠ 0))).getD 0
def errL (ps : List KV) : Int := if wrongL ps = 0 then if 65536 < 2 + sizeL ps then 3 else 0 else wrongL ps
def wSize (ps : List KV) : Int := if errL ps = 0 then ((2 + sizeL ps : Nat) : Int) else 0
theorem wSize_bad {ps : List KV} (h : errL ps ≠ 0) : wSize ps = 0 := by unfold wSize; rw [if_neg h]
theorem wSize_ok {ps : List KV} (h : errL ps = 0) : wSize ps = ((2 + sizeL ps : Nat) : Int) := by unfold wSize; rw [if_pos h]
theorem find_first {f : Nat → Int} {n i : Nat} (hi : i < n) (h0 : ∀ j, j < i → f j = 0) (hne : f i ≠ 0) : ((List.range n).map f).find? (fun e => decide (e ≠ 0)) = some (f i) := by
  induction n with
  | zero => omega
  | succ n ih =>
    rw [List.range_succ, List.map_append, List.find?_append]
    by_cases hn : i < n
    · rw [ih hn]; rfl
    · obtain rfl : i = n := by omega
      have : ((List.range i).map f).find? (fun e => decide (e ≠ 0)) = none := by
        rw [List.find?_eq_none]
        intro x hx
        obtain ⟨j, hj, rfl⟩ := List.mem_map.1 hx
        simp [h0 j (List.mem_range.1 hj)]
      rw [this]
      simp [hne]
theorem find_none {f : Nat → Int} {n : Nat} (h0 : ∀ j, j < n → f j = 0) : ((List.range n).map f).find? (fun e => decide (e ≠ 0)) = none := by
  rw [List.find?_eq_none]
  intro x hx
  obtain ⟨j, hj, rfl⟩ := List.mem_map.1 hx
  simp [h0 j (List.mem_range.1 hj)]
theorem wrong_group {ps : List KV} (h : ps.length = 0 ∨ 512 < ps.length) : wrongL ps = 36 ∧ errL ps = 36 := by
  have e : wrongL ps = 36 := by unfold wrongL; rw [if_pos h]
  refine ⟨e, ?_⟩
  unfold errL; rw [e, if_neg (by omega)]
theorem wrong_at {ps : List KV} {i : Nat} (h : ¬ (ps.length = 0 ∨ 512 < ps.length)) (hi : i < ps.length) (h0 : ∀ j, j < i → badAt ps j = 0) (hne : badAt ps i ≠ 0) : wrongL ps = badAt ps i ∧ errL ps = badAt ps i := by
  have e : wrongL ps = badAt ps i := by unfold wrongL; rw [if_neg h, find_first hi h0 hne]; rfl
  refine ⟨e, ?_⟩
  unfold errL; rw [e, if_neg hne]
theorem wrong_none {ps : List KV} (h : ¬ (ps.length = 0 ∨ 512 < ps.length)) (h0 : ∀ j, j < ps.length → badAt ps j = 0) : wrongL ps = 0 ∧ errL ps = if 65536 < 2 + sizeL ps then 3 else 0 := by
  have e : wrongL ps = 0 := by unfold wrongL; rw [if_neg h, find_none h0]; rfl
  refine ⟨e, ?_⟩
  unfold errL; rw [e, if_pos rfl]
theorem bad_small {q : Option ByteArray} {p : KV} (h : badP q p = 0) : 1 ≤ p.1.size ∧ p.1.size ≤ 255 ∧ p.2.size ≤ 4096 := by
  unfold badP at h
  by_cases h1 : p.1.size = 0 ∨ 255 < p.1.size
  · rw [if_pos h1] at h; omega
  · by_cases h2 : 4096 < p.2.size
    · rw [if_neg h1, if_pos h2] at h; omega
    · omega
theorem badAt_small {ps : List KV} {i : Nat} (hi : i < ps.length) (h : badAt ps i = 0) : 1 ≤ ps[i].1.size ∧ ps[i].1.size ≤ 255 ∧ ps[i].2.size ≤ 4096 := by
  have := bad_small h
  rwa [List.getD_eq_getElem?_getD, List.getElem?_eq_getElem hi] at this
theorem size_small {ps : List KV} {i : Nat} (hi : i ≤ ps.length) (h : ∀ j, j < i → badAt ps j = 0) : sizeL (ps.take i) ≤ i * 4357 := by
  induction i with
  | zero => simp [sizeL]
  | succ i ih =>
    rw [sizeL_take ps i (by omega)]
    have := ih (by omega) (fun j hj => h j (by omega))
    have := badAt_small (by omega) (h i (by omega))
    omega
theorem cmp3 (a b : List UInt8) : Lib.compareBytes a b = if a = b then 0 else if Op.bytesLess a b then -1 else 1 := by
  induction a generalizing b with
  | nil => cases b <;> simp [Lib.compareBytes, Op.bytesLess]
  | cons x a ih =>
    cases b with
    | nil => simp [Lib.compareBytes, Op.bytesLess]
    | cons y b =>
      unfold Lib.compareBytes Op.bytesLess
      by_cases hxy : x = y
      · subst hxy
        have hlt : ¬ x < x := UInt8.lt_irrefl x
        rw [if_neg hlt, if_neg hlt, ih]
        by_cases h : a = b
        · subst h; simp
        · simp [h]
      · by_cases hlt : x < y
        · simp [hlt, hxy]
        · have : y < x := UInt8.lt_of_le_of_ne (UInt8.not_lt.1 hlt) (Ne.symm hxy)
          simp [hlt, this, hxy]
theorem cmpS (a b : ByteArray) : Lib.compareBytes a.data.toList b.data.toList = if a = b then 0 else if lessS a b then -1 else 1 := by
  rw [cmp3]
  unfold lessS
  rw [ByteArray.toList_eq, ByteArray.toList_eq]
  congr 1
  rw [eq_iff_iff]
  constructor
  · intro h; exact ByteArray.ext (Array.toList_inj.1 h)
  · intro h; rw [h]
end Go.Proofs.Ytjibhdcnibgegaa
