import Derived.Test.YtielppikobbppaaDoorPaPP
namespace Go.Proofs.YtielppikobbppaaDoor
open Go.RowKit Go.Shelf
def tabCells (ts : List FD) : List Value := (ts.map FD.cells).flatten
theorem tabCells_at : ∀ (ts : List FD) (i j : Nat) (h : i < ts.length), j < 7 → (tabCells ts)[i * 7 + j]? = ts[i].cells[j]?
  | f :: r, 0, j, _, hj => by
    show (f.cells ++ tabCells r)[0 * 7 + j]? = _
    rw [List.getElem?_append_left (by simp [FD.cells]; omega)]; simp
  | f :: r, i + 1, j, h, hj => by
    show (f.cells ++ tabCells r)[(i + 1) * 7 + j]? = _
    rw [List.getElem?_append_right (by simp [FD.cells]; omega), show (i + 1) * 7 + j - f.cells.length = i * 7 + j by simp [FD.cells]; omega]
    exact tabCells_at r i j (by simpa using h) hj
/-- the two blocks that a table's function makes: the box of its parameter, the rows -/
def tabW (pt : TypeId) (rb : Nat) (ts : List FD) (w : World) : World := (w.alloc (.cells #[.pointer (some ⟨rb, 0, none⟩)] pt)).alloc (.cells (tabCells ts).toArray 73)
theorem tabW_size (pt : TypeId) (rb : Nat) (ts : List FD) (w : World) : (tabW pt rb ts w).heap.size = w.heap.size + 2 := by unfold tabW; simp
theorem tabW_below (pt : TypeId) (rb : Nat) (ts : List FD) (w : World) : Below w.heap.size w (tabW pt rb ts w) := by unfold tabW; exact ((Below.refl _ w).alloc (Nat.le_refl _) _).alloc (by simp) _
theorem tabW_tab (pt : TypeId) (rb : Nat) (ts : List FD) (w : World) : TabAt (w.heap.size + 1) (tabW pt rb ts w) ts := fun i hi j v hv => by
  have := rangeAt_new (w.alloc (.cells #[.pointer (some ⟨rb, 0, none⟩)] pt)) (tabCells ts) 73
  have hj : j < 7 := by have := (List.getElem?_eq_some_iff.1 hv).1; simpa [FD.cells] using this
  have q := this (i * 7 + j) v (by rw [tabCells_at ts i j hi hj]; exact hv)
  simpa [tabW] using q
theorem tabW_box (pt : TypeId) (rb : Nat) (ts : List FD) (w : World) : (tabW pt rb ts w).cell? ⟨w.heap.size, 0, none⟩ = some (.pointer (some ⟨rb, 0, none⟩)) := by
  unfold tabW; simp
/-- digits of a number that an int holds -/
theorem decDigits_len : ∀ (k u : Nat), u < 10 ^ k → 0 < k → (Lib.decDigits u).length ≤ k
  | 0, _, _, h => by omega
  | k + 1, u, hu, _ => by
    rw [Lib.decDigits]
    split
    · simp
    · have : u / 10 < 10 ^ k := by rw [Nat.pow_succ] at hu; omega
      rcases Nat.eq_zero_or_pos k with h | h
      · subst h; simp at hu; omega
      · have := decDigits_len k (u / 10) this h
        simp; omega
theorem itoa_len (n : Int) (h0 : -9223372036854775808 ≤ n) (h1 : n ≤ 9223372036854775807) : (Lib.itoa n).length ≤ 20 := by
  unfold Lib.itoa
  split
  · have := decDigits_len 19 n.natAbs (by have : (10 : Nat) ^ 19 = 10000000000000000000 := rfl; omega) (by omega)
    simp; omega
  · have := decDigits_len 19 n.toNat (by have : (10 : Nat) ^ 19 = 10000000000000000000 := rfl; omega) (by omega)
    omega
end Go.Proofs.YtielppikobbppaaDoor
