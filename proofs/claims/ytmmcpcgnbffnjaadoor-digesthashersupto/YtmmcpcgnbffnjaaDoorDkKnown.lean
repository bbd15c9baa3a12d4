import Derived.Test.YtmmcpcgnbffnjaaDoorDkHex
namespace Go.Proofs.YtmmcpcgnbffnjaaDoor
open Go.RowKit
/-- the three tables lie in memory -/
structure Tabs (w : World) : Prop where
  four : Tab4 0 w
  sines : TabS 1 w
  turns : TabT 2 w
  room : 3 ≤ w.heap.size
theorem Tabs.below {w w' : World} (h : Tabs w) (hb : Below w.heap.size w w') : Tabs w' :=
  ⟨h.four.below hb (by have := h.room; omega), h.sines.below hb (by have := h.room; omega), h.turns.below hb (by have := h.room; omega), Nat.le_trans h.room hb.size⟩
theorem Tabs.alloc {w : World} (h : Tabs w) (o : Obj) : Tabs (w.alloc o) := h.below ((Below.refl _ w).alloc (Nat.le_refl _) _)
theorem Tabs.drew {w : World} (h : Tabs w) : Tabs w.drew := h.below (Below.refl _ w).drew
theorem md5L_len (t : List UInt8) : (md5L t).length = 16 := by simp [md5L, tellQ, lowL_len]
theorem lies_new (w : World) (xs : List ByteArray) (ty : TypeId) : Lies w.heap.size 0 (w.alloc (.cells (xs.map Value.string).toArray ty)) xs := by
  intro j x hx
  have hb : (w.alloc (.cells (xs.map Value.string).toArray ty)).heap[w.heap.size]? = some (.cells (xs.map Value.string).toArray ty (0, 0)) := by
    show (w.heap.push _)[w.heap.size]? = _
    rw [Array.getElem?_push, if_pos rfl]
  rw [cell_of_row _ _ (0 + j) _ _ _ hb, Nat.zero_add]
  simp [hx]
theorem kn0 : ((strOf (hexL (md5L []))).toList == [100, 52, 49, 100, 56, 99, 100, 57, 56, 102, 48, 48, 98, 50, 48, 52, 101, 57, 56, 48, 48, 57, 57, 56, 101, 99, 102, 56, 52, 50, 55, 101]) = true := by
  rw [ByteArray.toList_eq]
  decide +kernel
theorem kn1 : ((strOf (hexL (md5L (cat [⟨#[97]⟩])))).toList == [48, 99, 99, 49, 55, 53, 98, 57, 99, 48, 102, 49, 98, 54, 97, 56, 51, 49, 99, 51, 57, 57, 101, 50, 54, 57, 55, 55, 50, 54, 54, 49]) = true := by
  rw [ByteArray.toList_eq]
  decide +kernel
theorem kn2 : ((strOf (hexL (md5L (cat [⟨#[97, 98]⟩, ⟨#[]⟩, ⟨#[99]⟩])))).toList == [57, 48, 48, 49, 53, 48, 57, 56, 51, 99, 100, 50, 52, 102, 98, 48, 100, 54, 57, 54, 51, 102, 55, 100, 50, 56, 101, 49, 55, 102, 55, 50]) = true := by
  rw [ByteArray.toList_eq]
  decide +kernel
theorem knc : (crcN 0 (cat [⟨#[49, 50, 51, 52]⟩, ⟨#[53, 54, 55, 56, 57]⟩]) : Int) = 3421780262 := by decide +kernel
theorem kn10 : ((strOf (hexL (md5L (cat [⟨#[109, 101, 115, 115, 97, 103, 101, 32, 100, 105, 103, 101, 115, 116]⟩])))).toList == [102, 57, 54, 98, 54, 57, 55, 100, 55, 99, 98, 55, 57, 51, 56, 100, 53, 50, 53, 97, 50, 102, 51, 49, 97, 97, 102, 49, 54, 49, 100, 48]) = true := by
  rw [ByteArray.toList_eq]
  decide +kernel
theorem kn11 : ((strOf (hexL (md5L (cat [⟨#[97, 98, 99, 100, 101, 102, 103, 104, 105, 106, 107, 108, 109, 110, 111, 112, 113, 114, 115, 116, 117, 118, 119, 120, 121, 122]⟩])))).toList == [99, 51, 102, 99, 100, 51, 100, 55, 54, 49, 57, 50, 101, 52, 48, 48, 55, 100, 102, 98, 52, 57, 54, 99, 99, 97, 54, 55, 101, 49, 51, 98]) = true := by
  rw [ByteArray.toList_eq]
  decide +kernel
theorem kn12 : ((strOf (hexL (md5L (cat [⟨#[65, 66, 67, 68, 69, 70, 71, 72, 73, 74, 75, 76, 77, 78, 79, 80, 81, 82, 83, 84, 85, 86, 87, 88, 89, 90, 97, 98, 99, 100, 101, 102, 103, 104, 105, 106, 107, 108, 109, 110, 111, 112, 113, 114, 115, 116, 117, 118, 119, 120, 121, 122, 48, 49, 50, 51, 52, 53, 54, 55, 56, 57]⟩])))).toList == [100, 49, 55, 52, 97, 98, 57, 56, 100, 50, 55, 55, 100, 57, 102, 53, 97, 53, 54, 49, 49, 99, 50, 99, 57, 102, 52, 49, 57, 100, 57, 102]) = true := by
  rw [ByteArray.toList_eq]
  decide +kernel
theorem kn13 : ((strOf (hexL (md5L (cat [⟨#[49, 50, 51, 52, 53, 54, 55, 56, 57, 48, 49, 50, 51, 52, 53, 54, 55, 56, 57, 48, 49, 50, 51, 52, 53, 54, 55, 56, 57, 48, 49, 50, 51, 52, 53, 54, 55, 56, 57, 48, 49, 50, 51, 52, 53, 54, 55, 56, 57, 48, 49, 50, 51, 52, 53, 54, 55, 56, 57, 48, 49, 50, 51, 52, 53, 54, 55, 56, 57, 48, 49, 50, 51, 52, 53, 54, 55, 56, 57, 48]⟩])))).toList == [53, 55, 101, 100, 102, 52, 97, 50, 50, 98, 101, 51, 99, 57, 53, 53, 97, 99, 52, 57, 100, 97, 50, 101, 50, 49, 48, 55, 98, 54, 55, 97]) = true := by
  rw [ByteArray.toList_eq]
  decide +kernel
end Go.Proofs.YtmmcpcgnbffnjaaDoor
