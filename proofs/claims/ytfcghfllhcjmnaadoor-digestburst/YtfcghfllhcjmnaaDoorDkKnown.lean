import Derived.Test.YtfcghfllhcjmnaaDoorDkHex
namespace Go.Proofs.YtfcghfllhcjmnaaDoor
open Go.RowKit
/-- the three tables lie in memory -/
structure Tabs (w : World) : Prop where
  four : Tab4 0 w
  sines : TabS 1 w
  turns : TabT 2 w
  room : 3 ≤ w.heap.size
theorem Tabs.below {w w' : World} (h : Tabs w) (hb : Below w.heap.size w w') : Tabs w' :=
  ⟨h.four.below hb (by have := h.room; omega), h.sines.below hb (by have := h.room; omega), h.turns.below hb (by have := h.room; omega), Nat.le_trans h.room hb.size⟩
theorem Tabs.alloc {w : World} (h : Tabs w) (o : Obj) : Tabs (w.alloc o) := h.below ((Below.refl _ w).alloc (Nat.le_refl _) _)
theorem Tabs.drew {w : World} (h : Tabs w) : Tabs w.drew := h.below (Below.refl _ w).drew
theorem md5L_len (t : List UInt8) : (md5L t).length = 16 := by simp [md5L, tellQ, lowL_len]
/-- digest.MD5() -/
theorem md5_none (w : World) (h : Tabs w) : Calls Tryd.prog 11 #[.slice none 0 0] w fun e w' => e = .returned (.string (strOf (md5L []))) ∧ Below w.heap.size w w' :=
  md5_any none 0 0 0 [] w (fun h => by simp at h) (fun h => by simp at h) (fun j x hx => by simp at hx) (by simp) (by simp [cat]) h.room h.sines h.turns
theorem lies_new (w : World) (xs : List ByteArray) (ty : TypeId) : Lies w.heap.size 0 (w.alloc (.cells (xs.map Value.string).toArray ty)) xs := by
  intro j x hx
  have hb : (w.alloc (.cells (xs.map Value.string).toArray ty)).heap[w.heap.size]? = some (.cells (xs.map Value.string).toArray ty (0, 0)) := by
    show (w.heap.push _)[w.heap.size]? = _
    rw [Array.getElem?_push, if_pos rfl]
  rw [cell_of_row _ _ (0 + j) _ _ _ hb, Nat.zero_add]
  simp [hx]
/-- digest.MD5 of parts laid in a new row -/
theorem md5_new (w : World) (xs : List ByteArray) (ty : TypeId) (h : Tabs w) (hlen : xs.length ≤ 1099511627776) (hs : (cat xs).length ≤ 1099511627776) (n : Nat) (hn : n = xs.length) :
    Calls Tryd.prog 11 #[.slice (some ⟨w.heap.size, 0, none⟩) n n] (w.alloc (.cells (xs.map Value.string).toArray ty)) fun e w' => e = .returned (.string (strOf (md5L (cat xs)))) ∧ Below (w.alloc (.cells (xs.map Value.string).toArray ty)).heap.size (w.alloc (.cells (xs.map Value.string).toArray ty)) w' := by
  subst hn
  have h' := h.alloc (.cells (xs.map Value.string).toArray ty)
  exact md5_any _ w.heap.size 0 xs.length xs _ (fun _ => rfl) (fun _ => by simp) (lies_new w xs ty) hlen hs h'.room h'.sines h'.turns
theorem crc_new (w : World) (xs : List ByteArray) (ty : TypeId) (h : Tabs w) (hlen : xs.length ≤ 1099511627776) (hs : ∀ x ∈ xs, x.size ≤ 1099511627776) (n : Nat) (hn : n = xs.length) :
    Calls Tryd.prog 14 #[.slice (some ⟨w.heap.size, 0, none⟩) n n] (w.alloc (.cells (xs.map Value.string).toArray ty)) fun e w' => e = .returned (.int .i64 (crcN 0 (cat xs) : Int)) ∧ (w.alloc (.cells (xs.map Value.string).toArray ty)) = w' := by
  subst hn
  have h' := h.alloc (.cells (xs.map Value.string).toArray ty)
  exact crc_any _ w.heap.size 0 xs.length xs _ (fun _ => rfl) (lies_new w xs ty) hlen hs h'.four
theorem kn0 : ((strOf (hexL (md5L []))).toList == [100, 52, 49, 100, 56, 99, 100, 57, 56, 102, 48, 48, 98, 50, 48, 52, 101, 57, 56, 48, 48, 57, 57, 56, 101, 99, 102, 56, 52, 50, 55, 101]) = true := by
  rw [ByteArray.toList_eq]
  decide +kernel
theorem kn1 : ((strOf (hexL (md5L (cat [⟨#[97]⟩])))).toList == [48, 99, 99, 49, 55, 53, 98, 57, 99, 48, 102, 49, 98, 54, 97, 56, 51, 49, 99, 51, 57, 57, 101, 50, 54, 57, 55, 55, 50, 54, 54, 49]) = true := by
  rw [ByteArray.toList_eq]
  decide +kernel
theorem kn2 : ((strOf (hexL (md5L (cat [⟨#[97, 98]⟩, ⟨#[]⟩, ⟨#[99]⟩])))).toList == [57, 48, 48, 49, 53, 48, 57, 56, 51, 99, 100, 50, 52, 102, 98, 48, 100, 54, 57, 54, 51, 102, 55, 100, 50, 56, 101, 49, 55, 102, 55, 50]) = true := by
  rw [ByteArray.toList_eq]
  decide +kernel
theorem knc : (crcN 0 (cat [⟨#[49, 50, 51, 52]⟩, ⟨#[53, 54, 55, 56, 57]⟩]) : Int) = 3421780262 := by decide +kernel
set_option maxHeartbeats 2000000 in
set_option maxRecDepth 100000 in
/-- known() -/
theorem known_any (w : World) (hT : Tabs w) : Calls Tryd.prog 9 #[] w fun e w' => e = .returned (.bool true) ∧ Below w.heap.size w w' := by
  have HT := hide hT
  clear hT
  go_enter Tryd.func9, Tryd.ntmps9
  go_wp2_with fail
  refine Calls.mono (md5_none _ HT.out) ?_
  rintro e w1 ⟨rfl, hb⟩
  have HT1 := hide (HT.out.below hb)
  have HB1 := hide (hb)
  clear hb  
  go_wp2_with fail
  refine Calls.mono (hex_any _ _ (by rw [strOf_size, md5L_len]; omega)) ?_
  rintro e w2 ⟨rfl, hb⟩
  have HT2 := hide (HT1.out.below hb)
  have HB2 := hide (HB1.out.trans (hb.mono HB1.out.size))
  clear hb HT1 HB1
  have hA0 := kn0
  rw [strOf_data]
  generalize strOf (hexL (md5L [])) = A0 at *
  go_wp2_with fail
  refine Calls.mono (md5_new w2 [⟨#[97]⟩] 9 HT2.out (by decide) (by decide) 1 rfl) ?_
  rintro e w3 ⟨rfl, hb'⟩
  have hb := ((Below.refl _ w2).alloc (Nat.le_refl _) _).trans (hb'.mono (by simp))
  clear hb'
  have HT3 := hide (HT2.out.below hb)
  have HB3 := hide (HB2.out.trans (hb.mono HB2.out.size))
  clear hb HT2 HB2
  go_wp2_with fail
  refine Calls.mono (hex_any _ _ (by rw [strOf_size, md5L_len]; omega)) ?_
  rintro e w4 ⟨rfl, hb⟩
  have HT4 := hide (HT3.out.below hb)
  have HB4 := hide (HB3.out.trans (hb.mono HB3.out.size))
  clear hb HT3 HB3
  have hA1 := kn1
  rw [strOf_data]
  generalize strOf (hexL (md5L (cat [⟨#[97]⟩]))) = A1 at *
  go_wp2_with fail
  refine Calls.mono (md5_new w4 [⟨#[97, 98]⟩, ⟨#[]⟩, ⟨#[99]⟩] 9 HT4.out (by decide) (by decide) 3 rfl) ?_
  rintro e w5 ⟨rfl, hb'⟩
  have hb := ((Below.refl _ w4).alloc (Nat.le_refl _) _).trans (hb'.mono (by simp))
  clear hb'
  have HT5 := hide (HT4.out.below hb)
  have HB5 := hide (HB4.out.trans (hb.mono HB4.out.size))
  clear hb HT4 HB4
  go_wp2_with fail
  refine Calls.mono (hex_any _ _ (by rw [strOf_size, md5L_len]; omega)) ?_
  rintro e w6 ⟨rfl, hb⟩
  have HT6 := hide (HT5.out.below hb)
  have HB6 := hide (HB5.out.trans (hb.mono HB5.out.size))
  clear hb HT5 HB5
  have hA2 := kn2
  rw [strOf_data]
  generalize strOf (hexL (md5L (cat [⟨#[97, 98]⟩, ⟨#[]⟩, ⟨#[99]⟩]))) = A2 at *
  go_wp2_with (go_at_call 14; refine Calls.mono (crc_new w6 [⟨#[49, 50, 51, 52]⟩, ⟨#[53, 54, 55, 56, 57]⟩] 9 HT6.out (by decide) (by decide) 2 rfl) ?_; rw [knc]; rintro e wx ⟨rfl, rfl⟩)
  go_ret
  exact ⟨rfl, HB6.out.alloc HB6.out.size _⟩
theorem kn10 : ((strOf (hexL (md5L (cat [⟨#[109, 101, 115, 115, 97, 103, 101, 32, 100, 105, 103, 101, 115, 116]⟩])))).toList == [102, 57, 54, 98, 54, 57, 55, 100, 55, 99, 98, 55, 57, 51, 56, 100, 53, 50, 53, 97, 50, 102, 51, 49, 97, 97, 102, 49, 54, 49, 100, 48]) = true := by
  rw [ByteArray.toList_eq]
  decide +kernel
theorem kn11 : ((strOf (hexL (md5L (cat [⟨#[97, 98, 99, 100, 101, 102, 103, 104, 105, 106, 107, 108, 109, 110, 111, 112, 113, 114, 115, 116, 117, 118, 119, 120, 121, 122]⟩])))).toList == [99, 51, 102, 99, 100, 51, 100, 55, 54, 49, 57, 50, 101, 52, 48, 48, 55, 100, 102, 98, 52, 57, 54, 99, 99, 97, 54, 55, 101, 49, 51, 98]) = true := by
  rw [ByteArray.toList_eq]
  decide +kernel
theorem kn12 : ((strOf (hexL (md5L (cat [⟨#[65, 66, 67, 68, 69, 70, 71, 72, 73, 74, 75, 76, 77, 78, 79, 80, 81, 82, 83, 84, 85, 86, 87, 88, 89, 90, 97, 98, 99, 100, 101, 102, 103, 104, 105, 106, 107, 108, 109, 110, 111, 112, 113, 114, 115, 116, 117, 118, 119, 120, 121, 122, 48, 49, 50, 51, 52, 53, 54, 55, 56, 57]⟩])))).toList == [100, 49, 55, 52, 97, 98, 57, 56, 100, 50, 55, 55, 100, 57, 102, 53, 97, 53, 54, 49, 49, 99, 50, 99, 57, 102, 52, 49, 57, 100, 57, 102]) = true := by
  rw [ByteArray.toList_eq]
  decide +kernel
theorem kn13 : ((strOf (hexL (md5L (cat [⟨#[49, 50, 51, 52, 53, 54, 55, 56, 57, 48, 49, 50, 51, 52, 53, 54, 55, 56, 57, 48, 49, 50, 51, 52, 53, 54, 55, 56, 57, 48, 49, 50, 51, 52, 53, 54, 55, 56, 57, 48, 49, 50, 51, 52, 53, 54, 55, 56, 57, 48, 49, 50, 51, 52, 53, 54, 55, 56, 57, 48, 49, 50, 51, 52, 53, 54, 55, 56, 57, 48, 49, 50, 51, 52, 53, 54, 55, 56, 57, 48]⟩])))).toList == [53, 55, 101, 100, 102, 52, 97, 50, 50, 98, 101, 51, 99, 57, 53, 53, 97, 99, 52, 57, 100, 97, 50, 101, 50, 49, 48, 55, 98, 54, 55, 97]) = true := by
  rw [ByteArray.toList_eq]
  decide +kernel
set_option maxHeartbeats 4000000 in
set_option maxRecDepth 100000 in
/-- the law DigestKnown -/
theorem digestKnown_any (w : World) (hT : Tabs w) : Calls Tryd.prog 3 #[] w fun e w' => e = .returned (.bool true) ∧ Below w.heap.size w w' := by
  have HT := hide hT
  clear hT
  go_enter Tryd.func3, Tryd.ntmps3
  go_wp2_with fail
  refine Calls.mono (known_any _ HT.out) ?_
  rintro e w1 ⟨rfl, hb1⟩
  have HT1 := hide (HT.out.below hb1)
  have HB1 := hide hb1
  clear hb1
  go_wp2_with fail
  refine Calls.mono (md5_new w1 [⟨#[109, 101, 115, 115, 97, 103, 101, 32, 100, 105, 103, 101, 115, 116]⟩] 9 HT1.out (by decide) (by decide) 1 rfl) ?_
  rintro e w2 ⟨rfl, hb'⟩
  have hb := ((Below.refl _ w1).alloc (Nat.le_refl _) _).trans (hb'.mono (by simp))
  clear hb'
  have HT2 := hide (HT1.out.below hb)
  have HB2 := hide (HB1.out.trans (hb.mono HB1.out.size))
  clear hb HT1 HB1
  go_wp2_with fail
  refine Calls.mono (hex_any _ _ (by rw [strOf_size, md5L_len]; omega)) ?_
  rintro e w3 ⟨rfl, hb⟩
  have HT3 := hide (HT2.out.below hb)
  have HB3 := hide (HB2.out.trans (hb.mono HB2.out.size))
  clear hb HT2 HB2
  have hA10 := kn10
  rw [strOf_data]
  generalize strOf (hexL (md5L (cat [⟨#[109, 101, 115, 115, 97, 103, 101, 32, 100, 105, 103, 101, 115, 116]⟩]))) = A10 at *
  go_wp2_with fail
  refine Calls.mono (md5_new w3 [⟨#[97, 98, 99, 100, 101, 102, 103, 104, 105, 106, 107, 108, 109, 110, 111, 112, 113, 114, 115, 116, 117, 118, 119, 120, 121, 122]⟩] 9 HT3.out (by decide) (by decide) 1 rfl) ?_
  rintro e w4 ⟨rfl, hb'⟩
  have hb := ((Below.refl _ w3).alloc (Nat.le_refl _) _).trans (hb'.mono (by simp))
  clear hb'
  have HT4 := hide (HT3.out.below hb)
  have HB4 := hide (HB3.out.trans (hb.mono HB3.out.size))
  clear hb HT3 HB3
  go_wp2_with fail
  refine Calls.mono (hex_any _ _ (by rw [strOf_size, md5L_len]; omega)) ?_
  rintro e w5 ⟨rfl, hb⟩
  have HT5 := hide (HT4.out.below hb)
  have HB5 := hide (HB4.out.trans (hb.mono HB4.out.size))
  clear hb HT4 HB4
  have hA11 := kn11
  rw [strOf_data]
  generalize strOf (hexL (md5L (cat [⟨#[97, 98, 99, 100, 101, 102, 103, 104, 105, 106, 107, 108, 109, 110, 111, 112, 113, 114, 115, 116, 117, 118, 119, 120, 121, 122]⟩]))) = A11 at *
  go_wp2_with fail
  refine Calls.mono (md5_new w5 [⟨#[65, 66, 67, 68, 69, 70, 71, 72, 73, 74, 75, 76, 77, 78, 79, 80, 81, 82, 83, 84, 85, 86, 87, 88, 89, 90, 97, 98, 99, 100, 101, 102, 103, 104, 105, 106, 107, 108, 109, 110, 111, 112, 113, 114, 115, 116, 117, 118, 119, 120, 121, 122, 48, 49, 50, 51, 52, 53, 54, 55, 56, 57]⟩] 9 HT5.out (by decide) (by decide) 1 rfl) ?_
  rintro e w6 ⟨rfl, hb'⟩
  have hb := ((Below.refl _ w5).alloc (Nat.le_refl _) _).trans (hb'.mono (by simp))
  clear hb'
  have HT6 := hide (HT5.out.below hb)
  have HB6 := hide (HB5.out.trans (hb.mono HB5.out.size))
  clear hb HT5 HB5
  go_wp2_with fail
  refine Calls.mono (hex_any _ _ (by rw [strOf_size, md5L_len]; omega)) ?_
  rintro e w7 ⟨rfl, hb⟩
  have HT7 := hide (HT6.out.below hb)
  have HB7 := hide (HB6.out.trans (hb.mono HB6.out.size))
  clear hb HT6 HB6
  have hA12 := kn12
  rw [strOf_data]
  generalize strOf (hexL (md5L (cat [⟨#[65, 66, 67, 68, 69, 70, 71, 72, 73, 74, 75, 76, 77, 78, 79, 80, 81, 82, 83, 84, 85, 86, 87, 88, 89, 90, 97, 98, 99, 100, 101, 102, 103, 104, 105, 106, 107, 108, 109, 110, 111, 112, 113, 114, 115, 116, 117, 118, 119, 120, 121, 122, 48, 49, 50, 51, 52, 53, 54, 55, 56, 57]⟩]))) = A12 at *
  go_wp2_with fail
  refine Calls.mono (md5_new w7 [⟨#[49, 50, 51, 52, 53, 54, 55, 56, 57, 48, 49, 50, 51, 52, 53, 54, 55, 56, 57, 48, 49, 50, 51, 52, 53, 54, 55, 56, 57, 48, 49, 50, 51, 52, 53, 54, 55, 56, 57, 48, 49, 50, 51, 52, 53, 54, 55, 56, 57, 48, 49, 50, 51, 52, 53, 54, 55, 56, 57, 48, 49, 50, 51, 52, 53, 54, 55, 56, 57, 48, 49, 50, 51, 52, 53, 54, 55, 56, 57, 48]⟩] 9 HT7.out (by decide) (by decide) 1 rfl) ?_
  rintro e w8 ⟨rfl, hb'⟩
  have hb := ((Below.refl _ w7).alloc (Nat.le_refl _) _).trans (hb'.mono (by simp))
  clear hb'
  have HT8 := hide (HT7.out.below hb)
  have HB8 := hide (HB7.out.trans (hb.mono HB7.out.size))
  clear hb HT7 HB7
  go_wp2_with fail
  refine Calls.mono (hex_any _ _ (by rw [strOf_size, md5L_len]; omega)) ?_
  rintro e w9 ⟨rfl, hb⟩
  have HT9 := hide (HT8.out.below hb)
  have HB9 := hide (HB8.out.trans (hb.mono HB8.out.size))
  clear hb HT8 HB8
  have hA13 := kn13
  rw [strOf_data]
  generalize strOf (hexL (md5L (cat [⟨#[49, 50, 51, 52, 53, 54, 55, 56, 57, 48, 49, 50, 51, 52, 53, 54, 55, 56, 57, 48, 49, 50, 51, 52, 53, 54, 55, 56, 57, 48, 49, 50, 51, 52, 53, 54, 55, 56, 57, 48, 49, 50, 51, 52, 53, 54, 55, 56, 57, 48, 49, 50, 51, 52, 53, 54, 55, 56, 57, 48, 49, 50, 51, 52, 53, 54, 55, 56, 57, 48, 49, 50, 51, 52, 53, 54, 55, 56, 57, 48]⟩]))) = A13 at *
  go_wp2
  go_ret
  exact ⟨rfl, HB9.out⟩
end Go.Proofs.YtfcghfllhcjmnaaDoor
