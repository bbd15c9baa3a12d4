import Derived.Test.YtielppikobbppaaDoorPaAcc
import Derived.Test.YtielppikobbppaaDoorDcCrc
namespace Go.Proofs.YtielppikobbppaaDoor
open Go.RowKit Go.Shelf
def nl : ByteArray := ⟨#[10]⟩
def sumFD (wd : ByteArray) (bx : Nat) : FD := ⟨wd, 1, 0, 4294967295, 73, 74, #[.pointer (some ⟨bx, 0, none⟩)], nl⟩
/-- the two blocks that sumTable makes -/
def sumW (wd : ByteArray) (sb : Nat) (w : World) : World := (w.alloc (.cells #[.pointer (some ⟨sb, 0, none⟩)] 79)).alloc (.cells (sumFD wd w.heap.size).cells.toArray 73)
theorem rangeAt_new (w : World) (cs : List Value) (t : TypeId) : (w.alloc (.cells cs.toArray t)).rangeAt w.heap.size 0 cs := fun j v hv => by
  rw [World.cell?_alloc_at _ _ _ _ rfl]
  simpa using hv
theorem sumW_size (wd : ByteArray) (sb : Nat) (w : World) : (sumW wd sb w).heap.size = w.heap.size + 2 := by unfold sumW; simp
theorem sumW_below (wd : ByteArray) (sb : Nat) (w : World) : Below w.heap.size w (sumW wd sb w) := by unfold sumW; exact ((Below.refl _ w).alloc (Nat.le_refl _) _).alloc (by simp) _
theorem sumW_tab (wd : ByteArray) (sb : Nat) (w : World) : TabAt (w.heap.size + 1) (sumW wd sb w) [sumFD wd w.heap.size] := fun i hi => by
  obtain rfl : i = 0 := by simpa using hi
  have := rangeAt_new (w.alloc (.cells #[.pointer (some ⟨sb, 0, none⟩)] 79)) (sumFD wd w.heap.size).cells 73
  simpa [sumW] using this
theorem sumW_box (wd : ByteArray) (sb : Nat) (w : World) : (sumW wd sb w).cell? ⟨w.heap.size, 0, none⟩ = some (.pointer (some ⟨sb, 0, none⟩)) := by
  unfold sumW; simp
set_option maxHeartbeats 2000000 in
set_option maxRecDepth 100000 in
theorem sumTable_any (sb : Nat) (wd : ByteArray) (w : World) :
    Calls Tryd.prog 47 #[.string wd, .pointer (some ⟨sb, 0, none⟩)] w fun e w' => e = .returned (.slice (some ⟨w.heap.size + 1, 0, none⟩) 1 1) ∧ w' = sumW wd sb w := by
  have hmf : ∀ (fn : Fn) (first cap : Array Value) (w : World), (Instr.makeFunc fn first cap).run Tryd.prog w = .ok (.func fn first cap) w := fun _ _ _ _ => rfl
  go_enter Tryd.func47, Tryd.ntmps47
  go_wp2_with fail
  go_ret
  exact ⟨rfl, rfl⟩
theorem lt_of_cell? {w : World} {b o : Nat} {v : Value} (h : w.cell? ⟨b, o, none⟩ = some v) : b < w.heap.size := by
  rcases Nat.lt_or_ge b w.heap.size with z | z
  · exact z
  · simp [World.cell?, Array.getElem?_eq_none z] at h
theorem Tab4.lt {g : Nat} {w : World} (h : Tab4 g w) : g < w.heap.size := lt_of_cell? (h 0 (by omega))
/-- a sum's word, its eight digits, a line feed -/
def sealL (wd : ByteArray) (n : Nat) : List UInt8 := wd.data.toList ++ hexL (be4 n) ++ [10]
theorem sealL_len (wd : ByteArray) (n : Nat) : (sealL wd n).length = wd.size + 9 := by
  unfold sealL; rw [List.length_append, List.length_append, hexL_len, size_data]; simp [be4]
theorem cat_one (x : ByteArray) : cat [x] = x.data.toList := by simp [cat]
/-- a sum's table prints the word, eight digits, a line feed -/
theorem sumTab_writes (wd : ByteArray) (sb : Nat) (n : Nat) (hn : n < 4294967296) (hwd : wd.size ≤ 1000) (w : World) (hsb : sb < w.heap.size) (hc : w.cell? ⟨sb, 0, none⟩ = some (.int .i64 (n : Int))) :
    Calls Tryd.prog 21 #[.slice (some ⟨w.heap.size + 1, 0, none⟩) 1 1] (sumW wd sb w) fun e w' => e = .returned (.string (strOf (sealL wd n))) ∧ Below (sumW wd sb w).heap.size (sumW wd sb w) w' := by
  have hs := sumW_size wd sb w
  have hb := sumW_below wd sb w
  refine (written_any (w.heap.size + 1) 1 [sumFD wd w.heap.size] (sumW wd sb w) (fun _ => n) (fun _ => ⟨#[]⟩) (fun _ => strOf (hexL (be4 n))) 8 (by omega) (by simp) (sumW_tab wd sb w) (by omega) ?_ ?_ ?_ ?_ ?_).mono ?_
  · intro i hi
    obtain rfl : i = 0 := by simpa using hi
    exact enters_of Tryd.func73 (by kernel_rfl) rfl
  · intro i hi
    obtain rfl : i = 0 := by simpa using hi
    intro w' hw
    have z := hw.size
    exact get_sumTable_0 w.heap.size sb n w' (by omega) (by omega) (by rw [hw.cell (by show w.heap.size < _; omega)]; exact sumW_box wd sb w) (by rw [hw.cell (by show sb < _; omega), hb.cell (by exact hsb)]; exact hc)
  · intro i hi
    obtain rfl : i = 0 := by simpa using hi
    intro w' hw
    exact print_sum n hn _ w'
  · intro i hi
    obtain rfl : i = 0 := by simpa using hi
    exact ⟨hwd, by show nl.size ≤ 1000; decide⟩
  · intro i
    rw [strOf_size, hexL_len]; simp [be4]
  · rintro e w' ⟨rfl, b⟩
    refine ⟨?_, b⟩
    rw [show wrL [sumFD wd w.heap.size] (fun _ => strOf (hexL (be4 n))) [sumFD wd w.heap.size].length = sealL wd n from rfl]
set_option maxHeartbeats 2000000 in
set_option maxRecDepth 100000 in
theorem sealed_any (tx wd : ByteArray) (w : World) (hs : tx.size ≤ 70368744177664) (hwd : wd.size ≤ 1000) (hT : Tab4 0 w) :
    Calls Tryd.prog 20 #[.string tx, .string wd] w fun e w' => e = .returned (.string (tx ++ strOf (sealL wd (crcN 0 tx.data.toList)))) ∧ Below w.heap.size w w' := by
  have hlt : crcN 0 tx.data.toList < 4294967296 := crcN_lt _ (by omega)
  obtain ⟨W0, hW0⟩ : ∃ W0, W0 = w.alloc (.cells #[.string tx] 9) := ⟨_, rfl⟩
  have b0 : Below w.heap.size w W0 := by rw [hW0]; exact (Below.refl _ w).alloc (Nat.le_refl _) _
  have C := hide (crc_any (some ⟨w.heap.size, 0, none⟩) w.heap.size 0 1 [tx] W0 (fun _ => rfl) (by
    intro j x hj
    obtain rfl : j = 0 := by have := (List.getElem?_eq_some_iff.1 hj).1; simpa using this
    simp at hj; subst hj; rw [hW0]; simp) (by simp) (by intro x hx; simp at hx; subst hx; omega) (hT.below b0 hT.lt))
  rw [cat_one] at C
  generalize crcN 0 tx.data.toList = c at *
  go_enter Tryd.func20, Tryd.ntmps20
  go_wp2_with fail
  rw [← hW0]
  refine Calls.mono C.out ?_
  rintro e w1 ⟨rfl, rfl⟩
  obtain ⟨W1, hW1⟩ : ∃ W1, W1 = W0.alloc (.cells #[.int .i64 (c : Int)] 3) := ⟨_, rfl⟩
  have b1 : Below w.heap.size w W1 := by rw [hW1]; exact b0.alloc b0.size _
  have T := hide (sumTable_any W0.heap.size wd W1)
  have S := hide (sumTab_writes wd W0.heap.size c hlt hwd W1 (by rw [hW1]; simp) (by rw [hW1]; simp))
  have B1 := hide b1
  clear b1 b0 C hW0 hT
  go_wp2_with fail
  rw [← hW1]
  clear hW1
  refine Calls.mono T.out ?_
  rintro e w2 ⟨rfl, rfl⟩
  go_wp2_with fail
  refine Calls.mono S.out ?_
  rintro e w3 ⟨rfl, b3⟩
  have B3 := hide (B1.out.trans (((sumW_below wd W0.heap.size W1).trans (b3.mono (sumW_below wd W0.heap.size W1).size)).mono B1.out.size))
  have hsz : ¬ 9223372036854775807 < tx.size + (strOf (sealL wd c)).size := by rw [strOf_size, sealL_len]; omega
  clear b3 S T
  go_wp2
  go_ret
  exact ⟨rfl, B3.out⟩
end Go.Proofs.YtielppikobbppaaDoor
