import Derived.Test.YtaclbffacnoddaaGreatDoorPart8
namespace Go.Proofs.YtaclbffacnoddaaGreatDoor
open Go.RowKit Go.Shelf
def nl : ByteArray := ⟨#[10]⟩
def sumFD (wd : ByteArray) (bx : Nat) : FD := ⟨wd, 1, 0, 4294967295, 96, 97, #[.pointer (some ⟨bx, 0, none⟩)], nl⟩
/-- the two blocks that sumTable makes -/
def sumW (wd : ByteArray) (sb : Nat) (w : World) : World := (w.alloc (.cells #[.pointer (some ⟨sb, 0, none⟩)] 85)).alloc (.cells (sumFD wd w.heap.size).cells.toArray 76)
theorem rangeAt_new (w : World) (cs : List Value) (t : TypeId) : (w.alloc (.cells cs.toArray t)).rangeAt w.heap.size 0 cs := fun j v hv => by
  rw [World.cell?_alloc_at _ _ _ _ rfl]
  simpa using hv
theorem sumW_size (wd : ByteArray) (sb : Nat) (w : World) : (sumW wd sb w).heap.size = w.heap.size + 2 := by unfold sumW; simp
theorem sumW_below (wd : ByteArray) (sb : Nat) (w : World) : Below w.heap.size w (sumW wd sb w) := by unfold sumW; exact ((Below.refl _ w).alloc (Nat.le_refl _) _).alloc (by simp) _
theorem sumW_tab (wd : ByteArray) (sb : Nat) (w : World) : TabAt (w.heap.size + 1) (sumW wd sb w) [sumFD wd w.heap.size] := fun i hi => by
  obtain rfl : i = 0 := by simpa using hi
  have := rangeAt_new (w.alloc (.cells #[.pointer (some ⟨sb, 0, none⟩)] 85)) (sumFD wd w.heap.size).cells 76
  simpa [sumW] using this
theorem sumW_box (wd : ByteArray) (sb : Nat) (w : World) : (sumW wd sb w).cell? ⟨w.heap.size, 0, none⟩ = some (.pointer (some ⟨sb, 0, none⟩)) := by
  unfold sumW; simp
set_option maxHeartbeats 2000000 in
set_option maxRecDepth 100000 in
theorem sumTable_any (sb : Nat) (wd : ByteArray) (w : World) :
    Calls Tryz.prog 72 #[.string wd, .pointer (some ⟨sb, 0, none⟩)] w fun e w' => e = .returned (.slice (some ⟨w.heap.size + 1, 0, none⟩) 1 1) ∧ w' = sumW wd sb w := by
  have hmf : ∀ (fn : Fn) (first cap : Array Value) (w : World), (Instr.makeFunc fn first cap).run Tryz.prog w = .ok (.func fn first cap) w := fun _ _ _ _ => rfl
  go_enter Tryz.func72, Tryz.ntmps72
  go_wp2_with fail
  go_ret
  exact ⟨rfl, rfl⟩
theorem lt_of_cell? {w : World} {b o : Nat} {v : Value} (h : w.cell? ⟨b, o, none⟩ = some v) : b < w.heap.size := by
  rcases Nat.lt_or_ge b w.heap.size with z | z
  · exact z
  · simp [World.cell?, Array.getElem?_eq_none z] at h
theorem Tab4.lt {g : Nat} {w : World} (h : Tab4 g w) : g < w.heap.size := lt_of_cell? (h 0 (by omega))
/-- a sum's word, its eight digits, a line feed -/
def sealL (wd : ByteArray) (n : Nat) : List UInt8 := wd.data.toList ++ hexL (be4 n) ++ [10]
theorem sealL_len (wd : ByteArray) (n : Nat) : (sealL wd n).length = wd.size + 9 := by
  unfold sealL; rw [List.length_append, List.length_append, hexL_len, size_data]; simp [be4]
theorem cat_one (x : ByteArray) : cat [x] = x.data.toList := by simp [cat]
/-- a sum's table prints the word, eight digits, a line feed -/
theorem sumTab_writes (wd : ByteArray) (sb : Nat) (n : Nat) (hn : n < 4294967296) (hwd : wd.size ≤ 1000) (w : World) (hsb : sb < w.heap.size) (hc : w.cell? ⟨sb, 0, none⟩ = some (.int .i64 (n : Int))) :
    Calls Tryz.prog 27 #[.slice (some ⟨w.heap.size + 1, 0, none⟩) 1 1] (sumW wd sb w) fun e w' => e = .returned (.string (strOf (sealL wd n))) ∧ Below (sumW wd sb w).heap.size (sumW wd sb w) w' := by
  have hs := sumW_size wd sb w
  have hb := sumW_below wd sb w
  refine (written_any (w.heap.size + 1) 1 [sumFD wd w.heap.size] (sumW wd sb w) (fun _ => n) (fun _ => ⟨#[]⟩) (fun _ => strOf (hexL (be4 n))) 8 (by omega) (by simp) (sumW_tab wd sb w) (by omega) ?_ ?_ ?_ ?_ ?_).mono ?_
  · intro i hi
    obtain rfl : i = 0 := by simpa using hi
    exact enters_of Tryz.func96 (by kernel_rfl) rfl
  · intro i hi
    obtain rfl : i = 0 := by simpa using hi
    intro w' hw
    have z := hw.size
    exact get_sumTable_0 w.heap.size sb n w' (by omega) (by omega) (by rw [hw.cell (by show w.heap.size < _; omega)]; exact sumW_box wd sb w) (by rw [hw.cell (by show sb < _; omega), hb.cell (by exact hsb)]; exact hc)
  · intro i hi
    obtain rfl : i = 0 := by simpa using hi
    intro w' hw
    exact print_sum n hn _ w'
  · intro i hi
    obtain rfl : i = 0 := by simpa using hi
    exact ⟨hwd, by show nl.size ≤ 1000; decide⟩
  · intro i
    rw [strOf_size, hexL_len]; simp [be4]
  · rintro e w' ⟨rfl, b⟩
    refine ⟨?_, b⟩
    rw [show wrL [sumFD wd w.heap.size] (fun _ => strOf (hexL (be4 n))) [sumFD wd w.heap.size].length = sealL wd n from rfl]
set_option maxHeartbeats 2000000 in
set_option maxRecDepth 100000 in
theorem sealed_any (tx wd : ByteArray) (w : World) (hs : tx.size ≤ 70368744177664) (hwd : wd.size ≤ 1000) (hT : Tab4 0 w) :
    Calls Tryz.prog 26 #[.string tx, .string wd] w fun e w' => e = .returned (.string (tx ++ strOf (sealL wd (crcN 0 tx.data.toList)))) ∧ Below w.heap.size w w' := by
  have hlt : crcN 0 tx.data.toList < 4294967296 := crcN_lt _ (by omega)
  obtain ⟨W0, hW0⟩ : ∃ W0, W0 = w.alloc (.cells #[.string tx] 9) := ⟨_, rfl⟩
  have b0 : Below w.heap.size w W0 := by rw [hW0]; exact (Below.refl _ w).alloc (Nat.le_refl _) _
  have C := hide (crc_any (some ⟨w.heap.size, 0, none⟩) w.heap.size 0 1 [tx] W0 (fun _ => rfl) (by
    intro j x hj
    obtain rfl : j = 0 := by have := (List.getElem?_eq_some_iff.1 hj).1; simpa using this
    simp at hj; subst hj; rw [hW0]; simp) (by simp) (by intro x hx; simp at hx; subst hx; omega) (hT.below b0 hT.lt))
  rw [cat_one] at C
  generalize crcN 0 tx.data.toList = c at *
  go_enter Tryz.func26, Tryz.ntmps26
  go_wp2_with fail
  rw [← hW0]
  refine Calls.mono C.out ?_
  rintro e w1 ⟨rfl, rfl⟩
  obtain ⟨W1, hW1⟩ : ∃ W1, W1 = W0.alloc (.cells #[.int .i64 (c : Int)] 3) := ⟨_, rfl⟩
  have b1 : Below w.heap.size w W1 := by rw [hW1]; exact b0.alloc b0.size _
  have T := hide (sumTable_any W0.heap.size wd W1)
  have S := hide (sumTab_writes wd W0.heap.size c hlt hwd W1 (by rw [hW1]; simp) (by rw [hW1]; simp))
  have B1 := hide b1
  clear b1 b0 C hW0 hT
  go_wp2_with fail
  rw [← hW1]
  clear hW1
  refine Calls.mono T.out ?_
  rintro e w2 ⟨rfl, rfl⟩
  go_wp2_with fail
  refine Calls.mono S.out ?_
  rintro e w3 ⟨rfl, b3⟩
  have B3 := hide (B1.out.trans (((sumW_below wd W0.heap.size W1).trans (b3.mono (sumW_below wd W0.heap.size W1).size)).mono B1.out.size))
  have hsz : ¬ 9223372036854775807 < tx.size + (strOf (sealL wd c)).size := by rw [strOf_size, sealL_len]; omega
  clear b3 S T
  go_wp2
  go_ret
  exact ⟨rfl, B3.out⟩
end Go.Proofs.YtaclbffacnoddaaGreatDoor
namespace Go.Proofs.YtaclbffacnoddaaGreatDoor
open Go.RowKit Go.Shelf
def sumWd : ByteArray := ⟨#[115, 117, 109, 32]⟩
/-- the whole paper: a title, the rows, the sum's line -/
def paperS (title : ByteArray) (l : List UInt8) : ByteArray := (title ++ strOf l) ++ strOf (sealL sumWd (crcN 0 (title ++ strOf l).data.toList))
set_option maxHeartbeats 2000000 in
set_option maxRecDepth 100000 in
theorem printPaper_no (title : ByteArray) (b cap : Nat) (ts : List FD) (w : World) (nv : Nat → Int) (tv : Nat → ByteArray) (ok : Nat → Bool) (hlen : ts.length ≤ 64) (hT : TabAt b w ts) (hb : b < w.heap.size)
    (he : ∀ i (h : i < ts.length), Enters Tryz.prog ts[i].gf) (hg : ∀ i (h : i < ts.length), GetsAt w ts[i] (nv i) (tv i)) (ha : ∀ i (h : i < ts.length), AllowsIs ts[i] (nv i) (tv i) (ok i)) (hok : allB ts.length ok = false) :
    Calls Tryz.prog 20 #[.string title, .slice (some ⟨b, 0, none⟩) ts.length cap] w fun e w' => e = .returned (.tuple #[.string ⟨#[]⟩, .int .i64 42]) ∧ Below w.heap.size w w' := by
  have C := hide (fit_any b cap ts w nv tv ok (by omega) hT hb he hg ha)
  rw [hok] at C
  clear he hg ha hT
  go_enter Tryz.func20, Tryz.ntmps20
  go_wp2_with fail
  refine Calls.mono C.out ?_
  rintro e w1 ⟨rfl, b1⟩
  clear C
  go_wp2
  go_ret2
  exact ⟨rfl, b1⟩
set_option maxHeartbeats 2000000 in
set_option maxRecDepth 100000 in
theorem printPaper_ok (title : ByteArray) (b cap : Nat) (ts : List FD) (w : World) (nv : Nat → Int) (tv : Nat → ByteArray) (ok : Nat → Bool) (out : Nat → ByteArray) (M : Nat) (hM : M ≤ 1000000000) (htl : title.size ≤ 1000) (hlen : ts.length ≤ 64) (hT : TabAt b w ts) (hb : b < w.heap.size)
    (he : ∀ i (h : i < ts.length), Enters Tryz.prog ts[i].gf) (hg : ∀ i (h : i < ts.length), GetsAt w ts[i] (nv i) (tv i)) (ha : ∀ i (h : i < ts.length), AllowsIs ts[i] (nv i) (tv i) (ok i)) (hok : allB ts.length ok = true)
    (hp : ∀ i (h : i < ts.length), PrintsAt w ts[i] (nv i) (tv i) (out i)) (h1 : ∀ i (h : i < ts.length), ts[i].wd.size ≤ 1000 ∧ ts[i].en.size ≤ 1000) (h2 : ∀ i, (out i).size ≤ M) (hT4 : Tab4 0 w) :
    Calls Tryz.prog 20 #[.string title, .slice (some ⟨b, 0, none⟩) ts.length cap] w fun e w' => e = .returned (.tuple #[.string (paperS title (wrL ts out ts.length)), .int .i64 0]) ∧ Below w.heap.size w w' := by
  have C := hide (fit_any b cap ts w nv tv ok (by omega) hT hb he hg ha)
  rw [hok] at C
  have hl := wrL_len ts out M h1 h2 ts.length (Nat.le_refl _)
  have hl2 : ts.length * (M + 2000) ≤ 64 * (1000000000 + 2000) := Nat.mul_le_mul (by omega) (by omega)
  have W := hide (fun w1 (b1 : Below w.heap.size w w1) => written_any b cap ts w1 nv tv out M hM hlen (hT.below hb b1) (by have := b1.size; omega) he (fun i h => (hg i h).below b1) (fun i h => (hp i h).below b1) h1 h2)
  have hsz : ¬ 9223372036854775807 < title.size + (strOf (wrL ts out ts.length)).size := by rw [strOf_size]; omega
  have S := hide (fun w1 (b1 : Below w.heap.size w w1) => sealed_any (title ++ strOf (wrL ts out ts.length)) sumWd w1 (by rw [ByteArray.size_append, strOf_size]; omega) (by decide) (hT4.below b1 hT4.lt))
  clear he hg ha hT hp hT4 h1 h2
  generalize hL : wrL ts out ts.length = L at *
  clear hL hl hl2
  go_enter Tryz.func20, Tryz.ntmps20
  go_wp2_with fail
  refine Calls.mono C.out ?_
  rintro e w1 ⟨rfl, b1⟩
  have B1 := hide b1
  have W1 := hide (W.out w1 b1)
  clear b1 C W
  go_wp2_with fail
  refine Calls.mono W1.out ?_
  rintro e w2 ⟨rfl, b2⟩
  have B2 := hide (B1.out.trans (b2.mono B1.out.size))
  have S2 := hide (S.out w2 B2.out)
  unfold sumWd at S2
  clear b2 W1 B1 S
  go_wp2_with fail
  refine Calls.mono S2.out ?_
  rintro e w3 ⟨rfl, b3⟩
  have B3 := hide (B2.out.trans (b3.mono B2.out.size))
  clear b3 S2 B2
  go_wp2
  go_ret2
  exact ⟨rfl, B3.out⟩
end Go.Proofs.YtaclbffacnoddaaGreatDoor
namespace Go.Proofs.YtaclbffacnoddaaGreatDoor
open Go.RowKit Go.Shelf
def tabCells (ts : List FD) : List Value := (ts.map FD.cells).flatten
theorem tabCells_at : ∀ (ts : List FD) (i j : Nat) (h : i < ts.length), j < 7 → (tabCells ts)[i * 7 + j]? = ts[i].cells[j]?
  | f :: r, 0, j, _, hj => by
    show (f.cells ++ tabCells r)[0 * 7 + j]? = _
    rw [List.getElem?_append_left (by simp [FD.cells]; omega)]; simp
  | f :: r, i + 1, j, h, hj => by
    show (f.cells ++ tabCells r)[(i + 1) * 7 + j]? = _
    rw [List.getElem?_append_right (by simp [FD.cells]; omega), show (i + 1) * 7 + j - f.cells.length = i * 7 + j by simp [FD.cells]; omega]
    exact tabCells_at r i j (by simpa using h) hj
/-- the two blocks that a table's function makes: the box of its parameter, the rows -/
def tabW (pt : TypeId) (rb : Nat) (ts : List FD) (w : World) : World := (w.alloc (.cells #[.pointer (some ⟨rb, 0, none⟩)] pt)).alloc (.cells (tabCells ts).toArray 76)
theorem tabW_size (pt : TypeId) (rb : Nat) (ts : List FD) (w : World) : (tabW pt rb ts w).heap.size = w.heap.size + 2 := by unfold tabW; simp
theorem tabW_below (pt : TypeId) (rb : Nat) (ts : List FD) (w : World) : Below w.heap.size w (tabW pt rb ts w) := by unfold tabW; exact ((Below.refl _ w).alloc (Nat.le_refl _) _).alloc (by simp) _
theorem tabW_tab (pt : TypeId) (rb : Nat) (ts : List FD) (w : World) : TabAt (w.heap.size + 1) (tabW pt rb ts w) ts := fun i hi j v hv => by
  have := rangeAt_new (w.alloc (.cells #[.pointer (some ⟨rb, 0, none⟩)] pt)) (tabCells ts) 76
  have hj : j < 7 := by have := (List.getElem?_eq_some_iff.1 hv).1; simpa [FD.cells] using this
  have q := this (i * 7 + j) v (by rw [tabCells_at ts i j hi hj]; exact hv)
  simpa [tabW] using q
theorem tabW_box (pt : TypeId) (rb : Nat) (ts : List FD) (w : World) : (tabW pt rb ts w).cell? ⟨w.heap.size, 0, none⟩ = some (.pointer (some ⟨rb, 0, none⟩)) := by
  unfold tabW; simp
/-- digits of a number that an int holds -/
theorem decDigits_len : ∀ (k u : Nat), u < 10 ^ k → 0 < k → (Lib.decDigits u).length ≤ k
  | 0, _, _, h => by omega
  | k + 1, u, hu, _ => by
    rw [Lib.decDigits]
    split
    · simp
    · have : u / 10 < 10 ^ k := by rw [Nat.pow_succ] at hu; omega
      rcases Nat.eq_zero_or_pos k with h | h
      · subst h; simp at hu; omega
      · have := decDigits_len k (u / 10) this h
        simp; omega
theorem itoa_len (n : Int) (h0 : -9223372036854775808 ≤ n) (h1 : n ≤ 9223372036854775807) : (Lib.itoa n).length ≤ 20 := by
  unfold Lib.itoa
  split
  · have := decDigits_len 19 n.natAbs (by have : (10 : Nat) ^ 19 = 10000000000000000000 := rfl; omega) (by omega)
    simp; omega
  · have := decDigits_len 19 n.toNat (by have : (10 : Nat) ^ 19 = 10000000000000000000 := rfl; omega) (by omega)
    omega
end Go.Proofs.YtaclbffacnoddaaGreatDoor
