import Derived.Test.YtbcpfekbnkkflaaDoorGPaWrit
namespace Go.Proofs.YtbcpfekbnkkflaaDoor
open Go.RowKit Go.Shelf
def nl : ByteArray := ⟨#[10]⟩
def sumFD (wd : ByteArray) (bx : Nat) : FD := ⟨wd, 1, 0, 4294967295, 73, 74, #[.pointer (some ⟨bx, 0, none⟩)], nl⟩
/-- the two blocks that sumTable makes -/
def sumW (wd : ByteArray) (sb : Nat) (w : World) : World := (w.alloc (.cells #[.pointer (some ⟨sb, 0, none⟩)] 79)).alloc (.cells (sumFD wd w.heap.size).cells.toArray 73)
theorem rangeAt_new (w : World) (cs : List Value) (t : TypeId) : (w.alloc (.cells cs.toArray t)).rangeAt w.heap.size 0 cs := fun j v hv => by
  rw [World.cell?_alloc_at _ _ _ _ rfl]
  simpa using hv
theorem sumW_size (wd : ByteArray) (sb : Nat) (w : World) : (sumW wd sb w).heap.size = w.heap.size + 2 := by unfold sumW; simp
theorem sumW_below (wd : ByteArray) (sb : Nat) (w : World) : Below w.heap.size w (sumW wd sb w) := by unfold sumW; exact ((Below.refl _ w).alloc (Nat.le_refl _) _).alloc (by simp) _
theorem sumW_tab (wd : ByteArray) (sb : Nat) (w : World) : TabAt (w.heap.size + 1) (sumW wd sb w) [sumFD wd w.heap.size] := fun i hi => by
  obtain rfl : i = 0 := by simpa using hi
  have := rangeAt_new (w.alloc (.cells #[.pointer (some ⟨sb, 0, none⟩)] 79)) (sumFD wd w.heap.size).cells 73
  simpa [sumW] using this
theorem sumW_box (wd : ByteArray) (sb : Nat) (w : World) : (sumW wd sb w).cell? ⟨w.heap.size, 0, none⟩ = some (.pointer (some ⟨sb, 0, none⟩)) := by
  unfold sumW; simp
set_option maxHeartbeats 2000000 in
set_option maxRecDepth 100000 in
theorem sumTable_any (sb : Nat) (wd : ByteArray) (w : World) :
    Calls Tryd.prog 47 #[.string wd, .pointer (some ⟨sb, 0, none⟩)] w fun e w' => e = .returned (.slice (some ⟨w.heap.size + 1, 0, none⟩) 1 1) ∧ w' = sumW wd sb w := by
  have hmf : ∀ (fn : Fn) (first cap : Array Value) (w : World), (Instr.makeFunc fn first cap).run Tryd.prog w = .ok (.func fn first cap) w := fun _ _ _ _ => rfl
  go_enter Tryd.func47, Tryd.ntmps47
  go_wp2_with fail
  go_ret
  exact ⟨rfl, rfl⟩
theorem lt_of_cell? {w : World} {b o : Nat} {v : Value} (h : w.cell? ⟨b, o, none⟩ = some v) : b < w.heap.size := by
  rcases Nat.lt_or_ge b w.heap.size with z | z
  · exact z
  · simp [World.cell?, Array.getElem?_eq_none z] at h
theorem Tab4.lt {g : Nat} {w : World} (h : Tab4 g w) : g < w.heap.size := lt_of_cell? (h 0 (by omega))
/-- a sum's word, its eight digits, a line feed -/
def sealL (wd : ByteArray) (n : Nat) : List UInt8 := wd.data.toList ++ hexL (be4 n) ++ [10]
theorem sealL_len (wd : ByteArray) (n : Nat) : (sealL wd n).length = wd.size + 9 := by
  unfold sealL; rw [List.length_append, List.length_append, hexL_len, size_data]; simp [be4]
theorem cat_one (x : ByteArray) : cat [x] = x.data.toList := by simp [cat]
/-- a sum's table prints the word, eight digits, a line feed -/
theorem sumTab_writes (wd : ByteArray) (sb : Nat) (n : Nat) (hn : n < 4294967296) (hwd : wd.size ≤ 1000) (w : World) (hsb : sb < w.heap.size) (hc : w.cell? ⟨sb, 0, none⟩ = some (.int .i64 (n : Int))) :
    Calls Tryd.prog 21 #[.slice (some ⟨w.heap.size + 1, 0, none⟩) 1 1] (sumW wd sb w) fun e w' => e = .returned (.string (strOf (sealL wd n))) ∧ Below (sumW wd sb w).heap.size (sumW wd sb w) w' := by
  have hs := sumW_size wd sb w
  have hb := sumW_below wd sb w
  refine (written_any (w.heap.size + 1) 1 [sumFD wd w.heap.size] (sumW wd sb w) (fun _ => n) (fun _ => ⟨#[]⟩) (fun _ => strOf (hexL (be4 n))) 8 (by omega) (by simp) (sumW_tab wd sb w) (by omega) ?_ ?_ ?_ ?_ ?_).mono ?_
  · intro i hi
    obtain rfl : i = 0 := by simpa using hi
    exact enters_of Tryd.func73 (by kernel_rfl) rfl
  · intro i hi
    obtain rfl : i = 0 := by simpa using hi
    intro w' hw
    have z := hw.size
    exact get_sumTable_0 w.heap.size sb n w' (by omega) (by omega) (by rw [hw.cell (by show w.heap.size < _; omega)]; exact sumW_box wd sb w) (by rw [hw.cell (by show sb < _; omega), hb.cell (by exact hsb)]; exact hc)
  · intro i hi
    obtain rfl : i = 0 := by simpa using hi
    intro w' hw
    exact print_sum n hn _ w'
  · intro i hi
    obtain rfl : i = 0 := by simpa using hi
    exact ⟨hwd, by show nl.size ≤ 1000; decide⟩
  · intro i
    rw [strOf_size, hexL_len]; simp [be4]
  · rintro e w' ⟨rfl, b⟩
    refine ⟨?_, b⟩
    rw [show wrL [sumFD wd w.heap.size] (fun _ => strOf (hexL (be4 n))) [sumFD wd w.heap.size].length = sealL wd n from rfl]
set_option maxHeartbeats 2000000 in
set_option maxRecDepth 100000 in
theorem sealed_any (tx wd : ByteArray) (w : World) (hs : tx.size ≤ 70368744177664) (hwd : wd.size ≤ 1000) (hT : Tab4 0 w) :
    Calls Tryd.prog 20 #[.string tx, .string wd] w fun e w' => e = .returned (.string (tx ++ strOf (sealL wd (crcN 0 tx.data.toList)))) ∧ Below w.heap.size w w' := by
  have hlt : crcN 0 tx.data.toList < 4294967296 := crcN_lt _ (by omega)
  obtain ⟨W0, hW0⟩ : ∃ W0, W0 = w.alloc (.cells #[.string tx] 9) := ⟨_, rfl⟩
  have b0 : Below w.heap.size w W0 := by rw [hW0]; exact (Below.refl _ w).alloc (Nat.le_refl _) _
  have C := hide (crc_any (some ⟨w.heap.size, 0, none⟩) w.heap.size 0 1 [tx] W0 (fun _ => rfl) (by
    intro j x hj
    obtain rfl : j = 0 := by have := (List.getElem?_eq_some_iff.1 hj).1; simpa using this
    simp at hj; subst hj; rw [hW0]; simp) (by simp) (by intro x hx; simp at hx; subst hx; omega) (hT.below b0 hT.lt))
  rw [cat_one] at C
  generalize crcN 0 tx.data.toList = c at *
  go_enter Tryd.func20, Tryd.ntmps20
  go_wp2_with fail
  rw [← hW0]
  refine Calls.mono C.out ?_
  rintro e w1 ⟨rfl, rfl⟩
  obtain ⟨W1, hW1⟩ : ∃ W1, W1 = W0.alloc (.cells #[.int .i64 (c : Int)] 3) := ⟨_, rfl⟩
  have b1 : Below w.heap.size w W1 := by rw [hW1]; exact b0.alloc b0.size _
  have T := hide (sumTable_any W0.heap.size wd W1)
  have S := hide (sumTab_writes wd W0.heap.size c hlt hwd W1 (by rw [hW1]; simp) (by rw [hW1]; simp))
  have B1 := hide b1
  clear b1 b0 C hW0 hT
  go_wp2_with fail
  rw [← hW1]
  clear hW1
  refine Calls.mono T.out ?_
  rintro e w2 ⟨rfl, rfl⟩
  go_wp2_with fail
  refine Calls.mono S.out ?_
  rintro e w3 ⟨rfl, b3⟩
  have B3 := hide (B1.out.trans (((sumW_below wd W0.heap.size W1).trans (b3.mono (sumW_below wd W0.heap.size W1).size)).mono B1.out.size))
  have hsz : ¬ 9223372036854775807 < tx.size + (strOf (sealL wd c)).size := by rw [strOf_size, sealL_len]; omega
  clear b3 S T
  go_wp2
  go_ret
  exact ⟨rfl, B3.out⟩
end Go.Proofs.YtbcpfekbnkkflaaDoor
namespace Go.Proofs.YtbcpfekbnkkflaaDoor
open Go.RowKit Go.Shelf
def sumWd : ByteArray := ⟨#[115, 117, 109, 32]⟩
/-- the whole paper: a title, the rows, the sum's line -/
def paperS (title : ByteArray) (l : List UInt8) : ByteArray := (title ++ strOf l) ++ strOf (sealL sumWd (crcN 0 (title ++ strOf l).data.toList))
set_option maxHeartbeats 2000000 in
set_option maxRecDepth 100000 in
theorem printPaper_no (title : ByteArray) (b cap : Nat) (ts : List FD) (w : World) (nv : Nat → Int) (tv : Nat → ByteArray) (ok : Nat → Bool) (hlen : ts.length ≤ 64) (hT : TabAt b w ts) (hb : b < w.heap.size)
    (he : ∀ i (h : i < ts.length), Enters Tryd.prog ts[i].gf) (hg : ∀ i (h : i < ts.length), GetsAt w ts[i] (nv i) (tv i)) (ha : ∀ i (h : i < ts.length), AllowsIs ts[i] (nv i) (tv i) (ok i)) (hok : allB ts.length ok = false) :
    Calls Tryd.prog 30 #[.string title, .slice (some ⟨b, 0, none⟩) ts.length cap] w fun e w' => e = .returned (.tuple #[.string ⟨#[]⟩, .int .i64 42]) ∧ Below w.heap.size w w' := by
  have C := hide (fit_any b cap ts w nv tv ok (by omega) hT hb he hg ha)
  rw [hok] at C
  clear he hg ha hT
  go_enter Tryd.func30, Tryd.ntmps30
  go_wp2_with fail
  refine Calls.mono C.out ?_
  rintro e w1 ⟨rfl, b1⟩
  clear C
  go_wp2
  go_ret2
  exact ⟨rfl, b1⟩
set_option maxHeartbeats 2000000 in
set_option maxRecDepth 100000 in
theorem printPaper_ok (title : ByteArray) (b cap : Nat) (ts : List FD) (w : World) (nv : Nat → Int) (tv : Nat → ByteArray) (ok : Nat → Bool) (out : Nat → ByteArray) (M : Nat) (hM : M ≤ 1000000000) (htl : title.size ≤ 1000) (hlen : ts.length ≤ 64) (hT : TabAt b w ts) (hb : b < w.heap.size)
    (he : ∀ i (h : i < ts.length), Enters Tryd.prog ts[i].gf) (hg : ∀ i (h : i < ts.length), GetsAt w ts[i] (nv i) (tv i)) (ha : ∀ i (h : i < ts.length), AllowsIs ts[i] (nv i) (tv i) (ok i)) (hok : allB ts.length ok = true)
    (hp : ∀ i (h : i < ts.length), PrintsAt w ts[i] (nv i) (tv i) (out i)) (h1 : ∀ i (h : i < ts.length), ts[i].wd.size ≤ 1000 ∧ ts[i].en.size ≤ 1000) (h2 : ∀ i, (out i).size ≤ M) (hT4 : Tab4 0 w) :
    Calls Tryd.prog 30 #[.string title, .slice (some ⟨b, 0, none⟩) ts.length cap] w fun e w' => e = .returned (.tuple #[.string (paperS title (wrL ts out ts.length)), .int .i64 0]) ∧ Below w.heap.size w w' := by
  have C := hide (fit_any b cap ts w nv tv ok (by omega) hT hb he hg ha)
  rw [hok] at C
  have hl := wrL_len ts out M h1 h2 ts.length (Nat.le_refl _)
  have hl2 : ts.length * (M + 2000) ≤ 64 * (1000000000 + 2000) := Nat.mul_le_mul (by omega) (by omega)
  have W := hide (fun w1 (b1 : Below w.heap.size w w1) => written_any b cap ts w1 nv tv out M hM hlen (hT.below hb b1) (by have := b1.size; omega) he (fun i h => (hg i h).below b1) (fun i h => (hp i h).below b1) h1 h2)
  have hsz : ¬ 9223372036854775807 < title.size + (strOf (wrL ts out ts.length)).size := by rw [strOf_size]; omega
  have S := hide (fun w1 (b1 : Below w.heap.size w w1) => sealed_any (title ++ strOf (wrL ts out ts.length)) sumWd w1 (by rw [ByteArray.size_append, strOf_size]; omega) (by decide) (hT4.below b1 hT4.lt))
  clear he hg ha hT hp hT4 h1 h2
  generalize hL : wrL ts out ts.length = L at *
  clear hL hl hl2
  go_enter Tryd.func30, Tryd.ntmps30
  go_wp2_with fail
  refine Calls.mono C.out ?_
  rintro e w1 ⟨rfl, b1⟩
  have B1 := hide b1
  have W1 := hide (W.out w1 b1)
  clear b1 C W
  go_wp2_with fail
  refine Calls.mono W1.out ?_
  rintro e w2 ⟨rfl, b2⟩
  have B2 := hide (B1.out.trans (b2.mono B1.out.size))
  have S2 := hide (S.out w2 B2.out)
  unfold sumWd at S2
  clear b2 W1 B1 S
  go_wp2_with fail
  refine Calls.mono S2.out ?_
  rintro e w3 ⟨rfl, b3⟩
  have B3 := hide (B2.out.trans (b3.mono B2.out.size))
  clear b3 S2 B2
  go_wp2
  go_ret2
  exact ⟨rfl, B3.out⟩
end Go.Proofs.YtbcpfekbnkkflaaDoor
namespace Go.Proofs.YtbcpfekbnkkflaaDoor
open Go.RowKit Go.Shelf
def tabCells (ts : List FD) : List Value := (ts.map FD.cells).flatten
theorem tabCells_at : ∀ (ts : List FD) (i j : Nat) (h : i < ts.length), j < 7 → (tabCells ts)[i * 7 + j]? = ts[i].cells[j]?
  | f :: r, 0, j, _, hj => by
    show (f.cells ++ tabCells r)[0 * 7 + j]? = _
    rw [List.getElem?_append_left (by simp [FD.cells]; omega)]; simp
  | f :: r, i + 1, j, h, hj => by
    show (f.cells ++ tabCells r)[(i + 1) * 7 + j]? = _
    rw [List.getElem?_append_right (by simp [FD.cells]; omega), show (i + 1) * 7 + j - f.cells.length = i * 7 + j by simp [FD.cells]; omega]
    exact tabCells_at r i j (by simpa using h) hj
/-- the two blocks that a table's function makes: the box of its parameter, the rows -/
def tabW (pt : TypeId) (rb : Nat) (ts : List FD) (w : World) : World := (w.alloc (.cells #[.pointer (some ⟨rb, 0, none⟩)] pt)).alloc (.cells (tabCells ts).toArray 73)
theorem tabW_size (pt : TypeId) (rb : Nat) (ts : List FD) (w : World) : (tabW pt rb ts w).heap.size = w.heap.size + 2 := by unfold tabW; simp
theorem tabW_below (pt : TypeId) (rb : Nat) (ts : List FD) (w : World) : Below w.heap.size w (tabW pt rb ts w) := by unfold tabW; exact ((Below.refl _ w).alloc (Nat.le_refl _) _).alloc (by simp) _
theorem tabW_tab (pt : TypeId) (rb : Nat) (ts : List FD) (w : World) : TabAt (w.heap.size + 1) (tabW pt rb ts w) ts := fun i hi j v hv => by
  have := rangeAt_new (w.alloc (.cells #[.pointer (some ⟨rb, 0, none⟩)] pt)) (tabCells ts) 73
  have hj : j < 7 := by have := (List.getElem?_eq_some_iff.1 hv).1; simpa [FD.cells] using this
  have q := this (i * 7 + j) v (by rw [tabCells_at ts i j hi hj]; exact hv)
  simpa [tabW] using q
theorem tabW_box (pt : TypeId) (rb : Nat) (ts : List FD) (w : World) : (tabW pt rb ts w).cell? ⟨w.heap.size, 0, none⟩ = some (.pointer (some ⟨rb, 0, none⟩)) := by
  unfold tabW; simp
/-- digits of a number that an int holds -/
theorem decDigits_len : ∀ (k u : Nat), u < 10 ^ k → 0 < k → (Lib.decDigits u).length ≤ k
  | 0, _, _, h => by omega
  | k + 1, u, hu, _ => by
    rw [Lib.decDigits]
    split
    · simp
    · have : u / 10 < 10 ^ k := by rw [Nat.pow_succ] at hu; omega
      rcases Nat.eq_zero_or_pos k with h | h
      · subst h; simp at hu; omega
      · have := decDigits_len k (u / 10) this h
        simp; omega
theorem itoa_len (n : Int) (h0 : -9223372036854775808 ≤ n) (h1 : n ≤ 9223372036854775807) : (Lib.itoa n).length ≤ 20 := by
  unfold Lib.itoa
  split
  · have := decDigits_len 19 n.natAbs (by have : (10 : Nat) ^ 19 = 10000000000000000000 := rfl; omega) (by omega)
    simp; omega
  · have := decDigits_len 19 n.toNat (by have : (10 : Nat) ^ 19 = 10000000000000000000 := rfl; omega) (by omega)
    omega
end Go.Proofs.YtbcpfekbnkkflaaDoor
namespace Go.Proofs.YtbcpfekbnkkflaaDoor
open Go.RowKit Go.Shelf
def bxv (bx : Nat) : Array Value := #[.pointer (some ⟨bx, 0, none⟩)]
def ptrFDs (bx : Nat) : List FD := [⟨⟨#[99, 117, 114, 32]⟩, 0, 0, 999999, 58, 59, bxv bx, nl⟩, ⟨⟨#[112, 114, 101, 118, 32]⟩, 0, 0, 999999, 60, 61, bxv bx, nl⟩, ⟨⟨#[101, 112, 111, 99, 104, 32]⟩, 0, 0, 9007199254740992, 62, 63, bxv bx, nl⟩, ⟨⟨#[115, 101, 113, 32]⟩, 0, 0, 9007199254740992, 64, 65, bxv bx, nl⟩]
set_option maxHeartbeats 2000000 in
set_option maxRecDepth 100000 in
theorem pointerTable_any (rb : Nat) (w : World) :
    Calls Tryd.prog 31 #[.pointer (some ⟨rb, 0, none⟩)] w fun e w' => e = .returned (.slice (some ⟨w.heap.size + 1, 0, none⟩) 4 4) ∧ w' = tabW 62 rb (ptrFDs w.heap.size) w := by
  have hmf : ∀ (fn : Fn) (first cap : Array Value) (w : World), (Instr.makeFunc fn first cap).run Tryd.prog w = .ok (.func fn first cap) w := fun _ _ _ _ => rfl
  go_enter Tryd.func31, Tryd.ntmps31
  go_wp2_with fail
  go_ret
  exact ⟨rfl, rfl⟩
/-- a pointer's four numbers -/
def ptrV (c p e s : Int) : Nat → Int
  | 0 => c
  | 1 => p
  | 2 => e
  | _ => s
def ptrHi : Nat → Int
  | 0 => 999999
  | 1 => 999999
  | 2 => 9007199254740992
  | _ => 9007199254740992
def ptrOkI (c p e s : Int) (i : Nat) : Bool := inR (ptrV c p e s i) 0 (ptrHi i)
def ptrOk (c p e s : Int) : Bool := inR c 0 999999 && inR p 0 999999 && inR e 0 9007199254740992 && inR s 0 9007199254740992
theorem ptrOk_all (c p e s : Int) : allB 4 (ptrOkI c p e s) = ptrOk c p e s := by
  unfold allB ptrOk
  simp [List.range, List.range.loop, ptrOkI, ptrV, ptrHi, Bool.and_assoc]
def itS (n : Int) : ByteArray := strOf (Lib.itoa n)
/-- the rows of a pointer -/
def ptrL (c p e s : Int) : List UInt8 := [99, 117, 114, 32] ++ Lib.itoa c ++ [10] ++ ([112, 114, 101, 118, 32] ++ Lib.itoa p ++ [10]) ++ ([101, 112, 111, 99, 104, 32] ++ Lib.itoa e ++ [10]) ++ ([115, 101, 113, 32] ++ Lib.itoa s ++ [10])
theorem ptrL_wr (bx : Nat) (c p e s : Int) : wrL (ptrFDs bx) (fun i => itS (ptrV c p e s i)) 4 = ptrL c p e s := rfl
theorem ptrFD_enters (bx : Nat) : ∀ i (h : i < (ptrFDs bx).length), Enters Tryd.prog (ptrFDs bx)[i].gf := by
  intro i hi
  match i, hi with
  | 0, _ => exact enters_of Tryd.func58 (by kernel_rfl) rfl
  | 1, _ => exact enters_of Tryd.func60 (by kernel_rfl) rfl
  | 2, _ => exact enters_of Tryd.func62 (by kernel_rfl) rfl
  | 3, _ => exact enters_of Tryd.func64 (by kernel_rfl) rfl
/-- the record of a pointer, in memory -/
def PtrAt (w : World) (rb : Nat) (c p e s : Int) : Prop := w.cell? ⟨rb, 0, none⟩ = some (.int .i64 c) ∧ w.cell? ⟨rb, 1, none⟩ = some (.int .i64 p) ∧ w.cell? ⟨rb, 2, none⟩ = some (.int .i64 e) ∧ w.cell? ⟨rb, 3, none⟩ = some (.int .i64 s)
theorem ptrFD_gets (rb bx : Nat) (c p e s : Int) (w : World) (hx : bx < w.heap.size) (hr : rb < w.heap.size) (h1 : w.cell? ⟨bx, 0, none⟩ = some (.pointer (some ⟨rb, 0, none⟩))) (h2 : PtrAt w rb c p e s) : ∀ i (h : i < (ptrFDs bx).length), GetsAt w (ptrFDs bx)[i] (ptrV c p e s i) ⟨#[]⟩ := by
  intro i hi w' hw
  have z := hw.size
  obtain ⟨q0, q1, q2, q3⟩ := h2
  have hb : w'.cell? ⟨bx, 0, none⟩ = some (.pointer (some ⟨rb, 0, none⟩)) := by rw [hw.cell (by exact hx)]; exact h1
  match i, hi with
  | 0, _ => exact get_pointerTable_0 bx rb c w' (by omega) (by omega) hb (by rw [hw.cell (by exact hr)]; exact q0)
  | 1, _ => exact get_pointerTable_1 bx rb p w' (by omega) (by omega) hb (by rw [hw.cell (by exact hr)]; exact q1)
  | 2, _ => exact get_pointerTable_2 bx rb e w' (by omega) (by omega) hb (by rw [hw.cell (by exact hr)]; exact q2)
  | 3, _ => exact get_pointerTable_3 bx rb s w' (by omega) (by omega) hb (by rw [hw.cell (by exact hr)]; exact q3)
theorem ptrFD_allows (bx : Nat) (c p e s : Int) : ∀ i (h : i < (ptrFDs bx).length), AllowsIs (ptrFDs bx)[i] (ptrV c p e s i) ⟨#[]⟩ (ptrOkI c p e s i) := by
  intro i hi w'
  match i, hi with
  | 0, _ => exact allows_num 0 (.inl rfl) c 0 999999 _ w'
  | 1, _ => exact allows_num 0 (.inl rfl) p 0 999999 _ w'
  | 2, _ => exact allows_num 0 (.inl rfl) e 0 9007199254740992 _ w'
  | 3, _ => exact allows_num 0 (.inl rfl) s 0 9007199254740992 _ w'
def I64 (n : Int) : Prop := -9223372036854775808 ≤ n ∧ n ≤ 9223372036854775807
def Pow (w : World) : Prop := Lib.TabIs Tryd.prog w "internal/strconv.uint64pow10" .u64 Lib.pow10Tab
theorem Pow.below {w w' : World} (h : Pow w) (hb : Below w.heap.size w w') : Pow w' := Lib.tabBelow_of_tabIs h w' hb
theorem ptrV_i64 {c p e s : Int} (hc : I64 c) (hp : I64 p) (he : I64 e) (hs : I64 s) (i : Nat) : I64 (ptrV c p e s i) := by
  match i with
  | 0 => exact hc
  | 1 => exact hp
  | 2 => exact he
  | _ + 3 => exact hs
theorem ptrFD_prints (bx : Nat) (c p e s : Int) (hv : ∀ i, I64 (ptrV c p e s i)) (w : World) (hP : Pow w) : ∀ i (h : i < (ptrFDs bx).length), PrintsAt w (ptrFDs bx)[i] (ptrV c p e s i) ⟨#[]⟩ (itS (ptrV c p e s i)) := by
  intro i hi w' hw
  have hsh : (ptrFDs bx)[i].sh = 0 := by
    match i, hi with
    | 0, _ => rfl
    | 1, _ => rfl
    | 2, _ => rfl
    | 3, _ => rfl
  rw [hsh]
  exact print_num (ptrV c p e s i) _ w' (hv i).1 (hv i).2 (hP.below hw)
theorem ptrFD_small (bx : Nat) : ∀ i (h : i < (ptrFDs bx).length), (ptrFDs bx)[i].wd.size ≤ 1000 ∧ (ptrFDs bx)[i].en.size ≤ 1000 := by
  intro i hi
  match i, hi with
  | 0, _ => exact ⟨Nat.le_of_ble_eq_true rfl, Nat.le_of_ble_eq_true rfl⟩
  | 1, _ => exact ⟨Nat.le_of_ble_eq_true rfl, Nat.le_of_ble_eq_true rfl⟩
  | 2, _ => exact ⟨Nat.le_of_ble_eq_true rfl, Nat.le_of_ble_eq_true rfl⟩
  | 3, _ => exact ⟨Nat.le_of_ble_eq_true rfl, Nat.le_of_ble_eq_true rfl⟩
def ptrTitle : ByteArray := ⟨#[103, 114, 97, 110, 97, 114, 121, 32, 108, 97, 116, 101, 115, 116, 32, 49, 10]⟩
def ptrS (c p e s : Int) : ByteArray := if ptrOk c p e s then paperS ptrTitle (ptrL c p e s) else ⟨#[]⟩
def ptrE (c p e s : Int) : Int := if ptrOk c p e s then 0 else 42
set_option maxHeartbeats 2000000 in
set_option maxRecDepth 100000 in
theorem printPointer_any (c p e s : Int) (hc : I64 c) (hp : I64 p) (he : I64 e) (hs : I64 s) (w : World) (hP : Pow w) (hT4 : Tab4 0 w) :
    Calls Tryd.prog 15 #[.agg #[.int .i64 c, .int .i64 p, .int .i64 e, .int .i64 s]] w fun x w' => x = .returned (.tuple #[.string (ptrS c p e s), .int .i64 (ptrE c p e s)]) ∧ Below w.heap.size w w' := by
  obtain ⟨W0, hW0⟩ : ∃ W0, W0 = w.alloc (.cells #[.int .i64 c, .int .i64 p, .int .i64 e, .int .i64 s] 42) := ⟨_, rfl⟩
  have b0 : Below w.heap.size w W0 := by rw [hW0]; exact (Below.refl _ w).alloc (Nat.le_refl _) _
  have s0 : W0.heap.size = w.heap.size + 1 := by rw [hW0]; simp
  have r0 : PtrAt W0 w.heap.size c p e s := by rw [hW0]; exact ⟨by simp, by simp, by simp, by simp⟩
  have T := hide (pointerTable_any w.heap.size W0)
  obtain ⟨W1, hW1⟩ : ∃ W1, W1 = tabW 62 w.heap.size (ptrFDs W0.heap.size) W0 := ⟨_, rfl⟩
  have b1 : Below W0.heap.size W0 W1 := by rw [hW1]; exact tabW_below _ _ _ _
  have s1 : W1.heap.size = W0.heap.size + 2 := by rw [hW1]; exact tabW_size _ _ _ _
  have t1 : TabAt (W0.heap.size + 1) W1 (ptrFDs W0.heap.size) := by rw [hW1]; exact tabW_tab _ _ _ _
  have x1 : W1.cell? ⟨W0.heap.size, 0, none⟩ = some (.pointer (some ⟨w.heap.size, 0, none⟩)) := by rw [hW1]; exact tabW_box _ _ _ _
  have r1 : PtrAt W1 w.heap.size c p e s := by
    obtain ⟨q0, q1, q2, q3⟩ := r0
    have hl : w.heap.size < W0.heap.size := by omega
    exact ⟨by rw [b1.cell (by exact hl)]; exact q0, by rw [b1.cell (by exact hl)]; exact q1, by rw [b1.cell (by exact hl)]; exact q2, by rw [b1.cell (by exact hl)]; exact q3⟩
  have bb := b0.trans (b1.mono b0.size)
  have G := ptrFD_gets w.heap.size W0.heap.size c p e s W1 (by omega) (by omega) x1 r1
  have hv := ptrV_i64 hc hp he hs
  have C : Hid (Calls Tryd.prog 30 #[.string ptrTitle, .slice (some ⟨W0.heap.size + 1, 0, none⟩) 4 4] W1 fun x w' => x = .returned (.tuple #[.string (ptrS c p e s), .int .i64 (ptrE c p e s)]) ∧ Below W1.heap.size W1 w') := by
    by_cases hok : ptrOk c p e s = true
    · have := printPaper_ok ptrTitle (W0.heap.size + 1) 4 (ptrFDs W0.heap.size) W1 (ptrV c p e s) (fun _ => ⟨#[]⟩) (ptrOkI c p e s) (fun i => itS (ptrV c p e s i)) 20 (by omega) (by decide) (by show 4 ≤ 64; omega) t1 (by omega) (ptrFD_enters _) G (ptrFD_allows _ c p e s) (by show allB 4 _ = true; rw [ptrOk_all]; exact hok) (ptrFD_prints _ c p e s hv W1 (hP.below bb)) (ptrFD_small _) (fun i => by unfold itS; rw [strOf_size]; exact itoa_len _ (hv i).1 (hv i).2) (hT4.below bb hT4.lt)
      have e1 : ptrS c p e s = paperS ptrTitle (wrL (ptrFDs W0.heap.size) (fun i => itS (ptrV c p e s i)) (ptrFDs W0.heap.size).length) := by unfold ptrS; rw [if_pos hok]; rfl
      have e2 : ptrE c p e s = 0 := by unfold ptrE; rw [if_pos hok]
      rw [e1, e2]
      exact this
    · have := printPaper_no ptrTitle (W0.heap.size + 1) 4 (ptrFDs W0.heap.size) W1 (ptrV c p e s) (fun _ => ⟨#[]⟩) (ptrOkI c p e s) (by show 4 ≤ 64; omega) t1 (by omega) (ptrFD_enters _) G (ptrFD_allows _ c p e s) (by show allB 4 _ = false; rw [ptrOk_all]; simpa using hok)
      have e1 : ptrS c p e s = ⟨#[]⟩ := by unfold ptrS; rw [if_neg hok]
      have e2 : ptrE c p e s = 42 := by unfold ptrE; rw [if_neg hok]
      rw [e1, e2]
      exact this
  have BB := hide bb
  unfold ptrTitle at C
  clear G hP hT4 r0 r1 t1 x1 b0 b1 bb s1 s0 hv hc hp he hs
  go_enter Tryd.func15, Tryd.ntmps15
  go_wp2_with fail
  rw [← hW0]
  clear hW0
  refine Calls.mono T.out ?_
  rintro x w2 ⟨rfl, rfl⟩
  rw [← hW1]
  clear hW1
  go_wp2_with fail
  refine Calls.mono C.out ?_
  rintro x w3 ⟨rfl, b3⟩
  have B3 := hide (BB.out.trans (b3.mono BB.out.size))
  clear b3 C T
  go_wp2
  go_ret2
  exact ⟨rfl, B3.out⟩
end Go.Proofs.YtbcpfekbnkkflaaDoor
