import Derived.Test.YtfpalfpfijcpbaaGreatDoorGPaRdr
import Derived.Test.YtfpalfpfijcpbaaGreatDoorGPaWrit
namespace Go.Proofs.YtfpalfpfijcpbaaGreatDoor
open Go.RowKit Go.Shelf
/-- is the word so many bytes, as digits -/
def hexOk (l : List UInt8) (size : Nat) : Bool := decide (l.length = 2 * size) && (unhexL l).isSome
def hexV (l : List UInt8) (size : Nat) : ByteArray := if l.length = 2 * size then unS l else ⟨#[]⟩
theorem ret_sb {a b : ByteArray} {c d : Bool} (h1 : a = b) (h2 : c = d) : Ending.returned (.tuple #[.string a, .bool c]) = .returned (.tuple #[.string b, .bool d]) := by rw [h1, h2]
set_option maxHeartbeats 1000000 in
set_option maxRecDepth 100000 in
theorem readHex_any (s : ByteArray) (size : Nat) (w : World) (_hs : s.size < 9223372036854775808) (hz : size ≤ 1000) :
    Calls Tryz.prog 157 #[.string s, .int .i64 (size : Int)] w fun e w' => e = .returned (.tuple #[.string (hexV s.data.toList size), .bool (hexOk s.data.toList size)]) ∧ Below w.heap.size w w' := by
  by_cases h : s.size = 2 * size
  · have C := hide (unhex_any s w (by omega))
    have E1 : Hid (hexV s.data.toList size = unS s.data.toList ∧ hexOk s.data.toList size = (unhexL s.data.toList).isSome) := ⟨by unfold hexV; rw [if_pos (by rw [size_data]; exact h)], by unfold hexOk; rw [decide_eq_true (by rw [size_data]; exact h)]; rfl⟩
    have e1 : (s.size : Int) = 2 * (size : Int) := by omega
    cases hu : (unhexL s.data.toList).isSome with
    | true =>
      have e2 : unE s.data.toList = 0 := by unfold unE; rw [hu]; rfl
      rw [e2] at C
      rw [hu] at E1
      clear hu e2 h
      generalize unS s.data.toList = U at *
      go_enter Tryz.func157, Tryz.ntmps157
      go_wp2_with fail
      refine Calls.mono C.out ?_
      rintro e w1 ⟨rfl, b1⟩
      go_wp2_with fail
      go_ret2
      exact ⟨ret_sb E1.out.1.symm E1.out.2.symm, b1⟩
    | false =>
      have e2 : unE s.data.toList = 20 := by unfold unE; rw [hu]; rfl
      rw [e2] at C
      rw [hu] at E1
      clear hu e2 h
      generalize unS s.data.toList = U at *
      go_enter Tryz.func157, Tryz.ntmps157
      go_wp2_with fail
      refine Calls.mono C.out ?_
      rintro e w1 ⟨rfl, b1⟩
      go_wp2_with fail
      go_ret2
      exact ⟨ret_sb E1.out.1.symm E1.out.2.symm, b1⟩
  · have E1 : Hid (hexV s.data.toList size = ⟨#[]⟩ ∧ hexOk s.data.toList size = false) := ⟨by unfold hexV; rw [if_neg (by rw [size_data]; exact h)], by unfold hexOk; rw [decide_eq_false (by rw [size_data]; exact h)]; rfl⟩
    have e1 : ¬ (s.size : Int) = 2 * (size : Int) := by omega
    go_enter Tryz.func157, Tryz.ntmps157
    go_wp2_with fail
    go_ret2
    exact ⟨ret_sb E1.out.1.symm E1.out.2.symm, Below.refl _ _⟩
/-- bytes as a number, the highest first -/
def beV (l : List UInt8) : Nat := l.foldl (fun n b => n * 256 + b.toNat) 0
theorem beV_snoc (l : List UInt8) (c : UInt8) : beV (l ++ [c]) = beV l * 256 + c.toNat := by unfold beV; rw [List.foldl_append]; rfl
theorem beV_lt (s : List UInt8) : ∀ k, k ≤ s.length → beV (s.take k) < 256 ^ k
  | 0, _ => by simp [beV]
  | k + 1, hk => by
    have := beV_lt s k (by omega)
    have hc := s[k].toNat_lt
    rw [List.take_succ_eq_append_getElem (by omega), beV_snoc, Nat.pow_succ]
    omega
def sumOk (l : List UInt8) : Bool := hexOk l 4
def sumV (l : List UInt8) : Nat := beV (hexV l 4).data.toList
theorem unhexL_len : ∀ (l t : List UInt8), unhexL l = some t → l.length = 2 * t.length := by
  intro l
  induction h' : l.length using Nat.strongRecOn generalizing l with
  | ind n ih =>
    intro t h
    match l with
    | [] => simp [unhexL] at h; subst h; simpa using h'.symm
    | [_] => simp [unhexL] at h
    | a :: b :: r =>
      simp only [unhexL] at h
      cases ha : unhd a <;> cases hb : unhd b <;> cases hr : unhexL r <;> simp [ha, hb, hr] at h
      subst h
      simp only [List.length_cons] at h'
      have := ih r.length (by omega) r rfl _ hr
      simp only [List.length_cons]
      omega
theorem hexV_len (l : List UInt8) (size : Nat) : (hexV l size).size ≤ size := by
  unfold hexV
  split
  · unfold unS
    rw [strOf_size]
    cases h : unhexL l with
    | none => simp
    | some t => have := unhexL_len l t h; simp; omega
  · simp [ByteArray.size]
set_option maxHeartbeats 1000000 in
set_option maxRecDepth 100000 in
theorem readSum_any (s : ByteArray) (w : World) (hs : s.size < 9223372036854775808) :
    Calls Tryz.prog 156 #[.string s] w fun e w' => e = .returned (.tuple #[.int .i64 (sumV s.data.toList : Int), .bool (sumOk s.data.toList)]) ∧ Below w.heap.size w w' := by
  have C := hide (readHex_any s 4 w hs (by omega))
  have hl := hexV_len s.data.toList 4
  have E : Hid (sumV s.data.toList = beV (hexV s.data.toList 4).data.toList ∧ sumOk s.data.toList = hexOk s.data.toList 4) := ⟨rfl, rfl⟩
  generalize hexV s.data.toList 4 = D at *
  generalize hexOk s.data.toList 4 = O at *
  generalize sumV s.data.toList = SV at *
  generalize sumOk s.data.toList = SO at *
  go_enter Tryz.func156, Tryz.ntmps156
  go_wp2_with fail
  refine Calls.mono C.out ?_
  rintro e w1 ⟨rfl, b1⟩
  have B1 := hide b1
  clear C b1
  go_wp2_with fail
  go_loop [6, 7, 15] (fun n _ v => ∃ k : Nat, k ≤ D.size ∧ v = .int .i64 k ∧ n = .int .i64 (beV (D.data.toList.take k) : Int)) (fun _ _ v => D.size - (intOf v).toNat)
  case atStart => exact ⟨0, Nat.zero_le _, rfl, rfl⟩
  case round =>
    obtain ⟨k, hk, rfl, rfl⟩ := hrel
    have hV := beV_lt D.data.toList k (by rw [size_data]; exact hk)
    have hV2 : beV (D.data.toList.take k) < 4294967296 := Nat.lt_of_lt_of_le hV (Nat.le_trans (Nat.pow_le_pow_right (by omega) (show k ≤ 4 by omega)) (by decide))
    by_cases hlt : k < D.size
    · have hxs : ∀ w', (Instr.index 9 (.string D) (.int .i64 (k : Int))).run Tryz.prog w' = .ok (.int .u8 (D[k].toNat : Int)) w' := fun w' => ix_str w' D k hlt
      have hsn : Hid (beV (D.data.toList.take (k + 1)) = beV (D.data.toList.take k) * 256 + D[k].toNat) := by
        show _ = _
        rw [List.take_succ_eq_append_getElem (by simpa using hlt), beV_snoc]; rfl
      have hc := D[k].toNat_lt
      clear hV
      generalize D[k] = c at *
      generalize beV (D.data.toList.take k) = V at *
      go_wp2_with fail
      go_round
      case rel => exact ⟨k + 1, by omega, by go_num, by rw [hsn.out]; go_num⟩
      case measure => simp [intOf]; omega
    · obtain rfl : k = D.size := by omega
      rw [List.take_of_length_le (by simp)] at hV2 ⊢
      clear hV
      go_wp2_with fail
      go_ret2
      exact ⟨ret_tup (by rw [E.out.1]) E.out.2.symm, B1.out⟩
/-- what a shape reads of a word: the number, the text, is it good -/
def rdN (sh : Int) (l : List UInt8) : Int := if sh = 0 then (numV l : Int) else if sh = 1 then (sumV l : Int) else 0
def rdT (sh : Int) (l : List UInt8) : ByteArray := if sh = 0 ∨ sh = 1 then ⟨#[]⟩ else if sh = 2 then hexV l 16 else strOf l
def rdOk (sh : Int) (l : List UInt8) : Bool := if sh = 0 then numOk l else if sh = 1 then sumOk l else if sh = 2 then hexOk l 16 else !l.isEmpty
def ReadsAs (sh : Int) : Prop := ∀ (s : ByteArray) (w : World), s.size < 9223372036854775808 → Calls Tryz.prog 113 #[.int .i64 sh, .string s] w fun e w' => e = .returned (.tuple #[.agg #[.int .i64 (rdN sh s.data.toList), .string (rdT sh s.data.toList)], .bool (rdOk sh s.data.toList)]) ∧ Below w.heap.size w w'
set_option maxHeartbeats 1000000 in
set_option maxRecDepth 100000 in
theorem reads_num : ReadsAs 0 := fun s w hs => by
  have C := hide (fun w' => readNumber_any s w' hs)
  rw [show rdN 0 s.data.toList = (numV s.data.toList : Int) from rfl, show rdT 0 s.data.toList = ⟨#[]⟩ from rfl, show rdOk 0 s.data.toList = numOk s.data.toList from rfl]
  generalize numV s.data.toList = N at *
  generalize numOk s.data.toList = O at *
  go_enter Tryz.func113, Tryz.ntmps113
  go_wp2_with fail
  refine Calls.mono (C.out _) ?_
  rintro e w1 ⟨rfl, b1⟩
  have hl : w.heap.size < (w.alloc (.cells #[.int .i64 0, .string ⟨#[]⟩] 120)).heap.size := by simp
  have k0 : w1.cell? ⟨w.heap.size, 0, none⟩ = some (.int .i64 0) := by rw [b1.cell (by exact hl)]; simp
  have k1 : w1.cell? ⟨w.heap.size, 1, none⟩ = some (.string ⟨#[]⟩) := by rw [b1.cell (by exact hl)]; simp
  have f0 : w1.frozen? ⟨w.heap.size, 0, none⟩ = false := by rw [b1.frozen (by exact hl)]; simp
  have f1 : w1.frozen? ⟨w.heap.size, 1, none⟩ = false := by rw [b1.frozen (by exact hl)]; simp
  have B1 := hide (((Below.refl w.heap.size w).alloc (Nat.le_refl _) _).trans (b1.mono (by simp)))
  clear b1 C
  go_wp2_with fail
  exact bodyPost_ret (v := .tuple #[.agg #[.int .i64 (N : Int), .string ⟨#[]⟩], .bool O]) (by simp [results, Tryz.results113, go_sem, k0, k1]) rfl ⟨rfl, (B1.out.setCell (Nat.le_refl _) _).setCell (Nat.le_refl _) _⟩
set_option maxHeartbeats 1000000 in
set_option maxRecDepth 100000 in
theorem reads_sum : ReadsAs 1 := fun s w hs => by
  have C := hide (fun w' => readSum_any s w' hs)
  rw [show rdN 1 s.data.toList = (sumV s.data.toList : Int) from rfl, show rdT 1 s.data.toList = ⟨#[]⟩ from rfl, show rdOk 1 s.data.toList = sumOk s.data.toList from rfl]
  generalize sumV s.data.toList = N at *
  generalize sumOk s.data.toList = O at *
  go_enter Tryz.func113, Tryz.ntmps113
  go_wp2_with fail
  refine Calls.mono (C.out _) ?_
  rintro e w1 ⟨rfl, b1⟩
  have hl : w.heap.size < (w.alloc (.cells #[.int .i64 0, .string ⟨#[]⟩] 120)).heap.size := by simp
  have k0 : w1.cell? ⟨w.heap.size, 0, none⟩ = some (.int .i64 0) := by rw [b1.cell (by exact hl)]; simp
  have k1 : w1.cell? ⟨w.heap.size, 1, none⟩ = some (.string ⟨#[]⟩) := by rw [b1.cell (by exact hl)]; simp
  have f0 : w1.frozen? ⟨w.heap.size, 0, none⟩ = false := by rw [b1.frozen (by exact hl)]; simp
  have f1 : w1.frozen? ⟨w.heap.size, 1, none⟩ = false := by rw [b1.frozen (by exact hl)]; simp
  have B1 := hide (((Below.refl w.heap.size w).alloc (Nat.le_refl _) _).trans (b1.mono (by simp)))
  clear b1 C
  go_wp2_with fail
  exact bodyPost_ret (v := .tuple #[.agg #[.int .i64 (N : Int), .string ⟨#[]⟩], .bool O]) (by simp [results, Tryz.results113, go_sem, k0, k1]) rfl ⟨rfl, (B1.out.setCell (Nat.le_refl _) _).setCell (Nat.le_refl _) _⟩
end Go.Proofs.YtfpalfpfijcpbaaGreatDoor
namespace Go.Proofs.YtfpalfpfijcpbaaGreatDoor
open Go.RowKit Go.Shelf
def sumWd : ByteArray := ⟨#[115, 117, 109, 32]⟩
/-- the whole paper: a title, the rows, the sum's line -/
def paperS (title : ByteArray) (l : List UInt8) : ByteArray := (title ++ strOf l) ++ strOf (sealL sumWd (crcN 0 (title ++ strOf l).data.toList))
set_option maxHeartbeats 2000000 in
set_option maxRecDepth 100000 in
theorem printPaper_no (title : ByteArray) (b cap : Nat) (ts : List FD) (w : World) (nv : Nat → Int) (tv : Nat → ByteArray) (ok : Nat → Bool) (hlen : ts.length ≤ 64) (hT : TabAt b w ts) (hb : b < w.heap.size)
    (he : ∀ i (h : i < ts.length), Enters Tryz.prog ts[i].gf) (hg : ∀ i (h : i < ts.length), GetsAt w ts[i] (nv i) (tv i)) (ha : ∀ i (h : i < ts.length), AllowsIs ts[i] (nv i) (tv i) (ok i)) (hok : allB ts.length ok = false) :
    Calls Tryz.prog 34 #[.string title, .slice (some ⟨b, 0, none⟩) ts.length cap] w fun e w' => e = .returned (.tuple #[.string ⟨#[]⟩, .int .i64 42]) ∧ Below w.heap.size w w' := by
  have C := hide (fit_any b cap ts w nv tv ok (by omega) hT hb he hg ha)
  rw [hok] at C
  clear he hg ha hT
  go_enter Tryz.func34, Tryz.ntmps34
  go_wp2_with fail
  refine Calls.mono C.out ?_
  rintro e w1 ⟨rfl, b1⟩
  clear C
  go_wp2
  go_ret2
  exact ⟨rfl, b1⟩
set_option maxHeartbeats 2000000 in
set_option maxRecDepth 100000 in
theorem printPaper_ok (title : ByteArray) (b cap : Nat) (ts : List FD) (w : World) (nv : Nat → Int) (tv : Nat → ByteArray) (ok : Nat → Bool) (out : Nat → ByteArray) (M : Nat) (hM : M ≤ 1000000000) (htl : title.size ≤ 1000) (hlen : ts.length ≤ 64) (hT : TabAt b w ts) (hb : b < w.heap.size)
    (he : ∀ i (h : i < ts.length), Enters Tryz.prog ts[i].gf) (hg : ∀ i (h : i < ts.length), GetsAt w ts[i] (nv i) (tv i)) (ha : ∀ i (h : i < ts.length), AllowsIs ts[i] (nv i) (tv i) (ok i)) (hok : allB ts.length ok = true)
    (hp : ∀ i (h : i < ts.length), PrintsAt w ts[i] (nv i) (tv i) (out i)) (h1 : ∀ i (h : i < ts.length), ts[i].wd.size ≤ 1000 ∧ ts[i].en.size ≤ 1000) (h2 : ∀ i, (out i).size ≤ M) (hT4 : Tab4 0 w) :
    Calls Tryz.prog 34 #[.string title, .slice (some ⟨b, 0, none⟩) ts.length cap] w fun e w' => e = .returned (.tuple #[.string (paperS title (wrL ts out ts.length)), .int .i64 0]) ∧ Below w.heap.size w w' := by
  have C := hide (fit_any b cap ts w nv tv ok (by omega) hT hb he hg ha)
  rw [hok] at C
  have hl := wrL_len ts out M h1 h2 ts.length (Nat.le_refl _)
  have hl2 : ts.length * (M + 2000) ≤ 64 * (1000000000 + 2000) := Nat.mul_le_mul (by omega) (by omega)
  have W := hide (fun w1 (b1 : Below w.heap.size w w1) => written_any b cap ts w1 nv tv out M hM hlen (hT.below hb b1) (by have := b1.size; omega) he (fun i h => (hg i h).below b1) (fun i h => (hp i h).below b1) h1 h2)
  have hsz : ¬ 9223372036854775807 < title.size + (strOf (wrL ts out ts.length)).size := by rw [strOf_size]; omega
  have S := hide (fun w1 (b1 : Below w.heap.size w w1) => sealed_any (title ++ strOf (wrL ts out ts.length)) sumWd w1 (by rw [ByteArray.size_append, strOf_size]; omega) (by decide) (hT4.below b1 hT4.lt))
  clear he hg ha hT hp hT4 h1 h2
  generalize hL : wrL ts out ts.length = L at *
  clear hL hl hl2
  go_enter Tryz.func34, Tryz.ntmps34
  go_wp2_with fail
  refine Calls.mono C.out ?_
  rintro e w1 ⟨rfl, b1⟩
  have B1 := hide b1
  have W1 := hide (W.out w1 b1)
  clear b1 C W
  go_wp2_with fail
  refine Calls.mono W1.out ?_
  rintro e w2 ⟨rfl, b2⟩
  have B2 := hide (B1.out.trans (b2.mono B1.out.size))
  have S2 := hide (S.out w2 B2.out)
  unfold sumWd at S2
  clear b2 W1 B1 S
  go_wp2_with fail
  refine Calls.mono S2.out ?_
  rintro e w3 ⟨rfl, b3⟩
  have B3 := hide (B2.out.trans (b3.mono B2.out.size))
  clear b3 S2 B2
  go_wp2
  go_ret2
  exact ⟨rfl, B3.out⟩
end Go.Proofs.YtfpalfpfijcpbaaGreatDoor
namespace Go.Proofs.YtfpalfpfijcpbaaGreatDoor
open Go.RowKit Go.Shelf
def tabCells (ts : List FD) : List Value := (ts.map FD.cells).flatten
theorem tabCells_at : ∀ (ts : List FD) (i j : Nat) (h : i < ts.length), j < 7 → (tabCells ts)[i * 7 + j]? = ts[i].cells[j]?
  | f :: r, 0, j, _, hj => by
    show (f.cells ++ tabCells r)[0 * 7 + j]? = _
    rw [List.getElem?_append_left (by simp [FD.cells]; omega)]; simp
  | f :: r, i + 1, j, h, hj => by
    show (f.cells ++ tabCells r)[(i + 1) * 7 + j]? = _
    rw [List.getElem?_append_right (by simp [FD.cells]; omega), show (i + 1) * 7 + j - f.cells.length = i * 7 + j by simp [FD.cells]; omega]
    exact tabCells_at r i j (by simpa using h) hj
/-- the two blocks that a table's function makes: the box of its parameter, the rows -/
def tabW (pt : TypeId) (rb : Nat) (ts : List FD) (w : World) : World := (w.alloc (.cells #[.pointer (some ⟨rb, 0, none⟩)] pt)).alloc (.cells (tabCells ts).toArray 124)
theorem tabW_size (pt : TypeId) (rb : Nat) (ts : List FD) (w : World) : (tabW pt rb ts w).heap.size = w.heap.size + 2 := by unfold tabW; simp
theorem tabW_below (pt : TypeId) (rb : Nat) (ts : List FD) (w : World) : Below w.heap.size w (tabW pt rb ts w) := by unfold tabW; exact ((Below.refl _ w).alloc (Nat.le_refl _) _).alloc (by simp) _
theorem tabW_tab (pt : TypeId) (rb : Nat) (ts : List FD) (w : World) : TabAt (w.heap.size + 1) (tabW pt rb ts w) ts := fun i hi j v hv => by
  have := rangeAt_new (w.alloc (.cells #[.pointer (some ⟨rb, 0, none⟩)] pt)) (tabCells ts) 124
  have hj : j < 7 := by have := (List.getElem?_eq_some_iff.1 hv).1; simpa [FD.cells] using this
  have q := this (i * 7 + j) v (by rw [tabCells_at ts i j hi hj]; exact hv)
  simpa [tabW] using q
theorem tabW_box (pt : TypeId) (rb : Nat) (ts : List FD) (w : World) : (tabW pt rb ts w).cell? ⟨w.heap.size, 0, none⟩ = some (.pointer (some ⟨rb, 0, none⟩)) := by
  unfold tabW; simp
/-- digits of a number that an int holds -/
theorem decDigits_len : ∀ (k u : Nat), u < 10 ^ k → 0 < k → (Lib.decDigits u).length ≤ k
  | 0, _, _, h => by omega
  | k + 1, u, hu, _ => by
    rw [Lib.decDigits]
    split
    · simp
    · have : u / 10 < 10 ^ k := by rw [Nat.pow_succ] at hu; omega
      rcases Nat.eq_zero_or_pos k with h | h
      · subst h; simp at hu; omega
      · have := decDigits_len k (u / 10) this h
        simp; omega
theorem itoa_len (n : Int) (h0 : -9223372036854775808 ≤ n) (h1 : n ≤ 9223372036854775807) : (Lib.itoa n).length ≤ 20 := by
  unfold Lib.itoa
  split
  · have := decDigits_len 19 n.natAbs (by have : (10 : Nat) ^ 19 = 10000000000000000000 := rfl; omega) (by omega)
    simp; omega
  · have := decDigits_len 19 n.toNat (by have : (10 : Nat) ^ 19 = 10000000000000000000 := rfl; omega) (by omega)
    omega
end Go.Proofs.YtfpalfpfijcpbaaGreatDoor
