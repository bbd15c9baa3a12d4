import Derived.Test.YtfpalfpfijcpbaaGreatDoorGPaPtr
import Derived.Test.YtfpalfpfijcpbaaGreatDoorGPxRead
namespace Go.Proofs.YtfpalfpfijcpbaaGreatDoor
open Go.RowKit Go.Shelf
set_option maxHeartbeats 1000000 in
set_option maxRecDepth 100000 in
theorem isName_any (t : ByteArray) (w : World) (hs : t.size ≤ 9223372036854775807) :
    Calls Tryz.prog 146 #[.string t] w fun e w' => e = .returned (.bool (isNm t.data.toList)) ∧ Below w.heap.size w w' := by
  have C1 := hide (fun w' => isOf_any t nmL w' hs)
  have HE : Hid (isNm t.data.toList = (allOf t.data.toList nmL && !(t.toList == [46]) && !(t.toList == [46, 46]))) := by show _ = _; unfold isNm; rw [toList_data]
  obtain ⟨E, hE⟩ : ∃ E, E = isNm t.data.toList := ⟨_, rfl⟩
  rw [← hE] at HE ⊢
  clear hE
  unfold nmL at C1 HE
  generalize allOf t.data.toList _ = A at *
  cases hA : A with
  | false =>
    rw [hA] at C1 HE
    go_enter Tryz.func146, Tryz.ntmps146
    go_wp2_with fail
    refine Calls.mono (C1.out _) ?_
    rintro e w1 ⟨rfl, rfl⟩
    go_wp2_with fail
    go_ret
    exact ⟨ret_bool HE.out.symm, Below.refl _ _⟩
  | true =>
    rw [hA] at C1 HE
    cases h1 : (t.toList == [46]) with
    | true =>
      rw [h1] at HE
      go_enter Tryz.func146, Tryz.ntmps146
      go_wp2_with fail
      refine Calls.mono (C1.out _) ?_
      rintro e w1 ⟨rfl, rfl⟩
      go_wp2_with fail
      go_ret
      exact ⟨ret_bool HE.out.symm, Below.refl _ _⟩
    | false =>
      rw [h1] at HE
      go_enter Tryz.func146, Tryz.ntmps146
      go_wp2_with fail
      refine Calls.mono (C1.out _) ?_
      rintro e w1 ⟨rfl, rfl⟩
      go_wp2_with fail
      go_ret
      exact ⟨ret_bool HE.out.symm, Below.refl _ _⟩
/-- a file's name that may be -/
def nmOk (t : ByteArray) (lo hi : Int) : Bool := inR (t.size : Int) lo hi && isNm t.data.toList
set_option maxHeartbeats 1000000 in
set_option maxRecDepth 100000 in
theorem allows_name (n lo hi : Int) (t : ByteArray) (w : World) (ht : t.size ≤ 9223372036854775807) :
    Calls Tryz.prog 97 #[.int .i64 3, .agg #[.int .i64 n, .string t], .int .i64 lo, .int .i64 hi] w fun e w' => e = .returned (.bool (nmOk t lo hi)) ∧ Below w.heap.size w w' := by
  have hb : Below w.heap.size w (w.alloc (.cells #[.int .i64 n, .string t] 120)) := (Below.refl _ _).alloc (Nat.le_refl _) _
  have C := hide (fun w' => isName_any t w' ht)
  obtain ⟨E, hE⟩ : ∃ E, E = nmOk t lo hi := ⟨_, rfl⟩
  unfold nmOk inR at hE
  rw [show nmOk t lo hi = E by rw [hE]; rfl]
  have HE := hide hE
  clear hE
  generalize isNm t.data.toList = S at *
  by_cases h1 : (t.size : Int) < lo
  · go_enter Tryz.func97, Tryz.ntmps97
    go_wp2_with (go_at_call 145; refine Calls.mono (isNumeric_any _ _) ?_; rintro e w' ⟨rfl, rfl⟩)
    go_ret
    exact ⟨ret_bool (by rw [HE.out, decide_eq_false (by omega)]; rfl), hb⟩
  · by_cases h2 : hi < (t.size : Int)
    · go_enter Tryz.func97, Tryz.ntmps97
      go_wp2_with (go_at_call 145; refine Calls.mono (isNumeric_any _ _) ?_; rintro e w' ⟨rfl, rfl⟩)
      go_ret
      exact ⟨ret_bool (by rw [HE.out, decide_eq_false (p := (t.size : Int) ≤ hi) (by omega)]; simp), hb⟩
    · have HB := hide hb
      clear hb
      go_enter Tryz.func97, Tryz.ntmps97
      go_wp2_with (go_at_call 145; refine Calls.mono (isNumeric_any _ _) ?_; rintro e w' ⟨rfl, rfl⟩)
      refine Calls.mono (C.out _) ?_
      rintro e w1 ⟨rfl, b1⟩
      have B1 := hide (HB.out.trans (b1.mono HB.out.size))
      clear b1
      go_wp2_with fail
      go_ret
      exact ⟨ret_bool (by rw [HE.out, decide_eq_true (by omega), decide_eq_true (by omega)]; rfl), B1.out⟩
set_option maxHeartbeats 1000000 in
set_option maxRecDepth 100000 in
theorem allows_md5 (n lo hi : Int) (t : ByteArray) (w : World) :
    Calls Tryz.prog 97 #[.int .i64 2, .agg #[.int .i64 n, .string t], .int .i64 lo, .int .i64 hi] w fun e w' => e = .returned (.bool (inR (t.size : Int) lo hi)) ∧ Below w.heap.size w w' := by
  have hb : Below w.heap.size w (w.alloc (.cells #[.int .i64 n, .string t] 120)) := (Below.refl _ _).alloc (Nat.le_refl _) _
  obtain ⟨E, hE⟩ : ∃ E, E = inR (t.size : Int) lo hi := ⟨_, rfl⟩
  unfold inR at hE
  rw [show inR (t.size : Int) lo hi = E by rw [hE]; rfl]
  have HE := hide hE
  clear hE
  by_cases h1 : (t.size : Int) < lo
  · go_enter Tryz.func97, Tryz.ntmps97
    go_wp2_with (go_at_call 145; refine Calls.mono (isNumeric_any _ _) ?_; rintro e w' ⟨rfl, rfl⟩)
    go_ret
    exact ⟨ret_bool (by rw [HE.out, decide_eq_false (by omega)]; rfl), hb⟩
  · by_cases h2 : hi < (t.size : Int)
    · go_enter Tryz.func97, Tryz.ntmps97
      go_wp2_with (go_at_call 145; refine Calls.mono (isNumeric_any _ _) ?_; rintro e w' ⟨rfl, rfl⟩)
      go_ret
      exact ⟨ret_bool (by rw [HE.out, decide_eq_false (p := (t.size : Int) ≤ hi) (by omega)]; simp), hb⟩
    · go_enter Tryz.func97, Tryz.ntmps97
      go_wp2_with (go_at_call 145; refine Calls.mono (isNumeric_any _ _) ?_; rintro e w' ⟨rfl, rfl⟩)
      go_ret
      exact ⟨ret_bool (by rw [HE.out, decide_eq_true (by omega), decide_eq_true (by omega)]; rfl), hb⟩
set_option maxHeartbeats 1000000 in
set_option maxRecDepth 100000 in
theorem print_md5 (n : Int) (t : ByteArray) (w : World) (ht : t.size ≤ 1099511627776) :
    Calls Tryz.prog 100 #[.int .i64 2, .agg #[.int .i64 n, .string t]] w fun e w' => e = .returned (.string (strOf (hexL t.data.toList))) ∧ Below w.heap.size w w' := by
  obtain ⟨W0, hW0⟩ : ∃ W0, W0 = w.alloc (.cells #[.int .i64 n, .string t] 120) := ⟨_, rfl⟩
  have b0 : Below w.heap.size w W0 := by rw [hW0]; exact (Below.refl _ w).alloc (Nat.le_refl _) _
  have C := hide (hex_any t W0 ht)
  have B0 := hide b0
  clear b0
  go_enter Tryz.func100, Tryz.ntmps100
  go_wp2_with fail
  rw [← hW0]
  clear hW0
  refine Calls.mono C.out ?_
  rintro e w1 ⟨rfl, b1⟩
  have B1 := hide (B0.out.trans (b1.mono B0.out.size))
  clear C b1
  go_wp2
  go_ret
  exact ⟨rfl, B1.out⟩
set_option maxHeartbeats 1000000 in
set_option maxRecDepth 100000 in
theorem reads_name : ReadsAs 3 := fun s w hs => by
  have e3 : (!s.toList.isEmpty) = !s.data.toList.isEmpty := by rw [toList_data]
  rw [show rdN 3 s.data.toList = 0 from rfl, show rdT 3 s.data.toList = s from strOf_toList s, show rdOk 3 s.data.toList = !s.data.toList.isEmpty from rfl, ← e3]
  clear e3
  go_enter Tryz.func113, Tryz.ntmps113
  go_wp2_with fail
  exact bodyPost_ret (v := .tuple #[.agg #[.int .i64 0, .string s], .bool (!s.toList.isEmpty)]) (by simp [results, Tryz.results113, go_sem]) rfl ⟨rfl, (Below.refl _ _).alloc (Nat.le_refl _) _⟩
set_option maxHeartbeats 1000000 in
set_option maxRecDepth 100000 in
theorem reads_md5 : ReadsAs 2 := fun s w hs => by
  have C := hide (fun w' => readHex_any s 16 w' hs (by omega))
  rw [show rdN 2 s.data.toList = 0 from rfl, show rdT 2 s.data.toList = hexV s.data.toList 16 from rfl, show rdOk 2 s.data.toList = hexOk s.data.toList 16 from rfl]
  generalize hexV s.data.toList 16 = N at *
  generalize hexOk s.data.toList 16 = O at *
  go_enter Tryz.func113, Tryz.ntmps113
  go_wp2_with fail
  refine Calls.mono (C.out _) ?_
  rintro e w1 ⟨rfl, b1⟩
  have hl : w.heap.size < (w.alloc (.cells #[.int .i64 0, .string ⟨#[]⟩] 120)).heap.size := by simp
  have k0 : w1.cell? ⟨w.heap.size, 0, none⟩ = some (.int .i64 0) := by rw [b1.cell (by exact hl)]; simp
  have k1 : w1.cell? ⟨w.heap.size, 1, none⟩ = some (.string ⟨#[]⟩) := by rw [b1.cell (by exact hl)]; simp
  have f0 : w1.frozen? ⟨w.heap.size, 0, none⟩ = false := by rw [b1.frozen (by exact hl)]; simp
  have f1 : w1.frozen? ⟨w.heap.size, 1, none⟩ = false := by rw [b1.frozen (by exact hl)]; simp
  have B1 := hide (((Below.refl w.heap.size w).alloc (Nat.le_refl _) _).trans (b1.mono (by simp)))
  clear b1 C
  go_wp2_with fail
  exact bodyPost_ret (v := .tuple #[.agg #[.int .i64 0, .string N], .bool O]) (by simp [results, Tryz.results113, go_sem, k0, k1]) rfl ⟨rfl, (B1.out.setCell (Nat.le_refl _) _).setCell (Nat.le_refl _) _⟩
end Go.Proofs.YtfpalfpfijcpbaaGreatDoor
namespace Go.Proofs.YtfpalfpfijcpbaaGreatDoor
open Go.RowKit Go.Shelf
set_option maxHeartbeats 1000000 in
set_option maxRecDepth 100000 in
theorem get_tailTable_0 (bx rb : Nat) (n : Int) (w : World) (hx : bx < w.heap.size) (hr : rb < w.heap.size) (h1 : w.cell? ⟨bx, 0, none⟩ = some (.pointer (some ⟨rb, 0, none⟩))) (h2 : w.cell? ⟨rb, 4, none⟩ = some (.int .i64 n)) :
    Calls Tryz.prog 123 #[.pointer (some ⟨bx, 0, none⟩)] w fun e w' => e = .returned (.agg #[.int .i64 n, .string ⟨#[]⟩]) ∧ Below w.heap.size w w' := by
  go_enter Tryz.func123, Tryz.ntmps123
  go_wp2
  exact bodyPost_ret (v := .agg #[.int .i64 n, .string ⟨#[]⟩]) (by simp [results, Tryz.results123, go_sem]) rfl ⟨rfl, (Below.refl _ _).alloc (Nat.le_refl _) _⟩
set_option maxHeartbeats 1000000 in
set_option maxRecDepth 100000 in
theorem set_tailTable_0 (bx rb : Nat) (n : Int) (m : Int) (t : ByteArray) (w : World) (hx : bx < w.heap.size) (hr : rb < w.heap.size) (h1 : w.cell? ⟨bx, 0, none⟩ = some (.pointer (some ⟨rb, 0, none⟩))) (h2 : w.cell? ⟨rb, 4, none⟩ = some (.int .i64 n)) (h3 : w.frozen? ⟨rb, 4, none⟩ = false) :
    Calls Tryz.prog 124 #[.agg #[.int .i64 m, .string t], .pointer (some ⟨bx, 0, none⟩)] w fun e w' => e = .returned (.tuple #[]) ∧ w' = (w.setCell ⟨rb, 4, none⟩ (.int .i64 m)).alloc (.cells #[.int .i64 m, .string t] 120) := by
  go_enter Tryz.func124, Tryz.ntmps124
  go_wp2
  go_end0
  exact ⟨rfl, rfl⟩
set_option maxHeartbeats 1000000 in
set_option maxRecDepth 100000 in
theorem get_tailTable_1 (bx rb : Nat) (n : Int) (w : World) (hx : bx < w.heap.size) (hr : rb < w.heap.size) (h1 : w.cell? ⟨bx, 0, none⟩ = some (.pointer (some ⟨rb, 0, none⟩))) (h2 : w.cell? ⟨rb, 5, none⟩ = some (.int .i64 n)) :
    Calls Tryz.prog 125 #[.pointer (some ⟨bx, 0, none⟩)] w fun e w' => e = .returned (.agg #[.int .i64 n, .string ⟨#[]⟩]) ∧ Below w.heap.size w w' := by
  go_enter Tryz.func125, Tryz.ntmps125
  go_wp2
  exact bodyPost_ret (v := .agg #[.int .i64 n, .string ⟨#[]⟩]) (by simp [results, Tryz.results125, go_sem]) rfl ⟨rfl, (Below.refl _ _).alloc (Nat.le_refl _) _⟩
set_option maxHeartbeats 1000000 in
set_option maxRecDepth 100000 in
theorem set_tailTable_1 (bx rb : Nat) (n : Int) (m : Int) (t : ByteArray) (w : World) (hx : bx < w.heap.size) (hr : rb < w.heap.size) (h1 : w.cell? ⟨bx, 0, none⟩ = some (.pointer (some ⟨rb, 0, none⟩))) (h2 : w.cell? ⟨rb, 5, none⟩ = some (.int .i64 n)) (h3 : w.frozen? ⟨rb, 5, none⟩ = false) :
    Calls Tryz.prog 126 #[.agg #[.int .i64 m, .string t], .pointer (some ⟨bx, 0, none⟩)] w fun e w' => e = .returned (.tuple #[]) ∧ w' = (w.setCell ⟨rb, 5, none⟩ (.int .i64 m)).alloc (.cells #[.int .i64 m, .string t] 120) := by
  go_enter Tryz.func126, Tryz.ntmps126
  go_wp2
  go_end0
  exact ⟨rfl, rfl⟩
def tailFDs (bm : Nat) : List FD := [⟨⟨#[116, 111, 116, 97, 108, 32]⟩, 0, 0, 9007199254740992, 123, 124, bxv bm, nl⟩, ⟨⟨#[119, 104, 111, 108, 101, 32]⟩, 1, 0, 4294967295, 125, 126, bxv bm, nl⟩]
/-- the world in which the table lies -/
def tailW (rb : Nat) (w : World) : World := tabW 94 rb (tailFDs w.heap.size) w
theorem tailW_size (rb : Nat) (w : World) : (tailW rb w).heap.size = w.heap.size + 2 := tabW_size _ _ _ _
theorem tailW_below (rb : Nat) (w : World) : Below w.heap.size w (tailW rb w) := tabW_below _ _ _ _
set_option maxHeartbeats 4000000 in
set_option maxRecDepth 100000 in
theorem tailTable_any (rb : Nat) (w : World) :
    Calls Tryz.prog 51 #[.pointer (some ⟨rb, 0, none⟩)] w fun e w' => e = .returned (.slice (some ⟨w.heap.size + 1, 0, none⟩) 2 2) ∧ w' = tailW rb w := by
  have hmf : ∀ (fn : Fn) (first cap : Array Value) (w : World), (Instr.makeFunc fn first cap).run Tryz.prog w = .ok (.func fn first cap) w := fun _ _ _ _ => rfl
  unfold tailW
  go_enter Tryz.func51, Tryz.ntmps51
  go_wp2_with fail
  go_ret
  exact ⟨rfl, rfl⟩
abbrev TV := Int × Int
def tailN (x : TV) : Nat → Int
  | 0 => x.1
  | 1 => x.2
  | _ => 0
def tailT (_ : TV) (_ : Nat) : ByteArray := ⟨#[]⟩
def tailOkI (x : TV) : Nat → Bool
  | 0 => inR (x.1) 0 9007199254740992
  | _ => inR (x.2) 0 4294967295
def tailOk (x : TV) : Bool := inR (x.1) 0 9007199254740992 && inR (x.2) 0 4294967295
theorem tailOk_all (x : TV) : allB 2 (tailOkI x) = tailOk x := by
  unfold allB tailOk
  simp [List.range, List.range.loop, tailOkI]
def tailO (x : TV) : Nat → ByteArray
  | 0 => itS (x.1)
  | _ => strOf (hexL (be4 (x.2).toNat))
def tailL (x : TV) : List UInt8 := wrL (tailFDs 0) (tailO x) 2
def TailAt (w : World) (rb : Nat) (x : TV) : Prop := w.cell? ⟨rb, 4, none⟩ = some (.int .i64 (x.1)) ∧ w.cell? ⟨rb, 5, none⟩ = some (.int .i64 (x.2))
theorem TailAt.lt {w : World} {rb : Nat} {x : TV} (h : TailAt w rb x) : rb < w.heap.size := lt_of_cell? h.1
theorem TailAt.below {w w' : World} {rb : Nat} {x : TV} (h : TailAt w rb x) (hb : Below w.heap.size w w') : TailAt w' rb x := by
  have hl := h.lt
  obtain ⟨q0, q1⟩ := h
  exact ⟨by rw [hb.cell (by exact hl)]; exact q0, by rw [hb.cell (by exact hl)]; exact q1⟩
theorem tailFD_enters (bm : Nat) : ∀ i (h : i < (tailFDs bm).length), Enters Tryz.prog (tailFDs bm)[i].gf := by
  intro i hi
  match i, hi with
  | 0, _ => exact enters_of Tryz.func123 (by kernel_rfl) rfl
  | 1, _ => exact enters_of Tryz.func125 (by kernel_rfl) rfl
theorem tailFD_senters (bm : Nat) : ∀ i (h : i < (tailFDs bm).length), Enters Tryz.prog (tailFDs bm)[i].sf := by
  intro i hi
  match i, hi with
  | 0, _ => exact enters_of Tryz.func124 (by kernel_rfl) rfl
  | 1, _ => exact enters_of Tryz.func126 (by kernel_rfl) rfl
theorem tailFD_reads (bm : Nat) : ∀ i (h : i < (tailFDs bm).length), ReadsAs (tailFDs bm)[i].sh := by
  intro i hi
  match i, hi with
  | 0, _ => exact reads_num
  | 1, _ => exact reads_sum
theorem tailFD_small (bm : Nat) : ∀ i (h : i < (tailFDs bm).length), (tailFDs bm)[i].wd.size ≤ 1000 ∧ (tailFDs bm)[i].en.size ≤ 1000 := by
  intro i hi
  match i, hi with
  | 0, _ => exact ⟨Nat.le_of_ble_eq_true rfl, Nat.le_of_ble_eq_true rfl⟩
  | 1, _ => exact ⟨Nat.le_of_ble_eq_true rfl, Nat.le_of_ble_eq_true rfl⟩
theorem tailFD_gets (rb : Nat) (bm : Nat) (x : TV) (w : World) (h1 : w.cell? ⟨bm, 0, none⟩ = some (.pointer (some ⟨rb, 0, none⟩))) (h2 : TailAt w rb x) : ∀ i (h : i < (tailFDs bm).length), GetsAt w (tailFDs bm)[i] (tailN x i) (tailT x i) := by
  intro i hi w' hw
  have z := hw.size
  have hr := h2.lt
  obtain ⟨q0, q1⟩ := h2
  have lm : bm < w.heap.size := lt_of_cell? h1
  have hb : w'.cell? ⟨bm, 0, none⟩ = some (.pointer (some ⟨rb, 0, none⟩)) := by rw [hw.cell (by exact lm)]; exact h1
  match i, hi with
  | 0, _ => exact get_tailTable_0 bm rb _ w' (by omega) (by omega) hb (by rw [hw.cell (by exact hr)]; exact q0)
  | 1, _ => exact get_tailTable_1 bm rb _ w' (by omega) (by omega) hb (by rw [hw.cell (by exact hr)]; exact q1)
theorem tailFD_allows (bm : Nat) (x : TV) : ∀ i (h : i < (tailFDs bm).length), AllowsIs (tailFDs bm)[i] (tailN x i) (tailT x i) (tailOkI x i) := by
  intro i hi w'
  match i, hi with
  | 0, _ => exact allows_num 0 (.inl rfl) _ 0 9007199254740992 _ w'
  | 1, _ => exact allows_num 1 (.inr rfl) _ 0 4294967295 _ w'
theorem tailFD_prints (bm : Nat) (x : TV) (hok : tailOk x = true) (w : World) (hP : Pow w) : ∀ i (h : i < (tailFDs bm).length), PrintsAt w (tailFDs bm)[i] (tailN x i) (tailT x i) (tailO x i) := by
  unfold tailOk inR at hok
  simp only [Bool.and_eq_true, decide_eq_true_eq] at hok
  obtain ⟨h0, h1⟩ := hok
  intro i hi w' hw
  match i, hi with
  | 0, _ => exact print_num _ _ w' (by show _ ≤ x.1; omega) (by show x.1 ≤ _; omega) (hP.below hw)
  | 1, _ =>
    have := print_sum (x.2).toNat (by omega) ⟨#[]⟩ w'
    rw [Int.toNat_of_nonneg h1.1] at this
    exact this
theorem tailO_len (x : TV) (hok : tailOk x = true) (i : Nat) : (tailO x i).size ≤ 40 := by
  unfold tailOk inR at hok
  simp only [Bool.and_eq_true, decide_eq_true_eq] at hok
  obtain ⟨h0, h1⟩ := hok
  match i with
  | 0 => show (itS (x.1)).size ≤ 40; unfold itS; rw [strOf_size]; exact Nat.le_trans (itoa_len _ (by omega) (by omega)) (by omega)
  | _ + 1 => show (strOf (hexL (be4 (x.2).toNat))).size ≤ 40; rw [strOf_size, hexL_len]; show 2 * 4 ≤ 40; omega
theorem tailFit_any (rb : Nat) (x : TV) (w : World) (h : TailAt w rb x) :
    Calls Tryz.prog 39 #[.slice (some ⟨w.heap.size + 1, 0, none⟩) 2 2] (tailW rb w) fun e w' => e = .returned (.bool (tailOk x)) ∧ Below w.heap.size w w' := by
  have b := tailW_below rb w
  have z := tailW_size rb w
  have := fit_any (w.heap.size + 1) 2 (tailFDs w.heap.size) (tailW rb w) (tailN x) (tailT x) (tailOkI x) (by show 2 ≤ 1000000; omega) (tabW_tab _ _ _ _) (by omega) (tailFD_enters _) (tailFD_gets rb w.heap.size x (tailW rb w) (tabW_box _ _ _ _) (h.below b)) (tailFD_allows _ x)
  refine this.mono fun e w' ⟨e1, b1⟩ => ⟨?_, b.trans (b1.mono b.size)⟩
  rw [e1]
  exact congrArg (fun x => Ending.returned (.bool x)) (tailOk_all x)
theorem tailWritten_any (rb : Nat) (x : TV) (w : World) (h : TailAt w rb x) (hok : tailOk x = true) (hP : Pow w) :
    Calls Tryz.prog 41 #[.slice (some ⟨w.heap.size + 1, 0, none⟩) 2 2] (tailW rb w) fun e w' => e = .returned (.string (strOf (tailL x))) ∧ Below w.heap.size w w' := by
  have b := tailW_below rb w
  have z := tailW_size rb w
  have := written_any (w.heap.size + 1) 2 (tailFDs w.heap.size) (tailW rb w) (tailN x) (tailT x) (tailO x) 40 (by omega) (by show 2 ≤ 64; omega) (tabW_tab _ _ _ _) (by omega) (tailFD_enters _) (tailFD_gets rb w.heap.size x (tailW rb w) (tabW_box _ _ _ _) (h.below b)) (tailFD_prints _ x hok (tailW rb w) (hP.below b)) (tailFD_small _) (tailO_len x hok)
  exact this.mono fun e w' ⟨e1, b1⟩ => ⟨e1, b.trans (b1.mono b.size)⟩
end Go.Proofs.YtfpalfpfijcpbaaGreatDoor
