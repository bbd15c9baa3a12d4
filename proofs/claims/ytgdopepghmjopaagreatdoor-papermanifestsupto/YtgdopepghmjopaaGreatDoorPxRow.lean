import Derived.Test.YtgdopepghmjopaaGreatDoorGPaReads
import Derived.Test.YtgdopepghmjopaaGreatDoorGPjSpoil
namespace Go.Proofs.YtgdopepghmjopaaGreatDoor
open Go.RowKit Go.Shelf
set_option maxHeartbeats 1000000 in
set_option maxRecDepth 100000 in
theorem get_rowTable_0 (bx rb : Nat) (n : ByteArray) (w : World) (hx : bx < w.heap.size) (hr : rb < w.heap.size) (h1 : w.cell? ⟨bx, 0, none⟩ = some (.pointer (some ⟨rb, 0, none⟩))) (h2 : w.cell? ⟨rb, 0, none⟩ = some (.string n)) :
    Calls Tryz.prog 41 #[.pointer (some ⟨bx, 0, none⟩)] w fun e w' => e = .returned (.agg #[.int .i64 0, .string n]) ∧ Below w.heap.size w w' := by
  go_enter Tryz.func41, Tryz.ntmps41
  go_wp2
  exact bodyPost_ret (v := .agg #[.int .i64 0, .string n]) (by simp [results, Tryz.results41, go_sem]) rfl ⟨rfl, (Below.refl _ _).alloc (Nat.le_refl _) _⟩
set_option maxHeartbeats 1000000 in
set_option maxRecDepth 100000 in
theorem set_rowTable_0 (bx rb : Nat) (n : ByteArray) (m : Int) (t : ByteArray) (w : World) (hx : bx < w.heap.size) (hr : rb < w.heap.size) (h1 : w.cell? ⟨bx, 0, none⟩ = some (.pointer (some ⟨rb, 0, none⟩))) (h2 : w.cell? ⟨rb, 0, none⟩ = some (.string n)) (h3 : w.frozen? ⟨rb, 0, none⟩ = false) :
    Calls Tryz.prog 42 #[.agg #[.int .i64 m, .string t], .pointer (some ⟨bx, 0, none⟩)] w fun e w' => e = .returned (.tuple #[]) ∧ w' = (w.setCell ⟨rb, 0, none⟩ (.string t)).alloc (.cells #[.int .i64 m, .string t] 76) := by
  go_enter Tryz.func42, Tryz.ntmps42
  go_wp2
  go_end0
  exact ⟨rfl, rfl⟩
set_option maxHeartbeats 1000000 in
set_option maxRecDepth 100000 in
theorem get_rowTable_1 (bx rb : Nat) (n : Int) (w : World) (hx : bx < w.heap.size) (hr : rb < w.heap.size) (h1 : w.cell? ⟨bx, 0, none⟩ = some (.pointer (some ⟨rb, 0, none⟩))) (h2 : w.cell? ⟨rb, 1, none⟩ = some (.int .i64 n)) :
    Calls Tryz.prog 43 #[.pointer (some ⟨bx, 0, none⟩)] w fun e w' => e = .returned (.agg #[.int .i64 n, .string ⟨#[]⟩]) ∧ Below w.heap.size w w' := by
  go_enter Tryz.func43, Tryz.ntmps43
  go_wp2
  exact bodyPost_ret (v := .agg #[.int .i64 n, .string ⟨#[]⟩]) (by simp [results, Tryz.results43, go_sem]) rfl ⟨rfl, (Below.refl _ _).alloc (Nat.le_refl _) _⟩
set_option maxHeartbeats 1000000 in
set_option maxRecDepth 100000 in
theorem set_rowTable_1 (bx rb : Nat) (n : Int) (m : Int) (t : ByteArray) (w : World) (hx : bx < w.heap.size) (hr : rb < w.heap.size) (h1 : w.cell? ⟨bx, 0, none⟩ = some (.pointer (some ⟨rb, 0, none⟩))) (h2 : w.cell? ⟨rb, 1, none⟩ = some (.int .i64 n)) (h3 : w.frozen? ⟨rb, 1, none⟩ = false) :
    Calls Tryz.prog 44 #[.agg #[.int .i64 m, .string t], .pointer (some ⟨bx, 0, none⟩)] w fun e w' => e = .returned (.tuple #[]) ∧ w' = (w.setCell ⟨rb, 1, none⟩ (.int .i64 m)).alloc (.cells #[.int .i64 m, .string t] 76) := by
  go_enter Tryz.func44, Tryz.ntmps44
  go_wp2
  go_end0
  exact ⟨rfl, rfl⟩
set_option maxHeartbeats 1000000 in
set_option maxRecDepth 100000 in
theorem get_rowTable_2 (bx rb : Nat) (n : Int) (w : World) (hx : bx < w.heap.size) (hr : rb < w.heap.size) (h1 : w.cell? ⟨bx, 0, none⟩ = some (.pointer (some ⟨rb, 0, none⟩))) (h2 : w.cell? ⟨rb, 2, none⟩ = some (.int .i64 n)) :
    Calls Tryz.prog 45 #[.pointer (some ⟨bx, 0, none⟩)] w fun e w' => e = .returned (.agg #[.int .i64 n, .string ⟨#[]⟩]) ∧ Below w.heap.size w w' := by
  go_enter Tryz.func45, Tryz.ntmps45
  go_wp2
  exact bodyPost_ret (v := .agg #[.int .i64 n, .string ⟨#[]⟩]) (by simp [results, Tryz.results45, go_sem]) rfl ⟨rfl, (Below.refl _ _).alloc (Nat.le_refl _) _⟩
set_option maxHeartbeats 1000000 in
set_option maxRecDepth 100000 in
theorem set_rowTable_2 (bx rb : Nat) (n : Int) (m : Int) (t : ByteArray) (w : World) (hx : bx < w.heap.size) (hr : rb < w.heap.size) (h1 : w.cell? ⟨bx, 0, none⟩ = some (.pointer (some ⟨rb, 0, none⟩))) (h2 : w.cell? ⟨rb, 2, none⟩ = some (.int .i64 n)) (h3 : w.frozen? ⟨rb, 2, none⟩ = false) :
    Calls Tryz.prog 46 #[.agg #[.int .i64 m, .string t], .pointer (some ⟨bx, 0, none⟩)] w fun e w' => e = .returned (.tuple #[]) ∧ w' = (w.setCell ⟨rb, 2, none⟩ (.int .i64 m)).alloc (.cells #[.int .i64 m, .string t] 76) := by
  go_enter Tryz.func46, Tryz.ntmps46
  go_wp2
  go_end0
  exact ⟨rfl, rfl⟩
set_option maxHeartbeats 1000000 in
set_option maxRecDepth 100000 in
theorem get_rowTable_3 (bx rb : Nat) (n : ByteArray) (w : World) (hx : bx < w.heap.size) (hr : rb < w.heap.size) (h1 : w.cell? ⟨bx, 0, none⟩ = some (.pointer (some ⟨rb, 0, none⟩))) (h2 : w.cell? ⟨rb, 3, none⟩ = some (.string n)) :
    Calls Tryz.prog 47 #[.pointer (some ⟨bx, 0, none⟩)] w fun e w' => e = .returned (.agg #[.int .i64 0, .string n]) ∧ Below w.heap.size w w' := by
  go_enter Tryz.func47, Tryz.ntmps47
  go_wp2
  exact bodyPost_ret (v := .agg #[.int .i64 0, .string n]) (by simp [results, Tryz.results47, go_sem]) rfl ⟨rfl, (Below.refl _ _).alloc (Nat.le_refl _) _⟩
set_option maxHeartbeats 1000000 in
set_option maxRecDepth 100000 in
theorem set_rowTable_3 (bx rb : Nat) (n : ByteArray) (m : Int) (t : ByteArray) (w : World) (hx : bx < w.heap.size) (hr : rb < w.heap.size) (h1 : w.cell? ⟨bx, 0, none⟩ = some (.pointer (some ⟨rb, 0, none⟩))) (h2 : w.cell? ⟨rb, 3, none⟩ = some (.string n)) (h3 : w.frozen? ⟨rb, 3, none⟩ = false) :
    Calls Tryz.prog 48 #[.agg #[.int .i64 m, .string t], .pointer (some ⟨bx, 0, none⟩)] w fun e w' => e = .returned (.tuple #[]) ∧ w' = (w.setCell ⟨rb, 3, none⟩ (.string t)).alloc (.cells #[.int .i64 m, .string t] 76) := by
  go_enter Tryz.func48, Tryz.ntmps48
  go_wp2
  go_end0
  exact ⟨rfl, rfl⟩
def rowFDs (bx : Nat) : List FD := [⟨⟨#[102, 105, 108, 101, 32]⟩, 3, 1, 40, 41, 42, bxv bx, ⟨#[32]⟩⟩, ⟨⟨#[]⟩, 0, 0, 1073741824, 43, 44, bxv bx, ⟨#[32]⟩⟩, ⟨⟨#[]⟩, 1, 0, 4294967295, 45, 46, bxv bx, ⟨#[32]⟩⟩, ⟨⟨#[]⟩, 2, 16, 16, 47, 48, bxv bx, ⟨#[10]⟩⟩]
set_option maxHeartbeats 4000000 in
set_option maxRecDepth 100000 in
theorem rowTable_any (rb : Nat) (w : World) :
    Calls Tryz.prog 14 #[.pointer (some ⟨rb, 0, none⟩)] w fun e w' => e = .returned (.slice (some ⟨w.heap.size + 1, 0, none⟩) 4 4) ∧ w' = tabW 52 rb (rowFDs w.heap.size) w := by
  have hmf : ∀ (fn : Fn) (first cap : Array Value) (w : World), (Instr.makeFunc fn first cap).run Tryz.prog w = .ok (.func fn first cap) w := fun _ _ _ _ => rfl
  go_enter Tryz.func14, Tryz.ntmps14
  go_wp2_with fail
  go_ret
  exact ⟨rfl, rfl⟩
/-- a row: its name, size, CRC, MD5 -/
abbrev RV := ByteArray × Int × Int × ByteArray
def rowN (r : RV) : Nat → Int
  | 1 => r.2.1
  | 2 => r.2.2.1
  | _ => 0
def rowT (r : RV) : Nat → ByteArray
  | 0 => r.1
  | 3 => r.2.2.2
  | _ => ⟨#[]⟩
def rowOkI (r : RV) : Nat → Bool
  | 0 => nmOk r.1 1 40
  | 1 => inR r.2.1 0 1073741824
  | 2 => inR r.2.2.1 0 4294967295
  | _ => inR (r.2.2.2.size : Int) 16 16
def rowOk (r : RV) : Bool := nmOk r.1 1 40 && inR r.2.1 0 1073741824 && inR r.2.2.1 0 4294967295 && inR (r.2.2.2.size : Int) 16 16
theorem rowOk_all (r : RV) : allB 4 (rowOkI r) = rowOk r := by
  unfold allB rowOk
  simp [List.range, List.range.loop, rowOkI, Bool.and_assoc]
def rowO (r : RV) : Nat → ByteArray
  | 0 => r.1
  | 1 => itS r.2.1
  | 2 => strOf (hexL (be4 r.2.2.1.toNat))
  | _ => strOf (hexL r.2.2.2.data.toList)
/-- a row's line -/
def rowL (r : RV) : List UInt8 := wrL (rowFDs 0) (rowO r) 4
theorem rowL_wr (bx : Nat) (r : RV) : wrL (rowFDs bx) (rowO r) 4 = rowL r := rfl
def rowCells (r : RV) : Array Value := #[.string r.1, .int .i64 r.2.1, .int .i64 r.2.2.1, .string r.2.2.2]
def RowAt (w : World) (rb o : Nat) (r : RV) : Prop := w.cell? ⟨rb, o, none⟩ = some (.string r.1) ∧ w.cell? ⟨rb, o + 1, none⟩ = some (.int .i64 r.2.1) ∧ w.cell? ⟨rb, o + 2, none⟩ = some (.int .i64 r.2.2.1) ∧ w.cell? ⟨rb, o + 3, none⟩ = some (.string r.2.2.2)
theorem RowAt.lt {w : World} {rb o : Nat} {r : RV} (h : RowAt w rb o r) : rb < w.heap.size := lt_of_cell? h.1
theorem RowAt.below {w w' : World} {rb o : Nat} {r : RV} (h : RowAt w rb o r) (hb : Below w.heap.size w w') : RowAt w' rb o r := by
  have hl := h.lt
  exact ⟨by rw [hb.cell (by exact hl)]; exact h.1, by rw [hb.cell (by exact hl)]; exact h.2.1, by rw [hb.cell (by exact hl)]; exact h.2.2.1, by rw [hb.cell (by exact hl)]; exact h.2.2.2⟩
theorem RowAt.kb {w w' : World} {R rb o : Nat} {r : RV} (h : RowAt w rb o r) (hk : Kb R w w') (hn : rb ≠ R) : RowAt w' rb o r := by
  have hl := h.lt
  exact ⟨by rw [hk.cell hl hn]; exact h.1, by rw [hk.cell hl hn]; exact h.2.1, by rw [hk.cell hl hn]; exact h.2.2.1, by rw [hk.cell hl hn]; exact h.2.2.2⟩
theorem rowFD_enters (bx : Nat) : ∀ i (h : i < (rowFDs bx).length), Enters Tryz.prog (rowFDs bx)[i].gf := by
  intro i hi
  match i, hi with
  | 0, _ => exact enters_of Tryz.func41 (by kernel_rfl) rfl
  | 1, _ => exact enters_of Tryz.func43 (by kernel_rfl) rfl
  | 2, _ => exact enters_of Tryz.func45 (by kernel_rfl) rfl
  | 3, _ => exact enters_of Tryz.func47 (by kernel_rfl) rfl
theorem rowFD_senters (bx : Nat) : ∀ i (h : i < (rowFDs bx).length), Enters Tryz.prog (rowFDs bx)[i].sf := by
  intro i hi
  match i, hi with
  | 0, _ => exact enters_of Tryz.func42 (by kernel_rfl) rfl
  | 1, _ => exact enters_of Tryz.func44 (by kernel_rfl) rfl
  | 2, _ => exact enters_of Tryz.func46 (by kernel_rfl) rfl
  | 3, _ => exact enters_of Tryz.func48 (by kernel_rfl) rfl
theorem rowFD_reads (bx : Nat) : ∀ i (h : i < (rowFDs bx).length), ReadsAs (rowFDs bx)[i].sh := by
  intro i hi
  match i, hi with
  | 0, _ => exact reads_name
  | 1, _ => exact reads_num
  | 2, _ => exact reads_sum
  | 3, _ => exact reads_md5
theorem rowFD_gets (rb bx : Nat) (r : RV) (w : World) (hx : bx < w.heap.size) (h1 : w.cell? ⟨bx, 0, none⟩ = some (.pointer (some ⟨rb, 0, none⟩))) (h2 : RowAt w rb 0 r) : ∀ i (h : i < (rowFDs bx).length), GetsAt w (rowFDs bx)[i] (rowN r i) (rowT r i) := by
  intro i hi w' hw
  have z := hw.size
  have hr := h2.lt
  obtain ⟨q0, q1, q2, q3⟩ := h2
  have hb : w'.cell? ⟨bx, 0, none⟩ = some (.pointer (some ⟨rb, 0, none⟩)) := by rw [hw.cell (by exact hx)]; exact h1
  match i, hi with
  | 0, _ => exact get_rowTable_0 bx rb r.1 w' (by omega) (by omega) hb (by rw [hw.cell (by exact hr)]; exact q0)
  | 1, _ => exact get_rowTable_1 bx rb r.2.1 w' (by omega) (by omega) hb (by rw [hw.cell (by exact hr)]; exact q1)
  | 2, _ => exact get_rowTable_2 bx rb r.2.2.1 w' (by omega) (by omega) hb (by rw [hw.cell (by exact hr)]; exact q2)
  | 3, _ => exact get_rowTable_3 bx rb r.2.2.2 w' (by omega) (by omega) hb (by rw [hw.cell (by exact hr)]; exact q3)
theorem rowFD_allows (bx : Nat) (r : RV) (hn : r.1.size ≤ 9223372036854775807) : ∀ i (h : i < (rowFDs bx).length), AllowsIs (rowFDs bx)[i] (rowN r i) (rowT r i) (rowOkI r i) := by
  intro i hi w'
  match i, hi with
  | 0, _ => exact allows_name 0 1 40 r.1 w' hn
  | 1, _ => exact allows_num 0 (.inl rfl) r.2.1 0 1073741824 _ w'
  | 2, _ => exact allows_num 1 (.inr rfl) r.2.2.1 0 4294967295 _ w'
  | 3, _ => exact allows_md5 0 16 16 r.2.2.2 w'
theorem rowFD_prints (bx : Nat) (r : RV) (hok : rowOk r = true) (w : World) (hP : Pow w) : ∀ i (h : i < (rowFDs bx).length), PrintsAt w (rowFDs bx)[i] (rowN r i) (rowT r i) (rowO r i) := by
  unfold rowOk inR at hok
  simp only [Bool.and_eq_true, decide_eq_true_eq] at hok
  obtain ⟨⟨⟨_, h1⟩, h2⟩, h3⟩ := hok
  intro i hi w' hw
  match i, hi with
  | 0, _ => exact print_text 3 (.inl rfl) 0 r.1 w'
  | 1, _ => exact print_num r.2.1 _ w' (by omega) (by omega) (hP.below hw)
  | 2, _ =>
    have := print_sum r.2.2.1.toNat (by omega) ⟨#[]⟩ w'
    rw [Int.toNat_of_nonneg h2.1] at this
    exact this
  | 3, _ => exact print_md5 0 r.2.2.2 w' (by omega)
theorem rowFD_small (bx : Nat) : ∀ i (h : i < (rowFDs bx).length), (rowFDs bx)[i].wd.size ≤ 1000 ∧ (rowFDs bx)[i].en.size ≤ 1000 := by
  intro i hi
  match i, hi with
  | 0, _ => exact ⟨Nat.le_of_ble_eq_true rfl, Nat.le_of_ble_eq_true rfl⟩
  | 1, _ => exact ⟨Nat.le_of_ble_eq_true rfl, Nat.le_of_ble_eq_true rfl⟩
  | 2, _ => exact ⟨Nat.le_of_ble_eq_true rfl, Nat.le_of_ble_eq_true rfl⟩
  | 3, _ => exact ⟨Nat.le_of_ble_eq_true rfl, Nat.le_of_ble_eq_true rfl⟩
theorem rowO_len (r : RV) (hok : rowOk r = true) (i : Nat) : (rowO r i).size ≤ 40 := by
  unfold rowOk nmOk inR at hok
  simp only [Bool.and_eq_true, decide_eq_true_eq] at hok
  obtain ⟨⟨⟨h0, h1⟩, h2⟩, h3⟩ := hok
  match i with
  | 0 => show r.1.size ≤ 40; omega
  | 1 => show (itS r.2.1).size ≤ 40; unfold itS; rw [strOf_size]; exact Nat.le_trans (itoa_len _ (by omega) (by omega)) (by omega)
  | 2 => show (strOf (hexL (be4 r.2.2.1.toNat))).size ≤ 40; rw [strOf_size, hexL_len]; show 2 * 4 ≤ 40; omega
  | _ + 3 => show (strOf (hexL r.2.2.2.data.toList)).size ≤ 40; rw [strOf_size, hexL_len, size_data]; omega
/-- the row of a record that is being read -/
def rowOf (vs : List Val) : RV := (((vs[0]?.map (·.2)).getD ⟨#[]⟩), vN vs 1, vN vs 2, ((vs[3]?.map (·.2)).getD ⟨#[]⟩))
structure RowSt (w0 : World) (R rb bx tb : Nat) (vs : List Val) (w : World) : Prop where
  old : Kb R w0 w
  tab : TabAt tb w (rowFDs bx)
  tlt : tb < w.heap.size
  box : w.cell? ⟨bx, 0, none⟩ = some (.pointer (some ⟨rb, 0, none⟩))
  rcd : RowAt w rb 0 (rowOf vs)
  frz : ∀ o, o < 4 → w.frozen? ⟨rb, o, none⟩ = false
theorem RowSt.ok {w0 : World} {R rb bx tb : Nat} (h1 : R ≠ rb) (h2 : bx ≠ R) (h3 : tb ≠ R) : StW R rb (RowSt w0 R rb bx tb) :=
  ⟨fun vs w w' h k => ⟨h.old.trans k, h.tab.kb h.tlt h3 k, Nat.lt_of_lt_of_le h.tlt k.size, by rw [k.cell (lt_of_cell? h.box) h2]; exact h.box, h.rcd.kb k h1.symm, fun o ho => by rw [k.frozen h.rcd.lt h1.symm]; exact h.frz o ho⟩, fun vs w h => h.rcd.lt, h1⟩
def rowX (off : Nat) (v : Val) : Value := if off = 0 ∨ off = 3 then .string v.2 else .int .i64 v.1
theorem vT_get (vs : List Val) (v : Val) (i : Nat) : (((vs ++ [v])[i]?).map (·.2)).getD ⟨#[]⟩ = if i = vs.length then v.2 else ((vs[i]?).map (·.2)).getD ⟨#[]⟩ := by
  rcases Nat.lt_trichotomy i vs.length with h | h | h
  · rw [List.getElem?_append_left h, if_neg (by omega)]
  · rw [List.getElem?_append_right (by omega), if_pos h, h]; simp
  · rw [List.getElem?_eq_none (by simp; omega), if_neg (by omega), List.getElem?_eq_none (by omega)]
theorem rowSet {w0 w : World} {R rb bx tb : Nat} {vs : List Val} {v : Val} {off : Nat} (h : RowSt w0 R rb bx tb vs w) (hl : w0.heap.size ≤ rb) (hb : bx ≠ rb) (ht : tb ≠ rb) (ho : off = vs.length) : RowSt w0 R rb bx tb (vs ++ [v]) (setW w rb off (rowX off v) v.1 v.2) ∧ Kb rb w (setW w rb off (rowX off v) v.1 v.2) := by
  have k := setW_kb w rb off (rowX off v) v.1 v.2
  refine ⟨⟨?_, h.tab.kb h.tlt ht k, Nat.lt_of_lt_of_le h.tlt k.size, setW_other h.box (.inl hb), ?_, fun o ho => by rw [setW_frozen h.rcd.lt]; exact h.frz o ho⟩, k⟩
  · exact (h.old.late _ _ _ hl).trans (Kb.of ((Below.refl _ _).alloc (Nat.le_refl _) _))
  obtain ⟨q0, q1, q2, q3⟩ := h.rcd
  unfold rowOf
  refine ⟨?_, ?_, ?_, ?_⟩
  · show _ = some (Value.string ((((vs ++ [v])[0]?).map (·.2)).getD ⟨#[]⟩))
    rw [vT_get, ← ho]
    by_cases hi : 0 = off
    · rw [if_pos hi]; subst hi; exact setW_same q0
    · rw [if_neg hi]; exact setW_other q0 (.inr (by omega))
  · show _ = some (Value.int .i64 (vN (vs ++ [v]) 1))
    rw [vN_app, ← ho]
    by_cases hi : 1 = off
    · rw [if_pos hi]; subst hi; exact setW_same q1
    · rw [if_neg hi]; exact setW_other q1 (.inr (by omega))
  · show _ = some (Value.int .i64 (vN (vs ++ [v]) 2))
    rw [vN_app, ← ho]
    by_cases hi : 2 = off
    · rw [if_pos hi]; subst hi; exact setW_same q2
    · rw [if_neg hi]; exact setW_other q2 (.inr (by omega))
  · show _ = some (Value.string ((((vs ++ [v])[3]?).map (·.2)).getD ⟨#[]⟩))
    rw [vT_get, ← ho]
    by_cases hi : 3 = off
    · rw [if_pos hi]; subst hi; exact setW_same q3
    · rw [if_neg hi]; exact setW_other q3 (.inr (by omega))
theorem RowSt.sets {w0 : World} {R rb bx tb : Nat} (hl : w0.heap.size ≤ rb) (hb : bx ≠ rb) (ht : tb ≠ rb) : ∀ i (h : i < (rowFDs bx).length) vs, vs.length = i → SetsAs (rowFDs bx)[i] rb vs (RowSt w0 R rb bx tb) := by
  intro i hi vs hv v w hs
  have hx := lt_of_cell? hs.box
  have hr := hs.rcd.lt
  obtain ⟨q0, q1, q2, q3⟩ := hs.rcd
  match i, hi, hv with

  | 0, _, hv => exact (set_rowTable_0 bx rb _ v.1 v.2 w hx hr hs.box q0 (hs.frz 0 (by omega))).mono fun e w' ⟨e1, e2⟩ => ⟨e1, by rw [e2]; exact rowSet hs hl hb ht hv.symm⟩
  | 1, _, hv => exact (set_rowTable_1 bx rb _ v.1 v.2 w hx hr hs.box q1 (hs.frz 1 (by omega))).mono fun e w' ⟨e1, e2⟩ => ⟨e1, by rw [e2]; exact rowSet hs hl hb ht hv.symm⟩
  | 2, _, hv => exact (set_rowTable_2 bx rb _ v.1 v.2 w hx hr hs.box q2 (hs.frz 2 (by omega))).mono fun e w' ⟨e1, e2⟩ => ⟨e1, by rw [e2]; exact rowSet hs hl hb ht hv.symm⟩
  | 3, _, hv => exact (set_rowTable_3 bx rb _ v.1 v.2 w hx hr hs.box q3 (hs.frz 3 (by omega))).mono fun e w' ⟨e1, e2⟩ => ⟨e1, by rw [e2]; exact rowSet hs hl hb ht hv.symm⟩
/-- the world in which a row's table lies -/
def rowW (rb : Nat) (w : World) : World := tabW 52 rb (rowFDs w.heap.size) w
theorem rowFit_any (rb : Nat) (r : RV) (w : World) (h : RowAt w rb 0 r) (hn : r.1.size ≤ 9223372036854775807) :
    Calls Tryz.prog 26 #[.slice (some ⟨w.heap.size + 1, 0, none⟩) 4 4] (rowW rb w) fun e w' => e = .returned (.bool (rowOk r)) ∧ Below w.heap.size w w' := by
  have b := tabW_below 52 rb (rowFDs w.heap.size) w
  have z := tabW_size 52 rb (rowFDs w.heap.size) w
  have := fit_any (w.heap.size + 1) 4 (rowFDs w.heap.size) (rowW rb w) (rowN r) (rowT r) (rowOkI r) (by show 4 ≤ 1000000; omega) (tabW_tab _ _ _ _) (by show _ < (tabW _ _ _ _).heap.size; omega) (rowFD_enters _) (rowFD_gets rb w.heap.size r (rowW rb w) (by show _ < (tabW _ _ _ _).heap.size; omega) (tabW_box _ _ _ _) (h.below b)) (rowFD_allows _ r hn)
  refine this.mono fun e w' ⟨e1, b1⟩ => ⟨?_, b.trans (b1.mono b.size)⟩
  rw [e1]
  exact congrArg (fun x => Ending.returned (.bool x)) (rowOk_all r)
theorem rowWritten_any (rb : Nat) (r : RV) (w : World) (h : RowAt w rb 0 r) (hok : rowOk r = true) (hP : Pow w) :
    Calls Tryz.prog 12 #[.slice (some ⟨w.heap.size + 1, 0, none⟩) 4 4] (rowW rb w) fun e w' => e = .returned (.string (strOf (rowL r))) ∧ Below w.heap.size w w' := by
  have b := tabW_below 52 rb (rowFDs w.heap.size) w
  have z := tabW_size 52 rb (rowFDs w.heap.size) w
  have := written_any (w.heap.size + 1) 4 (rowFDs w.heap.size) (rowW rb w) (rowN r) (rowT r) (rowO r) 40 (by omega) (by show 4 ≤ 64; omega) (tabW_tab _ _ _ _) (by show _ < (tabW _ _ _ _).heap.size; omega) (rowFD_enters _) (rowFD_gets rb w.heap.size r (rowW rb w) (by show _ < (tabW _ _ _ _).heap.size; omega) (tabW_box _ _ _ _) (h.below b)) (rowFD_prints _ r hok (rowW rb w) (hP.below b)) (rowFD_small _) (rowO_len r hok)
  exact this.mono fun e w' ⟨e1, b1⟩ => ⟨e1, b.trans (b1.mono b.size)⟩
/-- a row that is read -/
def rdRow (l : List UInt8) : RV := rowOf (tabVs (rowFDs 0) l)
theorem rowRead_any (R rb : Nat) (tx : ByteArray) (a : Nat) (w0 w : World) (h : RowAt w rb 0 (⟨#[]⟩, 0, 0, ⟨#[]⟩)) (hf : ∀ o, o < 4 → w.frozen? ⟨rb, o, none⟩ = false) (hr : RdAt R tx a w) (hne : R ≠ rb) (hk : Kb R w0 w) (hl : w0.heap.size ≤ rb) (ha : a ≤ tx.size) (htx : tx.size < 9223372036854775808) :
    Calls Tryz.prog 62 #[.pointer (some ⟨R, 0, none⟩), .slice (some ⟨w.heap.size + 1, 0, none⟩) 4 4] (rowW rb w) fun e w' => e = .returned (.bool (tabOk (rowFDs 0) (tx.data.toList.drop a))) ∧ (tabOk (rowFDs 0) (tx.data.toList.drop a) = true → RowAt w' rb 0 (rdRow (tx.data.toList.drop a)) ∧ RdAt R tx (a + tabN (rowFDs 0) (tx.data.toList.drop a)) w') ∧ Kb R w0 w' ∧ ∃ a', RdAt R tx a' w' := by
  have b := tabW_below 52 rb (rowFDs w.heap.size) w
  have z := tabW_size 52 rb (rowFDs w.heap.size) w
  have hR := hr.lt
  have hrb := h.lt
  have b' : Below w.heap.size w (rowW rb w) := b
  have S0 : RowSt w0 R rb w.heap.size (w.heap.size + 1) [] (rowW rb w) := ⟨hk.trans (Kb.of b), tabW_tab _ _ _ _, by show _ < (tabW _ _ _ _).heap.size; omega, tabW_box _ _ _ _, h.below b, fun o ho => by rw [b'.frozen (by exact hrb)]; exact hf o ho⟩
  obtain ⟨g1, g2, g3⟩ := tab_sig (rowFDs w.heap.size) (rowFDs 0) (tx.data.toList.drop a) rfl
  have := read_any (rowFDs w.heap.size) (w.heap.size + 1) 4 R rb tx a (RowSt w0 R rb w.heap.size (w.heap.size + 1)) (RowSt.ok hne (by omega) (by omega)) (by show 4 ≤ 64; omega) (fun vs w h => h.tab) (RowSt.sets hl (by omega) (by omega)) (rowFD_senters _) (rowFD_reads _) (rowW rb w) S0 (hr.below b) ha htx
  rw [g1, g2, g3] at this
  exact this.mono fun e w' ⟨e1, e2, vs, a', s, r⟩ => ⟨e1, fun h => ⟨(e2 h).1.rcd, (e2 h).2⟩, s.old, a', r⟩
end Go.Proofs.YtgdopepghmjopaaGreatDoor
