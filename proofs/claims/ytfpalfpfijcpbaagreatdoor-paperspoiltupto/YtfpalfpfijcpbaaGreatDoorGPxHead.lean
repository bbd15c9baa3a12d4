import Derived.Test.YtfpalfpfijcpbaaGreatDoorGPxRead
import Derived.Test.YtfpalfpfijcpbaaGreatDoorGPaPtr
import Derived.Test.YtfpalfpfijcpbaaGreatDoorGPxShape
namespace Go.Proofs.YtfpalfpfijcpbaaGreatDoor
open Go.RowKit Go.Shelf
set_option maxHeartbeats 1000000 in
set_option maxRecDepth 100000 in
theorem get_headTable_0 (bx rb : Nat) (n : ByteArray) (w : World) (hx : bx < w.heap.size) (hr : rb < w.heap.size) (h1 : w.cell? ⟨bx, 0, none⟩ = some (.pointer (some ⟨rb, 0, none⟩))) (h2 : w.cell? ⟨rb, 0, none⟩ = some (.string n)) :
    Calls Tryz.prog 115 #[.pointer (some ⟨bx, 0, none⟩)] w fun e w' => e = .returned (.agg #[.int .i64 0, .string n]) ∧ Below w.heap.size w w' := by
  go_enter Tryz.func115, Tryz.ntmps115
  go_wp2
  exact bodyPost_ret (v := .agg #[.int .i64 0, .string n]) (by simp [results, Tryz.results115, go_sem]) rfl ⟨rfl, (Below.refl _ _).alloc (Nat.le_refl _) _⟩
set_option maxHeartbeats 1000000 in
set_option maxRecDepth 100000 in
theorem set_headTable_0 (bx rb : Nat) (n : ByteArray) (m : Int) (t : ByteArray) (w : World) (hx : bx < w.heap.size) (hr : rb < w.heap.size) (h1 : w.cell? ⟨bx, 0, none⟩ = some (.pointer (some ⟨rb, 0, none⟩))) (h2 : w.cell? ⟨rb, 0, none⟩ = some (.string n)) (h3 : w.frozen? ⟨rb, 0, none⟩ = false) :
    Calls Tryz.prog 116 #[.agg #[.int .i64 m, .string t], .pointer (some ⟨bx, 0, none⟩)] w fun e w' => e = .returned (.tuple #[]) ∧ w' = (w.setCell ⟨rb, 0, none⟩ (.string t)).alloc (.cells #[.int .i64 m, .string t] 120) := by
  go_enter Tryz.func116, Tryz.ntmps116
  go_wp2
  go_end0
  exact ⟨rfl, rfl⟩
set_option maxHeartbeats 1000000 in
set_option maxRecDepth 100000 in
theorem get_headTable_1 (bx rb : Nat) (n : Int) (w : World) (hx : bx < w.heap.size) (hr : rb < w.heap.size) (h1 : w.cell? ⟨bx, 0, none⟩ = some (.pointer (some ⟨rb, 0, none⟩))) (h2 : w.cell? ⟨rb, 1, none⟩ = some (.int .i64 n)) :
    Calls Tryz.prog 117 #[.pointer (some ⟨bx, 0, none⟩)] w fun e w' => e = .returned (.agg #[.int .i64 n, .string ⟨#[]⟩]) ∧ Below w.heap.size w w' := by
  go_enter Tryz.func117, Tryz.ntmps117
  go_wp2
  exact bodyPost_ret (v := .agg #[.int .i64 n, .string ⟨#[]⟩]) (by simp [results, Tryz.results117, go_sem]) rfl ⟨rfl, (Below.refl _ _).alloc (Nat.le_refl _) _⟩
set_option maxHeartbeats 1000000 in
set_option maxRecDepth 100000 in
theorem set_headTable_1 (bx rb : Nat) (n : Int) (m : Int) (t : ByteArray) (w : World) (hx : bx < w.heap.size) (hr : rb < w.heap.size) (h1 : w.cell? ⟨bx, 0, none⟩ = some (.pointer (some ⟨rb, 0, none⟩))) (h2 : w.cell? ⟨rb, 1, none⟩ = some (.int .i64 n)) (h3 : w.frozen? ⟨rb, 1, none⟩ = false) :
    Calls Tryz.prog 118 #[.agg #[.int .i64 m, .string t], .pointer (some ⟨bx, 0, none⟩)] w fun e w' => e = .returned (.tuple #[]) ∧ w' = (w.setCell ⟨rb, 1, none⟩ (.int .i64 m)).alloc (.cells #[.int .i64 m, .string t] 120) := by
  go_enter Tryz.func118, Tryz.ntmps118
  go_wp2
  go_end0
  exact ⟨rfl, rfl⟩
set_option maxHeartbeats 1000000 in
set_option maxRecDepth 100000 in
theorem get_headTable_2 (bx rb : Nat) (n : Int) (w : World) (hx : bx < w.heap.size) (hr : rb < w.heap.size) (h1 : w.cell? ⟨bx, 0, none⟩ = some (.pointer (some ⟨rb, 0, none⟩))) (h2 : w.cell? ⟨rb, 2, none⟩ = some (.int .i64 n)) :
    Calls Tryz.prog 119 #[.pointer (some ⟨bx, 0, none⟩)] w fun e w' => e = .returned (.agg #[.int .i64 n, .string ⟨#[]⟩]) ∧ Below w.heap.size w w' := by
  go_enter Tryz.func119, Tryz.ntmps119
  go_wp2
  exact bodyPost_ret (v := .agg #[.int .i64 n, .string ⟨#[]⟩]) (by simp [results, Tryz.results119, go_sem]) rfl ⟨rfl, (Below.refl _ _).alloc (Nat.le_refl _) _⟩
set_option maxHeartbeats 1000000 in
set_option maxRecDepth 100000 in
theorem set_headTable_2 (bx rb : Nat) (n : Int) (m : Int) (t : ByteArray) (w : World) (hx : bx < w.heap.size) (hr : rb < w.heap.size) (h1 : w.cell? ⟨bx, 0, none⟩ = some (.pointer (some ⟨rb, 0, none⟩))) (h2 : w.cell? ⟨rb, 2, none⟩ = some (.int .i64 n)) (h3 : w.frozen? ⟨rb, 2, none⟩ = false) :
    Calls Tryz.prog 120 #[.agg #[.int .i64 m, .string t], .pointer (some ⟨bx, 0, none⟩)] w fun e w' => e = .returned (.tuple #[]) ∧ w' = (w.setCell ⟨rb, 2, none⟩ (.int .i64 m)).alloc (.cells #[.int .i64 m, .string t] 120) := by
  go_enter Tryz.func120, Tryz.ntmps120
  go_wp2
  go_end0
  exact ⟨rfl, rfl⟩
set_option maxHeartbeats 1000000 in
set_option maxRecDepth 100000 in
theorem get_headTable_3 (bx rb : Nat) (n : Int) (w : World) (hx : bx < w.heap.size) (hr : rb < w.heap.size) (h1 : w.cell? ⟨bx, 0, none⟩ = some (.pointer (some ⟨rb, 0, none⟩))) (h2 : w.cell? ⟨rb, 0, none⟩ = some (.int .i64 n)) :
    Calls Tryz.prog 121 #[.pointer (some ⟨bx, 0, none⟩)] w fun e w' => e = .returned (.agg #[.int .i64 n, .string ⟨#[]⟩]) ∧ Below w.heap.size w w' := by
  go_enter Tryz.func121, Tryz.ntmps121
  go_wp2
  exact bodyPost_ret (v := .agg #[.int .i64 n, .string ⟨#[]⟩]) (by simp [results, Tryz.results121, go_sem]) rfl ⟨rfl, (Below.refl _ _).alloc (Nat.le_refl _) _⟩
set_option maxHeartbeats 1000000 in
set_option maxRecDepth 100000 in
theorem set_headTable_3 (bx rb : Nat) (n : Int) (m : Int) (t : ByteArray) (w : World) (hx : bx < w.heap.size) (hr : rb < w.heap.size) (h1 : w.cell? ⟨bx, 0, none⟩ = some (.pointer (some ⟨rb, 0, none⟩))) (h2 : w.cell? ⟨rb, 0, none⟩ = some (.int .i64 n)) (h3 : w.frozen? ⟨rb, 0, none⟩ = false) :
    Calls Tryz.prog 122 #[.agg #[.int .i64 m, .string t], .pointer (some ⟨bx, 0, none⟩)] w fun e w' => e = .returned (.tuple #[]) ∧ w' = (w.setCell ⟨rb, 0, none⟩ (.int .i64 m)).alloc (.cells #[.int .i64 m, .string t] 120) := by
  go_enter Tryz.func122, Tryz.ntmps122
  go_wp2
  go_end0
  exact ⟨rfl, rfl⟩
def headFDs (bm bc : Nat) : List FD := [⟨⟨#[115, 116, 111, 114, 101, 32]⟩, 4, 1, 40, 115, 116, bxv bm, nl⟩, ⟨⟨#[118, 101, 114, 115, 105, 111, 110, 32]⟩, 0, 1, 999999, 117, 118, bxv bm, nl⟩, ⟨⟨#[110, 111, 100, 101, 32]⟩, 0, 0, 15, 119, 120, bxv bm, nl⟩, ⟨⟨#[102, 105, 108, 101, 115, 32]⟩, 0, 0, 1025, 121, 122, bxv bc, nl⟩]
/-- the three blocks that a table's function of two parameters makes -/
def tabW2 (pt pu : TypeId) (rb cb : Nat) (ts : List FD) (w : World) : World := ((w.alloc (.cells #[.pointer (some ⟨rb, 0, none⟩)] pt)).alloc (.cells #[.pointer (some ⟨cb, 0, none⟩)] pu)).alloc (.cells (tabCells ts).toArray 124)
theorem tabW2_eq (pt pu : TypeId) (rb cb : Nat) (ts : List FD) (w : World) : tabW2 pt pu rb cb ts w = tabW pu cb ts (w.alloc (.cells #[.pointer (some ⟨rb, 0, none⟩)] pt)) := rfl
theorem tabW2_size (pt pu : TypeId) (rb cb : Nat) (ts : List FD) (w : World) : (tabW2 pt pu rb cb ts w).heap.size = w.heap.size + 3 := by rw [tabW2_eq, tabW_size]; simp
theorem tabW2_below (pt pu : TypeId) (rb cb : Nat) (ts : List FD) (w : World) : Below w.heap.size w (tabW2 pt pu rb cb ts w) := by
  rw [tabW2_eq]
  exact ((Below.refl _ w).alloc (Nat.le_refl _) _).trans ((tabW_below pu cb ts _).mono (by simp))
theorem tabW2_tab (pt pu : TypeId) (rb cb : Nat) (ts : List FD) (w : World) : TabAt (w.heap.size + 1 + 1) (tabW2 pt pu rb cb ts w) ts := by
  have := tabW_tab pu cb ts (w.alloc (.cells #[.pointer (some ⟨rb, 0, none⟩)] pt))
  rw [show (w.alloc (.cells #[.pointer (some ⟨rb, 0, none⟩)] pt)).heap.size = w.heap.size + 1 by simp] at this
  exact this
theorem tabW2_box (pt pu : TypeId) (rb cb : Nat) (ts : List FD) (w : World) : (tabW2 pt pu rb cb ts w).cell? ⟨w.heap.size, 0, none⟩ = some (.pointer (some ⟨rb, 0, none⟩)) ∧ (tabW2 pt pu rb cb ts w).cell? ⟨w.heap.size + 1, 0, none⟩ = some (.pointer (some ⟨cb, 0, none⟩)) := by
  have h1 := tabW_box pu cb ts (w.alloc (.cells #[.pointer (some ⟨rb, 0, none⟩)] pt))
  rw [show (w.alloc (.cells #[.pointer (some ⟨rb, 0, none⟩)] pt)).heap.size = w.heap.size + 1 by simp] at h1
  refine ⟨?_, h1⟩
  rw [tabW2_eq, (tabW_below pu cb ts _).cell (by simp)]
  simp
/-- the world in which the table lies -/
def headW (rb cb : Nat) (w : World) : World := tabW2 94 95 rb cb (headFDs w.heap.size (w.heap.size + 1)) w
theorem headW_size (rb cb : Nat) (w : World) : (headW rb cb w).heap.size = w.heap.size + 3 := tabW2_size _ _ _ _ _ _
theorem headW_below (rb cb : Nat) (w : World) : Below w.heap.size w (headW rb cb w) := tabW2_below _ _ _ _ _ _
set_option maxHeartbeats 4000000 in
set_option maxRecDepth 100000 in
theorem headTable_any (rb cb : Nat) (w : World) :
    Calls Tryz.prog 49 #[.pointer (some ⟨rb, 0, none⟩), .pointer (some ⟨cb, 0, none⟩)] w fun e w' => e = .returned (.slice (some ⟨w.heap.size + 1 + 1, 0, none⟩) 4 4) ∧ w' = headW rb cb w := by
  have hmf : ∀ (fn : Fn) (first cap : Array Value) (w : World), (Instr.makeFunc fn first cap).run Tryz.prog w = .ok (.func fn first cap) w := fun _ _ _ _ => rfl
  unfold headW
  go_enter Tryz.func49, Tryz.ntmps49
  go_wp2_with fail
  go_ret
  exact ⟨rfl, rfl⟩
abbrev HV := ByteArray × Int × Int × Int
def headN (x : HV) : Nat → Int
  | 1 => x.2.1
  | 2 => x.2.2.1
  | 3 => x.2.2.2
  | _ => 0
def headT (x : HV) : Nat → ByteArray
  | 0 => x.1
  | _ => ⟨#[]⟩
def headOkI (x : HV) : Nat → Bool
  | 0 => stOk (x.1) 1 40
  | 1 => inR (x.2.1) 1 999999
  | 2 => inR (x.2.2.1) 0 15
  | _ => inR (x.2.2.2) 0 1025
def headOk (x : HV) : Bool := stOk (x.1) 1 40 && inR (x.2.1) 1 999999 && inR (x.2.2.1) 0 15 && inR (x.2.2.2) 0 1025
theorem headOk_all (x : HV) : allB 4 (headOkI x) = headOk x := by
  unfold allB headOk
  simp [List.range, List.range.loop, headOkI, Bool.and_assoc]
def headO (x : HV) : Nat → ByteArray
  | 0 => x.1
  | 1 => itS (x.2.1)
  | 2 => itS (x.2.2.1)
  | _ => itS (x.2.2.2)
def headL (x : HV) : List UInt8 := wrL (headFDs 0 0) (headO x) 4
def HeadAt (w : World) (rb cb : Nat) (x : HV) : Prop := w.cell? ⟨rb, 0, none⟩ = some (.string (x.1)) ∧ w.cell? ⟨rb, 1, none⟩ = some (.int .i64 (x.2.1)) ∧ w.cell? ⟨rb, 2, none⟩ = some (.int .i64 (x.2.2.1)) ∧ w.cell? ⟨cb, 0, none⟩ = some (.int .i64 (x.2.2.2))
theorem HeadAt.lt {w : World} {rb cb : Nat} {x : HV} (h : HeadAt w rb cb x) : rb < w.heap.size ∧ cb < w.heap.size := ⟨lt_of_cell? h.1, lt_of_cell? h.2.2.2⟩
theorem HeadAt.below {w w' : World} {rb cb : Nat} {x : HV} (h : HeadAt w rb cb x) (hb : Below w.heap.size w w') : HeadAt w' rb cb x := by
  have hl := h.lt
  obtain ⟨q0, q1, q2, q3⟩ := h
  exact ⟨by rw [hb.cell (by exact hl.1)]; exact q0, by rw [hb.cell (by exact hl.1)]; exact q1, by rw [hb.cell (by exact hl.1)]; exact q2, by rw [hb.cell (by exact hl.2)]; exact q3⟩
theorem headFD_enters (bm bc : Nat) : ∀ i (h : i < (headFDs bm bc).length), Enters Tryz.prog (headFDs bm bc)[i].gf := by
  intro i hi
  match i, hi with
  | 0, _ => exact enters_of Tryz.func115 (by kernel_rfl) rfl
  | 1, _ => exact enters_of Tryz.func117 (by kernel_rfl) rfl
  | 2, _ => exact enters_of Tryz.func119 (by kernel_rfl) rfl
  | 3, _ => exact enters_of Tryz.func121 (by kernel_rfl) rfl
theorem headFD_senters (bm bc : Nat) : ∀ i (h : i < (headFDs bm bc).length), Enters Tryz.prog (headFDs bm bc)[i].sf := by
  intro i hi
  match i, hi with
  | 0, _ => exact enters_of Tryz.func116 (by kernel_rfl) rfl
  | 1, _ => exact enters_of Tryz.func118 (by kernel_rfl) rfl
  | 2, _ => exact enters_of Tryz.func120 (by kernel_rfl) rfl
  | 3, _ => exact enters_of Tryz.func122 (by kernel_rfl) rfl
theorem headFD_reads (bm bc : Nat) : ∀ i (h : i < (headFDs bm bc).length), ReadsAs (headFDs bm bc)[i].sh := by
  intro i hi
  match i, hi with
  | 0, _ => exact reads_word
  | 1, _ => exact reads_num
  | 2, _ => exact reads_num
  | 3, _ => exact reads_num
theorem headFD_small (bm bc : Nat) : ∀ i (h : i < (headFDs bm bc).length), (headFDs bm bc)[i].wd.size ≤ 1000 ∧ (headFDs bm bc)[i].en.size ≤ 1000 := by
  intro i hi
  match i, hi with
  | 0, _ => exact ⟨Nat.le_of_ble_eq_true rfl, Nat.le_of_ble_eq_true rfl⟩
  | 1, _ => exact ⟨Nat.le_of_ble_eq_true rfl, Nat.le_of_ble_eq_true rfl⟩
  | 2, _ => exact ⟨Nat.le_of_ble_eq_true rfl, Nat.le_of_ble_eq_true rfl⟩
  | 3, _ => exact ⟨Nat.le_of_ble_eq_true rfl, Nat.le_of_ble_eq_true rfl⟩
theorem headFD_gets (rb cb : Nat) (bm bc : Nat) (x : HV) (w : World) (h1 : w.cell? ⟨bm, 0, none⟩ = some (.pointer (some ⟨rb, 0, none⟩)) ∧ w.cell? ⟨bc, 0, none⟩ = some (.pointer (some ⟨cb, 0, none⟩))) (h2 : HeadAt w rb cb x) : ∀ i (h : i < (headFDs bm bc).length), GetsAt w (headFDs bm bc)[i] (headN x i) (headT x i) := by
  intro i hi w' hw
  have z := hw.size
  have hr := h2.lt
  obtain ⟨q0, q1, q2, q3⟩ := h2
  have lm : bm < w.heap.size := lt_of_cell? h1.1
  have hb : w'.cell? ⟨bm, 0, none⟩ = some (.pointer (some ⟨rb, 0, none⟩)) := by rw [hw.cell (by exact lm)]; exact h1.1
  have lc : bc < w.heap.size := lt_of_cell? h1.2
  have hc : w'.cell? ⟨bc, 0, none⟩ = some (.pointer (some ⟨cb, 0, none⟩)) := by rw [hw.cell (by exact lc)]; exact h1.2
  match i, hi with
  | 0, _ => exact get_headTable_0 bm rb _ w' (by omega) (by omega) hb (by rw [hw.cell (by exact hr.1)]; exact q0)
  | 1, _ => exact get_headTable_1 bm rb _ w' (by omega) (by omega) hb (by rw [hw.cell (by exact hr.1)]; exact q1)
  | 2, _ => exact get_headTable_2 bm rb _ w' (by omega) (by omega) hb (by rw [hw.cell (by exact hr.1)]; exact q2)
  | 3, _ => exact get_headTable_3 bc cb _ w' (by omega) (by omega) hc (by rw [hw.cell (by exact hr.2)]; exact q3)
theorem headFD_allows (bm bc : Nat) (x : HV) (hst : x.1.size ≤ 9223372036854775807) : ∀ i (h : i < (headFDs bm bc).length), AllowsIs (headFDs bm bc)[i] (headN x i) (headT x i) (headOkI x i) := by
  intro i hi w'
  match i, hi with
  | 0, _ => exact allows_store 0 1 40 (by omega) _ w' hst
  | 1, _ => exact allows_num 0 (.inl rfl) _ 1 999999 _ w'
  | 2, _ => exact allows_num 0 (.inl rfl) _ 0 15 _ w'
  | 3, _ => exact allows_num 0 (.inl rfl) _ 0 1025 _ w'
theorem headFD_prints (bm bc : Nat) (x : HV) (hok : headOk x = true) (w : World) (hP : Pow w) : ∀ i (h : i < (headFDs bm bc).length), PrintsAt w (headFDs bm bc)[i] (headN x i) (headT x i) (headO x i) := by
  unfold headOk inR at hok
  simp only [Bool.and_eq_true, decide_eq_true_eq] at hok
  obtain ⟨⟨⟨h0, h1⟩, h2⟩, h3⟩ := hok
  intro i hi w' hw
  match i, hi with
  | 0, _ => exact print_text 4 (.inr rfl) 0 _ w'
  | 1, _ => exact print_num _ _ w' (by show _ ≤ x.2.1; omega) (by show x.2.1 ≤ _; omega) (hP.below hw)
  | 2, _ => exact print_num _ _ w' (by show _ ≤ x.2.2.1; omega) (by show x.2.2.1 ≤ _; omega) (hP.below hw)
  | 3, _ => exact print_num _ _ w' (by show _ ≤ x.2.2.2; omega) (by show x.2.2.2 ≤ _; omega) (hP.below hw)
theorem headO_len (x : HV) (hok : headOk x = true) (i : Nat) : (headO x i).size ≤ 40 := by
  unfold headOk stOk inR at hok
  simp only [Bool.and_eq_true, decide_eq_true_eq] at hok
  obtain ⟨⟨⟨h0, h1⟩, h2⟩, h3⟩ := hok
  match i with
  | 0 => show (x.1).size ≤ 40; omega
  | 1 => show (itS (x.2.1)).size ≤ 40; unfold itS; rw [strOf_size]; exact Nat.le_trans (itoa_len _ (by omega) (by omega)) (by omega)
  | 2 => show (itS (x.2.2.1)).size ≤ 40; unfold itS; rw [strOf_size]; exact Nat.le_trans (itoa_len _ (by omega) (by omega)) (by omega)
  | _ + 3 => show (itS (x.2.2.2)).size ≤ 40; unfold itS; rw [strOf_size]; exact Nat.le_trans (itoa_len _ (by omega) (by omega)) (by omega)
theorem headFit_any (rb cb : Nat) (x : HV) (w : World) (h : HeadAt w rb cb x) (hst : x.1.size ≤ 9223372036854775807) :
    Calls Tryz.prog 39 #[.slice (some ⟨w.heap.size + 1 + 1, 0, none⟩) 4 4] (headW rb cb w) fun e w' => e = .returned (.bool (headOk x)) ∧ Below w.heap.size w w' := by
  have b := headW_below rb cb w
  have z := headW_size rb cb w
  have := fit_any (w.heap.size + 1 + 1) 4 (headFDs w.heap.size (w.heap.size + 1)) (headW rb cb w) (headN x) (headT x) (headOkI x) (by show 4 ≤ 1000000; omega) (tabW2_tab _ _ _ _ _ _) (by omega) (headFD_enters _ _) (headFD_gets rb cb w.heap.size (w.heap.size + 1) x (headW rb cb w) (tabW2_box _ _ _ _ _ _) (h.below b)) (headFD_allows _ _ x hst)
  refine this.mono fun e w' ⟨e1, b1⟩ => ⟨?_, b.trans (b1.mono b.size)⟩
  rw [e1]
  exact congrArg (fun x => Ending.returned (.bool x)) (headOk_all x)
theorem headWritten_any (rb cb : Nat) (x : HV) (w : World) (h : HeadAt w rb cb x) (hok : headOk x = true) (hP : Pow w) :
    Calls Tryz.prog 41 #[.slice (some ⟨w.heap.size + 1 + 1, 0, none⟩) 4 4] (headW rb cb w) fun e w' => e = .returned (.string (strOf (headL x))) ∧ Below w.heap.size w w' := by
  have b := headW_below rb cb w
  have z := headW_size rb cb w
  have := written_any (w.heap.size + 1 + 1) 4 (headFDs w.heap.size (w.heap.size + 1)) (headW rb cb w) (headN x) (headT x) (headO x) 40 (by omega) (by show 4 ≤ 64; omega) (tabW2_tab _ _ _ _ _ _) (by omega) (headFD_enters _ _) (headFD_gets rb cb w.heap.size (w.heap.size + 1) x (headW rb cb w) (tabW2_box _ _ _ _ _ _) (h.below b)) (headFD_prints _ _ x hok (headW rb cb w) (hP.below b)) (headFD_small _ _) (headO_len x hok)
  exact this.mono fun e w' ⟨e1, b1⟩ => ⟨e1, b.trans (b1.mono b.size)⟩
end Go.Proofs.YtfpalfpfijcpbaaGreatDoor
namespace Go.Proofs.YtfpalfpfijcpbaaGreatDoor
open Go.RowKit Go.Shelf
theorem KbX.trans {X : Nat → Prop} {a b c : World} (h : KbX X a b) (k : KbX X b c) : KbX X a c := ⟨k.os.trans h.os, k.tape.trans h.tape, k.output.trans h.output, Nat.le_trans h.size k.size, fun i hi hn => (k.block i (Nat.lt_of_lt_of_le hi h.size) hn).trans (h.block i hi hn)⟩
theorem vT_get2 (vs : List Val) (v : Val) (i : Nat) : (((vs ++ [v])[i]?).map (·.2)).getD ⟨#[]⟩ = if i = vs.length then v.2 else ((vs[i]?).map (·.2)).getD ⟨#[]⟩ := by
  rcases Nat.lt_trichotomy i vs.length with h | h | h
  · rw [List.getElem?_append_left h, if_neg (by omega)]
  · rw [List.getElem?_append_right (by omega), if_pos h, h]; simp
  · rw [List.getElem?_eq_none (by simp; omega), if_neg (by omega), List.getElem?_eq_none (by omega)]
def headOf (vs : List Val) : HV := (((vs[0]?.map (·.2)).getD ⟨#[]⟩), vN vs 1, vN vs 2, vN vs 3)
theorem setW_keep {w : World} {rb off o : Nat} {x : Value} {n : Int} {t : ByteArray} (hl : rb < w.heap.size) (h : o ≠ off) : (setW w rb off x n t).cell? ⟨rb, o, none⟩ = w.cell? ⟨rb, o, none⟩ := by
  unfold setW
  rw [((Below.refl _ (w.setCell ⟨rb, off, none⟩ x)).alloc (Nat.le_refl _) _).cell (by simpa using hl)]
  exact World.cell?_setCell_other w _ _ _ (by intro e; injection e with _ e _; exact h e.symm)
structure HeadSt (w0 : World) (R rb cb bm bc tb : Nat) (vs : List Val) (w : World) : Prop where
  old : KbX (fun x => x = R ∨ x = rb ∨ x = cb) w0 w
  tab : TabAt tb w (headFDs bm bc)
  tlt : tb < w.heap.size
  box : w.cell? ⟨bm, 0, none⟩ = some (.pointer (some ⟨rb, 0, none⟩)) ∧ w.cell? ⟨bc, 0, none⟩ = some (.pointer (some ⟨cb, 0, none⟩))
  rcd : HeadAt w rb cb (headOf vs)
  keep : ∀ o, 3 ≤ o ∧ o < 6 → w.cell? ⟨rb, o, none⟩ = w0.cell? ⟨rb, o, none⟩
  kfrz : ∀ o, w.frozen? ⟨rb, o, none⟩ = w0.frozen? ⟨rb, o, none⟩
  frz : w.frozen? ⟨rb, 0, none⟩ = false ∧ w.frozen? ⟨rb, 1, none⟩ = false ∧ w.frozen? ⟨rb, 2, none⟩ = false ∧ w.frozen? ⟨cb, 0, none⟩ = false
theorem HeadSt.ok {w0 : World} {R rb cb bm bc tb : Nat} (hr : rb ≠ R) (hc : cb ≠ R) (hm : bm ≠ R) (hb : bc ≠ R) (ht : tb ≠ R) : StWX R (fun x => x = rb ∨ x = cb) (HeadSt w0 R rb cb bm bc tb) := by
  refine ⟨fun vs w w' h k => ?_, fun vs w h x hx => ?_, fun h => h.elim (fun e => hr e.symm) (fun e => hc e.symm)⟩
  · have lr := h.rcd.lt.1
    have lc := h.rcd.lt.2
    have lm := lt_of_cell? h.box.1
    have lb := lt_of_cell? h.box.2
    obtain ⟨q0, q1, q2, q3⟩ := h.rcd
    obtain ⟨f0, f1, f2, f3⟩ := h.frz
    exact ⟨h.old.trans (KbX.of k (.inl rfl)), h.tab.kb h.tlt ht k, Nat.lt_of_lt_of_le h.tlt k.size, ⟨by rw [k.cell lm hm]; exact h.box.1, by rw [k.cell lb hb]; exact h.box.2⟩, ⟨by rw [k.cell lr hr]; exact q0, by rw [k.cell lr hr]; exact q1, by rw [k.cell lr hr]; exact q2, by rw [k.cell lc hc]; exact q3⟩, fun o ho => by rw [k.cell lr hr]; exact h.keep o ho, fun o => by rw [k.frozen lr hr]; exact h.kfrz o, ⟨by rw [k.frozen lr hr]; exact f0, by rw [k.frozen lr hr]; exact f1, by rw [k.frozen lr hr]; exact f2, by rw [k.frozen lc hc]; exact f3⟩⟩
  · rcases hx with e | e
    · rw [e]; exact h.rcd.lt.1
    · rw [e]; exact h.rcd.lt.2
theorem HeadSt.sets {w0 : World} {R rb cb bm bc tb : Nat} (hrc : rb ≠ cb) (hm : bm ≠ rb) (hmc : bm ≠ cb) (hb : bc ≠ rb) (hbc : bc ≠ cb) (htc : tb ≠ cb) (ht : tb ≠ rb) : ∀ i (h : i < (headFDs bm bc).length) vs, vs.length = i → SetsX (headFDs bm bc)[i] (fun x => x = rb ∨ x = cb) vs (HeadSt w0 R rb cb bm bc tb) := by
  intro i hi vs hv v w hs
  have lr := hs.rcd.lt.1
  have lc := hs.rcd.lt.2
  have lm := lt_of_cell? hs.box.1
  have lb := lt_of_cell? hs.box.2
  obtain ⟨q0, q1, q2, q3⟩ := hs.rcd
  obtain ⟨f0, f1, f2, f3⟩ := hs.frz
  match i, hi, hv with
  | 0, _, hv =>
    refine (set_headTable_0 bm rb _ v.1 v.2 w lm lr hs.box.1 q0 f0).mono fun e w' ⟨e1, e2⟩ => ?_
    have e3 : w' = (setW w rb 0 (.string v.2) v.1 v.2) := e2
    subst e3
    have k := setW_kb w rb 0 (.string v.2) v.1 v.2
    have hof0 : (((vs ++ [v])[0]?).map (·.2)).getD ⟨#[]⟩ = if 0 = vs.length then v.2 else ((vs[0]?).map (·.2)).getD ⟨#[]⟩ := vT_get2 vs v 0
    have hof1 : vN (vs ++ [v]) 1 = if 1 = vs.length then v.1 else vN vs 1 := vN_app vs v 1
    have hof2 : vN (vs ++ [v]) 2 = if 2 = vs.length then v.1 else vN vs 2 := vN_app vs v 2
    have hof3 : vN (vs ++ [v]) 3 = if 3 = vs.length then v.1 else vN vs 3 := vN_app vs v 3
    exact ⟨e1, ⟨hs.old.trans (KbX.of k (.inr (.inl rfl))), hs.tab.kb hs.tlt ht k, Nat.lt_of_lt_of_le hs.tlt k.size, ⟨setW_other hs.box.1 (.inl hm), setW_other hs.box.2 (.inl hb)⟩, ⟨by show _ = some (Value.string ((((vs ++ [v])[0]?).map (·.2)).getD ⟨#[]⟩)); rw [hof0, if_pos hv.symm]; exact setW_same q0, by show _ = some (Value.int .i64 (vN (vs ++ [v]) 1)); rw [hof1, if_neg (by omega)]; exact setW_other q1 (.inr (by omega)), by show _ = some (Value.int .i64 (vN (vs ++ [v]) 2)); rw [hof2, if_neg (by omega)]; exact setW_other q2 (.inr (by omega)), by show _ = some (Value.int .i64 (vN (vs ++ [v]) 3)); rw [hof3, if_neg (by omega)]; exact setW_other q3 (.inl hrc.symm)⟩, fun o ho => by rw [← hs.keep o ho]; exact setW_keep lr (by omega), fun o => by rw [setW_frozen lr]; exact hs.kfrz o, ⟨by rw [setW_frozen lr]; exact f0, by rw [setW_frozen lr]; exact f1, by rw [setW_frozen lr]; exact f2, by rw [setW_frozen lc]; exact f3⟩⟩, KbX.of k (.inl rfl)⟩
  | 1, _, hv =>
    refine (set_headTable_1 bm rb _ v.1 v.2 w lm lr hs.box.1 q1 f1).mono fun e w' ⟨e1, e2⟩ => ?_
    have e3 : w' = (setW w rb 1 (.int .i64 v.1) v.1 v.2) := e2
    subst e3
    have k := setW_kb w rb 1 (.int .i64 v.1) v.1 v.2
    have hof0 : (((vs ++ [v])[0]?).map (·.2)).getD ⟨#[]⟩ = if 0 = vs.length then v.2 else ((vs[0]?).map (·.2)).getD ⟨#[]⟩ := vT_get2 vs v 0
    have hof1 : vN (vs ++ [v]) 1 = if 1 = vs.length then v.1 else vN vs 1 := vN_app vs v 1
    have hof2 : vN (vs ++ [v]) 2 = if 2 = vs.length then v.1 else vN vs 2 := vN_app vs v 2
    have hof3 : vN (vs ++ [v]) 3 = if 3 = vs.length then v.1 else vN vs 3 := vN_app vs v 3
    exact ⟨e1, ⟨hs.old.trans (KbX.of k (.inr (.inl rfl))), hs.tab.kb hs.tlt ht k, Nat.lt_of_lt_of_le hs.tlt k.size, ⟨setW_other hs.box.1 (.inl hm), setW_other hs.box.2 (.inl hb)⟩, ⟨by show _ = some (Value.string ((((vs ++ [v])[0]?).map (·.2)).getD ⟨#[]⟩)); rw [hof0, if_neg (by omega)]; exact setW_other q0 (.inr (by omega)), by show _ = some (Value.int .i64 (vN (vs ++ [v]) 1)); rw [hof1, if_pos hv.symm]; exact setW_same q1, by show _ = some (Value.int .i64 (vN (vs ++ [v]) 2)); rw [hof2, if_neg (by omega)]; exact setW_other q2 (.inr (by omega)), by show _ = some (Value.int .i64 (vN (vs ++ [v]) 3)); rw [hof3, if_neg (by omega)]; exact setW_other q3 (.inl hrc.symm)⟩, fun o ho => by rw [← hs.keep o ho]; exact setW_keep lr (by omega), fun o => by rw [setW_frozen lr]; exact hs.kfrz o, ⟨by rw [setW_frozen lr]; exact f0, by rw [setW_frozen lr]; exact f1, by rw [setW_frozen lr]; exact f2, by rw [setW_frozen lc]; exact f3⟩⟩, KbX.of k (.inl rfl)⟩
  | 2, _, hv =>
    refine (set_headTable_2 bm rb _ v.1 v.2 w lm lr hs.box.1 q2 f2).mono fun e w' ⟨e1, e2⟩ => ?_
    have e3 : w' = (setW w rb 2 (.int .i64 v.1) v.1 v.2) := e2
    subst e3
    have k := setW_kb w rb 2 (.int .i64 v.1) v.1 v.2
    have hof0 : (((vs ++ [v])[0]?).map (·.2)).getD ⟨#[]⟩ = if 0 = vs.length then v.2 else ((vs[0]?).map (·.2)).getD ⟨#[]⟩ := vT_get2 vs v 0
    have hof1 : vN (vs ++ [v]) 1 = if 1 = vs.length then v.1 else vN vs 1 := vN_app vs v 1
    have hof2 : vN (vs ++ [v]) 2 = if 2 = vs.length then v.1 else vN vs 2 := vN_app vs v 2
    have hof3 : vN (vs ++ [v]) 3 = if 3 = vs.length then v.1 else vN vs 3 := vN_app vs v 3
    exact ⟨e1, ⟨hs.old.trans (KbX.of k (.inr (.inl rfl))), hs.tab.kb hs.tlt ht k, Nat.lt_of_lt_of_le hs.tlt k.size, ⟨setW_other hs.box.1 (.inl hm), setW_other hs.box.2 (.inl hb)⟩, ⟨by show _ = some (Value.string ((((vs ++ [v])[0]?).map (·.2)).getD ⟨#[]⟩)); rw [hof0, if_neg (by omega)]; exact setW_other q0 (.inr (by omega)), by show _ = some (Value.int .i64 (vN (vs ++ [v]) 1)); rw [hof1, if_neg (by omega)]; exact setW_other q1 (.inr (by omega)), by show _ = some (Value.int .i64 (vN (vs ++ [v]) 2)); rw [hof2, if_pos hv.symm]; exact setW_same q2, by show _ = some (Value.int .i64 (vN (vs ++ [v]) 3)); rw [hof3, if_neg (by omega)]; exact setW_other q3 (.inl hrc.symm)⟩, fun o ho => by rw [← hs.keep o ho]; exact setW_keep lr (by omega), fun o => by rw [setW_frozen lr]; exact hs.kfrz o, ⟨by rw [setW_frozen lr]; exact f0, by rw [setW_frozen lr]; exact f1, by rw [setW_frozen lr]; exact f2, by rw [setW_frozen lc]; exact f3⟩⟩, KbX.of k (.inl rfl)⟩
  | 3, _, hv =>
    refine (set_headTable_3 bc cb _ v.1 v.2 w lb lc hs.box.2 q3 f3).mono fun e w' ⟨e1, e2⟩ => ?_
    have e3 : w' = (setW w cb 0 (.int .i64 v.1) v.1 v.2) := e2
    subst e3
    have k := setW_kb w cb 0 (.int .i64 v.1) v.1 v.2
    have hof0 : (((vs ++ [v])[0]?).map (·.2)).getD ⟨#[]⟩ = if 0 = vs.length then v.2 else ((vs[0]?).map (·.2)).getD ⟨#[]⟩ := vT_get2 vs v 0
    have hof1 : vN (vs ++ [v]) 1 = if 1 = vs.length then v.1 else vN vs 1 := vN_app vs v 1
    have hof2 : vN (vs ++ [v]) 2 = if 2 = vs.length then v.1 else vN vs 2 := vN_app vs v 2
    have hof3 : vN (vs ++ [v]) 3 = if 3 = vs.length then v.1 else vN vs 3 := vN_app vs v 3
    exact ⟨e1, ⟨hs.old.trans (KbX.of k (.inr (.inr rfl))), hs.tab.kb hs.tlt htc k, Nat.lt_of_lt_of_le hs.tlt k.size, ⟨setW_other hs.box.1 (.inl hmc), setW_other hs.box.2 (.inl hbc)⟩, ⟨by show _ = some (Value.string ((((vs ++ [v])[0]?).map (·.2)).getD ⟨#[]⟩)); rw [hof0, if_neg (by omega)]; exact setW_other q0 (.inl hrc), by show _ = some (Value.int .i64 (vN (vs ++ [v]) 1)); rw [hof1, if_neg (by omega)]; exact setW_other q1 (.inl hrc), by show _ = some (Value.int .i64 (vN (vs ++ [v]) 2)); rw [hof2, if_neg (by omega)]; exact setW_other q2 (.inl hrc), by show _ = some (Value.int .i64 (vN (vs ++ [v]) 3)); rw [hof3, if_pos hv.symm]; exact setW_same q3⟩, fun o ho => by rw [← hs.keep o ho]; exact (setW_kb _ _ _ _ _ _).cell lr hrc, fun o => by rw [setW_frozen lr]; exact hs.kfrz o, ⟨by rw [setW_frozen lr]; exact f0, by rw [setW_frozen lr]; exact f1, by rw [setW_frozen lr]; exact f2, by rw [setW_frozen lc]; exact f3⟩⟩, KbX.of k (.inr rfl)⟩
def rdHead (l : List UInt8) : HV := headOf (tabVs (headFDs 0 0) l)
theorem headRead_any (R rb cb : Nat) (tx : ByteArray) (a : Nat) (w : World) (h : HeadAt w rb cb (⟨#[]⟩, 0, 0, 0)) (hf : w.frozen? ⟨rb, 0, none⟩ = false ∧ w.frozen? ⟨rb, 1, none⟩ = false ∧ w.frozen? ⟨rb, 2, none⟩ = false ∧ w.frozen? ⟨cb, 0, none⟩ = false) (hr : RdAt R tx a w) (hne : rb ≠ R) (hnc : cb ≠ R) (hrc : rb ≠ cb) (ha : a ≤ tx.size) (htx : tx.size < 9223372036854775808) :
    Calls Tryz.prog 48 #[.pointer (some ⟨R, 0, none⟩), .slice (some ⟨w.heap.size + 1 + 1, 0, none⟩) 4 4] (headW rb cb w) fun e w' => e = .returned (.bool (tabOk (headFDs 0 0) (tx.data.toList.drop a))) ∧ (tabOk (headFDs 0 0) (tx.data.toList.drop a) = true → HeadAt w' rb cb (rdHead (tx.data.toList.drop a)) ∧ RdAt R tx (a + tabN (headFDs 0 0) (tx.data.toList.drop a)) w') ∧ KbX (fun x => x = R ∨ x = rb ∨ x = cb) w w' ∧ (∀ o, 3 ≤ o ∧ o < 6 → w'.cell? ⟨rb, o, none⟩ = w.cell? ⟨rb, o, none⟩) ∧ (∀ o, w'.frozen? ⟨rb, o, none⟩ = w.frozen? ⟨rb, o, none⟩) ∧ ∃ a', RdAt R tx a' w' := by
  have b := headW_below rb cb w
  have z := headW_size rb cb w
  have hR := hr.lt
  have lr := h.lt.1
  have lc := h.lt.2
  have S0 : HeadSt w R rb cb w.heap.size (w.heap.size + 1) (w.heap.size + 1 + 1) [] (headW rb cb w) := by
    obtain ⟨f0, f1, f2, f3⟩ := hf
    exact ⟨KbX.of (Kb.of (R := R) b) (.inl rfl), tabW2_tab _ _ _ _ _ _, by omega, tabW2_box _ _ _ _ _ _, h.below b, fun o ho => b.cell (by exact lr), fun o => b.frozen (by exact lr), ⟨by rw [b.frozen (by exact lr)]; exact f0, by rw [b.frozen (by exact lr)]; exact f1, by rw [b.frozen (by exact lr)]; exact f2, by rw [b.frozen (by exact lc)]; exact f3⟩⟩
  obtain ⟨g1, g2, g3⟩ := tab_sig (headFDs w.heap.size (w.heap.size + 1)) (headFDs 0 0) (tx.data.toList.drop a) rfl
  have := readX_any (headFDs w.heap.size (w.heap.size + 1)) (w.heap.size + 1 + 1) 4 R (fun x => x = rb ∨ x = cb) tx a (HeadSt w R rb cb w.heap.size (w.heap.size + 1) (w.heap.size + 1 + 1)) (HeadSt.ok hne hnc (by omega) (by omega) (by omega)) (by show 4 ≤ 64; omega) (fun vs w h => h.tab) (HeadSt.sets hrc (by omega) (by omega) (by omega) (by omega) (by omega) (by omega)) (headFD_senters _ _) (headFD_reads _ _) (headW rb cb w) S0 (hr.below b) ha htx
  rw [g1, g2, g3] at this
  exact this.mono fun e w' ⟨e1, e2, vs, a', s, r⟩ => ⟨e1, fun h => ⟨(e2 h).1.rcd, (e2 h).2⟩, s.old, s.keep, s.kfrz, a', r⟩
end Go.Proofs.YtfpalfpfijcpbaaGreatDoor
