import Derived.Test.YtfpalfpfijcpbaaGreatDoorGPaWrit
import Derived.Test.YtfpalfpfijcpbaaGreatDoorGPaPtr
namespace Go.Proofs.YtfpalfpfijcpbaaGreatDoor
open Go.RowKit Go.Shelf
set_option maxHeartbeats 1000000 in
set_option maxRecDepth 100000 in
theorem get_metaTable_0 (bx rb : Nat) (n : ByteArray) (w : World) (hx : bx < w.heap.size) (hr : rb < w.heap.size) (h1 : w.cell? ⟨bx, 0, none⟩ = some (.pointer (some ⟨rb, 0, none⟩))) (h2 : w.cell? ⟨rb, 0, none⟩ = some (.string n)) :
    Calls Tryz.prog 63 #[.pointer (some ⟨bx, 0, none⟩)] w fun e w' => e = .returned (.agg #[.int .i64 0, .string n]) ∧ Below w.heap.size w w' := by
  go_enter Tryz.func63, Tryz.ntmps63
  go_wp2
  exact bodyPost_ret (v := .agg #[.int .i64 0, .string n]) (by simp [results, Tryz.results63, go_sem]) rfl ⟨rfl, (Below.refl _ _).alloc (Nat.le_refl _) _⟩
set_option maxHeartbeats 1000000 in
set_option maxRecDepth 100000 in
theorem set_metaTable_0 (bx rb : Nat) (n : ByteArray) (m : Int) (t : ByteArray) (w : World) (hx : bx < w.heap.size) (hr : rb < w.heap.size) (h1 : w.cell? ⟨bx, 0, none⟩ = some (.pointer (some ⟨rb, 0, none⟩))) (h2 : w.cell? ⟨rb, 0, none⟩ = some (.string n)) (h3 : w.frozen? ⟨rb, 0, none⟩ = false) :
    Calls Tryz.prog 64 #[.agg #[.int .i64 m, .string t], .pointer (some ⟨bx, 0, none⟩)] w fun e w' => e = .returned (.tuple #[]) ∧ w' = (w.setCell ⟨rb, 0, none⟩ (.string t)).alloc (.cells #[.int .i64 m, .string t] 120) := by
  go_enter Tryz.func64, Tryz.ntmps64
  go_wp2
  go_end0
  exact ⟨rfl, rfl⟩
set_option maxHeartbeats 1000000 in
set_option maxRecDepth 100000 in
theorem get_metaTable_1 (bx rb : Nat) (n : Int) (w : World) (hx : bx < w.heap.size) (hr : rb < w.heap.size) (h1 : w.cell? ⟨bx, 0, none⟩ = some (.pointer (some ⟨rb, 0, none⟩))) (h2 : w.cell? ⟨rb, 1, none⟩ = some (.int .i64 n)) :
    Calls Tryz.prog 65 #[.pointer (some ⟨bx, 0, none⟩)] w fun e w' => e = .returned (.agg #[.int .i64 n, .string ⟨#[]⟩]) ∧ Below w.heap.size w w' := by
  go_enter Tryz.func65, Tryz.ntmps65
  go_wp2
  exact bodyPost_ret (v := .agg #[.int .i64 n, .string ⟨#[]⟩]) (by simp [results, Tryz.results65, go_sem]) rfl ⟨rfl, (Below.refl _ _).alloc (Nat.le_refl _) _⟩
set_option maxHeartbeats 1000000 in
set_option maxRecDepth 100000 in
theorem set_metaTable_1 (bx rb : Nat) (n : Int) (m : Int) (t : ByteArray) (w : World) (hx : bx < w.heap.size) (hr : rb < w.heap.size) (h1 : w.cell? ⟨bx, 0, none⟩ = some (.pointer (some ⟨rb, 0, none⟩))) (h2 : w.cell? ⟨rb, 1, none⟩ = some (.int .i64 n)) (h3 : w.frozen? ⟨rb, 1, none⟩ = false) :
    Calls Tryz.prog 66 #[.agg #[.int .i64 m, .string t], .pointer (some ⟨bx, 0, none⟩)] w fun e w' => e = .returned (.tuple #[]) ∧ w' = (w.setCell ⟨rb, 1, none⟩ (.int .i64 m)).alloc (.cells #[.int .i64 m, .string t] 120) := by
  go_enter Tryz.func66, Tryz.ntmps66
  go_wp2
  go_end0
  exact ⟨rfl, rfl⟩
set_option maxHeartbeats 1000000 in
set_option maxRecDepth 100000 in
theorem get_metaTable_2 (bx rb : Nat) (n : Int) (w : World) (hx : bx < w.heap.size) (hr : rb < w.heap.size) (h1 : w.cell? ⟨bx, 0, none⟩ = some (.pointer (some ⟨rb, 0, none⟩))) (h2 : w.cell? ⟨rb, 2, none⟩ = some (.int .i64 n)) :
    Calls Tryz.prog 67 #[.pointer (some ⟨bx, 0, none⟩)] w fun e w' => e = .returned (.agg #[.int .i64 n, .string ⟨#[]⟩]) ∧ Below w.heap.size w w' := by
  go_enter Tryz.func67, Tryz.ntmps67
  go_wp2
  exact bodyPost_ret (v := .agg #[.int .i64 n, .string ⟨#[]⟩]) (by simp [results, Tryz.results67, go_sem]) rfl ⟨rfl, (Below.refl _ _).alloc (Nat.le_refl _) _⟩
set_option maxHeartbeats 1000000 in
set_option maxRecDepth 100000 in
theorem set_metaTable_2 (bx rb : Nat) (n : Int) (m : Int) (t : ByteArray) (w : World) (hx : bx < w.heap.size) (hr : rb < w.heap.size) (h1 : w.cell? ⟨bx, 0, none⟩ = some (.pointer (some ⟨rb, 0, none⟩))) (h2 : w.cell? ⟨rb, 2, none⟩ = some (.int .i64 n)) (h3 : w.frozen? ⟨rb, 2, none⟩ = false) :
    Calls Tryz.prog 68 #[.agg #[.int .i64 m, .string t], .pointer (some ⟨bx, 0, none⟩)] w fun e w' => e = .returned (.tuple #[]) ∧ w' = (w.setCell ⟨rb, 2, none⟩ (.int .i64 m)).alloc (.cells #[.int .i64 m, .string t] 120) := by
  go_enter Tryz.func68, Tryz.ntmps68
  go_wp2
  go_end0
  exact ⟨rfl, rfl⟩
set_option maxHeartbeats 1000000 in
set_option maxRecDepth 100000 in
theorem get_metaTable_3 (bx rb : Nat) (n : Int) (w : World) (hx : bx < w.heap.size) (hr : rb < w.heap.size) (h1 : w.cell? ⟨bx, 0, none⟩ = some (.pointer (some ⟨rb, 0, none⟩))) (h2 : w.cell? ⟨rb, 3, none⟩ = some (.int .i64 n)) :
    Calls Tryz.prog 69 #[.pointer (some ⟨bx, 0, none⟩)] w fun e w' => e = .returned (.agg #[.int .i64 n, .string ⟨#[]⟩]) ∧ Below w.heap.size w w' := by
  go_enter Tryz.func69, Tryz.ntmps69
  go_wp2
  exact bodyPost_ret (v := .agg #[.int .i64 n, .string ⟨#[]⟩]) (by simp [results, Tryz.results69, go_sem]) rfl ⟨rfl, (Below.refl _ _).alloc (Nat.le_refl _) _⟩
set_option maxHeartbeats 1000000 in
set_option maxRecDepth 100000 in
theorem set_metaTable_3 (bx rb : Nat) (n : Int) (m : Int) (t : ByteArray) (w : World) (hx : bx < w.heap.size) (hr : rb < w.heap.size) (h1 : w.cell? ⟨bx, 0, none⟩ = some (.pointer (some ⟨rb, 0, none⟩))) (h2 : w.cell? ⟨rb, 3, none⟩ = some (.int .i64 n)) (h3 : w.frozen? ⟨rb, 3, none⟩ = false) :
    Calls Tryz.prog 70 #[.agg #[.int .i64 m, .string t], .pointer (some ⟨bx, 0, none⟩)] w fun e w' => e = .returned (.tuple #[]) ∧ w' = (w.setCell ⟨rb, 3, none⟩ (.int .i64 m)).alloc (.cells #[.int .i64 m, .string t] 120) := by
  go_enter Tryz.func70, Tryz.ntmps70
  go_wp2
  go_end0
  exact ⟨rfl, rfl⟩
set_option maxHeartbeats 1000000 in
set_option maxRecDepth 100000 in
theorem get_metaTable_4 (bx rb : Nat) (n : Int) (w : World) (hx : bx < w.heap.size) (hr : rb < w.heap.size) (h1 : w.cell? ⟨bx, 0, none⟩ = some (.pointer (some ⟨rb, 0, none⟩))) (h2 : w.cell? ⟨rb, 4, none⟩ = some (.int .i64 n)) :
    Calls Tryz.prog 71 #[.pointer (some ⟨bx, 0, none⟩)] w fun e w' => e = .returned (.agg #[.int .i64 n, .string ⟨#[]⟩]) ∧ Below w.heap.size w w' := by
  go_enter Tryz.func71, Tryz.ntmps71
  go_wp2
  exact bodyPost_ret (v := .agg #[.int .i64 n, .string ⟨#[]⟩]) (by simp [results, Tryz.results71, go_sem]) rfl ⟨rfl, (Below.refl _ _).alloc (Nat.le_refl _) _⟩
set_option maxHeartbeats 1000000 in
set_option maxRecDepth 100000 in
theorem set_metaTable_4 (bx rb : Nat) (n : Int) (m : Int) (t : ByteArray) (w : World) (hx : bx < w.heap.size) (hr : rb < w.heap.size) (h1 : w.cell? ⟨bx, 0, none⟩ = some (.pointer (some ⟨rb, 0, none⟩))) (h2 : w.cell? ⟨rb, 4, none⟩ = some (.int .i64 n)) (h3 : w.frozen? ⟨rb, 4, none⟩ = false) :
    Calls Tryz.prog 72 #[.agg #[.int .i64 m, .string t], .pointer (some ⟨bx, 0, none⟩)] w fun e w' => e = .returned (.tuple #[]) ∧ w' = (w.setCell ⟨rb, 4, none⟩ (.int .i64 m)).alloc (.cells #[.int .i64 m, .string t] 120) := by
  go_enter Tryz.func72, Tryz.ntmps72
  go_wp2
  go_end0
  exact ⟨rfl, rfl⟩
set_option maxHeartbeats 1000000 in
set_option maxRecDepth 100000 in
theorem get_metaTable_5 (bx rb : Nat) (n : Int) (w : World) (hx : bx < w.heap.size) (hr : rb < w.heap.size) (h1 : w.cell? ⟨bx, 0, none⟩ = some (.pointer (some ⟨rb, 0, none⟩))) (h2 : w.cell? ⟨rb, 5, none⟩ = some (.int .i64 n)) :
    Calls Tryz.prog 73 #[.pointer (some ⟨bx, 0, none⟩)] w fun e w' => e = .returned (.agg #[.int .i64 n, .string ⟨#[]⟩]) ∧ Below w.heap.size w w' := by
  go_enter Tryz.func73, Tryz.ntmps73
  go_wp2
  exact bodyPost_ret (v := .agg #[.int .i64 n, .string ⟨#[]⟩]) (by simp [results, Tryz.results73, go_sem]) rfl ⟨rfl, (Below.refl _ _).alloc (Nat.le_refl _) _⟩
set_option maxHeartbeats 1000000 in
set_option maxRecDepth 100000 in
theorem set_metaTable_5 (bx rb : Nat) (n : Int) (m : Int) (t : ByteArray) (w : World) (hx : bx < w.heap.size) (hr : rb < w.heap.size) (h1 : w.cell? ⟨bx, 0, none⟩ = some (.pointer (some ⟨rb, 0, none⟩))) (h2 : w.cell? ⟨rb, 5, none⟩ = some (.int .i64 n)) (h3 : w.frozen? ⟨rb, 5, none⟩ = false) :
    Calls Tryz.prog 74 #[.agg #[.int .i64 m, .string t], .pointer (some ⟨bx, 0, none⟩)] w fun e w' => e = .returned (.tuple #[]) ∧ w' = (w.setCell ⟨rb, 5, none⟩ (.int .i64 m)).alloc (.cells #[.int .i64 m, .string t] 120) := by
  go_enter Tryz.func74, Tryz.ntmps74
  go_wp2
  go_end0
  exact ⟨rfl, rfl⟩
set_option maxHeartbeats 1000000 in
set_option maxRecDepth 100000 in
theorem get_metaTable_6 (bx rb : Nat) (n : Int) (w : World) (hx : bx < w.heap.size) (hr : rb < w.heap.size) (h1 : w.cell? ⟨bx, 0, none⟩ = some (.pointer (some ⟨rb, 0, none⟩))) (h2 : w.cell? ⟨rb, 6, none⟩ = some (.int .i64 n)) :
    Calls Tryz.prog 75 #[.pointer (some ⟨bx, 0, none⟩)] w fun e w' => e = .returned (.agg #[.int .i64 n, .string ⟨#[]⟩]) ∧ Below w.heap.size w w' := by
  go_enter Tryz.func75, Tryz.ntmps75
  go_wp2
  exact bodyPost_ret (v := .agg #[.int .i64 n, .string ⟨#[]⟩]) (by simp [results, Tryz.results75, go_sem]) rfl ⟨rfl, (Below.refl _ _).alloc (Nat.le_refl _) _⟩
set_option maxHeartbeats 1000000 in
set_option maxRecDepth 100000 in
theorem set_metaTable_6 (bx rb : Nat) (n : Int) (m : Int) (t : ByteArray) (w : World) (hx : bx < w.heap.size) (hr : rb < w.heap.size) (h1 : w.cell? ⟨bx, 0, none⟩ = some (.pointer (some ⟨rb, 0, none⟩))) (h2 : w.cell? ⟨rb, 6, none⟩ = some (.int .i64 n)) (h3 : w.frozen? ⟨rb, 6, none⟩ = false) :
    Calls Tryz.prog 76 #[.agg #[.int .i64 m, .string t], .pointer (some ⟨bx, 0, none⟩)] w fun e w' => e = .returned (.tuple #[]) ∧ w' = (w.setCell ⟨rb, 6, none⟩ (.int .i64 m)).alloc (.cells #[.int .i64 m, .string t] 120) := by
  go_enter Tryz.func76, Tryz.ntmps76
  go_wp2
  go_end0
  exact ⟨rfl, rfl⟩
set_option maxHeartbeats 1000000 in
set_option maxRecDepth 100000 in
theorem get_metaTable_7 (bx rb : Nat) (n : Int) (w : World) (hx : bx < w.heap.size) (hr : rb < w.heap.size) (h1 : w.cell? ⟨bx, 0, none⟩ = some (.pointer (some ⟨rb, 0, none⟩))) (h2 : w.cell? ⟨rb, 7, none⟩ = some (.int .i64 n)) :
    Calls Tryz.prog 77 #[.pointer (some ⟨bx, 0, none⟩)] w fun e w' => e = .returned (.agg #[.int .i64 n, .string ⟨#[]⟩]) ∧ Below w.heap.size w w' := by
  go_enter Tryz.func77, Tryz.ntmps77
  go_wp2
  exact bodyPost_ret (v := .agg #[.int .i64 n, .string ⟨#[]⟩]) (by simp [results, Tryz.results77, go_sem]) rfl ⟨rfl, (Below.refl _ _).alloc (Nat.le_refl _) _⟩
set_option maxHeartbeats 1000000 in
set_option maxRecDepth 100000 in
theorem set_metaTable_7 (bx rb : Nat) (n : Int) (m : Int) (t : ByteArray) (w : World) (hx : bx < w.heap.size) (hr : rb < w.heap.size) (h1 : w.cell? ⟨bx, 0, none⟩ = some (.pointer (some ⟨rb, 0, none⟩))) (h2 : w.cell? ⟨rb, 7, none⟩ = some (.int .i64 n)) (h3 : w.frozen? ⟨rb, 7, none⟩ = false) :
    Calls Tryz.prog 78 #[.agg #[.int .i64 m, .string t], .pointer (some ⟨bx, 0, none⟩)] w fun e w' => e = .returned (.tuple #[]) ∧ w' = (w.setCell ⟨rb, 7, none⟩ (.int .i64 m)).alloc (.cells #[.int .i64 m, .string t] 120) := by
  go_enter Tryz.func78, Tryz.ntmps78
  go_wp2
  go_end0
  exact ⟨rfl, rfl⟩
end Go.Proofs.YtfpalfpfijcpbaaGreatDoor
namespace Go.Proofs.YtfpalfpfijcpbaaGreatDoor
open Go.RowKit Go.Shelf
def metaFDs (bx : Nat) : List FD := [⟨⟨#[115, 116, 111, 114, 101, 32]⟩, 4, 1, 40, 63, 64, bxv bx, nl⟩, ⟨⟨#[118, 101, 114, 115, 105, 111, 110, 32]⟩, 0, 1, 999999, 65, 66, bxv bx, nl⟩, ⟨⟨#[110, 111, 100, 101, 32]⟩, 0, 0, 15, 67, 68, bxv bx, nl⟩, ⟨⟨#[112, 97, 114, 116, 115, 32]⟩, 0, 1, 64, 69, 70, bxv bx, nl⟩, ⟨⟨#[114, 101, 112, 108, 105, 99, 97, 115, 32]⟩, 0, 1, 16, 71, 72, bxv bx, nl⟩, ⟨⟨#[119, 105, 100, 116, 104, 32]⟩, 0, 1, 16, 73, 74, bxv bx, nl⟩, ⟨⟨#[99, 104, 117, 110, 107, 115, 32]⟩, 0, 1, 16, 75, 76, bxv bx, nl⟩, ⟨⟨#[114, 111, 119, 115, 32]⟩, 0, 0, 9007199254740992, 77, 78, bxv bx, nl⟩]
def metaCells (st : ByteArray) (n : Nat → Int) : Array Value := #[.string st, .int .i64 (n 1), .int .i64 (n 2), .int .i64 (n 3), .int .i64 (n 4), .int .i64 (n 5), .int .i64 (n 6), .int .i64 (n 7)]
set_option maxHeartbeats 4000000 in
set_option maxRecDepth 100000 in
theorem metaTable_any (rb : Nat) (w : World) :
    Calls Tryz.prog 35 #[.pointer (some ⟨rb, 0, none⟩)] w fun e w' => e = .returned (.slice (some ⟨w.heap.size + 1, 0, none⟩) 8 8) ∧ w' = tabW 75 rb (metaFDs w.heap.size) w := by
  have hmf : ∀ (fn : Fn) (first cap : Array Value) (w : World), (Instr.makeFunc fn first cap).run Tryz.prog w = .ok (.func fn first cap) w := fun _ _ _ _ => rfl
  go_enter Tryz.func35, Tryz.ntmps35
  go_wp2_with fail
  go_ret
  exact ⟨rfl, rfl⟩
def metaN (n : Nat → Int) (i : Nat) : Int := if i = 0 then 0 else n i
def metaT (st : ByteArray) (i : Nat) : ByteArray := if i = 0 then st else ⟨#[]⟩
def metaLo : Nat → Int
  | 0 => 1
  | 1 => 1
  | 2 => 0
  | 3 => 1
  | 4 => 1
  | 5 => 1
  | 6 => 1
  | _ => 0
def metaHi : Nat → Int
  | 0 => 40
  | 1 => 999999
  | 2 => 15
  | 3 => 64
  | 4 => 16
  | 5 => 16
  | 6 => 16
  | _ => 9007199254740992
def metaOkI (st : ByteArray) (n : Nat → Int) (i : Nat) : Bool := if i = 0 then stOk st 1 40 else inR (n i) (metaLo i) (metaHi i)
def metaOk (st : ByteArray) (n : Nat → Int) : Bool := stOk st 1 40 && inR (n 1) 1 999999 && inR (n 2) 0 15 && inR (n 3) 1 64 && inR (n 4) 1 16 && inR (n 5) 1 16 && inR (n 6) 1 16 && inR (n 7) 0 9007199254740992
theorem metaOk_all (st : ByteArray) (n : Nat → Int) : allB 8 (metaOkI st n) = metaOk st n := by
  unfold allB metaOk
  simp [List.range, List.range.loop, metaOkI, metaLo, metaHi, Bool.and_assoc]
def metaO (st : ByteArray) (n : Nat → Int) (i : Nat) : ByteArray := if i = 0 then st else itS (n i)
/-- the rows of a meta -/
def metaL (st : ByteArray) (n : Nat → Int) : List UInt8 := wrL (metaFDs 0) (metaO st n) 8
theorem metaL_wr (bx : Nat) (st : ByteArray) (n : Nat → Int) : wrL (metaFDs bx) (metaO st n) 8 = metaL st n := rfl
theorem metaFD_enters (bx : Nat) : ∀ i (h : i < (metaFDs bx).length), Enters Tryz.prog (metaFDs bx)[i].gf := by
  intro i hi
  match i, hi with
  | 0, _ => exact enters_of Tryz.func63 (by kernel_rfl) rfl
  | 1, _ => exact enters_of Tryz.func65 (by kernel_rfl) rfl
  | 2, _ => exact enters_of Tryz.func67 (by kernel_rfl) rfl
  | 3, _ => exact enters_of Tryz.func69 (by kernel_rfl) rfl
  | 4, _ => exact enters_of Tryz.func71 (by kernel_rfl) rfl
  | 5, _ => exact enters_of Tryz.func73 (by kernel_rfl) rfl
  | 6, _ => exact enters_of Tryz.func75 (by kernel_rfl) rfl
  | 7, _ => exact enters_of Tryz.func77 (by kernel_rfl) rfl
/-- the record of a meta, in memory -/
def MetaAt (w : World) (rb : Nat) (st : ByteArray) (n : Nat → Int) : Prop := w.cell? ⟨rb, 0, none⟩ = some (.string st) ∧ ∀ i, 1 ≤ i → i < 8 → w.cell? ⟨rb, i, none⟩ = some (.int .i64 (n i))
theorem metaFD_gets (rb bx : Nat) (st : ByteArray) (n : Nat → Int) (w : World) (hx : bx < w.heap.size) (hr : rb < w.heap.size) (h1 : w.cell? ⟨bx, 0, none⟩ = some (.pointer (some ⟨rb, 0, none⟩))) (h2 : MetaAt w rb st n) : ∀ i (h : i < (metaFDs bx).length), GetsAt w (metaFDs bx)[i] (metaN n i) (metaT st i) := by
  intro i hi w' hw
  have z := hw.size
  obtain ⟨q0, q⟩ := h2
  have hb : w'.cell? ⟨bx, 0, none⟩ = some (.pointer (some ⟨rb, 0, none⟩)) := by rw [hw.cell (by exact hx)]; exact h1
  match i, hi with
  | 0, _ => exact get_metaTable_0 bx rb st w' (by omega) (by omega) hb (by rw [hw.cell (by exact hr)]; exact q0)
  | 1, _ => exact get_metaTable_1 bx rb (n 1) w' (by omega) (by omega) hb (by rw [hw.cell (by exact hr)]; exact q 1 (by omega) (by omega))
  | 2, _ => exact get_metaTable_2 bx rb (n 2) w' (by omega) (by omega) hb (by rw [hw.cell (by exact hr)]; exact q 2 (by omega) (by omega))
  | 3, _ => exact get_metaTable_3 bx rb (n 3) w' (by omega) (by omega) hb (by rw [hw.cell (by exact hr)]; exact q 3 (by omega) (by omega))
  | 4, _ => exact get_metaTable_4 bx rb (n 4) w' (by omega) (by omega) hb (by rw [hw.cell (by exact hr)]; exact q 4 (by omega) (by omega))
  | 5, _ => exact get_metaTable_5 bx rb (n 5) w' (by omega) (by omega) hb (by rw [hw.cell (by exact hr)]; exact q 5 (by omega) (by omega))
  | 6, _ => exact get_metaTable_6 bx rb (n 6) w' (by omega) (by omega) hb (by rw [hw.cell (by exact hr)]; exact q 6 (by omega) (by omega))
  | 7, _ => exact get_metaTable_7 bx rb (n 7) w' (by omega) (by omega) hb (by rw [hw.cell (by exact hr)]; exact q 7 (by omega) (by omega))
theorem metaFD_allows (bx : Nat) (st : ByteArray) (n : Nat → Int) (hst : st.size ≤ 9223372036854775807) : ∀ i (h : i < (metaFDs bx).length), AllowsIs (metaFDs bx)[i] (metaN n i) (metaT st i) (metaOkI st n i) := by
  intro i hi w'
  match i, hi with
  | 0, _ => exact allows_store 0 1 40 (by omega) st w' hst
  | 1, _ => exact allows_num 0 (.inl rfl) (n 1) 1 999999 _ w'
  | 2, _ => exact allows_num 0 (.inl rfl) (n 2) 0 15 _ w'
  | 3, _ => exact allows_num 0 (.inl rfl) (n 3) 1 64 _ w'
  | 4, _ => exact allows_num 0 (.inl rfl) (n 4) 1 16 _ w'
  | 5, _ => exact allows_num 0 (.inl rfl) (n 5) 1 16 _ w'
  | 6, _ => exact allows_num 0 (.inl rfl) (n 6) 1 16 _ w'
  | 7, _ => exact allows_num 0 (.inl rfl) (n 7) 0 9007199254740992 _ w'
theorem metaFD_prints (bx : Nat) (st : ByteArray) (n : Nat → Int) (hv : ∀ i, I64 (n i)) (w : World) (hP : Pow w) : ∀ i (h : i < (metaFDs bx).length), PrintsAt w (metaFDs bx)[i] (metaN n i) (metaT st i) (metaO st n i) := by
  intro i hi w' hw
  match i, hi with
  | 0, _ => exact print_text 4 (.inr rfl) 0 st w'
  | 1, _ => exact print_num (n 1) _ w' (hv 1).1 (hv 1).2 (hP.below hw)
  | 2, _ => exact print_num (n 2) _ w' (hv 2).1 (hv 2).2 (hP.below hw)
  | 3, _ => exact print_num (n 3) _ w' (hv 3).1 (hv 3).2 (hP.below hw)
  | 4, _ => exact print_num (n 4) _ w' (hv 4).1 (hv 4).2 (hP.below hw)
  | 5, _ => exact print_num (n 5) _ w' (hv 5).1 (hv 5).2 (hP.below hw)
  | 6, _ => exact print_num (n 6) _ w' (hv 6).1 (hv 6).2 (hP.below hw)
  | 7, _ => exact print_num (n 7) _ w' (hv 7).1 (hv 7).2 (hP.below hw)
theorem metaFD_small (bx : Nat) : ∀ i (h : i < (metaFDs bx).length), (metaFDs bx)[i].wd.size ≤ 1000 ∧ (metaFDs bx)[i].en.size ≤ 1000 := by
  intro i hi
  match i, hi with
  | 0, _ => exact ⟨Nat.le_of_ble_eq_true rfl, Nat.le_of_ble_eq_true rfl⟩
  | 1, _ => exact ⟨Nat.le_of_ble_eq_true rfl, Nat.le_of_ble_eq_true rfl⟩
  | 2, _ => exact ⟨Nat.le_of_ble_eq_true rfl, Nat.le_of_ble_eq_true rfl⟩
  | 3, _ => exact ⟨Nat.le_of_ble_eq_true rfl, Nat.le_of_ble_eq_true rfl⟩
  | 4, _ => exact ⟨Nat.le_of_ble_eq_true rfl, Nat.le_of_ble_eq_true rfl⟩
  | 5, _ => exact ⟨Nat.le_of_ble_eq_true rfl, Nat.le_of_ble_eq_true rfl⟩
  | 6, _ => exact ⟨Nat.le_of_ble_eq_true rfl, Nat.le_of_ble_eq_true rfl⟩
  | 7, _ => exact ⟨Nat.le_of_ble_eq_true rfl, Nat.le_of_ble_eq_true rfl⟩
def metaTitle : ByteArray := ⟨#[103, 114, 97, 110, 97, 114, 121, 32, 109, 101, 116, 97, 32, 49, 10]⟩
def metaS (st : ByteArray) (n : Nat → Int) : ByteArray := if metaOk st n then paperS metaTitle (metaL st n) else ⟨#[]⟩
def metaE (st : ByteArray) (n : Nat → Int) : Int := if metaOk st n then 0 else 42
theorem metaOk_st {st : ByteArray} {n : Nat → Int} (h : metaOk st n = true) : 1 ≤ st.size ∧ st.size ≤ 40 ∧ isSt st.data.toList = true := by
  unfold metaOk at h
  simp only [Bool.and_eq_true] at h
  have h0 := h.1.1.1.1.1.1.1
  unfold stOk inR at h0
  simp only [Bool.and_eq_true, decide_eq_true_eq] at h0
  exact ⟨by omega, by omega, h0.2⟩
set_option maxHeartbeats 2000000 in
set_option maxRecDepth 100000 in
theorem printMeta_any (st : ByteArray) (n : Nat → Int) (hst : st.size ≤ 9223372036854775807) (hv : ∀ i, I64 (n i)) (w : World) (hP : Pow w) (hT4 : Tab4 0 w) :
    Calls Tryz.prog 10 #[.agg (metaCells st n)] w fun x w' => x = .returned (.tuple #[.string (metaS st n), .int .i64 (metaE st n)]) ∧ Below w.heap.size w w' := by
  obtain ⟨W0, hW0⟩ : ∃ W0, W0 = w.alloc (.cells (metaCells st n) 23) := ⟨_, rfl⟩
  have b0 : Below w.heap.size w W0 := by rw [hW0]; exact (Below.refl _ w).alloc (Nat.le_refl _) _
  have s0 : W0.heap.size = w.heap.size + 1 := by rw [hW0]; simp
  have r0 : MetaAt W0 w.heap.size st n := by
    rw [hW0]; unfold metaCells
    refine ⟨by simp, fun i h1 h2 => ?_⟩
    match i, h1, h2 with
    | 1, _, _ => simp
    | 2, _, _ => simp
    | 3, _, _ => simp
    | 4, _, _ => simp
    | 5, _, _ => simp
    | 6, _, _ => simp
    | 7, _, _ => simp
  have T := hide (metaTable_any w.heap.size W0)
  obtain ⟨W1, hW1⟩ : ∃ W1, W1 = tabW 75 w.heap.size (metaFDs W0.heap.size) W0 := ⟨_, rfl⟩
  have b1 : Below W0.heap.size W0 W1 := by rw [hW1]; exact tabW_below _ _ _ _
  have s1 : W1.heap.size = W0.heap.size + 2 := by rw [hW1]; exact tabW_size _ _ _ _
  have t1 : TabAt (W0.heap.size + 1) W1 (metaFDs W0.heap.size) := by rw [hW1]; exact tabW_tab _ _ _ _
  have x1 : W1.cell? ⟨W0.heap.size, 0, none⟩ = some (.pointer (some ⟨w.heap.size, 0, none⟩)) := by rw [hW1]; exact tabW_box _ _ _ _
  have r1 : MetaAt W1 w.heap.size st n := by
    obtain ⟨q0, q⟩ := r0
    have hl : w.heap.size < W0.heap.size := by omega
    exact ⟨by rw [b1.cell (by exact hl)]; exact q0, fun i h1 h2 => by rw [b1.cell (by exact hl)]; exact q i h1 h2⟩
  have bb := b0.trans (b1.mono b0.size)
  have G := metaFD_gets w.heap.size W0.heap.size st n W1 (by omega) (by omega) x1 r1
  have C : Hid (Calls Tryz.prog 34 #[.string metaTitle, .slice (some ⟨W0.heap.size + 1, 0, none⟩) 8 8] W1 fun x w' => x = .returned (.tuple #[.string (metaS st n), .int .i64 (metaE st n)]) ∧ Below W1.heap.size W1 w') := by
    by_cases hok : metaOk st n = true
    · have := printPaper_ok metaTitle (W0.heap.size + 1) 8 (metaFDs W0.heap.size) W1 (metaN n) (metaT st) (metaOkI st n) (metaO st n) 40 (by omega) (by decide) (by show 8 ≤ 64; omega) t1 (by omega) (metaFD_enters _) G (metaFD_allows _ st n hst) (by show allB 8 _ = true; rw [metaOk_all]; exact hok) (metaFD_prints _ st n hv W1 (hP.below bb)) (metaFD_small _) (fun i => by
          unfold metaO
          split
          · exact (metaOk_st hok).2.1
          · unfold itS; rw [strOf_size]; exact Nat.le_trans (itoa_len _ (hv i).1 (hv i).2) (by omega)) (hT4.below bb hT4.lt)
      have e1 : metaS st n = paperS metaTitle (wrL (metaFDs W0.heap.size) (metaO st n) (metaFDs W0.heap.size).length) := by unfold metaS; rw [if_pos hok]; rfl
      have e2 : metaE st n = 0 := by unfold metaE; rw [if_pos hok]
      rw [e1, e2]
      exact this
    · have := printPaper_no metaTitle (W0.heap.size + 1) 8 (metaFDs W0.heap.size) W1 (metaN n) (metaT st) (metaOkI st n) (by show 8 ≤ 64; omega) t1 (by omega) (metaFD_enters _) G (metaFD_allows _ st n hst) (by show allB 8 _ = false; rw [metaOk_all]; simpa using hok)
      have e1 : metaS st n = ⟨#[]⟩ := by unfold metaS; rw [if_neg hok]
      have e2 : metaE st n = 42 := by unfold metaE; rw [if_neg hok]
      rw [e1, e2]
      exact this
  have BB := hide bb
  unfold metaTitle at C
  clear G hP hT4 r0 r1 t1 x1 b0 b1 bb s1 s0 hv
  generalize metaS st n = MS at *
  generalize metaE st n = ME at *
  unfold metaCells at hW0 ⊢
  go_enter Tryz.func10, Tryz.ntmps10
  go_wp2_with fail
  rw [← hW0]
  clear hW0
  refine Calls.mono T.out ?_
  rintro x w2 ⟨rfl, rfl⟩
  rw [← hW1]
  clear hW1
  go_wp2_with fail
  refine Calls.mono C.out ?_
  rintro x w3 ⟨rfl, b3⟩
  have B3 := hide (BB.out.trans (b3.mono BB.out.size))
  clear b3 C T
  go_wp2
  go_ret2
  exact ⟨rfl, B3.out⟩
end Go.Proofs.YtfpalfpfijcpbaaGreatDoor
