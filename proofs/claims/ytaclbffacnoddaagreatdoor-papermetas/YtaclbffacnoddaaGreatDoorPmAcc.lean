import Derived.Test.YtaclbffacnoddaaGreatDoorPaWrit
namespace Go.Proofs.YtaclbffacnoddaaGreatDoor
open Go.RowKit Go.Shelf
set_option maxHeartbeats 1000000 in
set_option maxRecDepth 100000 in
theorem get_metaTable_0 (bx rb : Nat) (n : ByteArray) (w : World) (hx : bx < w.heap.size) (hr : rb < w.heap.size) (h1 : w.cell? ⟨bx, 0, none⟩ = some (.pointer (some ⟨rb, 0, none⟩))) (h2 : w.cell? ⟨rb, 0, none⟩ = some (.string n)) :
    Calls Tryz.prog 33 #[.pointer (some ⟨bx, 0, none⟩)] w fun e w' => e = .returned (.agg #[.int .i64 0, .string n]) ∧ Below w.heap.size w w' := by
  go_enter Tryz.func33, Tryz.ntmps33
  go_wp2
  exact bodyPost_ret (v := .agg #[.int .i64 0, .string n]) (by simp [results, Tryz.results33, go_sem]) rfl ⟨rfl, (Below.refl _ _).alloc (Nat.le_refl _) _⟩
set_option maxHeartbeats 1000000 in
set_option maxRecDepth 100000 in
theorem set_metaTable_0 (bx rb : Nat) (n : ByteArray) (m : Int) (t : ByteArray) (w : World) (hx : bx < w.heap.size) (hr : rb < w.heap.size) (h1 : w.cell? ⟨bx, 0, none⟩ = some (.pointer (some ⟨rb, 0, none⟩))) (h2 : w.cell? ⟨rb, 0, none⟩ = some (.string n)) (h3 : w.frozen? ⟨rb, 0, none⟩ = false) :
    Calls Tryz.prog 34 #[.agg #[.int .i64 m, .string t], .pointer (some ⟨bx, 0, none⟩)] w fun e w' => e = .returned (.tuple #[]) ∧ w' = (w.setCell ⟨rb, 0, none⟩ (.string t)).alloc (.cells #[.int .i64 m, .string t] 72) := by
  go_enter Tryz.func34, Tryz.ntmps34
  go_wp2
  go_end0
  exact ⟨rfl, rfl⟩
set_option maxHeartbeats 1000000 in
set_option maxRecDepth 100000 in
theorem get_metaTable_1 (bx rb : Nat) (n : Int) (w : World) (hx : bx < w.heap.size) (hr : rb < w.heap.size) (h1 : w.cell? ⟨bx, 0, none⟩ = some (.pointer (some ⟨rb, 0, none⟩))) (h2 : w.cell? ⟨rb, 1, none⟩ = some (.int .i64 n)) :
    Calls Tryz.prog 35 #[.pointer (some ⟨bx, 0, none⟩)] w fun e w' => e = .returned (.agg #[.int .i64 n, .string ⟨#[]⟩]) ∧ Below w.heap.size w w' := by
  go_enter Tryz.func35, Tryz.ntmps35
  go_wp2
  exact bodyPost_ret (v := .agg #[.int .i64 n, .string ⟨#[]⟩]) (by simp [results, Tryz.results35, go_sem]) rfl ⟨rfl, (Below.refl _ _).alloc (Nat.le_refl _) _⟩
set_option maxHeartbeats 1000000 in
set_option maxRecDepth 100000 in
theorem set_metaTable_1 (bx rb : Nat) (n : Int) (m : Int) (t : ByteArray) (w : World) (hx : bx < w.heap.size) (hr : rb < w.heap.size) (h1 : w.cell? ⟨bx, 0, none⟩ = some (.pointer (some ⟨rb, 0, none⟩))) (h2 : w.cell? ⟨rb, 1, none⟩ = some (.int .i64 n)) (h3 : w.frozen? ⟨rb, 1, none⟩ = false) :
    Calls Tryz.prog 36 #[.agg #[.int .i64 m, .string t], .pointer (some ⟨bx, 0, none⟩)] w fun e w' => e = .returned (.tuple #[]) ∧ w' = (w.setCell ⟨rb, 1, none⟩ (.int .i64 m)).alloc (.cells #[.int .i64 m, .string t] 72) := by
  go_enter Tryz.func36, Tryz.ntmps36
  go_wp2
  go_end0
  exact ⟨rfl, rfl⟩
set_option maxHeartbeats 1000000 in
set_option maxRecDepth 100000 in
theorem get_metaTable_2 (bx rb : Nat) (n : Int) (w : World) (hx : bx < w.heap.size) (hr : rb < w.heap.size) (h1 : w.cell? ⟨bx, 0, none⟩ = some (.pointer (some ⟨rb, 0, none⟩))) (h2 : w.cell? ⟨rb, 2, none⟩ = some (.int .i64 n)) :
    Calls Tryz.prog 37 #[.pointer (some ⟨bx, 0, none⟩)] w fun e w' => e = .returned (.agg #[.int .i64 n, .string ⟨#[]⟩]) ∧ Below w.heap.size w w' := by
  go_enter Tryz.func37, Tryz.ntmps37
  go_wp2
  exact bodyPost_ret (v := .agg #[.int .i64 n, .string ⟨#[]⟩]) (by simp [results, Tryz.results37, go_sem]) rfl ⟨rfl, (Below.refl _ _).alloc (Nat.le_refl _) _⟩
set_option maxHeartbeats 1000000 in
set_option maxRecDepth 100000 in
theorem set_metaTable_2 (bx rb : Nat) (n : Int) (m : Int) (t : ByteArray) (w : World) (hx : bx < w.heap.size) (hr : rb < w.heap.size) (h1 : w.cell? ⟨bx, 0, none⟩ = some (.pointer (some ⟨rb, 0, none⟩))) (h2 : w.cell? ⟨rb, 2, none⟩ = some (.int .i64 n)) (h3 : w.frozen? ⟨rb, 2, none⟩ = false) :
    Calls Tryz.prog 38 #[.agg #[.int .i64 m, .string t], .pointer (some ⟨bx, 0, none⟩)] w fun e w' => e = .returned (.tuple #[]) ∧ w' = (w.setCell ⟨rb, 2, none⟩ (.int .i64 m)).alloc (.cells #[.int .i64 m, .string t] 72) := by
  go_enter Tryz.func38, Tryz.ntmps38
  go_wp2
  go_end0
  exact ⟨rfl, rfl⟩
set_option maxHeartbeats 1000000 in
set_option maxRecDepth 100000 in
theorem get_metaTable_3 (bx rb : Nat) (n : Int) (w : World) (hx : bx < w.heap.size) (hr : rb < w.heap.size) (h1 : w.cell? ⟨bx, 0, none⟩ = some (.pointer (some ⟨rb, 0, none⟩))) (h2 : w.cell? ⟨rb, 3, none⟩ = some (.int .i64 n)) :
    Calls Tryz.prog 39 #[.pointer (some ⟨bx, 0, none⟩)] w fun e w' => e = .returned (.agg #[.int .i64 n, .string ⟨#[]⟩]) ∧ Below w.heap.size w w' := by
  go_enter Tryz.func39, Tryz.ntmps39
  go_wp2
  exact bodyPost_ret (v := .agg #[.int .i64 n, .string ⟨#[]⟩]) (by simp [results, Tryz.results39, go_sem]) rfl ⟨rfl, (Below.refl _ _).alloc (Nat.le_refl _) _⟩
set_option maxHeartbeats 1000000 in
set_option maxRecDepth 100000 in
theorem set_metaTable_3 (bx rb : Nat) (n : Int) (m : Int) (t : ByteArray) (w : World) (hx : bx < w.heap.size) (hr : rb < w.heap.size) (h1 : w.cell? ⟨bx, 0, none⟩ = some (.pointer (some ⟨rb, 0, none⟩))) (h2 : w.cell? ⟨rb, 3, none⟩ = some (.int .i64 n)) (h3 : w.frozen? ⟨rb, 3, none⟩ = false) :
    Calls Tryz.prog 40 #[.agg #[.int .i64 m, .string t], .pointer (some ⟨bx, 0, none⟩)] w fun e w' => e = .returned (.tuple #[]) ∧ w' = (w.setCell ⟨rb, 3, none⟩ (.int .i64 m)).alloc (.cells #[.int .i64 m, .string t] 72) := by
  go_enter Tryz.func40, Tryz.ntmps40
  go_wp2
  go_end0
  exact ⟨rfl, rfl⟩
set_option maxHeartbeats 1000000 in
set_option maxRecDepth 100000 in
theorem get_metaTable_4 (bx rb : Nat) (n : Int) (w : World) (hx : bx < w.heap.size) (hr : rb < w.heap.size) (h1 : w.cell? ⟨bx, 0, none⟩ = some (.pointer (some ⟨rb, 0, none⟩))) (h2 : w.cell? ⟨rb, 4, none⟩ = some (.int .i64 n)) :
    Calls Tryz.prog 41 #[.pointer (some ⟨bx, 0, none⟩)] w fun e w' => e = .returned (.agg #[.int .i64 n, .string ⟨#[]⟩]) ∧ Below w.heap.size w w' := by
  go_enter Tryz.func41, Tryz.ntmps41
  go_wp2
  exact bodyPost_ret (v := .agg #[.int .i64 n, .string ⟨#[]⟩]) (by simp [results, Tryz.results41, go_sem]) rfl ⟨rfl, (Below.refl _ _).alloc (Nat.le_refl _) _⟩
set_option maxHeartbeats 1000000 in
set_option maxRecDepth 100000 in
theorem set_metaTable_4 (bx rb : Nat) (n : Int) (m : Int) (t : ByteArray) (w : World) (hx : bx < w.heap.size) (hr : rb < w.heap.size) (h1 : w.cell? ⟨bx, 0, none⟩ = some (.pointer (some ⟨rb, 0, none⟩))) (h2 : w.cell? ⟨rb, 4, none⟩ = some (.int .i64 n)) (h3 : w.frozen? ⟨rb, 4, none⟩ = false) :
    Calls Tryz.prog 42 #[.agg #[.int .i64 m, .string t], .pointer (some ⟨bx, 0, none⟩)] w fun e w' => e = .returned (.tuple #[]) ∧ w' = (w.setCell ⟨rb, 4, none⟩ (.int .i64 m)).alloc (.cells #[.int .i64 m, .string t] 72) := by
  go_enter Tryz.func42, Tryz.ntmps42
  go_wp2
  go_end0
  exact ⟨rfl, rfl⟩
set_option maxHeartbeats 1000000 in
set_option maxRecDepth 100000 in
theorem get_metaTable_5 (bx rb : Nat) (n : Int) (w : World) (hx : bx < w.heap.size) (hr : rb < w.heap.size) (h1 : w.cell? ⟨bx, 0, none⟩ = some (.pointer (some ⟨rb, 0, none⟩))) (h2 : w.cell? ⟨rb, 5, none⟩ = some (.int .i64 n)) :
    Calls Tryz.prog 43 #[.pointer (some ⟨bx, 0, none⟩)] w fun e w' => e = .returned (.agg #[.int .i64 n, .string ⟨#[]⟩]) ∧ Below w.heap.size w w' := by
  go_enter Tryz.func43, Tryz.ntmps43
  go_wp2
  exact bodyPost_ret (v := .agg #[.int .i64 n, .string ⟨#[]⟩]) (by simp [results, Tryz.results43, go_sem]) rfl ⟨rfl, (Below.refl _ _).alloc (Nat.le_refl _) _⟩
set_option maxHeartbeats 1000000 in
set_option maxRecDepth 100000 in
theorem set_metaTable_5 (bx rb : Nat) (n : Int) (m : Int) (t : ByteArray) (w : World) (hx : bx < w.heap.size) (hr : rb < w.heap.size) (h1 : w.cell? ⟨bx, 0, none⟩ = some (.pointer (some ⟨rb, 0, none⟩))) (h2 : w.cell? ⟨rb, 5, none⟩ = some (.int .i64 n)) (h3 : w.frozen? ⟨rb, 5, none⟩ = false) :
    Calls Tryz.prog 44 #[.agg #[.int .i64 m, .string t], .pointer (some ⟨bx, 0, none⟩)] w fun e w' => e = .returned (.tuple #[]) ∧ w' = (w.setCell ⟨rb, 5, none⟩ (.int .i64 m)).alloc (.cells #[.int .i64 m, .string t] 72) := by
  go_enter Tryz.func44, Tryz.ntmps44
  go_wp2
  go_end0
  exact ⟨rfl, rfl⟩
set_option maxHeartbeats 1000000 in
set_option maxRecDepth 100000 in
theorem get_metaTable_6 (bx rb : Nat) (n : Int) (w : World) (hx : bx < w.heap.size) (hr : rb < w.heap.size) (h1 : w.cell? ⟨bx, 0, none⟩ = some (.pointer (some ⟨rb, 0, none⟩))) (h2 : w.cell? ⟨rb, 6, none⟩ = some (.int .i64 n)) :
    Calls Tryz.prog 45 #[.pointer (some ⟨bx, 0, none⟩)] w fun e w' => e = .returned (.agg #[.int .i64 n, .string ⟨#[]⟩]) ∧ Below w.heap.size w w' := by
  go_enter Tryz.func45, Tryz.ntmps45
  go_wp2
  exact bodyPost_ret (v := .agg #[.int .i64 n, .string ⟨#[]⟩]) (by simp [results, Tryz.results45, go_sem]) rfl ⟨rfl, (Below.refl _ _).alloc (Nat.le_refl _) _⟩
set_option maxHeartbeats 1000000 in
set_option maxRecDepth 100000 in
theorem set_metaTable_6 (bx rb : Nat) (n : Int) (m : Int) (t : ByteArray) (w : World) (hx : bx < w.heap.size) (hr : rb < w.heap.size) (h1 : w.cell? ⟨bx, 0, none⟩ = some (.pointer (some ⟨rb, 0, none⟩))) (h2 : w.cell? ⟨rb, 6, none⟩ = some (.int .i64 n)) (h3 : w.frozen? ⟨rb, 6, none⟩ = false) :
    Calls Tryz.prog 46 #[.agg #[.int .i64 m, .string t], .pointer (some ⟨bx, 0, none⟩)] w fun e w' => e = .returned (.tuple #[]) ∧ w' = (w.setCell ⟨rb, 6, none⟩ (.int .i64 m)).alloc (.cells #[.int .i64 m, .string t] 72) := by
  go_enter Tryz.func46, Tryz.ntmps46
  go_wp2
  go_end0
  exact ⟨rfl, rfl⟩
set_option maxHeartbeats 1000000 in
set_option maxRecDepth 100000 in
theorem get_metaTable_7 (bx rb : Nat) (n : Int) (w : World) (hx : bx < w.heap.size) (hr : rb < w.heap.size) (h1 : w.cell? ⟨bx, 0, none⟩ = some (.pointer (some ⟨rb, 0, none⟩))) (h2 : w.cell? ⟨rb, 7, none⟩ = some (.int .i64 n)) :
    Calls Tryz.prog 47 #[.pointer (some ⟨bx, 0, none⟩)] w fun e w' => e = .returned (.agg #[.int .i64 n, .string ⟨#[]⟩]) ∧ Below w.heap.size w w' := by
  go_enter Tryz.func47, Tryz.ntmps47
  go_wp2
  exact bodyPost_ret (v := .agg #[.int .i64 n, .string ⟨#[]⟩]) (by simp [results, Tryz.results47, go_sem]) rfl ⟨rfl, (Below.refl _ _).alloc (Nat.le_refl _) _⟩
set_option maxHeartbeats 1000000 in
set_option maxRecDepth 100000 in
theorem set_metaTable_7 (bx rb : Nat) (n : Int) (m : Int) (t : ByteArray) (w : World) (hx : bx < w.heap.size) (hr : rb < w.heap.size) (h1 : w.cell? ⟨bx, 0, none⟩ = some (.pointer (some ⟨rb, 0, none⟩))) (h2 : w.cell? ⟨rb, 7, none⟩ = some (.int .i64 n)) (h3 : w.frozen? ⟨rb, 7, none⟩ = false) :
    Calls Tryz.prog 48 #[.agg #[.int .i64 m, .string t], .pointer (some ⟨bx, 0, none⟩)] w fun e w' => e = .returned (.tuple #[]) ∧ w' = (w.setCell ⟨rb, 7, none⟩ (.int .i64 m)).alloc (.cells #[.int .i64 m, .string t] 72) := by
  go_enter Tryz.func48, Tryz.ntmps48
  go_wp2
  go_end0
  exact ⟨rfl, rfl⟩
end Go.Proofs.YtaclbffacnoddaaGreatDoor
