import Derived.Test.YtgdibjnendjhnaaGreatDoorW8
import Derived.ChangeMaps4
namespace Go.Proofs.YtgdibjnendjhnaaGreatDoor
open Go.RowKit
open Go.ChangeMaps (setBlock)
theorem setBlock_get {w : World} {m k : Nat} {o : Obj} (h : k ≠ m) : (setBlock w m o).heap[k]? = w.heap[k]? := by
  unfold setBlock
  simp only [Array.getElem?_setIfInBounds]
  rw [if_neg (fun e => h e.symm)]
theorem Keeps.setBlock {S : Nat → Prop} {a w : World} (h : Keeps S a w) {m : Nat} (hm : S m ∨ a.heap.size ≤ m) (o : Obj) : Keeps S a (setBlock w m o) :=
  ⟨h.os, h.tape, h.output, by simp only [ChangeMaps.setBlock, Array.size_setIfInBounds]; exact h.size, fun k hk hs => by
    rw [setBlock_get (fun e => by subst e; rcases hm with hm | hm; exact hs hm; omega)]
    exact h.block k hk hs⟩
theorem Keeps.setCellB {S : Nat → Prop} {a w : World} {b : Nat} (h : Keeps S a w) (hS : S b) (j : Nat) (v : Value) : Keeps S a (w.setCell ⟨b, j, none⟩ v) := h.setCell (Or.inl hS) v
theorem upd_place (w : World) (m clock : Nat) (d : Int) (s : ByteArray) (v : Value) (h : w.heap[m]? = some (.map #[] clock)) :
    (Instr.mapUpdate 78 (.map (some m)) (.agg #[.int .i64 d, .string s]) v).run Tryz.prog w = .ok () (setBlock w m (.map #[{ key := .agg #[.int .i64 d, .string s], val := v, born := clock }] (clock + 1))) := by
  simp [Instr.mapUpdate, run_underlying Tryz.underlying78, MapKept.run_getObj_map h, check_place, Instr.findKey, run_underlying Tryz.underlying105, Instr.findNow, MapKept.run_setObj_map _ h, Result.andThen, setBlock]
theorem upd_pend (w : World) (m clock : Nat) (d : Int) (v : Value) (h : w.heap[m]? = some (.map #[] clock)) :
    (Instr.mapUpdate 83 (.map (some m)) (.int .i64 d) v).run Tryz.prog w = .ok () (setBlock w m (.map #[{ key := .int .i64 d, val := v, born := clock }] (clock + 1))) := by
  have c0 := MapKept.run_checkKey (w := w) Tryz.underlying3 (k := .int .i64 d) (by simp [MapKept.IsKey]) false 9999
  simp [Instr.mapUpdate, run_underlying Tryz.underlying83, MapKept.run_getObj_map h, c0, Instr.findKey, run_underlying Tryz.underlying3, Instr.findNow, MapKept.run_setObj_map _ h, Result.andThen, setBlock]
theorem look_pend (w : World) (m clock : Nat) (d : Int) (h : w.heap[m]? = some (.map #[] clock)) :
    (Instr.lookup 83 (.map (some m)) (.int .i64 d) false).run Tryz.prog w = .ok (.slice none 0 0) w := by
  have c0 := MapKept.run_checkKey (w := w) Tryz.underlying3 (k := .int .i64 d) (by simp [MapKept.IsKey]) true 9999
  have z0 : (zeroValue 151).run Tryz.prog w = .ok (.slice none 0 0) w := by kernel_rfl
  simp [Instr.lookup, run_underlying Tryz.underlying83, MapKept.run_getObj_map h, c0, Instr.findKey, run_underlying Tryz.underlying3, Instr.findNow, z0, Result.andThen]
set_option maxHeartbeats 800000 in
set_option maxRecDepth 100000 in
theorem act_ok (b : Nat) (w : World) (h4 : w.cell? ⟨b, 4, none⟩ = some (.bool false)) (h2 : w.cell? ⟨b, 2, none⟩ = some (.int .i64 0)) (f2 : w.frozen? ⟨b, 2, none⟩ = false) :
    Calls Tryz.prog 82 #[.pointer (some ⟨b, 0, none⟩)] w fun e w' => e = .returned (.int .i64 0) ∧ w' = w.setCell ⟨b, 2, none⟩ (.int .i64 1) := by
  go_enter Tryz.func82, Tryz.ntmps82
  go_wp2
  go_ret
  exact ⟨rfl, rfl⟩
set_option maxHeartbeats 800000 in
set_option maxRecDepth 100000 in
theorem do_names (m n clock : Nat) (o n1 kd : Int) (x : ByteArray) (w : World) (hm : w.heap[m]? = some (.map #[] clock)) (hx : x.toList.isEmpty = false) :
    Calls Tryz.prog 83 #[.agg #[.map (some m), .map (some n)], .agg #[.int .i64 o, .int .i64 0, .int .i64 3, .string ⟨#[]⟩, .int .i64 0, .string ⟨#[]⟩, .string x, .int .i64 n1, .int .i64 kd, .int .i64 0, .int .i64 0]] w fun e w' => e = .returned (.tuple #[]) ∧ Keeps (fun k => k = m) w w' := by
  have hlt : m < w.heap.size := by
    rcases Nat.lt_or_ge m w.heap.size with h' | h'
    · exact h'
    · rw [Array.getElem?_eq_none h'] at hm; simp at hm
  have hu : ∀ o1 o2 v, (Instr.mapUpdate 78 (.map (some m)) (.agg #[.int .i64 0, .string x]) v).run Tryz.prog ((w.alloc o1).alloc o2) = .ok () (setBlock ((w.alloc o1).alloc o2) m (.map #[{ key := .agg #[.int .i64 0, .string x], val := v, born := clock }] (clock + 1))) := fun o1 o2 v =>
    upd_place _ m clock 0 x v (by rw [Below.heap_alloc _ _ _ (by simp; omega), Below.heap_alloc _ _ _ hlt]; exact hm)
  clear hm
  go_enter Tryz.func83, Tryz.ntmps83
  go_wp2
  go_end0
  exact ⟨rfl, Keeps.setBlock (S := fun k => k = m) (((Keeps.refl _ _).alloc _).alloc _) (Or.inl rfl) _⟩
set_option maxHeartbeats 800000 in
set_option maxRecDepth 100000 in
theorem do_names0 (m n : Nat) (o n1 kd : Int) (x : ByteArray) (w : World) (hx : x.toList.isEmpty = true) :
    Calls Tryz.prog 83 #[.agg #[.map (some m), .map (some n)], .agg #[.int .i64 o, .int .i64 0, .int .i64 3, .string ⟨#[]⟩, .int .i64 0, .string ⟨#[]⟩, .string x, .int .i64 n1, .int .i64 kd, .int .i64 0, .int .i64 0]] w fun e w' => e = .returned (.tuple #[]) ∧ Keeps (fun k => k = m) w w' := by
  go_enter Tryz.func83, Tryz.ntmps83
  go_wp2
  go_end0
  exact ⟨rfl, ((Keeps.refl _ _).alloc _).alloc _⟩
theorem do_any (m n clock : Nat) (o n1 kd : Int) (x : ByteArray) (w : World) (hm : w.heap[m]? = some (.map #[] clock)) :
    Calls Tryz.prog 83 #[.agg #[.map (some m), .map (some n)], .agg #[.int .i64 o, .int .i64 0, .int .i64 3, .string ⟨#[]⟩, .int .i64 0, .string ⟨#[]⟩, .string x, .int .i64 n1, .int .i64 kd, .int .i64 0, .int .i64 0]] w fun e w' => e = .returned (.tuple #[]) ∧ Keeps (fun k => k = m) w w' := by
  cases hx : x.toList.isEmpty
  · exact do_names m n clock o n1 kd x w hm hx
  · exact do_names0 m n o n1 kd x w hx
/-- a disk that is empty and not armed, at block b: what a writing call wants besides -/
structure OwnW (w : World) (b m n p : Nat) : Prop where
  at0 : OwnAt w b m n p
  c1 : w.cell? ⟨b, 1, none⟩ = some (.int .i64 0)
  c2 : w.cell? ⟨b, 2, none⟩ = some (.int .i64 0)
  c4 : w.cell? ⟨b, 4, none⟩ = some (.bool false)
  c7 : w.cell? ⟨b, 7, none⟩ = some (.int .i64 0)
  c8 : w.cell? ⟨b, 8, none⟩ = some (.int .i64 0)
  c9 : w.cell? ⟨b, 9, none⟩ = some (.int .i64 0)
  fz : ∀ j, w.frozen? ⟨b, j, none⟩ = false
  hp : ∃ clock, w.heap[p]? = some (.map #[] clock)
  hmp : m ≠ p
  hbm : b ≠ m
  hbp : b ≠ p
theorem OwnW.later {w w' : World} {b m n p : Nat} (h : OwnW w b m n p) (hb : Below w.heap.size w w') : OwnW w' b m n p where
  at0 := h.at0.later hb
  c1 := by rw [hb.cell (p := ⟨b, 1, none⟩) h.at0.lt]; exact h.c1
  c2 := by rw [hb.cell (p := ⟨b, 2, none⟩) h.at0.lt]; exact h.c2
  c4 := by rw [hb.cell (p := ⟨b, 4, none⟩) h.at0.lt]; exact h.c4
  c7 := by rw [hb.cell (p := ⟨b, 7, none⟩) h.at0.lt]; exact h.c7
  c8 := by rw [hb.cell (p := ⟨b, 8, none⟩) h.at0.lt]; exact h.c8
  c9 := by rw [hb.cell (p := ⟨b, 9, none⟩) h.at0.lt]; exact h.c9
  fz := fun j => by rw [hb.frozen (p := ⟨b, j, none⟩) h.at0.lt]; exact h.fz j
  hp := by obtain ⟨c, hc⟩ := h.hp; exact ⟨c, below_map hb hc⟩
  hmp := h.hmp
  hbm := h.hbm
  hbp := h.hbp
end Go.Proofs.YtgdibjnendjhnaaGreatDoor
