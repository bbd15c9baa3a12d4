import Derived.Test.YtndfhpfhgdamgaaGreatDoorGGcRep
import Derived.Great.BuildSlice
import Derived.Great.Frames
import Derived.StillTail
namespace Go.Proofs.YtndfhpfhgdamgaaGreatDoor
open Go.RowKit
/-- a definition, as a value: the name, the 21 settings, the nodes -/
def clA (st : ByteArray) (x : Nat → Int) (nv : Value) : Array Value := #[.string st, .int .i64 (x 0), .int .i64 (x 1), .int .i64 (x 2), .int .i64 (x 3), .int .i64 (x 4), .int .i64 (x 5), .int .i64 (x 6), .int .i64 (x 7), .int .i64 (x 8), .int .i64 (x 9), .int .i64 (x 10), .int .i64 (x 11), .int .i64 (x 12), .int .i64 (x 13), .int .i64 (x 14), .int .i64 (x 15), .int .i64 (x 16), .int .i64 (x 17), .int .i64 (x 18), .int .i64 (x 19), .int .i64 (x 20), nv]
theorem clA_size (st : ByteArray) (x : Nat → Int) (nv : Value) : (clA st x nv).size = 23 := rfl
theorem clA_at (st : ByteArray) (x : Nat → Int) (nv : Value) (i : Nat) (h : i < 21) : (clA st x nv)[i + 1]? = some (.int .i64 (x i)) := by
  have : i = 0 ∨ i = 1 ∨ i = 2 ∨ i = 3 ∨ i = 4 ∨ i = 5 ∨ i = 6 ∨ i = 7 ∨ i = 8 ∨ i = 9 ∨ i = 10 ∨ i = 11 ∨ i = 12 ∨ i = 13 ∨ i = 14 ∨ i = 15 ∨ i = 16 ∨ i = 17 ∨ i = 18 ∨ i = 19 ∨ i = 20 := by omega
  rcases this with rfl | rfl | rfl | rfl | rfl | rfl | rfl | rfl | rfl | rfl | rfl | rfl | rfl | rfl | rfl | rfl | rfl | rfl | rfl | rfl | rfl <;> rfl
def ClAt (w : World) (b : Nat) (st : ByteArray) (x : Nat → Int) (nv : Value) : Prop := w.heap[b]? = some (.cells (clA st x nv) 24)
theorem ClAt.below {w w' : World} {b : Nat} {st : ByteArray} {x : Nat → Int} {nv : Value} (h : ClAt w b st x nv) (hb : Below w.heap.size w w') : ClAt w' b st x nv := (hb.block _ (blk_lt h)).trans h
theorem ClAt.st {w : World} {b : Nat} {st : ByteArray} {x : Nat → Int} {nv : Value} (h : ClAt w b st x nv) : w.cell? ⟨b, 0, none⟩ = some (.string st) := by unfold World.cell?; rw [show w.heap[b]? = _ from h]; rfl
theorem ClAt.nv {w : World} {b : Nat} {st : ByteArray} {x : Nat → Int} {nv : Value} (h : ClAt w b st x nv) : w.cell? ⟨b, 22, none⟩ = some nv := by unfold World.cell?; rw [show w.heap[b]? = _ from h]; rfl
theorem ClAt.x {w : World} {b : Nat} {st : ByteArray} {x : Nat → Int} {nv : Value} (h : ClAt w b st x nv) (i : Nat) (hi : i < 21) : w.cell? ⟨b, i + 1, none⟩ = some (.int .i64 (x i)) := by
  unfold World.cell?
  rw [show w.heap[b]? = _ from h]
  exact clA_at st x nv i hi
theorem ClAt.x0 {w : World} {b : Nat} {st : ByteArray} {x : Nat → Int} {nv : Value} (h : ClAt w b st x nv) : w.cell? ⟨b, 1, none⟩ = some (.int .i64 (x 0)) := h.x 0 (by omega)
theorem ClAt.x2 {w : World} {b : Nat} {st : ByteArray} {x : Nat → Int} {nv : Value} (h : ClAt w b st x nv) : w.cell? ⟨b, 3, none⟩ = some (.int .i64 (x 2)) := h.x 2 (by omega)
theorem ClAt.x4 {w : World} {b : Nat} {st : ByteArray} {x : Nat → Int} {nv : Value} (h : ClAt w b st x nv) : w.cell? ⟨b, 5, none⟩ = some (.int .i64 (x 4)) := h.x 4 (by omega)
theorem ClAt.x7 {w : World} {b : Nat} {st : ByteArray} {x : Nat → Int} {nv : Value} (h : ClAt w b st x nv) : w.cell? ⟨b, 8, none⟩ = some (.int .i64 (x 7)) := h.x 7 (by omega)
theorem ClAt.x9 {w : World} {b : Nat} {st : ByteArray} {x : Nat → Int} {nv : Value} (h : ClAt w b st x nv) : w.cell? ⟨b, 10, none⟩ = some (.int .i64 (x 9)) := h.x 9 (by omega)
theorem ClAt.x10 {w : World} {b : Nat} {st : ByteArray} {x : Nat → Int} {nv : Value} (h : ClAt w b st x nv) : w.cell? ⟨b, 11, none⟩ = some (.int .i64 (x 10)) := h.x 10 (by omega)
theorem new_cl (w : World) (st : ByteArray) (x : Nat → Int) (nv : Value) : ClAt (w.alloc (.cells (clA st x nv) 24)) w.heap.size st x nv := heap_last _ _
/-- the least and the greatest that a setting may be -/
def loS (i : Nat) : Int := [1, 1, 1, 1, 1, 1, 1, 1, 1, 1, 1, 1, 1, 1, 1, 1, 1, 1, 1, 1, 0][i]?.getD 0
def hiS (i : Nat) : Int := [16, 16, 16, 8, 4096, 65536, 1024, 65536, 64, 1024, 1024, 1073741824, 1073741824, 1073741824, 1024, 64, 65536, 1024, 64, 1024, 7][i]?.getD 0
/-- the program's table of settings -/
def setA (B : Nat) : Array Value := #[.string ⟨#[114, 101, 112, 108, 105, 99, 97, 115]⟩, .pointer (some ⟨B, 1, none⟩), .int .i64 1, .int .i64 16, .string ⟨#[119, 105, 100, 116, 104]⟩, .pointer (some ⟨B, 2, none⟩), .int .i64 1, .int .i64 16, .string ⟨#[99, 104, 117, 110, 107, 115]⟩, .pointer (some ⟨B, 3, none⟩), .int .i64 1, .int .i64 16, .string ⟨#[114, 101, 116, 97, 105, 110]⟩, .pointer (some ⟨B, 4, none⟩), .int .i64 1, .int .i64 8, .string ⟨#[98, 108, 111, 99, 107]⟩, .pointer (some ⟨B, 5, none⟩), .int .i64 1, .int .i64 4096, .string ⟨#[114, 97, 116, 101]⟩, .pointer (some ⟨B, 6, none⟩), .int .i64 1, .int .i64 65536, .string ⟨#[112, 101, 114]⟩, .pointer (some ⟨B, 7, none⟩), .int .i64 1, .int .i64 1024, .string ⟨#[98, 117, 114, 115, 116]⟩, .pointer (some ⟨B, 8, none⟩), .int .i64 1, .int .i64 65536, .string ⟨#[116, 114, 105, 101, 115]⟩, .pointer (some ⟨B, 9, none⟩), .int .i64 1, .int .i64 64, .string ⟨#[98, 97, 115, 101]⟩, .pointer (some ⟨B, 10, none⟩), .int .i64 1, .int .i64 1024, .string ⟨#[109, 111, 115, 116]⟩, .pointer (some ⟨B, 11, none⟩), .int .i64 1, .int .i64 1024, .string ⟨#[113, 117, 111, 116, 97]⟩, .pointer (some ⟨B, 12, none⟩), .int .i64 1, .int .i64 1073741824, .string ⟨#[114, 111, 111, 109]⟩, .pointer (some ⟨B, 13, none⟩), .int .i64 1, .int .i64 1073741824, .string ⟨#[100, 101, 112, 111, 116]⟩, .pointer (some ⟨B, 14, none⟩), .int .i64 1, .int .i64 1073741824, .string ⟨#[114, 101, 115, 101, 110, 100]⟩, .pointer (some ⟨B, 15, none⟩), .int .i64 1, .int .i64 1024, .string ⟨#[108, 105, 109, 105, 116]⟩, .pointer (some ⟨B, 16, none⟩), .int .i64 1, .int .i64 64, .string ⟨#[112, 97, 116, 105, 101, 110, 99, 101]⟩, .pointer (some ⟨B, 17, none⟩), .int .i64 1, .int .i64 65536, .string ⟨#[103, 101, 116, 119, 97, 105, 116]⟩, .pointer (some ⟨B, 18, none⟩), .int .i64 1, .int .i64 1024, .string ⟨#[115, 116, 114, 105, 107, 101, 115]⟩, .pointer (some ⟨B, 19, none⟩), .int .i64 1, .int .i64 64, .string ⟨#[98, 97, 110]⟩, .pointer (some ⟨B, 20, none⟩), .int .i64 1, .int .i64 1024, .string ⟨#[104, 111, 109, 101]⟩, .pointer (some ⟨B, 21, none⟩), .int .i64 0, .int .i64 7]
theorem setA_at (B i : Nat) (h : i < 21) : (∃ s, (setA B)[i * 4]? = some (.string s)) ∧ (setA B)[i * 4 + 1]? = some (.pointer (some ⟨B, i + 1, none⟩)) ∧ (setA B)[i * 4 + 2]? = some (.int .i64 (loS i)) ∧ (setA B)[i * 4 + 3]? = some (.int .i64 (hiS i)) := by
  have : i = 0 ∨ i = 1 ∨ i = 2 ∨ i = 3 ∨ i = 4 ∨ i = 5 ∨ i = 6 ∨ i = 7 ∨ i = 8 ∨ i = 9 ∨ i = 10 ∨ i = 11 ∨ i = 12 ∨ i = 13 ∨ i = 14 ∨ i = 15 ∨ i = 16 ∨ i = 17 ∨ i = 18 ∨ i = 19 ∨ i = 20 := by omega
  rcases this with rfl | rfl | rfl | rfl | rfl | rfl | rfl | rfl | rfl | rfl | rfl | rfl | rfl | rfl | rfl | rfl | rfl | rfl | rfl | rfl | rfl <;> exact ⟨⟨_, rfl⟩, rfl, rfl, rfl⟩
def setParts (B : Nat) : List (Nat × Value) := [(0, .agg #[.string ⟨#[114, 101, 112, 108, 105, 99, 97, 115]⟩, .pointer (some ⟨B, 1, none⟩), .int .i64 1, .int .i64 16]), (1, .agg #[.string ⟨#[119, 105, 100, 116, 104]⟩, .pointer (some ⟨B, 2, none⟩), .int .i64 1, .int .i64 16]), (2, .agg #[.string ⟨#[99, 104, 117, 110, 107, 115]⟩, .pointer (some ⟨B, 3, none⟩), .int .i64 1, .int .i64 16]), (3, .agg #[.string ⟨#[114, 101, 116, 97, 105, 110]⟩, .pointer (some ⟨B, 4, none⟩), .int .i64 1, .int .i64 8]), (4, .agg #[.string ⟨#[98, 108, 111, 99, 107]⟩, .pointer (some ⟨B, 5, none⟩), .int .i64 1, .int .i64 4096]), (5, .agg #[.string ⟨#[114, 97, 116, 101]⟩, .pointer (some ⟨B, 6, none⟩), .int .i64 1, .int .i64 65536]), (6, .agg #[.string ⟨#[112, 101, 114]⟩, .pointer (some ⟨B, 7, none⟩), .int .i64 1, .int .i64 1024]), (7, .agg #[.string ⟨#[98, 117, 114, 115, 116]⟩, .pointer (some ⟨B, 8, none⟩), .int .i64 1, .int .i64 65536]), (8, .agg #[.string ⟨#[116, 114, 105, 101, 115]⟩, .pointer (some ⟨B, 9, none⟩), .int .i64 1, .int .i64 64]), (9, .agg #[.string ⟨#[98, 97, 115, 101]⟩, .pointer (some ⟨B, 10, none⟩), .int .i64 1, .int .i64 1024]), (10, .agg #[.string ⟨#[109, 111, 115, 116]⟩, .pointer (some ⟨B, 11, none⟩), .int .i64 1, .int .i64 1024]), (11, .agg #[.string ⟨#[113, 117, 111, 116, 97]⟩, .pointer (some ⟨B, 12, none⟩), .int .i64 1, .int .i64 1073741824]), (12, .agg #[.string ⟨#[114, 111, 111, 109]⟩, .pointer (some ⟨B, 13, none⟩), .int .i64 1, .int .i64 1073741824]), (13, .agg #[.string ⟨#[100, 101, 112, 111, 116]⟩, .pointer (some ⟨B, 14, none⟩), .int .i64 1, .int .i64 1073741824]), (14, .agg #[.string ⟨#[114, 101, 115, 101, 110, 100]⟩, .pointer (some ⟨B, 15, none⟩), .int .i64 1, .int .i64 1024]), (15, .agg #[.string ⟨#[108, 105, 109, 105, 116]⟩, .pointer (some ⟨B, 16, none⟩), .int .i64 1, .int .i64 64]), (16, .agg #[.string ⟨#[112, 97, 116, 105, 101, 110, 99, 101]⟩, .pointer (some ⟨B, 17, none⟩), .int .i64 1, .int .i64 65536]), (17, .agg #[.string ⟨#[103, 101, 116, 119, 97, 105, 116]⟩, .pointer (some ⟨B, 18, none⟩), .int .i64 1, .int .i64 1024]), (18, .agg #[.string ⟨#[115, 116, 114, 105, 107, 101, 115]⟩, .pointer (some ⟨B, 19, none⟩), .int .i64 1, .int .i64 64]), (19, .agg #[.string ⟨#[98, 97, 110]⟩, .pointer (some ⟨B, 20, none⟩), .int .i64 1, .int .i64 1024]), (20, .agg #[.string ⟨#[104, 111, 109, 101]⟩, .pointer (some ⟨B, 21, none⟩), .int .i64 0, .int .i64 7])]
set_option maxRecDepth 100000 in
theorem itY {p : Prop} [Decidable p] {A B : Prop} (hp : p) (h : A) : if p then A else B := by rw [if_pos hp]; exact h
set_option maxRecDepth 100000 in
theorem infoSet : (Tryz.prog.info? 153).map (fun i => (i.zero, i.size, i.bytes)) = some (some (.agg #[.string ⟨#[]⟩, .pointer none, .int .i64 0, .int .i64 0]), 4, 40) := by kernel_rfl
set_option maxRecDepth 100000 in
theorem fill_set (B : Nat) (z : Value) (hz : z = .agg #[.string ⟨#[]⟩, .pointer none, .int .i64 0, .int .i64 0]) : Instr.fill (fun i => some (i * 4, 4)) ((Array.range (21 * 4)).map (z.cells[· % z.cells.size]!)) (setParts B) = some (setA B) := by
  subst hz
  kernel_rfl
theorem built_set (s : ByteArray) (p' : Option Addr) (l h : Int) : Tryz.prog.built 153 [(0, .string s), (1, .pointer p'), (2, .int .i64 l), (3, .int .i64 h)] = some #[.string s, .pointer p', .int .i64 l, .int .i64 h] := by kernel_rfl
theorem eval_idx {b : Act} {j : Nat} {v : Value} (h : b.eval (.tmp j) = v) (hj : j < b.tmps.size) : b.tmps[j] = v := by
  simpa [Act.eval, Array.getD, hj] using h
theorem set_getD {t : Array Value} {j : Nat} {v : Value} (hj : j < t.size) : (t.setIfInBounds j v).getD j undef = v := by
  simp [Array.getD, hj]
/-- one operation that yields a value -/
theorem still1 {ops : Array Oper} {w : World} {Q : Act → Prop} {rest : List Oper} {o : Oper} {a : Act} (v : Value) (g : o.guard = none) (hr : (execOp a.eval o).run Tryz.prog w = .ok (.value v) w) (h : wpStill Tryz.prog ops w Q rest (a.put o.dst v)) : wpStill Tryz.prog ops w Q (o :: rest) a := by
  refine wpStill_step fun K hK => ?_
  have hw : Region.wanted o (yielded ops a.tmps) = true := by simp [Region.wanted, g]
  rw [if_pos hw]
  unfold Oper.still
  rw [hr]
  exact ⟨rfl, hK _ h⟩
/-- four operations: one setting -/
theorem set_group {ops : Array Oper} {w : World} {Q : Act → Prop} {rest : List Oper} {o0 o1 o2 o3 : Oper} {a : Act} (d k B : Nat) (wd : ByteArray) (lo hi : Int)
    (g0 : o0.guard = none) (g1 : o1.guard = none) (g2 : o2.guard = none) (g3 : o3.guard = none)
    (h0 : o0.op = .move (.tmp 0)) (h1 : o1.op = .nilCheck (.tmp d)) (h2 : o2.op = .fieldAddr 24 (.tmp (d + 1)) k) (h3 : o3.op = .build 153 #[(0, .const (.string wd)), (1, .tmp (d + 2)), (2, .const (.int .i64 lo)), (3, .const (.int .i64 hi))])
    (d0 : o0.dst = some d) (d1 : o1.dst = some (d + 1)) (d2 : o2.dst = some (d + 2)) (d3 : o3.dst = some (d + 3)) (_hd : 0 < d) (hk : ∀ w : World, (Instr.fieldAt 24 (.pointer (some ⟨B, 0, none⟩)) k).run Tryz.prog w = .ok (.pointer (some ⟨B, k, none⟩)) w)
    (hs : d + 3 < a.tmps.size) (h : a.eval (.tmp 0) = .pointer (some ⟨B, 0, none⟩))
    (hK : ∀ a' : Act, a'.tmps.size = a.tmps.size → a'.defers = a.defers → a'.eval (.tmp (d + 3)) = .agg #[.string wd, .pointer (some ⟨B, k, none⟩), .int .i64 lo, .int .i64 hi] → (∀ j, j < d → a'.eval (.tmp j) = a.eval (.tmp j)) → wpStill Tryz.prog ops w Q rest a') :
    wpStill Tryz.prog ops w Q (o0 :: o1 :: o2 :: o3 :: rest) a := by
  refine still1 (.pointer (some ⟨B, 0, none⟩)) g0 (by unfold execOp; simp only [h0, h]; rfl) ?_
  rw [d0]
  generalize ha1 : a.put (some d) (.pointer (some ⟨B, 0, none⟩)) = a1
  have e1 : a1.eval (.tmp d) = .pointer (some ⟨B, 0, none⟩) := by rw [← ha1]; exact Act.eval_put_same _ _ _ (by omega)
  have s1 : a1.tmps.size = a.tmps.size := by rw [← ha1]; exact Act.size_put _ _ _
  have f1 : a1.defers = a.defers := by rw [← ha1]; exact Act.defers_put' _ _ _
  have k1 : ∀ j, j < d → a1.eval (.tmp j) = a.eval (.tmp j) := fun j hj => by rw [← ha1]; exact Act.eval_put_ne _ _ _ _ (by omega)
  refine still1 (.pointer (some ⟨B, 0, none⟩)) g1 (by unfold execOp; simp only [h1, e1]; rfl) ?_
  rw [d1]
  generalize ha2 : a1.put (some (d + 1)) (.pointer (some ⟨B, 0, none⟩)) = a2
  have e2 : a2.eval (.tmp (d + 1)) = .pointer (some ⟨B, 0, none⟩) := by rw [← ha2]; exact Act.eval_put_same _ _ _ (by omega)
  have s2 : a2.tmps.size = a1.tmps.size := by rw [← ha2]; exact Act.size_put _ _ _
  have f2 : a2.defers = a1.defers := by rw [← ha2]; exact Act.defers_put' _ _ _
  have k2 : ∀ j, j < d → a2.eval (.tmp j) = a1.eval (.tmp j) := fun j hj => by rw [← ha2]; exact Act.eval_put_ne _ _ _ _ (by omega)
  refine still1 (.pointer (some ⟨B, k, none⟩)) g2 (by unfold execOp; simp only [h2, e2, Sem.run_bind, hk, Result.andThen_ok, Sem.run_pure]) ?_
  rw [d2]
  generalize ha3 : a2.put (some (d + 2)) (.pointer (some ⟨B, k, none⟩)) = a3
  have e3 : a3.eval (.tmp (d + 2)) = .pointer (some ⟨B, k, none⟩) := by rw [← ha3]; exact Act.eval_put_same _ _ _ (by omega)
  have s3 : a3.tmps.size = a2.tmps.size := by rw [← ha3]; exact Act.size_put _ _ _
  have f3 : a3.defers = a2.defers := by rw [← ha3]; exact Act.defers_put' _ _ _
  have k3 : ∀ j, j < d → a3.eval (.tmp j) = a2.eval (.tmp j) := fun j hj => by rw [← ha3]; exact Act.eval_put_ne _ _ _ _ (by omega)
  refine still1 (.agg #[.string wd, .pointer (some ⟨B, k, none⟩), .int .i64 lo, .int .i64 hi]) g3 (by
    unfold execOp
    have hb := run_build (P := Tryz.prog) w 153 #[(0, .string wd), (1, .pointer (some ⟨B, k, none⟩)), (2, .int .i64 lo), (3, .int .i64 hi)] _ (built_set wd (some ⟨B, k, none⟩) lo hi)
    have hm : (#[(0, Operand.const (.string wd)), (1, .tmp (d + 2)), (2, .const (.int .i64 lo)), (3, .const (.int .i64 hi))] : Array (Nat × Operand)).map (fun (i, x) => (i, a3.eval x)) = #[(0, .string wd), (1, .pointer (some ⟨B, k, none⟩)), (2, .int .i64 lo), (3, .int .i64 hi)] := by
      simp only [List.map_toArray, List.map_cons, List.map_nil, e3]
      rfl
    simp only [h3, hm, Sem.run_bind, hb, Result.andThen_ok, Sem.run_pure]) ?_
  rw [d3]
  refine hK _ ((Act.size_put _ _ _).trans (s3.trans (s2.trans s1))) ((Act.defers_put' _ _ _).trans (f3.trans (f2.trans f1))) (Act.eval_put_same _ _ _ (by omega)) (fun j hj => ?_)
  rw [Act.eval_put_ne _ _ _ _ (by omega), k3 j hj, k2 j hj, k1 j hj]
theorem fa1 (B : Nat) (w : World) : (Instr.fieldAt 24 (.pointer (some ⟨B, 0, none⟩)) 1).run Tryz.prog w = .ok (.pointer (some ⟨B, 1, none⟩)) w := by kernel_rfl
theorem fa2 (B : Nat) (w : World) : (Instr.fieldAt 24 (.pointer (some ⟨B, 0, none⟩)) 2).run Tryz.prog w = .ok (.pointer (some ⟨B, 2, none⟩)) w := by kernel_rfl
theorem fa3 (B : Nat) (w : World) : (Instr.fieldAt 24 (.pointer (some ⟨B, 0, none⟩)) 3).run Tryz.prog w = .ok (.pointer (some ⟨B, 3, none⟩)) w := by kernel_rfl
theorem fa4 (B : Nat) (w : World) : (Instr.fieldAt 24 (.pointer (some ⟨B, 0, none⟩)) 4).run Tryz.prog w = .ok (.pointer (some ⟨B, 4, none⟩)) w := by kernel_rfl
theorem fa5 (B : Nat) (w : World) : (Instr.fieldAt 24 (.pointer (some ⟨B, 0, none⟩)) 5).run Tryz.prog w = .ok (.pointer (some ⟨B, 5, none⟩)) w := by kernel_rfl
theorem fa6 (B : Nat) (w : World) : (Instr.fieldAt 24 (.pointer (some ⟨B, 0, none⟩)) 6).run Tryz.prog w = .ok (.pointer (some ⟨B, 6, none⟩)) w := by kernel_rfl
theorem fa7 (B : Nat) (w : World) : (Instr.fieldAt 24 (.pointer (some ⟨B, 0, none⟩)) 7).run Tryz.prog w = .ok (.pointer (some ⟨B, 7, none⟩)) w := by kernel_rfl
theorem fa8 (B : Nat) (w : World) : (Instr.fieldAt 24 (.pointer (some ⟨B, 0, none⟩)) 8).run Tryz.prog w = .ok (.pointer (some ⟨B, 8, none⟩)) w := by kernel_rfl
theorem fa9 (B : Nat) (w : World) : (Instr.fieldAt 24 (.pointer (some ⟨B, 0, none⟩)) 9).run Tryz.prog w = .ok (.pointer (some ⟨B, 9, none⟩)) w := by kernel_rfl
theorem fa10 (B : Nat) (w : World) : (Instr.fieldAt 24 (.pointer (some ⟨B, 0, none⟩)) 10).run Tryz.prog w = .ok (.pointer (some ⟨B, 10, none⟩)) w := by kernel_rfl
theorem fa11 (B : Nat) (w : World) : (Instr.fieldAt 24 (.pointer (some ⟨B, 0, none⟩)) 11).run Tryz.prog w = .ok (.pointer (some ⟨B, 11, none⟩)) w := by kernel_rfl
theorem fa12 (B : Nat) (w : World) : (Instr.fieldAt 24 (.pointer (some ⟨B, 0, none⟩)) 12).run Tryz.prog w = .ok (.pointer (some ⟨B, 12, none⟩)) w := by kernel_rfl
theorem fa13 (B : Nat) (w : World) : (Instr.fieldAt 24 (.pointer (some ⟨B, 0, none⟩)) 13).run Tryz.prog w = .ok (.pointer (some ⟨B, 13, none⟩)) w := by kernel_rfl
theorem fa14 (B : Nat) (w : World) : (Instr.fieldAt 24 (.pointer (some ⟨B, 0, none⟩)) 14).run Tryz.prog w = .ok (.pointer (some ⟨B, 14, none⟩)) w := by kernel_rfl
theorem fa15 (B : Nat) (w : World) : (Instr.fieldAt 24 (.pointer (some ⟨B, 0, none⟩)) 15).run Tryz.prog w = .ok (.pointer (some ⟨B, 15, none⟩)) w := by kernel_rfl
theorem fa16 (B : Nat) (w : World) : (Instr.fieldAt 24 (.pointer (some ⟨B, 0, none⟩)) 16).run Tryz.prog w = .ok (.pointer (some ⟨B, 16, none⟩)) w := by kernel_rfl
theorem fa17 (B : Nat) (w : World) : (Instr.fieldAt 24 (.pointer (some ⟨B, 0, none⟩)) 17).run Tryz.prog w = .ok (.pointer (some ⟨B, 17, none⟩)) w := by kernel_rfl
theorem fa18 (B : Nat) (w : World) : (Instr.fieldAt 24 (.pointer (some ⟨B, 0, none⟩)) 18).run Tryz.prog w = .ok (.pointer (some ⟨B, 18, none⟩)) w := by kernel_rfl
theorem fa19 (B : Nat) (w : World) : (Instr.fieldAt 24 (.pointer (some ⟨B, 0, none⟩)) 19).run Tryz.prog w = .ok (.pointer (some ⟨B, 19, none⟩)) w := by kernel_rfl
theorem fa20 (B : Nat) (w : World) : (Instr.fieldAt 24 (.pointer (some ⟨B, 0, none⟩)) 20).run Tryz.prog w = .ok (.pointer (some ⟨B, 20, none⟩)) w := by kernel_rfl
theorem fa21 (B : Nat) (w : World) : (Instr.fieldAt 24 (.pointer (some ⟨B, 0, none⟩)) 21).run Tryz.prog w = .ok (.pointer (some ⟨B, 21, none⟩)) w := by kernel_rfl
set_option maxHeartbeats 8000000 in
set_option maxRecDepth 100000 in
set_option linter.unusedSimpArgs false in
set_option linter.unusedVariables false in
theorem settings_any (w : World) (B : Nat) : Calls Tryz.prog 79 #[.pointer (some ⟨B, 0, none⟩)] w fun e w' => ∃ g, e = .returned (.slice (some ⟨g, 0, none⟩) 21 21) ∧ w'.heap[g]? = some (.cells (setA B) 153) ∧ g = w.heap.size ∧ Below w.heap.size w w' := by
  obtain ⟨i0, hi0, hz0, hz1, hz2⟩ := info_parts infoSet
  go_enter Tryz.func79, Tryz.ntmps79
  go_wp2_with fail
  refine wp_region_still_tail 84 (by kernel_rfl) (by kernel_rfl) ?_
  refine (?key : ∀ a : Act, a.tmps.size = 88 → a.defers = [] → a.eval (.tmp 0) = .pointer (some ⟨B, 0, none⟩) → wpStill _ _ _ _ _ a) _ rfl rfl rfl
  intro a0 s0 f0 p0
  refine set_group 3 1 B ⟨#[114, 101, 112, 108, 105, 99, 97, 115]⟩ 1 16 rfl rfl rfl rfl rfl rfl rfl rfl rfl rfl rfl rfl (by omega) (fa1 B) (by omega) p0 ?_
  intro a1 s f v0 k
  have s1 := s.trans s0
  have f1 := f.trans f0
  have p1 := (k 0 (by omega)).trans p0
  clear s f k
  refine set_group 7 2 B ⟨#[119, 105, 100, 116, 104]⟩ 1 16 rfl rfl rfl rfl rfl rfl rfl rfl rfl rfl rfl rfl (by omega) (fa2 B) (by omega) p1 ?_
  intro a2 s f v1 k
  have s2 := s.trans s1
  have f2 := f.trans f1
  have p2 := (k 0 (by omega)).trans p1
  replace v0 := (k 6 (by omega)).trans v0
  clear s f k
  refine set_group 11 3 B ⟨#[99, 104, 117, 110, 107, 115]⟩ 1 16 rfl rfl rfl rfl rfl rfl rfl rfl rfl rfl rfl rfl (by omega) (fa3 B) (by omega) p2 ?_
  intro a3 s f v2 k
  have s3 := s.trans s2
  have f3 := f.trans f2
  have p3 := (k 0 (by omega)).trans p2
  replace v0 := (k 6 (by omega)).trans v0
  replace v1 := (k 10 (by omega)).trans v1
  clear s f k
  refine set_group 15 4 B ⟨#[114, 101, 116, 97, 105, 110]⟩ 1 8 rfl rfl rfl rfl rfl rfl rfl rfl rfl rfl rfl rfl (by omega) (fa4 B) (by omega) p3 ?_
  intro a4 s f v3 k
  have s4 := s.trans s3
  have f4 := f.trans f3
  have p4 := (k 0 (by omega)).trans p3
  replace v0 := (k 6 (by omega)).trans v0
  replace v1 := (k 10 (by omega)).trans v1
  replace v2 := (k 14 (by omega)).trans v2
  clear s f k
  refine set_group 19 5 B ⟨#[98, 108, 111, 99, 107]⟩ 1 4096 rfl rfl rfl rfl rfl rfl rfl rfl rfl rfl rfl rfl (by omega) (fa5 B) (by omega) p4 ?_
  intro a5 s f v4 k
  have s5 := s.trans s4
  have f5 := f.trans f4
  have p5 := (k 0 (by omega)).trans p4
  replace v0 := (k 6 (by omega)).trans v0
  replace v1 := (k 10 (by omega)).trans v1
  replace v2 := (k 14 (by omega)).trans v2
  replace v3 := (k 18 (by omega)).trans v3
  clear s f k
  refine set_group 23 6 B ⟨#[114, 97, 116, 101]⟩ 1 65536 rfl rfl rfl rfl rfl rfl rfl rfl rfl rfl rfl rfl (by omega) (fa6 B) (by omega) p5 ?_
  intro a6 s f v5 k
  have s6 := s.trans s5
  have f6 := f.trans f5
  have p6 := (k 0 (by omega)).trans p5
  replace v0 := (k 6 (by omega)).trans v0
  replace v1 := (k 10 (by omega)).trans v1
  replace v2 := (k 14 (by omega)).trans v2
  replace v3 := (k 18 (by omega)).trans v3
  replace v4 := (k 22 (by omega)).trans v4
  clear s f k
  refine set_group 27 7 B ⟨#[112, 101, 114]⟩ 1 1024 rfl rfl rfl rfl rfl rfl rfl rfl rfl rfl rfl rfl (by omega) (fa7 B) (by omega) p6 ?_
  intro a7 s f v6 k
  have s7 := s.trans s6
  have f7 := f.trans f6
  have p7 := (k 0 (by omega)).trans p6
  replace v0 := (k 6 (by omega)).trans v0
  replace v1 := (k 10 (by omega)).trans v1
  replace v2 := (k 14 (by omega)).trans v2
  replace v3 := (k 18 (by omega)).trans v3
  replace v4 := (k 22 (by omega)).trans v4
  replace v5 := (k 26 (by omega)).trans v5
  clear s f k
  refine set_group 31 8 B ⟨#[98, 117, 114, 115, 116]⟩ 1 65536 rfl rfl rfl rfl rfl rfl rfl rfl rfl rfl rfl rfl (by omega) (fa8 B) (by omega) p7 ?_
  intro a8 s f v7 k
  have s8 := s.trans s7
  have f8 := f.trans f7
  have p8 := (k 0 (by omega)).trans p7
  replace v0 := (k 6 (by omega)).trans v0
  replace v1 := (k 10 (by omega)).trans v1
  replace v2 := (k 14 (by omega)).trans v2
  replace v3 := (k 18 (by omega)).trans v3
  replace v4 := (k 22 (by omega)).trans v4
  replace v5 := (k 26 (by omega)).trans v5
  replace v6 := (k 30 (by omega)).trans v6
  clear s f k
  refine set_group 35 9 B ⟨#[116, 114, 105, 101, 115]⟩ 1 64 rfl rfl rfl rfl rfl rfl rfl rfl rfl rfl rfl rfl (by omega) (fa9 B) (by omega) p8 ?_
  intro a9 s f v8 k
  have s9 := s.trans s8
  have f9 := f.trans f8
  have p9 := (k 0 (by omega)).trans p8
  replace v0 := (k 6 (by omega)).trans v0
  replace v1 := (k 10 (by omega)).trans v1
  replace v2 := (k 14 (by omega)).trans v2
  replace v3 := (k 18 (by omega)).trans v3
  replace v4 := (k 22 (by omega)).trans v4
  replace v5 := (k 26 (by omega)).trans v5
  replace v6 := (k 30 (by omega)).trans v6
  replace v7 := (k 34 (by omega)).trans v7
  clear s f k
  refine set_group 39 10 B ⟨#[98, 97, 115, 101]⟩ 1 1024 rfl rfl rfl rfl rfl rfl rfl rfl rfl rfl rfl rfl (by omega) (fa10 B) (by omega) p9 ?_
  intro a10 s f v9 k
  have s10 := s.trans s9
  have f10 := f.trans f9
  have p10 := (k 0 (by omega)).trans p9
  replace v0 := (k 6 (by omega)).trans v0
  replace v1 := (k 10 (by omega)).trans v1
  replace v2 := (k 14 (by omega)).trans v2
  replace v3 := (k 18 (by omega)).trans v3
  replace v4 := (k 22 (by omega)).trans v4
  replace v5 := (k 26 (by omega)).trans v5
  replace v6 := (k 30 (by omega)).trans v6
  replace v7 := (k 34 (by omega)).trans v7
  replace v8 := (k 38 (by omega)).trans v8
  clear s f k
  refine set_group 43 11 B ⟨#[109, 111, 115, 116]⟩ 1 1024 rfl rfl rfl rfl rfl rfl rfl rfl rfl rfl rfl rfl (by omega) (fa11 B) (by omega) p10 ?_
  intro a11 s f v10 k
  have s11 := s.trans s10
  have f11 := f.trans f10
  have p11 := (k 0 (by omega)).trans p10
  replace v0 := (k 6 (by omega)).trans v0
  replace v1 := (k 10 (by omega)).trans v1
  replace v2 := (k 14 (by omega)).trans v2
  replace v3 := (k 18 (by omega)).trans v3
  replace v4 := (k 22 (by omega)).trans v4
  replace v5 := (k 26 (by omega)).trans v5
  replace v6 := (k 30 (by omega)).trans v6
  replace v7 := (k 34 (by omega)).trans v7
  replace v8 := (k 38 (by omega)).trans v8
  replace v9 := (k 42 (by omega)).trans v9
  clear s f k
  refine set_group 47 12 B ⟨#[113, 117, 111, 116, 97]⟩ 1 1073741824 rfl rfl rfl rfl rfl rfl rfl rfl rfl rfl rfl rfl (by omega) (fa12 B) (by omega) p11 ?_
  intro a12 s f v11 k
  have s12 := s.trans s11
  have f12 := f.trans f11
  have p12 := (k 0 (by omega)).trans p11
  replace v0 := (k 6 (by omega)).trans v0
  replace v1 := (k 10 (by omega)).trans v1
  replace v2 := (k 14 (by omega)).trans v2
  replace v3 := (k 18 (by omega)).trans v3
  replace v4 := (k 22 (by omega)).trans v4
  replace v5 := (k 26 (by omega)).trans v5
  replace v6 := (k 30 (by omega)).trans v6
  replace v7 := (k 34 (by omega)).trans v7
  replace v8 := (k 38 (by omega)).trans v8
  replace v9 := (k 42 (by omega)).trans v9
  replace v10 := (k 46 (by omega)).trans v10
  clear s f k
  refine set_group 51 13 B ⟨#[114, 111, 111, 109]⟩ 1 1073741824 rfl rfl rfl rfl rfl rfl rfl rfl rfl rfl rfl rfl (by omega) (fa13 B) (by omega) p12 ?_
  intro a13 s f v12 k
  have s13 := s.trans s12
  have f13 := f.trans f12
  have p13 := (k 0 (by omega)).trans p12
  replace v0 := (k 6 (by omega)).trans v0
  replace v1 := (k 10 (by omega)).trans v1
  replace v2 := (k 14 (by omega)).trans v2
  replace v3 := (k 18 (by omega)).trans v3
  replace v4 := (k 22 (by omega)).trans v4
  replace v5 := (k 26 (by omega)).trans v5
  replace v6 := (k 30 (by omega)).trans v6
  replace v7 := (k 34 (by omega)).trans v7
  replace v8 := (k 38 (by omega)).trans v8
  replace v9 := (k 42 (by omega)).trans v9
  replace v10 := (k 46 (by omega)).trans v10
  replace v11 := (k 50 (by omega)).trans v11
  clear s f k
  refine set_group 55 14 B ⟨#[100, 101, 112, 111, 116]⟩ 1 1073741824 rfl rfl rfl rfl rfl rfl rfl rfl rfl rfl rfl rfl (by omega) (fa14 B) (by omega) p13 ?_
  intro a14 s f v13 k
  have s14 := s.trans s13
  have f14 := f.trans f13
  have p14 := (k 0 (by omega)).trans p13
  replace v0 := (k 6 (by omega)).trans v0
  replace v1 := (k 10 (by omega)).trans v1
  replace v2 := (k 14 (by omega)).trans v2
  replace v3 := (k 18 (by omega)).trans v3
  replace v4 := (k 22 (by omega)).trans v4
  replace v5 := (k 26 (by omega)).trans v5
  replace v6 := (k 30 (by omega)).trans v6
  replace v7 := (k 34 (by omega)).trans v7
  replace v8 := (k 38 (by omega)).trans v8
  replace v9 := (k 42 (by omega)).trans v9
  replace v10 := (k 46 (by omega)).trans v10
  replace v11 := (k 50 (by omega)).trans v11
  replace v12 := (k 54 (by omega)).trans v12
  clear s f k
  refine set_group 59 15 B ⟨#[114, 101, 115, 101, 110, 100]⟩ 1 1024 rfl rfl rfl rfl rfl rfl rfl rfl rfl rfl rfl rfl (by omega) (fa15 B) (by omega) p14 ?_
  intro a15 s f v14 k
  have s15 := s.trans s14
  have f15 := f.trans f14
  have p15 := (k 0 (by omega)).trans p14
  replace v0 := (k 6 (by omega)).trans v0
  replace v1 := (k 10 (by omega)).trans v1
  replace v2 := (k 14 (by omega)).trans v2
  replace v3 := (k 18 (by omega)).trans v3
  replace v4 := (k 22 (by omega)).trans v4
  replace v5 := (k 26 (by omega)).trans v5
  replace v6 := (k 30 (by omega)).trans v6
  replace v7 := (k 34 (by omega)).trans v7
  replace v8 := (k 38 (by omega)).trans v8
  replace v9 := (k 42 (by omega)).trans v9
  replace v10 := (k 46 (by omega)).trans v10
  replace v11 := (k 50 (by omega)).trans v11
  replace v12 := (k 54 (by omega)).trans v12
  replace v13 := (k 58 (by omega)).trans v13
  clear s f k
  refine set_group 63 16 B ⟨#[108, 105, 109, 105, 116]⟩ 1 64 rfl rfl rfl rfl rfl rfl rfl rfl rfl rfl rfl rfl (by omega) (fa16 B) (by omega) p15 ?_
  intro a16 s f v15 k
  have s16 := s.trans s15
  have f16 := f.trans f15
  have p16 := (k 0 (by omega)).trans p15
  replace v0 := (k 6 (by omega)).trans v0
  replace v1 := (k 10 (by omega)).trans v1
  replace v2 := (k 14 (by omega)).trans v2
  replace v3 := (k 18 (by omega)).trans v3
  replace v4 := (k 22 (by omega)).trans v4
  replace v5 := (k 26 (by omega)).trans v5
  replace v6 := (k 30 (by omega)).trans v6
  replace v7 := (k 34 (by omega)).trans v7
  replace v8 := (k 38 (by omega)).trans v8
  replace v9 := (k 42 (by omega)).trans v9
  replace v10 := (k 46 (by omega)).trans v10
  replace v11 := (k 50 (by omega)).trans v11
  replace v12 := (k 54 (by omega)).trans v12
  replace v13 := (k 58 (by omega)).trans v13
  replace v14 := (k 62 (by omega)).trans v14
  clear s f k
  refine set_group 67 17 B ⟨#[112, 97, 116, 105, 101, 110, 99, 101]⟩ 1 65536 rfl rfl rfl rfl rfl rfl rfl rfl rfl rfl rfl rfl (by omega) (fa17 B) (by omega) p16 ?_
  intro a17 s f v16 k
  have s17 := s.trans s16
  have f17 := f.trans f16
  have p17 := (k 0 (by omega)).trans p16
  replace v0 := (k 6 (by omega)).trans v0
  replace v1 := (k 10 (by omega)).trans v1
  replace v2 := (k 14 (by omega)).trans v2
  replace v3 := (k 18 (by omega)).trans v3
  replace v4 := (k 22 (by omega)).trans v4
  replace v5 := (k 26 (by omega)).trans v5
  replace v6 := (k 30 (by omega)).trans v6
  replace v7 := (k 34 (by omega)).trans v7
  replace v8 := (k 38 (by omega)).trans v8
  replace v9 := (k 42 (by omega)).trans v9
  replace v10 := (k 46 (by omega)).trans v10
  replace v11 := (k 50 (by omega)).trans v11
  replace v12 := (k 54 (by omega)).trans v12
  replace v13 := (k 58 (by omega)).trans v13
  replace v14 := (k 62 (by omega)).trans v14
  replace v15 := (k 66 (by omega)).trans v15
  clear s f k
  refine set_group 71 18 B ⟨#[103, 101, 116, 119, 97, 105, 116]⟩ 1 1024 rfl rfl rfl rfl rfl rfl rfl rfl rfl rfl rfl rfl (by omega) (fa18 B) (by omega) p17 ?_
  intro a18 s f v17 k
  have s18 := s.trans s17
  have f18 := f.trans f17
  have p18 := (k 0 (by omega)).trans p17
  replace v0 := (k 6 (by omega)).trans v0
  replace v1 := (k 10 (by omega)).trans v1
  replace v2 := (k 14 (by omega)).trans v2
  replace v3 := (k 18 (by omega)).trans v3
  replace v4 := (k 22 (by omega)).trans v4
  replace v5 := (k 26 (by omega)).trans v5
  replace v6 := (k 30 (by omega)).trans v6
  replace v7 := (k 34 (by omega)).trans v7
  replace v8 := (k 38 (by omega)).trans v8
  replace v9 := (k 42 (by omega)).trans v9
  replace v10 := (k 46 (by omega)).trans v10
  replace v11 := (k 50 (by omega)).trans v11
  replace v12 := (k 54 (by omega)).trans v12
  replace v13 := (k 58 (by omega)).trans v13
  replace v14 := (k 62 (by omega)).trans v14
  replace v15 := (k 66 (by omega)).trans v15
  replace v16 := (k 70 (by omega)).trans v16
  clear s f k
  refine set_group 75 19 B ⟨#[115, 116, 114, 105, 107, 101, 115]⟩ 1 64 rfl rfl rfl rfl rfl rfl rfl rfl rfl rfl rfl rfl (by omega) (fa19 B) (by omega) p18 ?_
  intro a19 s f v18 k
  have s19 := s.trans s18
  have f19 := f.trans f18
  have p19 := (k 0 (by omega)).trans p18
  replace v0 := (k 6 (by omega)).trans v0
  replace v1 := (k 10 (by omega)).trans v1
  replace v2 := (k 14 (by omega)).trans v2
  replace v3 := (k 18 (by omega)).trans v3
  replace v4 := (k 22 (by omega)).trans v4
  replace v5 := (k 26 (by omega)).trans v5
  replace v6 := (k 30 (by omega)).trans v6
  replace v7 := (k 34 (by omega)).trans v7
  replace v8 := (k 38 (by omega)).trans v8
  replace v9 := (k 42 (by omega)).trans v9
  replace v10 := (k 46 (by omega)).trans v10
  replace v11 := (k 50 (by omega)).trans v11
  replace v12 := (k 54 (by omega)).trans v12
  replace v13 := (k 58 (by omega)).trans v13
  replace v14 := (k 62 (by omega)).trans v14
  replace v15 := (k 66 (by omega)).trans v15
  replace v16 := (k 70 (by omega)).trans v16
  replace v17 := (k 74 (by omega)).trans v17
  clear s f k
  refine set_group 79 20 B ⟨#[98, 97, 110]⟩ 1 1024 rfl rfl rfl rfl rfl rfl rfl rfl rfl rfl rfl rfl (by omega) (fa20 B) (by omega) p19 ?_
  intro a20 s f v19 k
  have s20 := s.trans s19
  have f20 := f.trans f19
  have p20 := (k 0 (by omega)).trans p19
  replace v0 := (k 6 (by omega)).trans v0
  replace v1 := (k 10 (by omega)).trans v1
  replace v2 := (k 14 (by omega)).trans v2
  replace v3 := (k 18 (by omega)).trans v3
  replace v4 := (k 22 (by omega)).trans v4
  replace v5 := (k 26 (by omega)).trans v5
  replace v6 := (k 30 (by omega)).trans v6
  replace v7 := (k 34 (by omega)).trans v7
  replace v8 := (k 38 (by omega)).trans v8
  replace v9 := (k 42 (by omega)).trans v9
  replace v10 := (k 46 (by omega)).trans v10
  replace v11 := (k 50 (by omega)).trans v11
  replace v12 := (k 54 (by omega)).trans v12
  replace v13 := (k 58 (by omega)).trans v13
  replace v14 := (k 62 (by omega)).trans v14
  replace v15 := (k 66 (by omega)).trans v15
  replace v16 := (k 70 (by omega)).trans v16
  replace v17 := (k 74 (by omega)).trans v17
  replace v18 := (k 78 (by omega)).trans v18
  clear s f k
  refine set_group 83 21 B ⟨#[104, 111, 109, 101]⟩ 0 7 rfl rfl rfl rfl rfl rfl rfl rfl rfl rfl rfl rfl (by omega) (fa21 B) (by omega) p20 ?_
  intro a21 s f v20 k
  have s21 := s.trans s20
  have f21 := f.trans f20
  have p21 := (k 0 (by omega)).trans p20
  replace v0 := (k 6 (by omega)).trans v0
  replace v1 := (k 10 (by omega)).trans v1
  replace v2 := (k 14 (by omega)).trans v2
  replace v3 := (k 18 (by omega)).trans v3
  replace v4 := (k 22 (by omega)).trans v4
  replace v5 := (k 26 (by omega)).trans v5
  replace v6 := (k 30 (by omega)).trans v6
  replace v7 := (k 34 (by omega)).trans v7
  replace v8 := (k 38 (by omega)).trans v8
  replace v9 := (k 42 (by omega)).trans v9
  replace v10 := (k 46 (by omega)).trans v10
  replace v11 := (k 50 (by omega)).trans v11
  replace v12 := (k 54 (by omega)).trans v12
  replace v13 := (k 58 (by omega)).trans v13
  replace v14 := (k 62 (by omega)).trans v14
  replace v15 := (k 66 (by omega)).trans v15
  replace v16 := (k 70 (by omega)).trans v16
  replace v17 := (k 74 (by omega)).trans v17
  replace v18 := (k 78 (by omega)).trans v18
  replace v19 := (k 82 (by omega)).trans v19
  clear s f k
  refine wpStill_nil ?_
  refine wpList_buildSlice rfl 148 153 21 _ rfl (setA B) i0 _ Tryz.underlying148 hi0 hz0 (by rw [hz1]; decide) (by rw [hz1]; decide) ?hf ?_
  case hf =>
    rw [hz1]
    simp only [List.map_toArray, List.map_cons, List.map_nil, v0, v1, v2, v3, v4, v5, v6, v7, v8, v9, v10, v11, v12, v13, v14, v15, v16, v17, v18, v19, v20]
    exact fill_set B _ rfl
  generalize hb : a21.put (some 87) (.slice (some ⟨_, 0, none⟩) 21 21) = b
  have b87 : b.eval (.tmp 87) = .slice (some ⟨w.heap.size, 0, none⟩) 21 21 := by rw [← hb]; exact Act.eval_put_same _ _ _ (by omega)
  have bs : b.tmps.size = 88 := by rw [← hb, Act.size_put]; exact s21
  have bf : b.defers = [] := by rw [← hb, Act.defers_put']; exact f21
  clear hb
  have B87 := hide b87
  go_wp2_with fail
  go_ret
  refine ⟨w.heap.size, ?_, heap_last w _, rfl, ((Below.refl _ w).alloc (Nat.le_refl _) _).drew⟩
  refine congrArg Ending.returned ((set_getD (by rw [bs]; omega)).trans ?_)
  exact eval_idx B87.out (by rw [bs]; omega)
end Go.Proofs.YtndfhpfhgdamgaaGreatDoor
namespace Go.Proofs.YtndfhpfhgdamgaaGreatDoor
open Go.RowKit
/-- is a setting within its limits? -/
def sfAt (x : Nat → Int) (i : Nat) : Bool := decide (loS i ≤ x i) && decide (x i ≤ hiS i)
def sfP (x : Nat → Int) : Bool := (List.range 21).all (sfAt x) && (decide (x 4 ≤ x 7) && decide (x 9 ≤ x 10))
theorem range_step {f : Nat → Bool} {q : Nat} (h : (List.range q).all f = true) (hq : f q = true) : (List.range (q + 1)).all f = true := by
  rw [List.range_succ, List.all_append, h]
  simp [hq]
theorem range_no {f : Nat → Bool} {q n : Nat} (h : q < n) (hq : f q = false) : (List.range n).all f = false := List.all_eq_false.2 ⟨q, List.mem_range.2 h, by rw [hq]; simp⟩
/-- a setting in memory -/
def StAt (w : World) (b : Nat) (s : ByteArray) (p : Option Addr) (l h : Int) : Prop := w.heap[b]? = some (.cells #[.string s, .pointer p, .int .i64 l, .int .i64 h] 153)
theorem StAt.c1 {w : World} {b : Nat} {s : ByteArray} {p : Option Addr} {l h : Int} (k : StAt w b s p l h) : w.cell? ⟨b, 1, none⟩ = some (.pointer p) := by unfold World.cell?; rw [show w.heap[b]? = _ from k]; rfl
theorem StAt.c2 {w : World} {b : Nat} {s : ByteArray} {p : Option Addr} {l h : Int} (k : StAt w b s p l h) : w.cell? ⟨b, 2, none⟩ = some (.int .i64 l) := by unfold World.cell?; rw [show w.heap[b]? = _ from k]; rfl
theorem StAt.c3 {w : World} {b : Nat} {s : ByteArray} {p : Option Addr} {l h : Int} (k : StAt w b s p l h) : w.cell? ⟨b, 3, none⟩ = some (.int .i64 h) := by unfold World.cell?; rw [show w.heap[b]? = _ from k]; rfl
theorem set_cell {w : World} {g B : Nat} (h : w.heap[g]? = some (.cells (setA B) 153)) (k : Nat) : w.cell? ⟨g, k, none⟩ = (setA B)[k]? := by
  unfold World.cell?
  rw [h]
  rfl
set_option maxHeartbeats 8000000 in
set_option maxRecDepth 100000 in
set_option linter.unusedSimpArgs false in
set_option linter.unusedVariables false in
theorem settingsFit_any (w : World) (st : ByteArray) (x : Nat → Int) (nv : Value) :
    Calls Tryz.prog 58 #[.agg (clA st x nv)] w fun e w' => e = .returned (.bool (sfP x)) ∧ Below w.heap.size w w' := by
  obtain ⟨W0, hW0⟩ : ∃ W0, W0 = w.alloc (.cells (clA st x nv) 24) := ⟨_, rfl⟩
  have C0 : Hid (ClAt W0 w.heap.size st x nv) := by rw [hW0]; exact new_cl _ _ _ _
  have B0 : Hid (Below w.heap.size w W0) := by rw [hW0]; exact (Below.refl _ _).alloc (Nat.le_refl _) _
  have SE := hide (settings_any W0 w.heap.size)
  go_enter Tryz.func58, Tryz.ntmps58
  go_wp2_with fail
  rw [← hW0]
  clear hW0
  refine Calls.mono SE.out ?_
  rintro e W1 ⟨g, rfl, hg, hgs, hb⟩
  have C1 := hide (C0.out.below hb)
  have G1 := hide hg
  have B1 := hide (B0.out.trans (hb.mono B0.out.size))
  clear hg hgs hb SE C0 B0
  go_wp2_with fail
  go_loopw [7] (fun vi wr => ∃ (q : Nat), q ≤ 21 ∧ vi = .int .i64 (q : Int) ∧ Hid ((List.range q).all (sfAt x) = true) ∧ Below W1.heap.size W1 wr) (fun vi _ => 21 - (intOf vi).toNat)
  case atStart => exact ⟨0, Nat.zero_le _, rfl, rfl, Below.refl _ _⟩
  case round =>
    obtain ⟨q, hq, rfl, hA, hB⟩ := hrel
    have HB := hide hB
    clear hB
    by_cases hql : q < 21
    case pos =>
      have hqi : (q : Int) < 21 := by omega
      obtain ⟨⟨s, c0⟩, c1, c2, c3⟩ := setA_at w.heap.size q hql
      have G2 : wr.heap[g]? = some (.cells (setA w.heap.size) 153) := (HB.out.block _ (blk_lt G1.out)).trans G1.out
      have d0 := (set_cell G2 (q * 4)).trans c0
      have d1 := (set_cell G2 (q * 4 + 1)).trans c1
      have d2 := (set_cell G2 (q * 4 + 2)).trans c2
      have d3 := (set_cell G2 (q * 4 + 3)).trans c3
      clear c0 c1 c2 c3 G2
      have HT := hide (range_step hA.out)
      have HF := hide (range_no (f := sfAt x) hql)
      have hz : Hid (sfAt x q = (decide (loS q ≤ x q) && decide (x q ≤ hiS q))) := rfl
      obtain ⟨W2, hW2⟩ : ∃ W2, W2 = wr.alloc (.cells #[.string s, .pointer (some ⟨w.heap.size, q + 1, none⟩), .int .i64 (loS q), .int .i64 (hiS q)] 153) := ⟨_, rfl⟩
      have S2 : Hid (StAt W2 wr.heap.size s (some ⟨w.heap.size, q + 1, none⟩) (loS q) (hiS q)) := by rw [hW2]; exact heap_last _ _
      have BB : Hid (Below W1.heap.size W1 W2) := by rw [hW2]; exact HB.out.alloc HB.out.size _
      have xv : Hid (W2.cell? ⟨w.heap.size, q + 1, none⟩ = some (.int .i64 (x q))) := (C1.out.below BB.out).x q hql
      generalize loS q = l at *
      generalize hiS q = hh at *
      generalize x q = v at *
      by_cases v1 : v < l
      · have HZ := hide (HF.out (by rw [hz.out, decide_eq_false (by omega)]; rfl))
        have v1' : decide (v < l) = true := decide_eq_true v1
        go_wp2_with fail
        rw [← hW2]
        clear hW2 d0 d1 d2 d3
        have t1 := S2.out.c1
        have t2 := S2.out.c2
        have t3 := S2.out.c3
        have t4 := xv.out
        go_quiet (fail)
        replace BB : Hid (Below W1.heap.size W1 (W2.drewN nq)) := BB.out.trans ⟨rfl, rfl, rfl, Nat.le_refl _, fun _ _ => rfl⟩
        generalize W2.drewN nq = W3 at *
        clear t1 t2 t3 t4 S2 xv
        go_wp2_with fail
        go_ret
        exact ⟨ret_bool (by unfold sfP; rw [HZ.out]; rfl), B1.out.trans (BB.out.mono B1.out.size)⟩
      have v1' : decide (v < l) = false := decide_eq_false v1
      by_cases v2 : hh < v
      · have HZ := hide (HF.out (by rw [hz.out, decide_eq_false (by omega : ¬ v ≤ hh), Bool.and_false]))
        have v2' : decide (hh < v) = true := decide_eq_true v2
        go_wp2_with fail
        rw [← hW2]
        clear hW2 d0 d1 d2 d3
        have t1 := S2.out.c1
        have t2 := S2.out.c2
        have t3 := S2.out.c3
        have t4 := xv.out
        go_quiet (fail)
        replace BB : Hid (Below W1.heap.size W1 (W2.drewN nq)) := BB.out.trans ⟨rfl, rfl, rfl, Nat.le_refl _, fun _ _ => rfl⟩
        generalize W2.drewN nq = W3 at *
        clear t1 t2 t3 t4 S2 xv
        go_wp2_with fail
        go_ret
        exact ⟨ret_bool (by unfold sfP; rw [HZ.out]; rfl), B1.out.trans (BB.out.mono B1.out.size)⟩
      · have HZ := hide (HT.out (by rw [hz.out, decide_eq_true (by omega), decide_eq_true (by omega)]; rfl))
        have v2' : decide (hh < v) = false := decide_eq_false v2
        go_wp2_with fail
        rw [← hW2]
        clear hW2 d0 d1 d2 d3
        have t1 := S2.out.c1
        have t2 := S2.out.c2
        have t3 := S2.out.c3
        have t4 := xv.out
        go_quiet (fail)
        replace BB : Hid (Below W1.heap.size W1 (W2.drewN nq)) := BB.out.trans ⟨rfl, rfl, rfl, Nat.le_refl _, fun _ _ => rfl⟩
        generalize W2.drewN nq = W3 at *
        clear t1 t2 t3 t4 S2 xv
        go_wp2_with fail
        go_roundw
        case rel => exact ⟨q + 1, by omega, by go_num, HZ.out, BB.out⟩
        case measure => simp [intOf]; omega
    case neg =>
      obtain rfl : q = 21 := by omega
      have CW := C1.out.below HB.out
      have y4 := CW.x4
      have y7 := CW.x7
      have y9 := CW.x9
      have y10 := CW.x10
      have HZ : Hid (sfP x = (decide (x 4 ≤ x 7) && decide (x 9 ≤ x 10))) := by
        show sfP x = _
        unfold sfP
        rw [hA.out, Bool.true_and]
      clear CW hA
      generalize x 4 = z4 at *
      generalize x 7 = z7 at *
      generalize x 9 = z9 at *
      generalize x 10 = z10 at *
      by_cases k1 : z4 ≤ z7
      · have k1' : decide (z4 ≤ z7) = true := decide_eq_true k1
        go_wp2_with fail
        go_ret
        exact ⟨ret_bool (by rw [HZ.out, k1']; rfl), B1.out.trans (HB.out.mono B1.out.size)⟩
      · have k1' : decide (z4 ≤ z7) = false := decide_eq_false k1
        go_wp2_with fail
        go_ret
        exact ⟨ret_bool (by rw [HZ.out, k1']; rfl), B1.out.trans (HB.out.mono B1.out.size)⟩
end Go.Proofs.YtndfhpfhgdamgaaGreatDoor
