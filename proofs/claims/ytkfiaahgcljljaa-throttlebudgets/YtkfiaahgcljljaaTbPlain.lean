import Derived.Test.YtkfiaahgcljljaaTbLocks
import Derived.Conc.MuLone
import Derived.WalkKit
import Derived.WalkSpells
import Derived.WalkLawsBesides
import Derived.Laws.OwnMore
import Derived.Below
import Derived.Lib.MinMax
import Derived.Deep.RegionHeld3
import Derived.Deep.QuietTactic
import Derived.BigQuiet
import Derived.Deep.DeepCutAuto
namespace Go.Proofs.Ytkfiaahgcljljaa
open Go.RowKit
theorem hide {p : Prop} (h : p) : Hid p := h
theorem i64_in {x : Int} (h0 : -9223372036854775808 ≤ x) (h1 : x < 9223372036854775808) : IntKind.i64.wrap x = x := by
  simp [IntKind.wrap, IntKind.signed, IntKind.bits]; omega
theorem blk_lt {w : World} {b : Nat} {o : Obj} (h : w.heap[b]? = some o) : b < w.heap.size := (Array.getElem?_eq_some_iff.1 h).1
theorem heap_last (w : World) (o : Obj) : (w.alloc o).heap[w.heap.size]? = some o := by
  unfold World.alloc
  exact Array.getElem?_push_size
theorem heap_setCell (w : World) (b o : Nat) (v : Value) (c : Array Value) (t : TypeId) (fr : Nat × Nat) (h : w.heap[b]? = some (.cells c t fr)) : (w.setCell ⟨b, o, none⟩ v).heap[b]? = some (.cells (c.setIfInBounds o v) t fr) := by
  simp only [World.setCell, Array.getElem?_modify, if_true, h, Option.map_some]
  rfl
theorem grown_refl (w : World) (r : Option Nat) : w.grownBy w r := ⟨rfl, rfl, rfl, Nat.le_refl _, fun _ _ _ => rfl⟩
theorem grown_set {w w' : World} {R j : Nat} (h : w.grownBy w' (some R)) (v : Value) : w.grownBy (w'.setCell ⟨R, j, none⟩ v) (some R) := ⟨h.os, h.tape, h.output, by rw [World.size_setCell]; exact h.size, fun i hi hn => (Below.heap_setCell _ _ _ i (fun e => hn (by rw [e]))).trans (h.block i hi hn)⟩
theorem grown_drew {w w' : World} {r : Option Nat} (h : w.grownBy w' r) : w.grownBy w'.drew r := ⟨h.os, h.tape, h.output, h.size, h.block⟩
theorem grown_n0 {w w' : World} {R n₀ : Nat} (h : w.grownBy w' (some R)) (h1 : n₀ ≤ R) (h2 : R < w.heap.size) : Below n₀ w w' := ⟨h.os, h.tape, h.output, h.size, fun i hi => h.block i (by omega) (fun e => by cases e; omega)⟩
/-- a bucket in memory: rate, per, burst, parts; its lock is free -/
def BkAt (w : World) (R : Nat) (r p c k : Int) : Prop := w.heap[R]? = some (.cells #[.int .i64 r, .int .i64 p, .int .i64 c, .int .i32 0, .int .u32 0, .int .i64 k] 80)
theorem BkAt.c0 {w : World} {R : Nat} {r p c k : Int} (h : BkAt w R r p c k) : w.cell? ⟨R, 0, none⟩ = some (.int .i64 r) := by unfold World.cell?; rw [h]; rfl
theorem BkAt.c1 {w : World} {R : Nat} {r p c k : Int} (h : BkAt w R r p c k) : w.cell? ⟨R, 1, none⟩ = some (.int .i64 p) := by unfold World.cell?; rw [h]; rfl
theorem BkAt.c2 {w : World} {R : Nat} {r p c k : Int} (h : BkAt w R r p c k) : w.cell? ⟨R, 2, none⟩ = some (.int .i64 c) := by unfold World.cell?; rw [h]; rfl
theorem BkAt.c3 {w : World} {R : Nat} {r p c k : Int} (h : BkAt w R r p c k) : w.cell? ⟨R, 3, none⟩ = some (.int .i32 0) := by unfold World.cell?; rw [h]; rfl
theorem BkAt.c5 {w : World} {R : Nat} {r p c k : Int} (h : BkAt w R r p c k) : w.cell? ⟨R, 5, none⟩ = some (.int .i64 k) := by unfold World.cell?; rw [h]; rfl
theorem BkAt.fz {w : World} {R : Nat} {r p c k : Int} (h : BkAt w R r p c k) (j : Nat) : w.frozen? ⟨R, j, none⟩ = false := by unfold World.frozen?; rw [h]; simp
/-- a bucket whose lock is held -/
def BkIn (w : World) (R : Nat) (r p c k : Int) : Prop := w.heap[R]? = some (.cells #[.int .i64 r, .int .i64 p, .int .i64 c, .int .i32 1, .int .u32 0, .int .i64 k] 80)
theorem BkIn.c0 {w : World} {R : Nat} {r p c k : Int} (h : BkIn w R r p c k) : w.cell? ⟨R, 0, none⟩ = some (.int .i64 r) := by unfold World.cell?; rw [h]; rfl
theorem BkIn.c1 {w : World} {R : Nat} {r p c k : Int} (h : BkIn w R r p c k) : w.cell? ⟨R, 1, none⟩ = some (.int .i64 p) := by unfold World.cell?; rw [h]; rfl
theorem BkIn.c2 {w : World} {R : Nat} {r p c k : Int} (h : BkIn w R r p c k) : w.cell? ⟨R, 2, none⟩ = some (.int .i64 c) := by unfold World.cell?; rw [h]; rfl
theorem BkIn.c3 {w : World} {R : Nat} {r p c k : Int} (h : BkIn w R r p c k) : w.cell? ⟨R, 3, none⟩ = some (.int .i32 1) := by unfold World.cell?; rw [h]; rfl
theorem BkIn.c5 {w : World} {R : Nat} {r p c k : Int} (h : BkIn w R r p c k) : w.cell? ⟨R, 5, none⟩ = some (.int .i64 k) := by unfold World.cell?; rw [h]; rfl
theorem BkIn.fz {w : World} {R : Nat} {r p c k : Int} (h : BkIn w R r p c k) (j : Nat) : w.frozen? ⟨R, j, none⟩ = false := by unfold World.frozen?; rw [h]; simp
theorem BkAt.lock {w : World} {R : Nat} {r p c k : Int} (h : BkAt w R r p c k) : BkIn (w.setCell ⟨R, 3, none⟩ (.int .i32 1)) R r p c k := heap_setCell _ _ _ _ _ _ _ h
theorem BkIn.free {w : World} {R : Nat} {r p c k : Int} (h : BkIn w R r p c k) : BkAt (w.setCell ⟨R, 3, none⟩ (.int .i32 0)) R r p c k := heap_setCell _ _ _ _ _ _ _ h
theorem BkIn.set {w : World} {R : Nat} {r p c k : Int} (h : BkIn w R r p c k) (k' : Int) : BkIn (w.setCell ⟨R, 5, none⟩ (.int .i64 k')) R r p c k' := heap_setCell _ _ _ _ _ _ _ h
theorem BkIn.drew {w : World} {R : Nat} {r p c k : Int} (h : BkIn w R r p c k) : BkIn w.drew R r p c k := h
theorem BkAt.drew {w : World} {R : Nat} {r p c k : Int} (h : BkAt w R r p c k) : BkAt w.drew R r p c k := h
theorem BkAt.below {w w' : World} {R : Nat} {r p c k : Int} (h : BkAt w R r p c k) (hb : Below w.heap.size w w') : BkAt w' R r p c k := (hb.block _ (blk_lt h)).trans h
/-- another bucket's call leaves this one -/
theorem BkAt.other {w w' : World} {R Q : Nat} {r p c k : Int} (h : BkAt w R r p c k) (hb : w.grownBy w' (some Q)) (hq : R ≠ Q) : BkAt w' R r p c k := (hb.block _ (blk_lt h) (fun e => hq (by cases e; rfl))).trans h
set_option maxHeartbeats 4000000 in
set_option maxRecDepth 100000 in
theorem within_any (n a b : Int) (w : World) : Calls Try.prog 26 #[.int .i64 n, .int .i64 a, .int .i64 b] w fun e w' => e = .returned (.bool (decide (a ≤ n) && decide (n ≤ b))) ∧ w = w' := by
  by_cases h1 : a ≤ n
  · go_enter Try.func26, Try.ntmps26
    go_wp2_with fail
    go_ret
    exact ⟨by simp [h1], rfl⟩
  · go_enter Try.func26, Try.ntmps26
    go_wp2_with fail
    go_ret
    exact ⟨by simp; omega, rfl⟩
set_option maxHeartbeats 4000000 in
set_option maxRecDepth 100000 in
theorem none_nil (w : World) : Calls Try.prog 29 #[.pointer none] w fun e w' => e = .returned (.bool true) ∧ w = w' := by
  go_enter Try.func29, Try.ntmps29
  go_wp2_with fail
  go_ret
  exact ⟨rfl, rfl⟩
set_option maxHeartbeats 4000000 in
set_option maxRecDepth 100000 in
theorem none_any (w : World) (R : Nat) (r p c k : Int) (h : BkAt w R r p c k) (hr : 1 ≤ r) : Calls Try.prog 29 #[.pointer (some ⟨R, 0, none⟩)] w fun e w' => e = .returned (.bool false) ∧ w = w' := by
  have c0 := h.c0
  have hr0 : (r == 0) = false := by simp; omega
  go_enter Try.func29, Try.ntmps29
  go_wp2_with fail
  go_ret
  exact ⟨rfl, rfl⟩
/-- a bucket as it may be -/
structure Fits (r p c k : Int) : Prop where
  r1 : 1 ≤ r
  r2 : r ≤ 65536
  p1 : 1 ≤ p
  p2 : p ≤ 1024
  c1 : 1 ≤ c
  c2 : c ≤ 65536
  k1 : 0 ≤ k
  k2 : k ≤ c * p
theorem mul_in {a b A B : Int} (h0 : 0 ≤ a) (h1 : a ≤ A) (k0 : 0 ≤ b) (k1 : b ≤ B) : 0 ≤ a * b ∧ a * b ≤ A * B := ⟨Int.mul_nonneg h0 k0, Int.mul_le_mul h1 k1 k0 (by omega)⟩
theorem Fits.cp {r p c k : Int} (h : Fits r p c k) : 1 ≤ c * p ∧ c * p ≤ 67108864 := by
  have h1 := mul_in (A := 65536) (B := 1024) (by have := h.c1; omega) h.c2 (by have := h.p1; omega) h.p2
  have h2 : 0 < c * p := Int.mul_pos (by have := h.c1; omega) (by have := h.p1; omega)
  omega
/-- what Tick leaves -/
def tickP (r p c k n : Int) : Int := min (k + n * r) (c * p)
theorem Fits.tick {r p c k : Int} (h : Fits r p c k) {n : Int} (hn : 0 ≤ n) : Fits r p c (tickP r p c k n) := by
  obtain ⟨h1, h2, h3, h4, h5, h6, h7, h8⟩ := h
  have := Int.mul_nonneg hn (show 0 ≤ r by omega)
  exact ⟨h1, h2, h3, h4, h5, h6, by unfold tickP; omega, by unfold tickP; omega⟩
theorem Fits.full {r p c : Int} (h1 : 1 ≤ r) (h2 : r ≤ 65536) (h3 : 1 ≤ p) (h4 : p ≤ 1024) (h5 : 1 ≤ c) (h6 : c ≤ 65536) : Fits r p c (c * p) :=
  ⟨h1, h2, h3, h4, h5, h6, Int.mul_nonneg (by omega) (by omega), Int.le_refl _⟩
/-- what is asked of Take and Wait -/
def askE (c n : Int) : Int := if n < 0 then 1 else if c < n then 101 else 0
def tookP (p c k n : Int) : Bool := decide (0 ≤ n ∧ n ≤ c ∧ n * p ≤ k)
def takeP (p c k n : Int) : Int := if tookP p c k n then k - n * p else k
def waitP (r p c k n : Int) : Int := if 0 ≤ n ∧ n ≤ c then (max (n * p - k) 0 + r - 1) / r else 0
theorem Fits.take {r p c k : Int} (h : Fits r p c k) (n : Int) : Fits r p c (takeP p c k n) := by
  obtain ⟨h1, h2, h3, h4, h5, h6, h7, h8⟩ := h
  unfold takeP
  cases e : tookP p c k n
  · exact ⟨h1, h2, h3, h4, h5, h6, h7, h8⟩
  · simp only [tookP, decide_eq_true_eq] at e
    have := Int.mul_nonneg e.1 (show 0 ≤ p by omega)
    exact ⟨h1, h2, h3, h4, h5, h6, by simp only [if_true]; omega, by simp only [if_true]; omega⟩
end Go.Proofs.Ytkfiaahgcljljaa
