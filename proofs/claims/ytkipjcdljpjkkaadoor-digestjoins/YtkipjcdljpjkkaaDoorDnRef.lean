import Derived.Test.YtkipjcdljpjkkaaDoorDaCrcJoin
import Derived.Laws.OwnMore
import Derived.Deep.QuietTactic
import Derived.BigQuiet
import Derived.Deep.RegionHeld3
import Derived.Deep.MidRow
namespace Go.Proofs.YtkipjcdljpjkkaaDoor
open Go.RowKit
def TabP (w : World) : Prop := ∀ j, j < 32 → w.cell? ⟨0, j, none⟩ = some (.int .i64 ((2 ^ j : Nat) : Int))
theorem TabP.below {w w' : World} {B : Nat} (h : TabP w) (hb : Below B w w') (hg : 0 < B) : TabP w' := fun j hj => (hb.cell (p := ⟨0, j, none⟩) hg).trans (h j hj)
/-- what m steps make of each power of two -/
def stepsV (m : Nat) : List Value := (List.range 32).map fun i => Value.int .i64 (stps m (2 ^ i) : Int)
theorem stepsV_len (m : Nat) : (stepsV m).length = 32 := by simp [stepsV]
theorem stepsV_get (m j : Nat) (h : j < 32) : (stepsV m)[j]? = some (.int .i64 (stps m (2 ^ j) : Int)) := by simp [stepsV, h]
theorem of_one (m x k : Nat) (h : x / 2 ^ k % 2 = 1) : stps m (x % 2 ^ (k + 1)) = stps m (x % 2 ^ k) ^^^ stps m (2 ^ k) := by
  rw [Nat.mod_pow_succ, h, Nat.add_comm, ← xor_pow k 1 (x % 2 ^ k) (Nat.mod_lt _ (Nat.pow_pos (by omega))), Nat.mul_one, stps_xor, Nat.xor_comm]
theorem of_none (m x k : Nat) (h : ¬ x / 2 ^ k % 2 = 1) : stps m (x % 2 ^ (k + 1)) = stps m (x % 2 ^ k) := by
  rw [Nat.mod_pow_succ, show x / 2 ^ k % 2 = 0 by omega, Nat.mul_zero, Nat.add_zero]
theorem i64_nat {n : Nat} (h : n < 9223372036854775808) : IntKind.i64.wrap (n : Int) = (n : Int) := by
  simp [IntKind.wrap, IntKind.signed, IntKind.bits]; omega
theorem heap_new0 (w : World) (o : Obj) : (w.alloc o).heap[w.heap.size]? = some o := by
  show (w.heap.push o)[w.heap.size]? = some o
  rw [Array.getElem?_push, if_pos rfl]
theorem heap_new1 (w : World) (o o' : Obj) : ((w.alloc o).alloc o').heap[w.heap.size]? = some o := by
  show ((w.heap.push o).push o')[w.heap.size]? = some o
  rw [Array.getElem?_push, if_neg (by simp), Array.getElem?_push, if_pos rfl]
theorem heap_new2 (w : World) (o o' : Obj) : ((w.alloc o).alloc o').heap[w.heap.size + 1]? = some o' := by
  show ((w.heap.push o).push o')[w.heap.size + 1]? = some o'
  rw [Array.getElem?_push, if_pos (by simp)]
set_option maxHeartbeats 1000000 in
set_option maxRecDepth 100000 in
theorem of_any (m x : Nat) (hx : x < 4294967296) (w : World) (hT : TabP w) :
    Calls Tryd.prog 27 #[.agg (stepsV m).toArray, .int .i64 (x : Int)] w fun e w' => e = .returned (.int .i64 (stps m x : Int)) ∧ Below w.heap.size w w' := by
  have hg : 0 < w.heap.size := World.block_lt_of_cell? w _ (hT 0 (by omega))
  have HT := hide hT
  clear hT
  go_enter Tryd.func27, Tryd.ntmps27
  go_wp2_with fail
  have hc : ∀ j, j < 32 → (w.alloc (.cells (stepsV m).toArray 53)).cell? ⟨w.heap.size, j, none⟩ = some (.int .i64 (stps m (2 ^ j) : Int)) := fun j hj => by
    rw [cell_of_row _ _ j _ _ _ (heap_new0 w _), List.getElem?_toArray, stepsV_get m j hj]
  have HC := hide hc
  clear hc
  go_loopw [5, 6] (fun o i wr => ∃ k : Nat, k ≤ 32 ∧ i = .int .i64 k ∧ o = .int .i64 (stps m (x % 2 ^ k) : Int) ∧ (∀ j, j < 32 → wr.cell? ⟨w.heap.size, j, none⟩ = some (.int .i64 (stps m (2 ^ j) : Int))) ∧ Below w.heap.size w wr) (fun _ i _ => 32 - (intOf i).toNat)
  case atStart => exact ⟨0, by omega, rfl, by rw [Nat.pow_zero, Nat.mod_one, stps_zero]; rfl, HC.out, (Below.refl _ w).alloc (Nat.le_refl _) _⟩
  case round =>
    clear HC
    obtain ⟨k, hk, rfl, rfl, hc, hnx⟩ := hrel
    by_cases hlt : k < 32
    · have c1 := HT.out.below hnx hg k hlt
      have c2 := hc k hlt
      have HC := hide hc
      clear hc
      have hp0 : 0 < 2 ^ k := Nat.pow_pos (by omega)
      have hp1 : 2 ^ k ≤ 2 ^ 31 := Nat.pow_le_pow_right (by omega) (by omega)
      have l1 : stps m (x % 2 ^ k) < 4294967296 := stps_lt m (Nat.lt_of_le_of_lt (Nat.mod_le _ _) hx)
      have l2 : stps m (2 ^ k) < 4294967296 := stps_lt m (by omega)
      have q1 := of_one m x k
      have q0 := of_none m x k
      have Q1 := hide q1
      have Q0 := hide q0
      clear q1 q0
      have hdi : (x : Int) / ((2 ^ k : Nat) : Int) = ((x / 2 ^ k : Nat) : Int) := (Int.natCast_ediv _ _).symm
      have hdl : x / 2 ^ k ≤ x := Nat.div_le_self _ _
      have hxx := bxor64 _ _ l1 l2
      have i0 : (0 : Int) ≤ (k : Int) := by omega
      have i1 : (k : Int) < 32 := by omega
      by_cases hbit : x / 2 ^ k % 2 = 1
      · have Q := hide (Q1.out hbit)
        have hq : (((x / 2 ^ k : Nat) : Int) % 2 == 1) = true := by rw [show ((x / 2 ^ k : Nat) : Int) % 2 = 1 by omega]; rfl
        clear Q1 Q0
        obtain ⟨Z, hZ⟩ : ∃ Z, Z = stps m (x % 2 ^ k) ^^^ stps m (2 ^ k) := ⟨_, rfl⟩
        rw [← hZ] at hxx Q
        clear hZ
        generalize stps m (x % 2 ^ k) = A at *
        generalize stps m (2 ^ k) = Bv at *
        generalize x / 2 ^ k = D at *
        generalize 2 ^ k = P at *
        have hP0 : ¬ (P = 0) := by omega
        go_wp2
        go_roundw
        case rel => exact ⟨k + 1, by omega, by go_num, by rw [Q.out], HC.out, hnx⟩
        case measure => simp [intOf]; omega
      · have Q := hide (Q0.out hbit)
        have hq : (((x / 2 ^ k : Nat) : Int) % 2 == 1) = false := by rw [show ((x / 2 ^ k : Nat) : Int) % 2 = 0 by omega]; rfl
        clear Q1 Q0 hxx
        generalize stps m (x % 2 ^ k) = A at *
        generalize x / 2 ^ k = D at *
        generalize 2 ^ k = P at *
        have hP0 : ¬ (P = 0) := by omega
        go_wp2
        go_roundw
        case rel => exact ⟨k + 1, by omega, by go_num, by rw [Q.out], HC.out, hnx⟩
        case measure => simp [intOf]; omega
    · obtain rfl : k = 32 := by omega
      rw [show x % 2 ^ 32 = x from Nat.mod_eq_of_lt hx]
      go_wp2
      go_ret
      exact ⟨rfl, hnx⟩
end Go.Proofs.YtkipjcdljpjkkaaDoor
