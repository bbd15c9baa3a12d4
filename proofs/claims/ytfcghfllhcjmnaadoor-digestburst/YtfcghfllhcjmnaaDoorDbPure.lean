import Derived.Test.YtfcghfllhcjmnaaDoorDaAlg
namespace Go.Proofs.YtfcghfllhcjmnaaDoor
open Go.RowKit
theorem mul_xor (p a b : Nat) : 2 ^ p * (a ^^^ b) = (2 ^ p * a) ^^^ (2 ^ p * b) := by
  apply Nat.eq_of_testBit_eq
  intro j
  rw [Nat.testBit_xor, Nat.testBit_two_pow_mul, Nat.testBit_two_pow_mul, Nat.testBit_two_pow_mul, Nat.testBit_xor]
  by_cases h : p ≤ j <;> simp [h]
theorem numL_lt (l : List UInt8) : numL l < 2 ^ (8 * l.length) := by
  induction l with
  | nil => decide
  | cons b r ih =>
    have hb := b.toNat_lt
    show b.toNat + 256 * numL r < 2 ^ (8 * (r.length + 1))
    rw [show 8 * (r.length + 1) = 8 * r.length + 8 by omega, Nat.pow_add]
    omega
theorem numL_cons (b : UInt8) (r : List UInt8) : numL (b :: r) = (2 ^ 8 * numL r) ^^^ b.toNat := by
  have hb := b.toNat_lt
  rw [xor_pow 8 (numL r) b.toNat (by omega)]
  show b.toNat + 256 * numL r = _
  omega
theorem numL_inj {a b : List UInt8} (hl : a.length = b.length) (h : numL a = numL b) : a = b := by
  induction a generalizing b with
  | nil => cases b with
    | nil => rfl
    | cons => simp at hl
  | cons x r ih => cases b with
    | nil => simp at hl
    | cons y t =>
      have hx := x.toNat_lt
      have hy := y.toNat_lt
      have h : x.toNat + 256 * numL r = y.toNat + 256 * numL t := h
      have e1 : x = y := UInt8.toNat_inj.1 (by omega)
      rw [e1, ih (by simpa using hl) (by omega)]
theorem numL_set (l : List UInt8) (j r : Nat) (hj : j < l.length) (hr : r < 8) : numL (l.set j (UInt8.ofNat (l[j].toNat ^^^ 2 ^ r))) = numL l ^^^ 2 ^ (8 * j + r) := by
  have hp : 2 ^ r < 256 := by
    have : (2 : Nat) ^ r ≤ 2 ^ 7 := Nat.pow_le_pow_right (by omega) (by omega)
    omega
  induction l generalizing j with
  | nil => simp at hj
  | cons b t ih =>
    have hb := b.toNat_lt
    cases j with
    | zero =>
      have hx : b.toNat ^^^ 2 ^ r < 2 ^ 8 := Nat.xor_lt_two_pow (by omega) (by omega)
      have e : (UInt8.ofNat (b.toNat ^^^ 2 ^ r)).toNat = b.toNat ^^^ 2 ^ r := by rw [UInt8.toNat_ofNat']; omega
      rw [List.set_cons_zero, numL_cons, numL_cons, List.getElem_cons_zero, e, Nat.mul_zero, Nat.zero_add, Nat.xor_assoc]
    | succ j =>
      rw [List.set_cons_succ, numL_cons, numL_cons, List.getElem_cons_succ, ih j (by simpa using hj), mul_xor]
      rw [show 8 * (j + 1) + r = 8 + (8 * j + r) by omega, Nat.pow_add 2 8]
      rw [Nat.xor_assoc, Nat.xor_assoc, Nat.xor_comm (2 ^ 8 * 2 ^ (8 * j + r))]
/-- what is laid over a text of n bits behind i bits of the pattern -/
def fl (n p m : Nat) : Nat → Nat
  | 0 => 0
  | i + 1 => if m / 2 ^ i % 2 = 1 ∧ p + i < n then fl n p m i ^^^ 2 ^ (p + i) else fl n p m i
theorem fl_eq (n p m : Nat) (hp : p ≤ n) (i : Nat) : fl n p m i = 2 ^ p * (m % 2 ^ (min i (n - p))) := by
  induction i with
  | zero => show 0 = 2 ^ p * (m % 2 ^ (min 0 (n - p))); rw [Nat.zero_min, Nat.pow_zero, Nat.mod_one, Nat.mul_zero]
  | succ i ih =>
    show (if m / 2 ^ i % 2 = 1 ∧ p + i < n then fl n p m i ^^^ 2 ^ (p + i) else fl n p m i) = _
    by_cases hin : p + i < n
    · have e1 : min (i + 1) (n - p) = i + 1 := by omega
      have e2 : min i (n - p) = i := by omega
      have em : m % 2 ^ (i + 1) = 2 ^ i * (m / 2 ^ i % 2) + m % 2 ^ i := by
        rw [Nat.pow_succ, Nat.mod_mul]
        omega
      have hlt : m % 2 ^ i < 2 ^ i := Nat.mod_lt _ (Nat.pow_pos (by omega))
      rw [ih, e1, e2, em]
      by_cases hb : m / 2 ^ i % 2 = 1
      · rw [if_pos ⟨hb, hin⟩, hb, Nat.pow_add, ← mul_xor, Nat.xor_comm, Nat.mul_one]
        congr 1
        have := xor_pow i 1 (m % 2 ^ i) hlt
        rw [Nat.mul_one] at this
        exact this
      · rw [if_neg (fun h => hb h.1), show m / 2 ^ i % 2 = 0 by omega, Nat.mul_zero, Nat.zero_add]
    · rw [if_neg (fun h => hin h.2), ih, show min (i + 1) (n - p) = min i (n - p) by omega]
/-- the sum changes just where the text does -/
theorem burst (s t : List UInt8) (p m : Nat) (hl : t.length = s.length) (hp : p ≤ 8 * s.length) (hm : m < 4294967296) (ht : numL t = numL s ^^^ fl (8 * s.length) p m 32) :
    (t = s ↔ crcN 0 t = crcN 0 s) := by
  have hX := fl_eq (8 * s.length) p m hp 32
  have hmm : m % 2 ^ (min 32 (8 * s.length - p)) < 4294967296 := Nat.lt_of_le_of_lt (Nat.mod_le _ _) hm
  have hst : stps (8 * s.length) (fl (8 * s.length) p m 32) = stps (8 * s.length - p) (m % 2 ^ (min 32 (8 * s.length - p))) := by
    rw [hX]
    conv => lhs; rw [show 8 * s.length = p + (8 * s.length - p) by omega, stps_add]
    rw [show p + (8 * s.length - p) - p = 8 * s.length - p by omega, stps_pow]
  have hcrc : crcN 0 t = crcN 0 s ^^^ stps (8 * s.length) (fl (8 * s.length) p m 32) := by
    unfold crcN
    rw [crcW_num, crcW_num, hl, ht, ← Nat.xor_assoc, stps_xor]
    exact (Nat.xor_assoc _ _ _).symm
  constructor
  · intro h; rw [h]
  · intro h
    rw [hcrc] at h
    have h0 : stps (8 * s.length) (fl (8 * s.length) p m 32) = 0 := by
      have := congrArg (crcN 0 s ^^^ ·) h
      simp only [← Nat.xor_assoc, Nat.xor_self, Nat.zero_xor] at this
      exact this
    rw [hst] at h0
    have hz : m % 2 ^ (min 32 (8 * s.length - p)) = 0 := by
      rcases Nat.eq_zero_or_pos (m % 2 ^ (min 32 (8 * s.length - p))) with h1 | h1
      · exact h1
      · exact absurd h0 (stps_ne _ hmm (by omega))
    apply numL_inj hl
    rw [ht, hX, hz, Nat.mul_zero, Nat.xor_zero]
end Go.Proofs.YtfcghfllhcjmnaaDoor
