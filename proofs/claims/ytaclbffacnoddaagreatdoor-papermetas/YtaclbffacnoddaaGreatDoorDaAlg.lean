import Derived.Test.YtaclbffacnoddaaGreatDoorPart3
namespace Go.Proofs.YtaclbffacnoddaaGreatDoor
open Go.RowKit
theorem xor_div2 (a b : Nat) : (a ^^^ b) / 2 = a / 2 ^^^ b / 2 := by
  apply Nat.eq_of_testBit_eq
  intro i
  rw [Nat.testBit_div_two, Nat.testBit_xor, Nat.testBit_xor, Nat.testBit_div_two, Nat.testBit_div_two]
theorem xor_mod2 (a b : Nat) : (a ^^^ b) % 2 = (a % 2 + b % 2) % 2 := by
  have h := Nat.testBit_xor a b 0
  rw [Nat.testBit_zero, Nat.testBit_zero, Nat.testBit_zero] at h
  rcases Nat.mod_two_eq_zero_or_one a with ha | ha <;> rcases Nat.mod_two_eq_zero_or_one b with hb | hb <;> rcases Nat.mod_two_eq_zero_or_one (a ^^^ b) with hc | hc <;> simp [ha, hb, hc] at h ⊢
theorem xor_cancel (a b c : Nat) : (a ^^^ c) ^^^ (b ^^^ c) = a ^^^ b := by
  rw [Nat.xor_assoc, Nat.xor_comm b c, ← Nat.xor_assoc c c b, Nat.xor_self, Nat.zero_xor]
theorem stp_xor (a b : Nat) : stp (a ^^^ b) = stp a ^^^ stp b := by
  unfold stp
  rw [xor_div2, xor_mod2]
  rcases Nat.mod_two_eq_zero_or_one a with ha | ha <;> rcases Nat.mod_two_eq_zero_or_one b with hb | hb <;> simp only [ha, hb]
  · simp
  · simp [Nat.xor_assoc]
  · simp [Nat.xor_assoc, Nat.xor_comm (b / 2)]
  · simp [xor_cancel]
theorem stp_even (q : Nat) : stp (2 * q) = q := by unfold stp; rw [if_pos (by omega)]; omega
/-- so many steps -/
def stps : Nat → Nat → Nat
  | 0, w => w
  | n + 1, w => stps n (stp w)
theorem stps_xor (n a b : Nat) : stps n (a ^^^ b) = stps n a ^^^ stps n b := by
  induction n generalizing a b with
  | zero => rfl
  | succ n ih => show stps n (stp (a ^^^ b)) = _; rw [stp_xor, ih]; rfl
theorem stps_add (m n w : Nat) : stps (m + n) w = stps n (stps m w) := by
  induction m generalizing w with
  | zero => rw [Nat.zero_add]; rfl
  | succ m ih => rw [show m + 1 + n = (m + n) + 1 by omega]; exact ih (stp w)
theorem stps_comm (m n w : Nat) : stps m (stps n w) = stps n (stps m w) := by rw [← stps_add, ← stps_add, Nat.add_comm]
theorem stps_zero (n : Nat) : stps n 0 = 0 := by
  induction n with
  | zero => rfl
  | succ n ih => show stps n (stp 0) = 0; exact ih
theorem stps_pow (k q : Nat) : stps k (2 ^ k * q) = q := by
  induction k generalizing q with
  | zero => show 2 ^ 0 * q = q; simp
  | succ k ih =>
    show stps k (stp (2 ^ (k + 1) * q)) = q
    rw [show 2 ^ (k + 1) * q = 2 * (2 ^ k * q) by rw [Nat.pow_succ, Nat.mul_comm (2 ^ k) 2, Nat.mul_assoc], stp_even]
    exact ih q
theorem stp_lt {w : Nat} (h : w < 4294967296) : stp w < 4294967296 := by
  unfold stp
  split
  · omega
  · exact xor32_lt (by omega) (by omega)
theorem stps_lt (n : Nat) {w : Nat} (h : w < 4294967296) : stps n w < 4294967296 := by
  induction n generalizing w with
  | zero => exact h
  | succ n ih => exact ih (stp_lt h)
theorem xor_eq_zero' {a b : Nat} (h : a ^^^ b = 0) : a = b := by
  have := congrArg (· ^^^ b) h
  simp only [Nat.xor_assoc, Nat.xor_self, Nat.xor_zero, Nat.zero_xor] at this
  exact this
theorem stp_ne {w : Nat} (h : w < 4294967296) (h0 : w ≠ 0) : stp w ≠ 0 := by
  unfold stp
  split
  · omega
  · intro e
    have := xor_eq_zero' e
    omega
theorem stps_ne (n : Nat) {w : Nat} (h : w < 4294967296) (h0 : w ≠ 0) : stps n w ≠ 0 := by
  induction n generalizing w with
  | zero => exact h0
  | succ n ih => exact ih (stp_lt h) (stp_ne h h0)
/-- a high part and a low part, laid together -/
theorem xor_pow (m x b : Nat) (h : b < 2 ^ m) : (2 ^ m * x) ^^^ b = 2 ^ m * x + b := by
  apply Nat.eq_of_testBit_eq
  intro j
  rw [Nat.testBit_xor, Nat.testBit_two_pow_mul_add x h, Nat.testBit_two_pow_mul]
  by_cases hj : j < m
  · rw [if_pos hj]
    simp [show ¬ m ≤ j by omega]
  · rw [if_neg hj]
    have : b.testBit j = false := Nat.testBit_lt_two_pow (Nat.lt_of_lt_of_le h (Nat.pow_le_pow_right (by omega) (by omega)))
    simp [this, show m ≤ j by omega]
theorem nib_eq (w : Nat) : nib w = stps 4 w := by
  have e : w = (2 ^ 4 * (w / 16)) ^^^ (w % 16) := by rw [xor_pow 4 (w / 16) (w % 16) (by omega)]; omega
  have ht : ∀ r : Fin 16, stps 4 r.1 = t4 r.1 := by decide
  conv => rhs; rw [e, stps_xor, stps_pow, ht ⟨w % 16, by omega⟩]
  rfl
theorem crcB_eq (w b : Nat) : crcB w b = stps 8 (w ^^^ b) := by
  unfold crcB
  rw [nib_eq, nib_eq, ← stps_add]
/-- a text as a number, the lowest bit first -/
def numL : List UInt8 → Nat
  | [] => 0
  | b :: r => b.toNat + 256 * numL r
theorem crcW_num (d : Nat) (l : List UInt8) : crcW d l = stps (8 * l.length) (d ^^^ numL l) := by
  induction l generalizing d with
  | nil => show d = stps 0 (d ^^^ 0); rw [Nat.xor_zero]; rfl
  | cons b r ih =>
    show crcW (crcB d b.toNat) r = _
    have hb := b.toNat_lt
    have e : numL (b :: r) = (2 ^ 8 * numL r) ^^^ b.toNat := by
      rw [xor_pow 8 (numL r) b.toNat (by omega)]; show b.toNat + 256 * numL r = _; omega
    rw [ih, crcB_eq, e, List.length_cons, show 8 * (r.length + 1) = 8 + 8 * r.length by omega, stps_add]
    congr 1
    rw [Nat.xor_comm (2 ^ 8 * numL r), ← Nat.xor_assoc]
    conv => rhs; rw [stps_xor, stps_pow]
theorem crcW_lin (d e : Nat) (l : List UInt8) : crcW (d ^^^ e) l = crcW d l ^^^ stps (8 * l.length) e := by
  rw [crcW_num, crcW_num, ← stps_xor, Nat.xor_assoc, Nat.xor_assoc, Nat.xor_comm e]
theorem crcN_join (s : Nat) (l : List UInt8) : crcN s l = stps (8 * l.length) s ^^^ crcN 0 l := by
  unfold crcN
  rw [crcW_lin, Nat.xor_zero, ← Nat.xor_assoc, Nat.xor_comm]
/-- the sum of two texts -/
theorem crc_cat (x y : List UInt8) : crcN 0 (x ++ y) = stps (8 * y.length) (crcN 0 x) ^^^ crcN 0 y := by
  rw [crcN_append, crcN_join]
/-- the product, bit by bit from the highest -/
def pr (a b : Nat) : Nat → Nat
  | 0 => 0
  | k + 1 => if 2147483648 ≤ a * 2 ^ k % 4294967296 then pr a b k ^^^ stps k b else pr a b k
theorem pr_lt (a b k : Nat) (h : b < 4294967296) : pr a b k < 4294967296 := by
  induction k with
  | zero => show 0 < _; omega
  | succ k ih =>
    unfold pr
    split
    · exact xor32_lt ih (stps_lt k h)
    · exact ih
theorem pr_steps (a n b k : Nat) : pr a (stps n b) k = stps n (pr a b k) := by
  induction k with
  | zero => exact (stps_zero n).symm
  | succ k ih =>
    unfold pr
    split
    · rw [ih, stps_comm, ← stps_xor]
    · exact ih
theorem one_steps (k : Nat) (h : k ≤ 31) : stps k 2147483648 = 2 ^ (31 - k) := by
  have := stps_pow k (2 ^ (31 - k))
  rw [← Nat.pow_add, show k + (31 - k) = 31 by omega] at this
  exact this
theorem top_bit (a k : Nat) (hk : k ≤ 31) : (2147483648 ≤ a * 2 ^ k % 4294967296) ↔ (a / 2 ^ (31 - k)) % 2 = 1 := by
  have hP : 2 ^ (31 - k) * 2 ^ k = 2147483648 := by rw [← Nat.pow_add, show 31 - k + k = 31 by omega]
  have hp : 0 < 2 ^ k := Nat.pow_pos (by omega)
  have hq : 0 < 2 ^ (31 - k) := Nat.pow_pos (by omega)
  have e1 : a * 2 ^ k % 4294967296 = (a % (2 * 2 ^ (31 - k))) * 2 ^ k := by
    rw [show 4294967296 = (2 * 2 ^ (31 - k)) * 2 ^ k by rw [Nat.mul_assoc, hP], Nat.mul_mod_mul_right]
  rw [e1, ← hP]
  have e2 : a % (2 * 2 ^ (31 - k)) / 2 ^ (31 - k) = a / 2 ^ (31 - k) % 2 := by
    rw [Nat.mul_comm 2, Nat.mod_mul_right_div_self]
  rw [← e2]
  have hlt : a % (2 * 2 ^ (31 - k)) < 2 * 2 ^ (31 - k) := Nat.mod_lt _ (by omega)
  constructor
  · intro h
    have h1 : 2 ^ (31 - k) ≤ a % (2 * 2 ^ (31 - k)) := Nat.le_of_mul_le_mul_right h hp
    have h2 : 1 ≤ a % (2 * 2 ^ (31 - k)) / 2 ^ (31 - k) := (Nat.le_div_iff_mul_le hq).2 (by omega)
    have h3 : a % (2 * 2 ^ (31 - k)) / 2 ^ (31 - k) < 2 := Nat.div_lt_of_lt_mul (Nat.lt_of_lt_of_eq hlt (Nat.mul_comm _ _))
    omega
  · intro h
    apply Nat.mul_le_mul_right
    have := Nat.div_mul_le_self (a % (2 * 2 ^ (31 - k))) (2 ^ (31 - k))
    rw [h, Nat.one_mul] at this
    exact this
theorem pr_one (a k : Nat) (ha : a < 4294967296) (hk : k ≤ 32) : pr a 2147483648 k = 2 ^ (32 - k) * (a / 2 ^ (32 - k)) := by
  induction k with
  | zero => show 0 = 2 ^ 32 * (a / 2 ^ 32); rw [Nat.div_eq_of_lt ha]
  | succ k ih =>
    have ih := ih (by omega)
    have e32 : 2 ^ (32 - k) = 2 * 2 ^ (31 - k) := by rw [show 32 - k = (31 - k) + 1 by omega, Nat.pow_succ, Nat.mul_comm]
    have ea : a / 2 ^ (32 - k) = a / 2 ^ (31 - k) / 2 := by rw [e32, Nat.mul_comm, Nat.div_div_eq_div_mul]
    unfold pr
    rw [show 32 - (k + 1) = 31 - k by omega]
    have ih' : pr a 2147483648 k = 2 ^ (32 - k) * (a / 2 ^ (31 - k) / 2) := by rw [ih, ea]
    have hpos : 2 ^ (31 - k) < 2 ^ (32 - k) := by rw [e32]; have : 0 < 2 ^ (31 - k) := Nat.pow_pos (by omega); omega
    split
    · rename_i h
      rw [top_bit a k (by omega)] at h
      rw [ih', one_steps k (by omega), xor_pow (32 - k) _ _ hpos, e32]
      generalize a / 2 ^ (31 - k) = X at *
      generalize 2 ^ (31 - k) = P
      have : X = 2 * (X / 2) + 1 := by omega
      conv => rhs; rw [this]
      rw [Nat.mul_add, Nat.mul_one, ← Nat.mul_assoc, Nat.mul_comm P 2]
    · rename_i h
      rw [top_bit a k (by omega)] at h
      rw [ih', e32]
      generalize a / 2 ^ (31 - k) = X at *
      generalize 2 ^ (31 - k) = P
      have : X = 2 * (X / 2) := by omega
      conv => rhs; rw [this]
      rw [← Nat.mul_assoc, Nat.mul_comm P 2]
/-- a product with so many steps of one is so many steps -/
theorem pr_power (a n : Nat) (ha : a < 4294967296) : pr a (stps n 2147483648) 32 = stps n a := by
  rw [pr_steps, pr_one a 32 ha (by omega)]
  simp
theorem pr_stop (a b k : Nat) (h : a * 2 ^ k % 4294967296 = 0) (j : Nat) : pr a b (k + j) = pr a b k := by
  induction j with
  | zero => rfl
  | succ j ih =>
    have e : pr a b (k + (j + 1)) = if 2147483648 ≤ a * 2 ^ (k + j) % 4294967296 then pr a b (k + j) ^^^ stps (k + j) b else pr a b (k + j) := rfl
    rw [e, if_neg, ih]
    rw [Nat.pow_add, ← Nat.mul_assoc, Nat.mul_mod, h, Nat.zero_mul, Nat.zero_mod]
    omega
theorem band_top (x : Nat) (h : x < 4294967296) : x &&& 2147483648 = if 2147483648 ≤ x then 2147483648 else 0 := by
  rw [show (2147483648 : Nat) = 2 ^ 31 from rfl]
  have hb : x.testBit 31 = decide (2 ^ 31 ≤ x) := by
    by_cases hx : 2 ^ 31 ≤ x
    · rw [decide_eq_true hx, Nat.testBit_eq_decide_div_mod_eq, decide_eq_true_eq]
      have : x / 2 ^ 31 = 1 := by omega
      omega
    · rw [decide_eq_false hx]
      exact Nat.testBit_lt_two_pow (by omega)
  apply Nat.eq_of_testBit_eq
  intro i
  rw [Nat.testBit_and, Nat.testBit_two_pow]
  by_cases hi : 31 = i
  · subst hi
    by_cases hx : 2 ^ 31 ≤ x
    · rw [hb, if_pos hx]
      rw [decide_eq_true hx, Nat.testBit_two_pow_self]
      rfl
    · rw [hb, if_neg hx]
      simp [hx]
  · split
    · rw [Nat.testBit_two_pow]; simp [hi]
    · simp [hi]
end Go.Proofs.YtaclbffacnoddaaGreatDoor
