import Derived.Test.YtfpalfpfijcpbaaGreatDoorGDgPlain
import Derived.Deep.LoopGhost
import Derived.Test.YtfpalfpfijcpbaaGreatDoorPxRows
namespace Go.Proofs.YtfpalfpfijcpbaaGreatDoor
open Go.RowKit
theorem xor_div2 (a b : Nat) : (a ^^^ b) / 2 = a / 2 ^^^ b / 2 := by
  apply Nat.eq_of_testBit_eq
  intro i
  rw [Nat.testBit_div_two, Nat.testBit_xor, Nat.testBit_xor, Nat.testBit_div_two, Nat.testBit_div_two]
theorem xor_mod2 (a b : Nat) : (a ^^^ b) % 2 = (a % 2 + b % 2) % 2 := by
  have h := Nat.testBit_xor a b 0
  rw [Nat.testBit_zero, Nat.testBit_zero, Nat.testBit_zero] at h
  rcases Nat.mod_two_eq_zero_or_one a with ha | ha <;> rcases Nat.mod_two_eq_zero_or_one b with hb | hb <;> rcases Nat.mod_two_eq_zero_or_one (a ^^^ b) with hc | hc <;> simp [ha, hb, hc] at h ⊢
theorem xor_cancel (a b c : Nat) : (a ^^^ c) ^^^ (b ^^^ c) = a ^^^ b := by
  rw [Nat.xor_assoc, Nat.xor_comm b c, ← Nat.xor_assoc c c b, Nat.xor_self, Nat.zero_xor]
theorem stp_xor (a b : Nat) : stp (a ^^^ b) = stp a ^^^ stp b := by
  unfold stp
  rw [xor_div2, xor_mod2]
  rcases Nat.mod_two_eq_zero_or_one a with ha | ha <;> rcases Nat.mod_two_eq_zero_or_one b with hb | hb <;> simp only [ha, hb]
  · simp
  · simp [Nat.xor_assoc]
  · simp [Nat.xor_assoc, Nat.xor_comm (b / 2)]
  · simp [xor_cancel]
theorem stp_even (q : Nat) : stp (2 * q) = q := by unfold stp; rw [if_pos (by omega)]; omega
/-- so many steps -/
def stps : Nat → Nat → Nat
  | 0, w => w
  | n + 1, w => stps n (stp w)
theorem stps_xor (n a b : Nat) : stps n (a ^^^ b) = stps n a ^^^ stps n b := by
  induction n generalizing a b with
  | zero => rfl
  | succ n ih => show stps n (stp (a ^^^ b)) = _; rw [stp_xor, ih]; rfl
theorem stps_add (m n w : Nat) : stps (m + n) w = stps n (stps m w) := by
  induction m generalizing w with
  | zero => rw [Nat.zero_add]; rfl
  | succ m ih => rw [show m + 1 + n = (m + n) + 1 by omega]; exact ih (stp w)
theorem stps_comm (m n w : Nat) : stps m (stps n w) = stps n (stps m w) := by rw [← stps_add, ← stps_add, Nat.add_comm]
theorem stps_zero (n : Nat) : stps n 0 = 0 := by
  induction n with
  | zero => rfl
  | succ n ih => show stps n (stp 0) = 0; exact ih
theorem stps_pow (k q : Nat) : stps k (2 ^ k * q) = q := by
  induction k generalizing q with
  | zero => show 2 ^ 0 * q = q; simp
  | succ k ih =>
    show stps k (stp (2 ^ (k + 1) * q)) = q
    rw [show 2 ^ (k + 1) * q = 2 * (2 ^ k * q) by rw [Nat.pow_succ, Nat.mul_comm (2 ^ k) 2, Nat.mul_assoc], stp_even]
    exact ih q
theorem stp_lt {w : Nat} (h : w < 4294967296) : stp w < 4294967296 := by
  unfold stp
  split
  · omega
  · exact xor32_lt (by omega) (by omega)
theorem stps_lt (n : Nat) {w : Nat} (h : w < 4294967296) : stps n w < 4294967296 := by
  induction n generalizing w with
  | zero => exact h
  | succ n ih => exact ih (stp_lt h)
theorem xor_eq_zero' {a b : Nat} (h : a ^^^ b = 0) : a = b := by
  have := congrArg (· ^^^ b) h
  simp only [Nat.xor_assoc, Nat.xor_self, Nat.xor_zero, Nat.zero_xor] at this
  exact this
theorem stp_ne {w : Nat} (h : w < 4294967296) (h0 : w ≠ 0) : stp w ≠ 0 := by
  unfold stp
  split
  · omega
  · intro e
    have := xor_eq_zero' e
    omega
theorem stps_ne (n : Nat) {w : Nat} (h : w < 4294967296) (h0 : w ≠ 0) : stps n w ≠ 0 := by
  induction n generalizing w with
  | zero => exact h0
  | succ n ih => exact ih (stp_lt h) (stp_ne h h0)
/-- a high part and a low part, laid together -/
theorem xor_pow (m x b : Nat) (h : b < 2 ^ m) : (2 ^ m * x) ^^^ b = 2 ^ m * x + b := by
  apply Nat.eq_of_testBit_eq
  intro j
  rw [Nat.testBit_xor, Nat.testBit_two_pow_mul_add x h, Nat.testBit_two_pow_mul]
  by_cases hj : j < m
  · rw [if_pos hj]
    simp [show ¬ m ≤ j by omega]
  · rw [if_neg hj]
    have : b.testBit j = false := Nat.testBit_lt_two_pow (Nat.lt_of_lt_of_le h (Nat.pow_le_pow_right (by omega) (by omega)))
    simp [this, show m ≤ j by omega]
theorem nib_eq (w : Nat) : nib w = stps 4 w := by
  have e : w = (2 ^ 4 * (w / 16)) ^^^ (w % 16) := by rw [xor_pow 4 (w / 16) (w % 16) (by omega)]; omega
  have ht : ∀ r : Fin 16, stps 4 r.1 = t4 r.1 := by decide
  conv => rhs; rw [e, stps_xor, stps_pow, ht ⟨w % 16, by omega⟩]
  rfl
theorem crcB_eq (w b : Nat) : crcB w b = stps 8 (w ^^^ b) := by
  unfold crcB
  rw [nib_eq, nib_eq, ← stps_add]
/-- a text as a number, the lowest bit first -/
def numL : List UInt8 → Nat
  | [] => 0
  | b :: r => b.toNat + 256 * numL r
theorem crcW_num (d : Nat) (l : List UInt8) : crcW d l = stps (8 * l.length) (d ^^^ numL l) := by
  induction l generalizing d with
  | nil => show d = stps 0 (d ^^^ 0); rw [Nat.xor_zero]; rfl
  | cons b r ih =>
    show crcW (crcB d b.toNat) r = _
    have hb := b.toNat_lt
    have e : numL (b :: r) = (2 ^ 8 * numL r) ^^^ b.toNat := by
      rw [xor_pow 8 (numL r) b.toNat (by omega)]; show b.toNat + 256 * numL r = _; omega
    rw [ih, crcB_eq, e, List.length_cons, show 8 * (r.length + 1) = 8 + 8 * r.length by omega, stps_add]
    congr 1
    rw [Nat.xor_comm (2 ^ 8 * numL r), ← Nat.xor_assoc]
    conv => rhs; rw [stps_xor, stps_pow]
theorem crcW_lin (d e : Nat) (l : List UInt8) : crcW (d ^^^ e) l = crcW d l ^^^ stps (8 * l.length) e := by
  rw [crcW_num, crcW_num, ← stps_xor, Nat.xor_assoc, Nat.xor_assoc, Nat.xor_comm e]
theorem crcN_join (s : Nat) (l : List UInt8) : crcN s l = stps (8 * l.length) s ^^^ crcN 0 l := by
  unfold crcN
  rw [crcW_lin, Nat.xor_zero, ← Nat.xor_assoc, Nat.xor_comm]
/-- the sum of two texts -/
theorem crc_cat (x y : List UInt8) : crcN 0 (x ++ y) = stps (8 * y.length) (crcN 0 x) ^^^ crcN 0 y := by
  rw [crcN_append, crcN_join]
/-- the product, bit by bit from the highest -/
def pr (a b : Nat) : Nat → Nat
  | 0 => 0
  | k + 1 => if 2147483648 ≤ a * 2 ^ k % 4294967296 then pr a b k ^^^ stps k b else pr a b k
theorem pr_lt (a b k : Nat) (h : b < 4294967296) : pr a b k < 4294967296 := by
  induction k with
  | zero => show 0 < _; omega
  | succ k ih =>
    unfold pr
    split
    · exact xor32_lt ih (stps_lt k h)
    · exact ih
theorem pr_steps (a n b k : Nat) : pr a (stps n b) k = stps n (pr a b k) := by
  induction k with
  | zero => exact (stps_zero n).symm
  | succ k ih =>
    unfold pr
    split
    · rw [ih, stps_comm, ← stps_xor]
    · exact ih
theorem one_steps (k : Nat) (h : k ≤ 31) : stps k 2147483648 = 2 ^ (31 - k) := by
  have := stps_pow k (2 ^ (31 - k))
  rw [← Nat.pow_add, show k + (31 - k) = 31 by omega] at this
  exact this
theorem top_bit (a k : Nat) (hk : k ≤ 31) : (2147483648 ≤ a * 2 ^ k % 4294967296) ↔ (a / 2 ^ (31 - k)) % 2 = 1 := by
  have hP : 2 ^ (31 - k) * 2 ^ k = 2147483648 := by rw [← Nat.pow_add, show 31 - k + k = 31 by omega]
  have hp : 0 < 2 ^ k := Nat.pow_pos (by omega)
  have hq : 0 < 2 ^ (31 - k) := Nat.pow_pos (by omega)
  have e1 : a * 2 ^ k % 4294967296 = (a % (2 * 2 ^ (31 - k))) * 2 ^ k := by
    rw [show 4294967296 = (2 * 2 ^ (31 - k)) * 2 ^ k by rw [Nat.mul_assoc, hP], Nat.mul_mod_mul_right]
  rw [e1, ← hP]
  have e2 : a % (2 * 2 ^ (31 - k)) / 2 ^ (31 - k) = a / 2 ^ (31 - k) % 2 := by
    rw [Nat.mul_comm 2, Nat.mod_mul_right_div_self]
  rw [← e2]
  have hlt : a % (2 * 2 ^ (31 - k)) < 2 * 2 ^ (31 - k) := Nat.mod_lt _ (by omega)
  constructor
  · intro h
    have h1 : 2 ^ (31 - k) ≤ a % (2 * 2 ^ (31 - k)) := Nat.le_of_mul_le_mul_right h hp
    have h2 : 1 ≤ a % (2 * 2 ^ (31 - k)) / 2 ^ (31 - k) := (Nat.le_div_iff_mul_le hq).2 (by omega)
    have h3 : a % (2 * 2 ^ (31 - k)) / 2 ^ (31 - k) < 2 := Nat.div_lt_of_lt_mul (Nat.lt_of_lt_of_eq hlt (Nat.mul_comm _ _))
    omega
  · intro h
    apply Nat.mul_le_mul_right
    have := Nat.div_mul_le_self (a % (2 * 2 ^ (31 - k))) (2 ^ (31 - k))
    rw [h, Nat.one_mul] at this
    exact this
theorem pr_one (a k : Nat) (ha : a < 4294967296) (hk : k ≤ 32) : pr a 2147483648 k = 2 ^ (32 - k) * (a / 2 ^ (32 - k)) := by
  induction k with
  | zero => show 0 = 2 ^ 32 * (a / 2 ^ 32); rw [Nat.div_eq_of_lt ha]
  | succ k ih =>
    have ih := ih (by omega)
    have e32 : 2 ^ (32 - k) = 2 * 2 ^ (31 - k) := by rw [show 32 - k = (31 - k) + 1 by omega, Nat.pow_succ, Nat.mul_comm]
    have ea : a / 2 ^ (32 - k) = a / 2 ^ (31 - k) / 2 := by rw [e32, Nat.mul_comm, Nat.div_div_eq_div_mul]
    unfold pr
    rw [show 32 - (k + 1) = 31 - k by omega]
    have ih' : pr a 2147483648 k = 2 ^ (32 - k) * (a / 2 ^ (31 - k) / 2) := by rw [ih, ea]
    have hpos : 2 ^ (31 - k) < 2 ^ (32 - k) := by rw [e32]; have : 0 < 2 ^ (31 - k) := Nat.pow_pos (by omega); omega
    split
    · rename_i h
      rw [top_bit a k (by omega)] at h
      rw [ih', one_steps k (by omega), xor_pow (32 - k) _ _ hpos, e32]
      generalize a / 2 ^ (31 - k) = X at *
      generalize 2 ^ (31 - k) = P
      have : X = 2 * (X / 2) + 1 := by omega
      conv => rhs; rw [this]
      rw [Nat.mul_add, Nat.mul_one, ← Nat.mul_assoc, Nat.mul_comm P 2]
    · rename_i h
      rw [top_bit a k (by omega)] at h
      rw [ih', e32]
      generalize a / 2 ^ (31 - k) = X at *
      generalize 2 ^ (31 - k) = P
      have : X = 2 * (X / 2) := by omega
      conv => rhs; rw [this]
      rw [← Nat.mul_assoc, Nat.mul_comm P 2]
/-- a product with so many steps of one is so many steps -/
theorem pr_power (a n : Nat) (ha : a < 4294967296) : pr a (stps n 2147483648) 32 = stps n a := by
  rw [pr_steps, pr_one a 32 ha (by omega)]
  simp
theorem pr_stop (a b k : Nat) (h : a * 2 ^ k % 4294967296 = 0) (j : Nat) : pr a b (k + j) = pr a b k := by
  induction j with
  | zero => rfl
  | succ j ih =>
    have e : pr a b (k + (j + 1)) = if 2147483648 ≤ a * 2 ^ (k + j) % 4294967296 then pr a b (k + j) ^^^ stps (k + j) b else pr a b (k + j) := rfl
    rw [e, if_neg, ih]
    rw [Nat.pow_add, ← Nat.mul_assoc, Nat.mul_mod, h, Nat.zero_mul, Nat.zero_mod]
    omega
theorem band_top (x : Nat) (h : x < 4294967296) : x &&& 2147483648 = if 2147483648 ≤ x then 2147483648 else 0 := by
  rw [show (2147483648 : Nat) = 2 ^ 31 from rfl]
  have hb : x.testBit 31 = decide (2 ^ 31 ≤ x) := by
    by_cases hx : 2 ^ 31 ≤ x
    · rw [decide_eq_true hx, Nat.testBit_eq_decide_div_mod_eq, decide_eq_true_eq]
      have : x / 2 ^ 31 = 1 := by omega
      omega
    · rw [decide_eq_false hx]
      exact Nat.testBit_lt_two_pow (by omega)
  apply Nat.eq_of_testBit_eq
  intro i
  rw [Nat.testBit_and, Nat.testBit_two_pow]
  by_cases hi : 31 = i
  · subst hi
    by_cases hx : 2 ^ 31 ≤ x
    · rw [hb, if_pos hx]
      rw [decide_eq_true hx, Nat.testBit_two_pow_self]
      rfl
    · rw [hb, if_neg hx]
      simp [hx]
  · split
    · rw [Nat.testBit_two_pow]; simp [hi]
    · simp [hi]
end Go.Proofs.YtfpalfpfijcpbaaGreatDoor
namespace Go.Proofs.YtfpalfpfijcpbaaGreatDoor
open Go.RowKit
theorem bxor64 (a b : Nat) (ha : a < 4294967296) (hb : b < 4294967296) : bits .xor .i64 (a : Int) (b : Int) = ((a ^^^ b : Nat) : Int) := by
  have hx : a ^^^ b < 2 ^ 32 := Nat.xor_lt_two_pow (by omega) (by omega)
  have o : ∀ c : Nat, c < 4294967296 → (BitVec.ofInt 64 (c : Int)).toNat = c := fun c hc => by
    rw [BitVec.ofInt_natCast, BitVec.toNat_ofNat]; exact Nat.mod_eq_of_lt (by omega)
  show IntKind.i64.wrap ((BitVec.ofInt 64 (a : Int) ^^^ BitVec.ofInt 64 (b : Int)).toNat : Int) = _
  rw [BitVec.toNat_xor, o a ha, o b hb]
  generalize a ^^^ b = c at *
  simp [IntKind.wrap, IntKind.signed, IntKind.bits]
  omega
set_option maxRecDepth 100000 in
/-- step -/
theorem step_any (n : Nat) (hn : n < 4294967296) (w : World) :
    Calls Tryz.prog 195 #[.int .u32 (n : Int)] w fun e w' => e = .returned (.int .u32 (stp n : Int)) ∧ w = w' := by
  by_cases h2 : n % 2 = 0
  · have hq : ((n : Int) % 2 == 0) = true := by rw [show (n : Int) % 2 = 0 by omega]; rfl
    have hr : Hid ((n : Int) / 2 = (stp n : Int)) := by show _ = _; unfold stp; rw [if_pos h2]; omega
    go_enter Tryz.func195, Tryz.ntmps195
    go_wp2
    go_ret
    exact ⟨by rw [← hr.out]; rfl, rfl⟩
  · have hq : ((n : Int) % 2 == 0) = false := by rw [show (n : Int) % 2 = 1 by omega]; rfl
    have hx : bits .xor .u32 ((n : Int) / 2) 3988292384 = (stp n : Int) := by
      have := bxor32 (n / 2) 3988292384 (by omega) (by omega)
      rw [show ((n / 2 : Nat) : Int) = (n : Int) / 2 by omega] at this
      unfold stp
      rw [if_neg h2]
      exact this
    go_enter Tryz.func195, Tryz.ntmps195
    go_wp2
    go_ret
    exact ⟨rfl, rfl⟩
set_option maxHeartbeats 1000000 in
set_option maxRecDepth 100000 in
/-- product -/
theorem product_any (a b : Nat) (ha : a < 4294967296) (hb : b < 4294967296) (w : World) :
    Calls Tryz.prog 178 #[.int .u32 (a : Int), .int .u32 (b : Int)] w fun e w' => e = .returned (.int .u32 (pr a b 32 : Int)) ∧ w = w' := by
  go_enter Tryz.func178, Tryz.ntmps178
  go_wp2
  go_loopg [0, 1, 5] 32 (fun gk x y z wr => ∃ k : Nat, k + gk = 32 ∧ x = .int .u32 ((a * 2 ^ k % 4294967296 : Nat) : Int) ∧ y = .int .u32 (stps k b : Int) ∧ z = .int .u32 (pr a b k : Int) ∧ wr = w)
  case atStart => exact ⟨0, rfl, by rw [Nat.pow_zero, Nat.mul_one, Nat.mod_eq_of_lt ha], rfl, rfl, rfl⟩
  case round =>
    obtain ⟨k, hk, rfl, rfl, rfl, rfl⟩ := hrel
    have hxl : a * 2 ^ k % 4294967296 < 4294967296 := Nat.mod_lt _ (by omega)
    have hyl : stps k b < 4294967296 := stps_lt k hb
    have hzl : pr a b k < 4294967296 := pr_lt a b k hb
    have hnext : a * 2 ^ (k + 1) % 4294967296 = 2 * (a * 2 ^ k % 4294967296) % 4294967296 := by
      rw [Nat.pow_succ, ← Nat.mul_assoc, Nat.mul_comm _ 2]
      omega
    have hpr : pr a b (k + 1) = if 2147483648 ≤ a * 2 ^ k % 4294967296 then pr a b k ^^^ stps k b else pr a b k := rfl
    have hst : stps (k + 1) b = stp (stps k b) := by rw [stps_add]; rfl
    have hend : a * 2 ^ k % 4294967296 = 0 → pr a b 32 = pr a b k := fun h => by have := pr_stop a b k h gk; rwa [hk] at this
    have hlast : gk = 0 → a * 2 ^ k % 4294967296 = 0 := fun h => by
      rw [show k = 32 by omega, show (2 : Nat) ^ 32 = 4294967296 from rfl]
      exact Nat.mul_mod_left _ _
    generalize a * 2 ^ k % 4294967296 = x at *
    generalize stps k b = y at *
    generalize pr a b k = z at *
    have HN := hide hnext
    have HP := hide hpr
    have HST := hide hst
    have HE := hide hend
    clear hnext hpr hst hend
    have CS : Hid (∀ w', Calls Tryz.prog 195 #[.int .u32 (y : Int)] w' fun e w'' => e = .returned (.int .u32 (stp y : Int)) ∧ w' = w'') := fun w' => step_any y hyl w'
    by_cases hx0 : x = 0
    · have HE0 := hide (HE.out hx0)
      subst hx0
      clear HE HP HN
      go_wp2
      go_ret
      exact ⟨by rw [HE0.out]; rfl, rfl⟩
    · have hne : ((x : Int) != 0) = true := by simp; omega
      have hgk : gk ≠ 0 := fun h => hx0 (hlast h)
      have hsh : (2 * (x : Int)) % 4294967296 = ((2 * x % 4294967296 : Nat) : Int) := by omega
      by_cases htop : 2147483648 ≤ x
      · have hband : bits .and .u32 (x : Int) 2147483648 = 2147483648 := by
          have := band32 x 2147483648 hxl (by omega)
          rw [band_top x hxl, if_pos htop] at this
          exact this
        have hxz := bxor32 z y hzl hyl
        have HP' : Hid (pr a b (k + 1) = z ^^^ y) := by show _ = _; rw [HP.out, if_pos htop]
        generalize z ^^^ y = zy at *
        go_wp2_with (go_at_call 195; refine Calls.mono (CS.out _) ?_; rintro e wx ⟨rfl, rfl⟩)
        go_roundg (gk - 1)
        case measure => omega
        case rel => exact ⟨k + 1, by omega, by rw [HN.out]; go_num, by rw [HST.out], by rw [HP'.out], rfl⟩
      · have hband : bits .and .u32 (x : Int) 2147483648 = 0 := by
          have := band32 x 2147483648 hxl (by omega)
          rw [band_top x hxl, if_neg htop] at this
          exact this
        have HP' : Hid (pr a b (k + 1) = z) := by show _ = _; rw [HP.out, if_neg htop]
        go_wp2_with (go_at_call 195; refine Calls.mono (CS.out _) ?_; rintro e wx ⟨rfl, rfl⟩)
        go_roundg (gk - 1)
        case measure => omega
        case rel => exact ⟨k + 1, by omega, by rw [HN.out]; go_num, by rw [HST.out], by rw [HP'.out], rfl⟩
end Go.Proofs.YtfpalfpfijcpbaaGreatDoor
namespace Go.Proofs.YtfpalfpfijcpbaaGreatDoor
open Go.RowKit
set_option maxRecDepth 100000 in
theorem isCRC_any (n : Int) (w : World) :
    Calls Tryz.prog 177 #[.int .i64 n] w fun e w' => e = .returned (.bool (decide (0 ≤ n) && decide (n ≤ 4294967295))) ∧ w = w' := by
  by_cases h0 : 0 ≤ n
  · go_enter Tryz.func177, Tryz.ntmps177
    go_wp2
    go_ret
    exact ⟨by simp [h0], rfl⟩
  · have h0' : decide (0 ≤ n) = false := decide_eq_false h0
    go_enter Tryz.func177, Tryz.ntmps177
    go_wp2
    go_ret
    exact ⟨by simp, rfl⟩
set_option maxHeartbeats 1000000 in
set_option maxRecDepth 100000 in
/-- CRCJoin, of good arguments -/
theorem crcJoin_ok (a b n : Nat) (ha : a < 4294967296) (hb : b < 4294967296) (hn : n ≤ 9007199254740992) (w : World) :
    Calls Tryz.prog 159 #[.int .i64 (a : Int), .int .i64 (b : Int), .int .i64 (n : Int)] w fun e w' => e = .returned (.tuple #[.int .i64 ((stps (8 * n) a ^^^ b : Nat) : Int), .int .i64 0]) ∧ w = w' := by
  have I : ∀ c : Nat, c < 4294967296 → ∀ w', Calls Tryz.prog 177 #[.int .i64 (c : Int)] w' fun e w'' => e = .returned (.bool true) ∧ w' = w'' := fun c hc w' => by
    have := isCRC_any (c : Int) w'
    rw [decide_eq_true (show (0 : Int) ≤ (c : Int) by omega), decide_eq_true (show (c : Int) ≤ 4294967295 by omega)] at this
    exact this
  have HA := hide (I a ha)
  have HB := hide (I b hb)
  clear I
  go_enter Tryz.func159, Tryz.ntmps159
  go_wp2_with fail
  refine Calls.mono (HA.out _) ?_
  rintro e wx ⟨rfl, rfl⟩
  go_wp2_with fail
  refine Calls.mono (HB.out _) ?_
  rintro e wx ⟨rfl, rfl⟩
  go_wp2_with fail
  clear HA HB
  go_loopw [8, 9, 10] (fun x y i wr => ∃ m p : Nat, i = .int .i64 (m : Int) ∧ m * p ≤ n ∧ m ≤ 9007199254740992 ∧ x = .int .u32 (stps (8 * (n - m * p)) a : Int) ∧ y = .int .u32 (stps (8 * p) 2147483648 : Int) ∧ wr = w) (fun _ _ i _ => (intOf i).toNat)
  case atStart => exact ⟨n, 1, rfl, by omega, hn, by rw [Nat.mul_one, Nat.sub_self]; rfl, rfl, rfl⟩
  case round =>
    obtain ⟨m, p, rfl, hmp, hm, rfl, rfl, rfl⟩ := hrel
    have hx := stps_lt (8 * (n - m * p)) ha
    have hy : stps (8 * p) 2147483648 < 4294967296 := stps_lt (8 * p) (by omega)
    by_cases h0 : m = 0
    · subst h0
      rw [Nat.zero_mul, Nat.sub_zero] at hx ⊢
      have hxx := bxor64 (stps (8 * n) a) b hx hb
      obtain ⟨Z, hZ⟩ : ∃ Z, Z = stps (8 * n) a ^^^ b := ⟨_, rfl⟩
      rw [← hZ] at hxx
      have HZ := hide hZ
      clear hZ
      generalize stps (8 * n) a = X at hx hxx ⊢
      go_wp2
      go_ret2
      exact ⟨by rw [← HZ.out]; rfl, rfl⟩
    · have hsq : stps (8 * (2 * p)) 2147483648 = pr (stps (8 * p) 2147483648) (stps (8 * p) 2147483648) 32 := by
        rw [pr_power _ _ hy, ← stps_add]
        congr 1
        omega
      have C2 : Hid (∀ w', Calls Tryz.prog 178 #[.int .u32 (stps (8 * p) 2147483648 : Int), .int .u32 (stps (8 * p) 2147483648 : Int)] w' fun e w'' => e = .returned (.int .u32 (stps (8 * (2 * p)) 2147483648 : Int)) ∧ w' = w'') := fun w' => by
        rw [hsq]; exact product_any _ _ hy hy w'
      have hpos : (0 : Int) < (m : Int) := by omega
      by_cases hodd : m % 2 = 1
      · have hmm : m / 2 * (2 * p) = m * p - p := by
          have : m = 2 * (m / 2) + 1 := by omega
          generalize m / 2 = h at *
          subst this
          rw [Nat.add_mul, Nat.one_mul, Nat.add_sub_cancel, Nat.mul_comm 2 h, Nat.mul_assoc]
        have hpm : p ≤ m * p := Nat.le_mul_of_pos_left p (by omega)
        have hw : stps (8 * (n - m / 2 * (2 * p))) a = pr (stps (8 * (n - m * p)) a) (stps (8 * p) 2147483648) 32 := by
          rw [pr_power _ _ hx, ← stps_add, hmm]
          congr 1
          omega
        have C1 : Hid (∀ w', Calls Tryz.prog 178 #[.int .u32 (stps (8 * (n - m * p)) a : Int), .int .u32 (stps (8 * p) 2147483648 : Int)] w' fun e w'' => e = .returned (.int .u32 (stps (8 * (n - m / 2 * (2 * p))) a : Int)) ∧ w' = w'') := fun w' => by
          rw [hw]; exact product_any _ _ hx hy w'
        have hle : m / 2 * (2 * p) ≤ n := by omega
        have HLE := hide hle
        have hq : ((m : Int) % 2 == 1) = true := by rw [show (m : Int) % 2 = 1 by omega]; rfl
        clear hw hsq hmm hpm hle hmp
        obtain ⟨X2, hX2⟩ : ∃ X2, X2 = stps (8 * (n - m / 2 * (2 * p))) a := ⟨_, rfl⟩
        obtain ⟨Y2, hY2⟩ : ∃ Y2, Y2 = stps (8 * (2 * p)) 2147483648 := ⟨_, rfl⟩
        rw [← hX2] at C1
        rw [← hY2] at C2
        have HX2 := hide hX2
        have HY2 := hide hY2
        clear hX2 hY2
        generalize stps (8 * (n - m * p)) a = X at hx C1 ⊢
        generalize stps (8 * p) 2147483648 = Y at hy C1 C2 ⊢
        go_wp2_with fail
        refine Calls.mono (C1.out _) ?_
        rintro e wx ⟨rfl, rfl⟩
        go_wp2_with (go_at_call 178; refine Calls.mono (C2.out _) ?_; rintro e wx ⟨rfl, rfl⟩)
        go_roundw
        case rel => exact ⟨m / 2, 2 * p, by go_num, HLE.out, by omega, by rw [HX2.out], by rw [HY2.out], by first | rfl | trivial⟩
        case measure => simp [intOf]; omega
      · have hmm : m / 2 * (2 * p) = m * p := by
          have : m = 2 * (m / 2) := by omega
          generalize m / 2 = h at *
          subst this
          rw [Nat.mul_comm 2 h, Nat.mul_assoc]
        have hw : stps (8 * (n - m / 2 * (2 * p))) a = stps (8 * (n - m * p)) a := by rw [hmm]
        have HLE := hide (show m / 2 * (2 * p) ≤ n by omega)
        have hq : ((m : Int) % 2 == 1) = false := by rw [show (m : Int) % 2 = 0 by omega]; rfl
        have HX2 := hide hw
        clear hw hsq hmm hmp
        obtain ⟨Y2, hY2⟩ : ∃ Y2, Y2 = stps (8 * (2 * p)) 2147483648 := ⟨_, rfl⟩
        rw [← hY2] at C2
        have HY2 := hide hY2
        clear hY2
        obtain ⟨X, hX⟩ : ∃ X, X = stps (8 * (n - m * p)) a := ⟨_, rfl⟩
        rw [← hX] at HX2 ⊢
        clear hX hx
        generalize stps (8 * p) 2147483648 = Y at hy C2 ⊢
        go_wp2_with (go_at_call 178; refine Calls.mono (C2.out _) ?_; rintro e wx ⟨rfl, rfl⟩)
        go_roundw
        case rel => exact ⟨m / 2, 2 * p, by go_num, HLE.out, by omega, by rw [HX2.out], by rw [HY2.out], by first | rfl | trivial⟩
        case measure => simp [intOf]; omega
end Go.Proofs.YtfpalfpfijcpbaaGreatDoor
namespace Go.Proofs.YtfpalfpfijcpbaaGreatDoor
open Go.RowKit Go.Shelf
/-- the bytes of files, the sum of all of them -/
def totS (rs : List RV) : Nat := (rs.map fun r => r.2.1.toNat).sum
def whlS (rs : List RV) : Nat := rs.foldl (fun a r => stps (8 * r.2.1.toNat) a ^^^ r.2.2.1.toNat) 0
theorem totS_snoc (rs : List RV) (r : RV) : totS (rs ++ [r]) = totS rs + r.2.1.toNat := by simp [totS]
theorem whlS_snoc (rs : List RV) (r : RV) : whlS (rs ++ [r]) = stps (8 * r.2.1.toNat) (whlS rs) ^^^ r.2.2.1.toNat := by simp [whlS]
theorem rowOk_parts {r : RV} (h : rowOk r = true) : 0 ≤ r.2.1 ∧ r.2.1 ≤ 1073741824 ∧ 0 ≤ r.2.2.1 ∧ r.2.2.1 ≤ 4294967295 := by
  unfold rowOk inR at h
  simp only [Bool.and_eq_true, decide_eq_true_eq] at h
  obtain ⟨⟨⟨_, h1⟩, h2⟩, _⟩ := h
  omega
theorem whlS_lt (rs : List RV) (h : ∀ r ∈ rs, rowOk r = true) : ∀ k, k ≤ rs.length → whlS (rs.take k) < 4294967296 ∧ totS (rs.take k) ≤ k * 1073741824
  | 0, _ => by simp [whlS, totS]
  | k + 1, hk => by
    have hk' : k < rs.length := by omega
    have h1 := rowOk_parts (h rs[k] (List.getElem_mem hk'))
    obtain ⟨h2, h3⟩ := whlS_lt rs h k (by omega)
    rw [List.take_succ_eq_append_getElem hk', whlS_snoc, totS_snoc]
    exact ⟨Nat.xor_lt_two_pow (n := 32) (stps_lt _ h2) (by omega), by omega⟩
set_option maxHeartbeats 4000000 in
set_option maxRecDepth 100000 in
theorem totals_any (ao : Option Addr) (b o cap : Nat) (rs : List RV) (w : World) (hao : 0 < rs.length → ao = some ⟨b, o, none⟩) (hl : LiesR b o w rs) (hok : ∀ r ∈ rs, rowOk r = true) (hlen : rs.length ≤ 1000000) :
    Calls Tryz.prog 128 #[.slice ao rs.length cap] w fun e w' => e = .returned (.tuple #[.int .i64 (totS rs : Int), .int .i64 (whlS rs : Int)]) ∧ Below w.heap.size w w' := by
  have HL := hide (fun w' (hb : Below w.heap.size w w') => hl.below hb)
  have HAO := hide hao
  have HOK := hide hok
  clear hl hao hok
  go_enter Tryz.func128, Tryz.ntmps128
  go_wp2_with fail
  go_loopw [2, 3, 8] (fun t u v wr => ∃ k : Nat, k ≤ rs.length ∧ v = .int .i64 k ∧ t = .int .i64 (totS (rs.take k) : Int) ∧ u = .int .i64 (whlS (rs.take k) : Int) ∧ Below w.heap.size w wr) (fun _ _ v _ => rs.length - (intOf v).toNat)
  case atStart => exact ⟨0, Nat.zero_le _, rfl, rfl, rfl, Below.refl _ _⟩
  case round =>
    obtain ⟨k, hk, rfl, rfl, rfl, hnx⟩ := hrel
    by_cases hlt : k < rs.length
    · obtain rfl := HAO.out (by omega)
      obtain ⟨d0, d1, d2, d3⟩ := HL.out wr hnx k hlt
      have hlt' : (k : Int) < (rs.length : Int) := by omega
      have HNX := hide hnx
      obtain ⟨hw, ht⟩ := whlS_lt rs HOK.out k hk
      have hr := HOK.out rs[k] (List.getElem_mem hlt)
      obtain ⟨p1, p2, p3, p4⟩ := rowOk_parts hr
      have HTS : Hid (totS (rs.take (k + 1)) = totS (rs.take k) + rs[k].2.1.toNat ∧ whlS (rs.take (k + 1)) = stps (8 * rs[k].2.1.toNat) (whlS (rs.take k)) ^^^ rs[k].2.2.1.toNat) := by
        rw [List.take_succ_eq_append_getElem hlt]; exact ⟨totS_snoc _ _, whlS_snoc _ _⟩
      clear hnx hr
      generalize rs[k] = r at *
      obtain ⟨nm, sz, cr, md⟩ := r
      dsimp only at d0 d1 d2 d3 p1 p2 p3 p4 HTS
      obtain ⟨S, rfl⟩ := Int.eq_ofNat_of_zero_le p1
      obtain ⟨C, rfl⟩ := Int.eq_ofNat_of_zero_le p3
      rw [Int.toNat_natCast, Int.toNat_natCast] at HTS
      have CJ := hide (fun w' => crcJoin_ok (whlS (rs.take k)) C S hw (by omega) (by omega) w')
      have ht2 : totS (rs.take k) ≤ 1073741824000000 := by have := Nat.mul_le_mul (show k ≤ 1000000 by omega) (Nat.le_refl 1073741824); omega
      clear ht p1 p3
      generalize totS (rs.take k) = TT at *
      generalize whlS (rs.take k) = WW at *
      go_wp2_with fail
      refine Calls.mono (CJ.out _) ?_
      rintro x w1 ⟨rfl, rfl⟩
      generalize stps (8 * S) WW ^^^ C = Z at *
      go_wp2_with fail
      go_roundw
      case rel => exact ⟨k + 1, by omega, by go_num, by rw [HTS.out.1]; congr 1, by rw [HTS.out.2], HNX.out.alloc HNX.out.size _⟩
      case measure => simp [intOf]; omega
    · obtain rfl : k = rs.length := by omega
      have HNX := hide hnx
      rw [List.take_length]
      clear hnx
      go_wp2_with fail
      go_ret2
      exact ⟨rfl, HNX.out⟩
end Go.Proofs.YtfpalfpfijcpbaaGreatDoor
