import Derived.Test.YtgdopepghmjopaaGreatDoorGPaBuild
import Derived.Deep.LoopGhost
import Derived.Test.YtgdopepghmjopaaGreatDoorGPaWrit
import Derived.Laws.OwnMore
import Derived.Lib.Split
import Derived.Deep.QuietTactic
import Derived.BigQuiet
import Derived.Deep.RegionHeld3
namespace Go.Proofs.YtgdopepghmjopaaGreatDoor
open Go.RowKit
theorem xor_div2 (a b : Nat) : (a ^^^ b) / 2 = a / 2 ^^^ b / 2 := by
  apply Nat.eq_of_testBit_eq
  intro i
  rw [Nat.testBit_div_two, Nat.testBit_xor, Nat.testBit_xor, Nat.testBit_div_two, Nat.testBit_div_two]
theorem xor_mod2 (a b : Nat) : (a ^^^ b) % 2 = (a % 2 + b % 2) % 2 := by
  have h := Nat.testBit_xor a b 0
  rw [Nat.testBit_zero, Nat.testBit_zero, Nat.testBit_zero] at h
  rcases Nat.mod_two_eq_zero_or_one a with ha | ha <;> rcases Nat.mod_two_eq_zero_or_one b with hb | hb <;> rcases Nat.mod_two_eq_zero_or_one (a ^^^ b) with hc | hc <;> simp [ha, hb, hc] at h ⊢
theorem xor_cancel (a b c : Nat) : (a ^^^ c) ^^^ (b ^^^ c) = a ^^^ b := by
  rw [Nat.xor_assoc, Nat.xor_comm b c, ← Nat.xor_assoc c c b, Nat.xor_self, Nat.zero_xor]
theorem stp_xor (a b : Nat) : stp (a ^^^ b) = stp a ^^^ stp b := by
  unfold stp
  rw [xor_div2, xor_mod2]
  rcases Nat.mod_two_eq_zero_or_one a with ha | ha <;> rcases Nat.mod_two_eq_zero_or_one b with hb | hb <;> simp only [ha, hb]
  · simp
  · simp [Nat.xor_assoc]
  · simp [Nat.xor_assoc, Nat.xor_comm (b / 2)]
  · simp [xor_cancel]
theorem stp_even (q : Nat) : stp (2 * q) = q := by unfold stp; rw [if_pos (by omega)]; omega
/-- so many steps -/
def stps : Nat → Nat → Nat
  | 0, w => w
  | n + 1, w => stps n (stp w)
theorem stps_xor (n a b : Nat) : stps n (a ^^^ b) = stps n a ^^^ stps n b := by
  induction n generalizing a b with
  | zero => rfl
  | succ n ih => show stps n (stp (a ^^^ b)) = _; rw [stp_xor, ih]; rfl
theorem stps_add (m n w : Nat) : stps (m + n) w = stps n (stps m w) := by
  induction m generalizing w with
  | zero => rw [Nat.zero_add]; rfl
  | succ m ih => rw [show m + 1 + n = (m + n) + 1 by omega]; exact ih (stp w)
theorem stps_comm (m n w : Nat) : stps m (stps n w) = stps n (stps m w) := by rw [← stps_add, ← stps_add, Nat.add_comm]
theorem stps_zero (n : Nat) : stps n 0 = 0 := by
  induction n with
  | zero => rfl
  | succ n ih => show stps n (stp 0) = 0; exact ih
theorem stps_pow (k q : Nat) : stps k (2 ^ k * q) = q := by
  induction k generalizing q with
  | zero => show 2 ^ 0 * q = q; simp
  | succ k ih =>
    show stps k (stp (2 ^ (k + 1) * q)) = q
    rw [show 2 ^ (k + 1) * q = 2 * (2 ^ k * q) by rw [Nat.pow_succ, Nat.mul_comm (2 ^ k) 2, Nat.mul_assoc], stp_even]
    exact ih q
theorem stp_lt {w : Nat} (h : w < 4294967296) : stp w < 4294967296 := by
  unfold stp
  split
  · omega
  · exact xor32_lt (by omega) (by omega)
theorem stps_lt (n : Nat) {w : Nat} (h : w < 4294967296) : stps n w < 4294967296 := by
  induction n generalizing w with
  | zero => exact h
  | succ n ih => exact ih (stp_lt h)
theorem xor_eq_zero' {a b : Nat} (h : a ^^^ b = 0) : a = b := by
  have := congrArg (· ^^^ b) h
  simp only [Nat.xor_assoc, Nat.xor_self, Nat.xor_zero, Nat.zero_xor] at this
  exact this
theorem stp_ne {w : Nat} (h : w < 4294967296) (h0 : w ≠ 0) : stp w ≠ 0 := by
  unfold stp
  split
  · omega
  · intro e
    have := xor_eq_zero' e
    omega
theorem stps_ne (n : Nat) {w : Nat} (h : w < 4294967296) (h0 : w ≠ 0) : stps n w ≠ 0 := by
  induction n generalizing w with
  | zero => exact h0
  | succ n ih => exact ih (stp_lt h) (stp_ne h h0)
/-- a high part and a low part, laid together -/
theorem xor_pow (m x b : Nat) (h : b < 2 ^ m) : (2 ^ m * x) ^^^ b = 2 ^ m * x + b := by
  apply Nat.eq_of_testBit_eq
  intro j
  rw [Nat.testBit_xor, Nat.testBit_two_pow_mul_add x h, Nat.testBit_two_pow_mul]
  by_cases hj : j < m
  · rw [if_pos hj]
    simp [show ¬ m ≤ j by omega]
  · rw [if_neg hj]
    have : b.testBit j = false := Nat.testBit_lt_two_pow (Nat.lt_of_lt_of_le h (Nat.pow_le_pow_right (by omega) (by omega)))
    simp [this, show m ≤ j by omega]
theorem nib_eq (w : Nat) : nib w = stps 4 w := by
  have e : w = (2 ^ 4 * (w / 16)) ^^^ (w % 16) := by rw [xor_pow 4 (w / 16) (w % 16) (by omega)]; omega
  have ht : ∀ r : Fin 16, stps 4 r.1 = t4 r.1 := by decide
  conv => rhs; rw [e, stps_xor, stps_pow, ht ⟨w % 16, by omega⟩]
  rfl
theorem crcB_eq (w b : Nat) : crcB w b = stps 8 (w ^^^ b) := by
  unfold crcB
  rw [nib_eq, nib_eq, ← stps_add]
/-- a text as a number, the lowest bit first -/
def numL : List UInt8 → Nat
  | [] => 0
  | b :: r => b.toNat + 256 * numL r
theorem crcW_num (d : Nat) (l : List UInt8) : crcW d l = stps (8 * l.length) (d ^^^ numL l) := by
  induction l generalizing d with
  | nil => show d = stps 0 (d ^^^ 0); rw [Nat.xor_zero]; rfl
  | cons b r ih =>
    show crcW (crcB d b.toNat) r = _
    have hb := b.toNat_lt
    have e : numL (b :: r) = (2 ^ 8 * numL r) ^^^ b.toNat := by
      rw [xor_pow 8 (numL r) b.toNat (by omega)]; show b.toNat + 256 * numL r = _; omega
    rw [ih, crcB_eq, e, List.length_cons, show 8 * (r.length + 1) = 8 + 8 * r.length by omega, stps_add]
    congr 1
    rw [Nat.xor_comm (2 ^ 8 * numL r), ← Nat.xor_assoc]
    conv => rhs; rw [stps_xor, stps_pow]
theorem crcW_lin (d e : Nat) (l : List UInt8) : crcW (d ^^^ e) l = crcW d l ^^^ stps (8 * l.length) e := by
  rw [crcW_num, crcW_num, ← stps_xor, Nat.xor_assoc, Nat.xor_assoc, Nat.xor_comm e]
theorem crcN_join (s : Nat) (l : List UInt8) : crcN s l = stps (8 * l.length) s ^^^ crcN 0 l := by
  unfold crcN
  rw [crcW_lin, Nat.xor_zero, ← Nat.xor_assoc, Nat.xor_comm]
/-- the sum of two texts -/
theorem crc_cat (x y : List UInt8) : crcN 0 (x ++ y) = stps (8 * y.length) (crcN 0 x) ^^^ crcN 0 y := by
  rw [crcN_append, crcN_join]
/-- the product, bit by bit from the highest -/
def pr (a b : Nat) : Nat → Nat
  | 0 => 0
  | k + 1 => if 2147483648 ≤ a * 2 ^ k % 4294967296 then pr a b k ^^^ stps k b else pr a b k
theorem pr_lt (a b k : Nat) (h : b < 4294967296) : pr a b k < 4294967296 := by
  induction k with
  | zero => show 0 < _; omega
  | succ k ih =>
    unfold pr
    split
    · exact xor32_lt ih (stps_lt k h)
    · exact ih
theorem pr_steps (a n b k : Nat) : pr a (stps n b) k = stps n (pr a b k) := by
  induction k with
  | zero => exact (stps_zero n).symm
  | succ k ih =>
    unfold pr
    split
    · rw [ih, stps_comm, ← stps_xor]
    · exact ih
theorem one_steps (k : Nat) (h : k ≤ 31) : stps k 2147483648 = 2 ^ (31 - k) := by
  have := stps_pow k (2 ^ (31 - k))
  rw [← Nat.pow_add, show k + (31 - k) = 31 by omega] at this
  exact this
theorem top_bit (a k : Nat) (hk : k ≤ 31) : (2147483648 ≤ a * 2 ^ k % 4294967296) ↔ (a / 2 ^ (31 - k)) % 2 = 1 := by
  have hP : 2 ^ (31 - k) * 2 ^ k = 2147483648 := by rw [← Nat.pow_add, show 31 - k + k = 31 by omega]
  have hp : 0 < 2 ^ k := Nat.pow_pos (by omega)
  have hq : 0 < 2 ^ (31 - k) := Nat.pow_pos (by omega)
  have e1 : a * 2 ^ k % 4294967296 = (a % (2 * 2 ^ (31 - k))) * 2 ^ k := by
    rw [show 4294967296 = (2 * 2 ^ (31 - k)) * 2 ^ k by rw [Nat.mul_assoc, hP], Nat.mul_mod_mul_right]
  rw [e1, ← hP]
  have e2 : a % (2 * 2 ^ (31 - k)) / 2 ^ (31 - k) = a / 2 ^ (31 - k) % 2 := by
    rw [Nat.mul_comm 2, Nat.mod_mul_right_div_self]
  rw [← e2]
  have hlt : a % (2 * 2 ^ (31 - k)) < 2 * 2 ^ (31 - k) := Nat.mod_lt _ (by omega)
  constructor
  · intro h
    have h1 : 2 ^ (31 - k) ≤ a % (2 * 2 ^ (31 - k)) := Nat.le_of_mul_le_mul_right h hp
    have h2 : 1 ≤ a % (2 * 2 ^ (31 - k)) / 2 ^ (31 - k) := (Nat.le_div_iff_mul_le hq).2 (by omega)
    have h3 : a % (2 * 2 ^ (31 - k)) / 2 ^ (31 - k) < 2 := Nat.div_lt_of_lt_mul (Nat.lt_of_lt_of_eq hlt (Nat.mul_comm _ _))
    omega
  · intro h
    apply Nat.mul_le_mul_right
    have := Nat.div_mul_le_self (a % (2 * 2 ^ (31 - k))) (2 ^ (31 - k))
    rw [h, Nat.one_mul] at this
    exact this
theorem pr_one (a k : Nat) (ha : a < 4294967296) (hk : k ≤ 32) : pr a 2147483648 k = 2 ^ (32 - k) * (a / 2 ^ (32 - k)) := by
  induction k with
  | zero => show 0 = 2 ^ 32 * (a / 2 ^ 32); rw [Nat.div_eq_of_lt ha]
  | succ k ih =>
    have ih := ih (by omega)
    have e32 : 2 ^ (32 - k) = 2 * 2 ^ (31 - k) := by rw [show 32 - k = (31 - k) + 1 by omega, Nat.pow_succ, Nat.mul_comm]
    have ea : a / 2 ^ (32 - k) = a / 2 ^ (31 - k) / 2 := by rw [e32, Nat.mul_comm, Nat.div_div_eq_div_mul]
    unfold pr
    rw [show 32 - (k + 1) = 31 - k by omega]
    have ih' : pr a 2147483648 k = 2 ^ (32 - k) * (a / 2 ^ (31 - k) / 2) := by rw [ih, ea]
    have hpos : 2 ^ (31 - k) < 2 ^ (32 - k) := by rw [e32]; have : 0 < 2 ^ (31 - k) := Nat.pow_pos (by omega); omega
    split
    · rename_i h
      rw [top_bit a k (by omega)] at h
      rw [ih', one_steps k (by omega), xor_pow (32 - k) _ _ hpos, e32]
      generalize a / 2 ^ (31 - k) = X at *
      generalize 2 ^ (31 - k) = P
      have : X = 2 * (X / 2) + 1 := by omega
      conv => rhs; rw [this]
      rw [Nat.mul_add, Nat.mul_one, ← Nat.mul_assoc, Nat.mul_comm P 2]
    · rename_i h
      rw [top_bit a k (by omega)] at h
      rw [ih', e32]
      generalize a / 2 ^ (31 - k) = X at *
      generalize 2 ^ (31 - k) = P
      have : X = 2 * (X / 2) := by omega
      conv => rhs; rw [this]
      rw [← Nat.mul_assoc, Nat.mul_comm P 2]
/-- a product with so many steps of one is so many steps -/
theorem pr_power (a n : Nat) (ha : a < 4294967296) : pr a (stps n 2147483648) 32 = stps n a := by
  rw [pr_steps, pr_one a 32 ha (by omega)]
  simp
theorem pr_stop (a b k : Nat) (h : a * 2 ^ k % 4294967296 = 0) (j : Nat) : pr a b (k + j) = pr a b k := by
  induction j with
  | zero => rfl
  | succ j ih =>
    have e : pr a b (k + (j + 1)) = if 2147483648 ≤ a * 2 ^ (k + j) % 4294967296 then pr a b (k + j) ^^^ stps (k + j) b else pr a b (k + j) := rfl
    rw [e, if_neg, ih]
    rw [Nat.pow_add, ← Nat.mul_assoc, Nat.mul_mod, h, Nat.zero_mul, Nat.zero_mod]
    omega
theorem band_top (x : Nat) (h : x < 4294967296) : x &&& 2147483648 = if 2147483648 ≤ x then 2147483648 else 0 := by
  rw [show (2147483648 : Nat) = 2 ^ 31 from rfl]
  have hb : x.testBit 31 = decide (2 ^ 31 ≤ x) := by
    by_cases hx : 2 ^ 31 ≤ x
    · rw [decide_eq_true hx, Nat.testBit_eq_decide_div_mod_eq, decide_eq_true_eq]
      have : x / 2 ^ 31 = 1 := by omega
      omega
    · rw [decide_eq_false hx]
      exact Nat.testBit_lt_two_pow (by omega)
  apply Nat.eq_of_testBit_eq
  intro i
  rw [Nat.testBit_and, Nat.testBit_two_pow]
  by_cases hi : 31 = i
  · subst hi
    by_cases hx : 2 ^ 31 ≤ x
    · rw [hb, if_pos hx]
      rw [decide_eq_true hx, Nat.testBit_two_pow_self]
      rfl
    · rw [hb, if_neg hx]
      simp [hx]
  · split
    · rw [Nat.testBit_two_pow]; simp [hi]
    · simp [hi]
end Go.Proofs.YtgdopepghmjopaaGreatDoor
namespace Go.Proofs.YtgdopepghmjopaaGreatDoor
open Go.RowKit
theorem bxor64 (a b : Nat) (ha : a < 4294967296) (hb : b < 4294967296) : bits .xor .i64 (a : Int) (b : Int) = ((a ^^^ b : Nat) : Int) := by
  have hx : a ^^^ b < 2 ^ 32 := Nat.xor_lt_two_pow (by omega) (by omega)
  have o : ∀ c : Nat, c < 4294967296 → (BitVec.ofInt 64 (c : Int)).toNat = c := fun c hc => by
    rw [BitVec.ofInt_natCast, BitVec.toNat_ofNat]; exact Nat.mod_eq_of_lt (by omega)
  show IntKind.i64.wrap ((BitVec.ofInt 64 (a : Int) ^^^ BitVec.ofInt 64 (b : Int)).toNat : Int) = _
  rw [BitVec.toNat_xor, o a ha, o b hb]
  generalize a ^^^ b = c at *
  simp [IntKind.wrap, IntKind.signed, IntKind.bits]
  omega
set_option maxRecDepth 100000 in
/-- step -/
theorem step_any (n : Nat) (hn : n < 4294967296) (w : World) :
    Calls Tryz.prog 107 #[.int .u32 (n : Int)] w fun e w' => e = .returned (.int .u32 (stp n : Int)) ∧ w = w' := by
  by_cases h2 : n % 2 = 0
  · have hq : ((n : Int) % 2 == 0) = true := by rw [show (n : Int) % 2 = 0 by omega]; rfl
    have hr : Hid ((n : Int) / 2 = (stp n : Int)) := by show _ = _; unfold stp; rw [if_pos h2]; omega
    go_enter Tryz.func107, Tryz.ntmps107
    go_wp2
    go_ret
    exact ⟨by rw [← hr.out]; rfl, rfl⟩
  · have hq : ((n : Int) % 2 == 0) = false := by rw [show (n : Int) % 2 = 1 by omega]; rfl
    have hx : bits .xor .u32 ((n : Int) / 2) 3988292384 = (stp n : Int) := by
      have := bxor32 (n / 2) 3988292384 (by omega) (by omega)
      rw [show ((n / 2 : Nat) : Int) = (n : Int) / 2 by omega] at this
      unfold stp
      rw [if_neg h2]
      exact this
    go_enter Tryz.func107, Tryz.ntmps107
    go_wp2
    go_ret
    exact ⟨rfl, rfl⟩
set_option maxHeartbeats 1000000 in
set_option maxRecDepth 100000 in
/-- product -/
theorem product_any (a b : Nat) (ha : a < 4294967296) (hb : b < 4294967296) (w : World) :
    Calls Tryz.prog 95 #[.int .u32 (a : Int), .int .u32 (b : Int)] w fun e w' => e = .returned (.int .u32 (pr a b 32 : Int)) ∧ w = w' := by
  go_enter Tryz.func95, Tryz.ntmps95
  go_wp2
  go_loopg [0, 1, 5] 32 (fun gk x y z wr => ∃ k : Nat, k + gk = 32 ∧ x = .int .u32 ((a * 2 ^ k % 4294967296 : Nat) : Int) ∧ y = .int .u32 (stps k b : Int) ∧ z = .int .u32 (pr a b k : Int) ∧ wr = w)
  case atStart => exact ⟨0, rfl, by rw [Nat.pow_zero, Nat.mul_one, Nat.mod_eq_of_lt ha], rfl, rfl, rfl⟩
  case round =>
    obtain ⟨k, hk, rfl, rfl, rfl, rfl⟩ := hrel
    have hxl : a * 2 ^ k % 4294967296 < 4294967296 := Nat.mod_lt _ (by omega)
    have hyl : stps k b < 4294967296 := stps_lt k hb
    have hzl : pr a b k < 4294967296 := pr_lt a b k hb
    have hnext : a * 2 ^ (k + 1) % 4294967296 = 2 * (a * 2 ^ k % 4294967296) % 4294967296 := by
      rw [Nat.pow_succ, ← Nat.mul_assoc, Nat.mul_comm _ 2]
      omega
    have hpr : pr a b (k + 1) = if 2147483648 ≤ a * 2 ^ k % 4294967296 then pr a b k ^^^ stps k b else pr a b k := rfl
    have hst : stps (k + 1) b = stp (stps k b) := by rw [stps_add]; rfl
    have hend : a * 2 ^ k % 4294967296 = 0 → pr a b 32 = pr a b k := fun h => by have := pr_stop a b k h gk; rwa [hk] at this
    have hlast : gk = 0 → a * 2 ^ k % 4294967296 = 0 := fun h => by
      rw [show k = 32 by omega, show (2 : Nat) ^ 32 = 4294967296 from rfl]
      exact Nat.mul_mod_left _ _
    generalize a * 2 ^ k % 4294967296 = x at *
    generalize stps k b = y at *
    generalize pr a b k = z at *
    have HN := hide hnext
    have HP := hide hpr
    have HST := hide hst
    have HE := hide hend
    clear hnext hpr hst hend
    have CS : Hid (∀ w', Calls Tryz.prog 107 #[.int .u32 (y : Int)] w' fun e w'' => e = .returned (.int .u32 (stp y : Int)) ∧ w' = w'') := fun w' => step_any y hyl w'
    by_cases hx0 : x = 0
    · have HE0 := hide (HE.out hx0)
      subst hx0
      clear HE HP HN
      go_wp2
      go_ret
      exact ⟨by rw [HE0.out]; rfl, rfl⟩
    · have hne : ((x : Int) != 0) = true := by simp; omega
      have hgk : gk ≠ 0 := fun h => hx0 (hlast h)
      have hsh : (2 * (x : Int)) % 4294967296 = ((2 * x % 4294967296 : Nat) : Int) := by omega
      by_cases htop : 2147483648 ≤ x
      · have hband : bits .and .u32 (x : Int) 2147483648 = 2147483648 := by
          have := band32 x 2147483648 hxl (by omega)
          rw [band_top x hxl, if_pos htop] at this
          exact this
        have hxz := bxor32 z y hzl hyl
        have HP' : Hid (pr a b (k + 1) = z ^^^ y) := by show _ = _; rw [HP.out, if_pos htop]
        generalize z ^^^ y = zy at *
        go_wp2_with (go_at_call 107; refine Calls.mono (CS.out _) ?_; rintro e wx ⟨rfl, rfl⟩)
        go_roundg (gk - 1)
        case measure => omega
        case rel => exact ⟨k + 1, by omega, by rw [HN.out]; go_num, by rw [HST.out], by rw [HP'.out], rfl⟩
      · have hband : bits .and .u32 (x : Int) 2147483648 = 0 := by
          have := band32 x 2147483648 hxl (by omega)
          rw [band_top x hxl, if_neg htop] at this
          exact this
        have HP' : Hid (pr a b (k + 1) = z) := by show _ = _; rw [HP.out, if_neg htop]
        go_wp2_with (go_at_call 107; refine Calls.mono (CS.out _) ?_; rintro e wx ⟨rfl, rfl⟩)
        go_roundg (gk - 1)
        case measure => omega
        case rel => exact ⟨k + 1, by omega, by rw [HN.out]; go_num, by rw [HST.out], by rw [HP'.out], rfl⟩
end Go.Proofs.YtgdopepghmjopaaGreatDoor
namespace Go.Proofs.YtgdopepghmjopaaGreatDoor
open Go.RowKit
theorem info5j : (Tryz.prog.info? 5).map (fun i => (i.zero, i.size, i.bytes)) = some (some (.int .u8 0), 1, 1) := by kernel_rfl
theorem cat_take_len (xs : List ByteArray) (k : Nat) : (cat (xs.take k)).length ≤ (cat xs).length := by
  have : cat xs = cat (xs.take k) ++ cat (xs.drop k) := by
    unfold cat
    rw [← List.flatten_append, ← List.map_append, List.take_append_drop]
  rw [this, List.length_append]
  omega
theorem one_cell' {x : Value} (hx : x.oneCell' = true) : ∀ u ∈ [x], u.oneCell' = true := by
  intro u hu; simp at hu; subst hu; exact hx
/-- a text written over -/
def turnB (x : ByteArray) : ByteArray := if x.size = 0 then ⟨#[120]⟩ else strOf (UInt8.ofNat ((x.data.toList.getD 0 0).toNat ^^^ 1) :: x.data.toList.drop 1)
theorem bxor8 (a b : Nat) (ha : a < 256) (hb : b < 256) : bits .xor .u8 (a : Int) (b : Int) = ((a ^^^ b : Nat) : Int) := by
  have hx : a ^^^ b < 2 ^ 8 := Nat.xor_lt_two_pow (by omega) (by omega)
  have o : ∀ c : Nat, c < 256 → (BitVec.ofInt 8 (c : Int)).toNat = c := fun c hc => by
    rw [BitVec.ofInt_natCast, BitVec.toNat_ofNat]; exact Nat.mod_eq_of_lt (by omega)
  show IntKind.u8.wrap ((BitVec.ofInt 8 (a : Int) ^^^ BitVec.ofInt 8 (b : Int)).toNat : Int) = _
  rw [BitVec.toNat_xor, o a ha, o b hb]
  exact u8_in (by omega) (by omega)
/-- the list, its first k texts written over -/
def ovK (xs : List ByteArray) (k : Nat) : List ByteArray := (xs.take k).map turnB ++ xs.drop k
theorem ovK_len (xs : List ByteArray) (k : Nat) : (ovK xs k).length = xs.length := by simp [ovK]; omega
theorem ovK_get (xs : List ByteArray) (k : Nat) (h : k < xs.length) : (ovK xs k)[k]? = some xs[k] := by
  unfold ovK
  rw [List.getElem?_append_right (by simp; omega)]
  simp only [List.length_map, List.length_take, List.getElem?_drop]
  rw [show min k xs.length = k by omega, Nat.sub_self, Nat.add_zero, List.getElem?_eq_getElem h]
theorem ovK_set (xs : List ByteArray) (k : Nat) (h : k < xs.length) : (ovK xs k).set k (turnB xs[k]) = ovK xs (k + 1) := by
  unfold ovK
  have hl : ((xs.take k).map turnB).length = k := by simp; omega
  rw [List.set_append_right _ _ (by omega), hl, Nat.sub_self, List.drop_eq_getElem_cons h, List.set_cons_zero, List.take_succ_eq_append_getElem h, List.map_append, List.append_assoc]
  rfl
theorem byte_string (w : World) (V : Nat) (hV : V < 256) : (convert 39 9 (.slice (some ⟨w.heap.size, 0, none⟩) 1 1)).run Tryz.prog (w.alloc (.cells #[.int .u8 (V : Int)] 5)).drew = .ok (.string (strOf [UInt8.ofNat V])) (w.alloc (.cells #[.int .u8 (V : Int)] 5)).drew := by
  have := run_convert_bytes_back (P := Tryz.prog) (w.alloc (.cells #[.int .u8 (V : Int)] 5)).drew 39 9 5 ⟨w.heap.size, 0, none⟩ 1 [UInt8.ofNat V] Tryz.underlying39 Tryz.underlying5 Tryz.underlying9 (fun j hj => by
    obtain rfl : j = 0 := by simpa using hj
    have e : (UInt8.ofNat V).toNat = V := by rw [UInt8.toNat_ofNat']; omega
    simp [Addr.add, e])
  exact this
end Go.Proofs.YtgdopepghmjopaaGreatDoor
namespace Go.Proofs.YtgdopepghmjopaaGreatDoor
open Go.RowKit
theorem info9 : (Tryz.prog.info? 9).map (fun i => (i.zero, i.size, i.bytes)) = some (some (.string ByteArray.empty), 1, 16) := by kernel_rfl
set_option maxRecDepth 100000 in
/-- the document's step -/
theorem rstep_any (n : Nat) (hn : n < 4294967296) (w : World) :
    Calls Tryz.prog 80 #[.int .i64 (n : Int)] w fun e w' => e = .returned (.int .i64 (stp n : Int)) ∧ w = w' := by
  by_cases h2 : n % 2 = 0
  · have hq : ((n : Int) % 2 == 0) = true := by rw [show (n : Int) % 2 = 0 by omega]; rfl
    have hr : Hid ((n : Int) / 2 = (stp n : Int)) := by show _ = _; unfold stp; rw [if_pos h2]; omega
    go_enter Tryz.func80, Tryz.ntmps80
    go_wp2
    go_ret
    exact ⟨by rw [← hr.out]; rfl, rfl⟩
  · have hq : ((n : Int) % 2 == 0) = false := by rw [show (n : Int) % 2 = 1 by omega]; rfl
    have hx : bits .xor .i64 ((n : Int) / 2) 3988292384 = (stp n : Int) := by
      have := bxor64 (n / 2) 3988292384 (by omega) (by omega)
      rw [show ((n / 2 : Nat) : Int) = (n : Int) / 2 by omega] at this
      unfold stp
      rw [if_neg h2]
      exact this
    go_enter Tryz.func80, Tryz.ntmps80
    go_wp2
    go_ret
    exact ⟨rfl, rfl⟩
theorem stps_succ (k w : Nat) : stps (k + 1) w = stp (stps k w) := by rw [stps_add]; rfl
set_option maxHeartbeats 1000000 in
set_option maxRecDepth 100000 in
/-- the document's CRC -/
theorem rcrc_any (s : ByteArray) (w : World) (hs : s.size ≤ 9223372036854775807) :
    Calls Tryz.prog 60 #[.string s] w fun e w' => e = .returned (.int .i64 (crcN 0 s.data.toList : Int)) ∧ w = w' := by
  go_enter Tryz.func60, Tryz.ntmps60
  go_wp2
  go_loop [3, 4] (fun v i => ∃ k : Nat, k ≤ s.size ∧ i = .int .i64 k ∧ v = .int .i64 (crcW 4294967295 (s.data.toList.take k) : Int)) (fun _ i => s.size - (intOf i).toNat)
  case atStart => exact ⟨0, Nat.zero_le _, rfl, rfl⟩
  case round =>
    obtain ⟨k, hk, rfl, rfl⟩ := hrel
    have hW4 : crcW 4294967295 (s.data.toList.take k) < 4294967296 := crcW_lt _ (by omega)
    by_cases hlt : k < s.size
    · have hS := crcW_snoc 4294967295 s.data.toList k (by rw [size_data]; exact hlt)
      have hxs := fun w' => ix_str w' s k hlt
      rw [show s.data.toList[k]'(by rw [size_data]; exact hlt) = s[k] from rfl, crcB_eq] at hS
      have hX0 : s[k].toNat < 256 := s[k].toNat_lt
      generalize s[k].toNat = X at *
      have HS := hide hS
      clear hS
      generalize crcW 4294967295 (s.data.toList.take k) = W at *
      have h1 := bxor64 W X hW4 (by omega)
      have h1l : W ^^^ X < 4294967296 := xor32_lt hW4 (by omega)
      generalize W ^^^ X = Y at *
      go_wp2_with fail
      go_loop [3, 5] (fun v j => ∃ r : Nat, r ≤ 8 ∧ j = .int .i64 r ∧ v = .int .i64 (stps r Y : Int)) (fun _ j => 8 - (intOf j).toNat)
      case atStart => exact ⟨0, by omega, rfl, rfl⟩
      case round =>
        obtain ⟨r, hr, rfl, rfl⟩ := hrel
        have hYl := stps_lt r h1l
        have hY1 := stps_succ r Y
        have HY := hide hY1
        clear hY1
        by_cases hr8 : r < 8
        · generalize stps r Y = Z at *
          go_wp2_with (go_at_call 80; refine Calls.mono (rstep_any _ hYl _) ?_; rintro e wx ⟨rfl, rfl⟩)
          go_round
          case rel => exact ⟨r + 1, by omega, by go_num, by rw [HY.out]⟩
          case measure => simp [intOf]; omega
        · obtain rfl : r = 8 := by omega
          go_wp2_with fail
          go_round
          case rel => exact ⟨k + 1, by omega, by go_num, by rw [HS.out]⟩
          case measure => simp [intOf]; omega
    · obtain rfl : k = s.size := by omega
      rw [List.take_of_length_le (by simp)] at hW4 ⊢
      have hx : bits .xor .i64 (crcW 4294967295 s.data.toList : Int) 4294967295 = ((crcW 4294967295 s.data.toList ^^^ 4294967295 : Nat) : Int) := bxor64 _ 4294967295 hW4 (by omega)
      have HF : Hid (crcN 0 s.data.toList = crcW 4294967295 s.data.toList ^^^ 4294967295) := by show _ = _; unfold crcN; rw [Nat.xor_zero, Nat.xor_comm]
      generalize crcW 4294967295 s.data.toList ^^^ 4294967295 = Z at *
      go_wp2
      go_ret
      exact ⟨by rw [HF.out]; rfl, rfl⟩
/-- a list of the call's own -/
def OL (lo : Nat) (w : World) (v : Value) (xs : List ByteArray) : Prop :=
  (xs = [] ∧ v = .slice none 0 0) ∨ ∃ g c, lo ≤ g ∧ 0 < xs.length ∧ v = .slice (some ⟨g, 0, none⟩) xs.length c ∧ g < w.heap.size ∧ w.ownsRow lo 9 1 v xs.length (xs.map Value.string)
theorem OL_of {wr : World} {base : Nat} {ys : List ByteArray} {v : Value} (h : wr.ownsRow base 9 1 v ys.length (ys.map Value.string)) (hnil : ys = [] → v = .slice none 0 0) : OL base wr v ys := by
  by_cases h0 : ys = []
  · exact Or.inl ⟨h0, hnil h0⟩
  · have hpos : 0 < ys.length := List.length_pos_iff.2 h0
    rcases h.2 with ⟨_, hz⟩ | ⟨g, cap, cur, hv, hg, hblk, hn, hc, hcs, htake⟩
    · omega
    · refine Or.inr ⟨g, cap, hg, hpos, hv, ?_, h⟩
      rcases Nat.lt_or_ge g wr.heap.size with h' | h'
      · exact h'
      · rw [Array.getElem?_eq_none h'] at hblk; simp at hblk
theorem own_lies {w : World} {base g c : Nat} {xs : List ByteArray} (h : w.ownsRow base 9 1 (.slice (some ⟨g, 0, none⟩) xs.length c) xs.length (xs.map Value.string)) : Lies g 0 w xs := by
  intro j x hx
  have hj := (List.getElem?_eq_some_iff.1 hx).1
  rw [Nat.zero_add, h.cellAt j (by omega)]
  simp [hx]
theorem turnB_size (x : ByteArray) : (turnB x).size ≤ x.size + 1 := by
  unfold turnB
  split
  · show 1 ≤ _; omega
  · rw [strOf_size, List.length_cons, List.length_drop, size_data]; omega
theorem cat_turn (xs : List ByteArray) : (cat (xs.map turnB)).length ≤ (cat xs).length + xs.length := by
  induction xs with
  | nil => simp [cat]
  | cons a t ih =>
    have e1 : cat ((a :: t).map turnB) = (turnB a).data.toList ++ cat (t.map turnB) := by simp [cat]
    have e2 : cat (a :: t) = a.data.toList ++ cat t := by simp [cat]
    have := turnB_size a
    rw [e1, e2, List.length_append, List.length_append, size_data, size_data, List.length_cons]
    omega
theorem mem_catj {xs : List ByteArray} {x : ByteArray} (h : x ∈ xs) : x.size ≤ (cat xs).length := by
  obtain ⟨k, hk, rfl⟩ := List.getElem_of_mem h
  have h1 := cat_take_len xs (k + 1)
  rw [cat_snoc xs k hk, List.length_append, size_data] at h1
  omega
end Go.Proofs.YtgdopepghmjopaaGreatDoor
namespace Go.Proofs.YtgdopepghmjopaaGreatDoor
open Go.RowKit Go.Shelf
set_option maxHeartbeats 1000000 in
set_option maxRecDepth 100000 in
theorem rin_any (n lo hi : Int) (w : World) :
    Calls Tryz.prog 56 #[.int .i64 n, .int .i64 lo, .int .i64 hi] w fun e w' => e = .returned (.bool (inR n lo hi)) ∧ w = w' := by
  obtain ⟨B, hB⟩ : ∃ B, B = inR n lo hi := ⟨_, rfl⟩
  rw [← hB]
  unfold inR at hB
  have HB := hide hB
  clear hB
  by_cases h : lo ≤ n
  · go_enter Tryz.func56, Tryz.ntmps56
    go_wp2
    go_ret
    refine ⟨ret_bool ?_, rfl⟩
    rw [HB.out, decide_eq_true h]; rfl
  · go_enter Tryz.func56, Tryz.ntmps56
    go_wp2
    go_ret
    refine ⟨ret_bool ?_, rfl⟩
    rw [HB.out, decide_eq_false (by omega)]; rfl
theorem ret_i {a b : Int} (h : a = b) : Ending.returned (.int .i64 a) = .returned (.int .i64 b) := by rw [h]
theorem wrap64_in {x : Int} (h0 : 0 ≤ x) (h1 : x < 9223372036854775808) : wrap64 x = x := by
  unfold wrap64
  omega
theorem one_of {x : Value} (hx : x.oneCell' = true) : ∀ u ∈ [x], u.oneCell' = true := by
  intro u hu; simp at hu; subst hu; exact hx
/-- the first j of the eight digits -/
def eightL (n j : Nat) : List UInt8 := (List.range j).map fun t => hd (n / 16 ^ (7 - t) % 16)
theorem eightL_succ (n j : Nat) : eightL n (j + 1) = eightL n j ++ [hd (n / 16 ^ (7 - j) % 16)] := by
  unfold eightL; rw [List.range_succ, List.map_append]; rfl
theorem eightL_len (n j : Nat) : (eightL n j).length = j := by simp [eightL]
theorem eightL_all (n : Nat) (h : n < 4294967296) : eightL n 8 = hexL (be4 n) := by
  have e : ∀ m : Nat, (UInt8.ofNat m).toNat = m % 256 := fun m => by simp
  simp only [eightL, List.range, List.range.loop, List.map_cons, List.map_nil, be4, hexL, e]
  simp only [show (7 - 0 : Nat) = 7 from rfl, show (7 - 1 : Nat) = 6 from rfl, show (7 - 2 : Nat) = 5 from rfl, show (7 - 3 : Nat) = 4 from rfl, show (7 - 4 : Nat) = 3 from rfl, show (7 - 5 : Nat) = 2 from rfl, show (7 - 6 : Nat) = 1 from rfl, show (7 - 7 : Nat) = 0 from rfl, Nat.reducePow]
  congr 1
  · congr 1; omega
  · congr 1
    · congr 1; omega
    · congr 1
      · congr 1; omega
      · congr 1
        · congr 1; omega
        · congr 1
          · congr 1; omega
          · congr 1
            · congr 1; omega
            · congr 1
              · congr 1; omega
              · congr 1; congr 1; omega
set_option maxHeartbeats 4000000 in
set_option maxRecDepth 100000 in
theorem eight_any (n : Nat) (hn : n < 4294967296) (w : World) :
    Calls Tryz.prog 20 #[.int .i64 (n : Int)] w fun e w' => e = .returned (.string (strOf (hexL (be4 n)))) ∧ Below w.heap.size w w' := by
  obtain ⟨i0, hi, hz0, hz1, hz2⟩ := info_parts info5
  rw [← eightL_all n hn]
  go_enter Tryz.func20, Tryz.ntmps20
  go_wp2_with fail
  go_loopw [3, 4, 5, 6] (fun v i _ _ wr => ∃ j : Nat, j ≤ 8 ∧ i = .int .i64 (7 - (j : Int)) ∧ Hid (wr.ownsRow w.heap.size 5 1 v j ((eightL n j).map ub) ∧ Below w.heap.size w wr)) (fun _ i _ _ _ => (intOf i + 1).toNat)
  case atStart => exact ⟨0, by omega, rfl, World.ownsRow_nil _ _ _ _, Below.refl _ _⟩
  case round =>
    obtain ⟨j, hj, rfl, H⟩ := hrel
    by_cases hlt : j < 8
    · have hg : (0 : Int) ≤ 7 - (j : Int) := by omega
      go_wp2_with fail
      go_loop [5, 6] (fun p k => ∃ t : Nat, t ≤ 7 - j ∧ k = .int .i64 (t : Int) ∧ p = .int .i64 ((16 ^ t : Nat) : Int)) (fun _ k => 7 - (intOf k).toNat)
      case atStart => exact ⟨0, Nat.zero_le _, rfl, rfl⟩
      case round =>
        obtain ⟨t, ht, rfl, rfl⟩ := hrel
        have hp7 : 16 ^ t ≤ 268435456 := Nat.le_trans (Nat.pow_le_pow_right (by omega) (show t ≤ 7 by omega)) (by decide)
        have hps : Hid (16 ^ (t + 1) = 16 * 16 ^ t) := by show _ = _; rw [Nat.pow_succ]; omega
        have hpp : 0 < 16 ^ t := Nat.pow_pos (by omega)
        by_cases htl : t < 7 - j
        · generalize 16 ^ t = PW at *
          have hc : (t : Int) < 7 - (j : Int) := by omega
          go_wp2_with fail
          go_round
          case rel => exact ⟨t + 1, by omega, by go_num, by rw [hps.out]; go_num⟩
          case measure => simp [intOf]; omega
        · obtain rfl : t = 7 - j := by omega
          have hc : ¬ (((7 - j : Nat) : Int) < 7 - (j : Int)) := by omega
          have HE := hide (eightL_succ n j)
          generalize 16 ^ (7 - j) = PW at *
          have hq : wrap64 ((n : Int) / (PW : Int)) = ((n / PW : Nat) : Int) := by
            have e1 : (n : Int) / (PW : Int) = ((n / PW : Nat) : Int) := by simp
            have e2 : n / PW ≤ n := Nat.div_le_self n PW
            have e3 : (0 : Int) ≤ ((n / PW : Nat) : Int) := Int.natCast_nonneg _
            have e4 : ((n / PW : Nat) : Int) ≤ (n : Int) := by exact_mod_cast e2
            rw [e1]
            generalize ((n / PW : Nat) : Int) = Z at *
            exact wrap64_in (by omega) (by omega)
          have hQ : n / PW < 4294967296 := Nat.lt_of_le_of_lt (Nat.div_le_self n PW) hn
          generalize n / PW = Q at *
          have hd1 : ∀ w', (Instr.index 9 (.string ⟨#[48, 49, 50, 51, 52, 53, 54, 55, 56, 57, 97, 98, 99, 100, 101, 102]⟩) (.int .i64 ((Q : Int) % 16))).run Tryz.prog w' = .ok (.int .u8 ((hd (Q % 16)).toNat : Int)) w' := fun w' => by
            have := ix_digs w' (Q % 16) (by omega) .i64
            rwa [show ((Q % 16 : Nat) : Int) = (Q : Int) % 16 by omega] at this
          obtain ⟨hown, hnx⟩ := H.out
          have hsize := hnx.size
          go_wp2_with (at_builtin; refine wpList_append_own _ rfl (.tmp 18) (.tmp 24) 39 rfl w.heap.size 5 i0 (.int .u8 0) 1 1 Tryz.underlying39 hi hz0 hz1 hz2 rfl (by decide) _ _ _ rfl (hown.alloc _) ⟨wr.heap.size, 0, none⟩ 1 1 [.int .u8 (hd (Q % 16)).toNat] rfl rfl (cell_one_new _ _ _) (one_of rfl) (by unfold maxLen; omega) (by omega) (by simp; omega) ?_; intro v1 w2 hown2 hgrow2 hnil2)
          have H2 : Hid (w2.ownsRow w.heap.size 5 1 v1 (j + 1) ((eightL n (j + 1)).map ub) ∧ Below w.heap.size w w2) := by
            refine ⟨?_, (hnx.alloc hsize _).grown hgrow2 (by simp; omega) (fun j hj => (hown.lt j hj).1)⟩
            rw [HE.out, List.map_append]
            exact hown2
          clear hown2 hgrow2 hnil2 hown hnx H
          go_roundw
          case rel => exact ⟨j + 1, by omega, by go_num, H2⟩
          case measure => simp [intOf]; omega
    · obtain rfl : j = 8 := by omega
      have hc := own_conv (P := Tryz.prog) (src := 39) (dst := 9) H.out.1 (by rw [eightL_len]) Tryz.underlying39 Tryz.underlying5 Tryz.underlying9
      go_wp2_with fail
      go_ret
      exact ⟨rfl, H.out.2⟩
end Go.Proofs.YtgdopepghmjopaaGreatDoor
namespace Go.Proofs.YtgdopepghmjopaaGreatDoor
open Go.RowKit Go.Shelf
theorem strOf_append (a b : List UInt8) : strOf (a ++ b) = strOf a ++ strOf b := by
  rw [← strOf_toList (strOf a ++ strOf b)]
  congr 1
theorem ba_eq {a b : ByteArray} (h : a.data.toList = b.data.toList) : a = b := by rw [← strOf_toList a, h, strOf_toList]
theorem ba_app (a b : ByteArray) : (a ++ b).data.toList = a.data.toList ++ b.data.toList := by simp
theorem seal_eq (s : ByteArray) (c : Nat) : s ++ ⟨#[115, 117, 109, 32]⟩ ++ strOf (hexL (be4 c)) ++ ⟨#[10]⟩ = s ++ strOf (sealL sumWd c) := by
  apply ba_eq
  simp only [ba_app, strOf_data, sealL, List.append_assoc]
  rfl
theorem ret_s {a b : ByteArray} (h : a = b) : Ending.returned (.string a) = .returned (.string b) := by rw [h]
set_option maxHeartbeats 1000000 in
set_option maxRecDepth 100000 in
theorem closed_any (s : ByteArray) (w : World) (hs : s.size ≤ 70368744177664) :
    Calls Tryz.prog 22 #[.string s] w fun e w' => e = .returned (.string (s ++ strOf (sealL sumWd (crcN 0 s.data.toList)))) ∧ Below w.heap.size w w' := by
  have C1 := hide (rcrc_any s w (by omega))
  have hlt : crcN 0 s.data.toList < 4294967296 := crcN_lt _ (by omega)
  have C2 := hide (fun w' => eight_any (crcN 0 s.data.toList) hlt w')
  have HE := hide (seal_eq s (crcN 0 s.data.toList))
  have hE : (strOf (hexL (be4 (crcN 0 s.data.toList)))).size = 8 := by rw [strOf_size, hexL_len]; rfl
  generalize strOf (sealL sumWd (crcN 0 s.data.toList)) = SL at *
  generalize strOf (hexL (be4 (crcN 0 s.data.toList))) = E at *
  generalize crcN 0 s.data.toList = c at *
  go_enter Tryz.func22, Tryz.ntmps22
  go_wp2_with fail
  refine Calls.mono C1.out ?_
  rintro e w1 ⟨rfl, rfl⟩
  go_wp2_with fail
  refine Calls.mono (C2.out _) ?_
  rintro e w2 ⟨rfl, b2⟩
  have hE2 : (s ++ ⟨#[115, 117, 109, 32]⟩).size + E.size ≤ 9223372036854775807 := by rw [ByteArray.size_append, hE]; show s.size + 4 + 8 ≤ _; omega
  go_wp2_with fail
  go_ret
  exact ⟨ret_s HE.out, b2⟩
def pS1 : ByteArray := ⟨#[103, 114, 97, 110, 97, 114, 121, 32, 108, 97, 116, 101, 115, 116, 32, 49, 10, 99, 117, 114, 32]⟩
def pS2 : ByteArray := ⟨#[10, 112, 114, 101, 118, 32]⟩
def pS3 : ByteArray := ⟨#[10, 101, 112, 111, 99, 104, 32]⟩
def pS4 : ByteArray := ⟨#[10, 115, 101, 113, 32]⟩
theorem ptr_eq (c p e s : Int) : pS1 ++ itS c ++ pS2 ++ itS p ++ pS3 ++ itS e ++ pS4 ++ itS s ++ nl = ptrTitle ++ strOf (ptrL c p e s) := by
  apply ba_eq
  simp only [ba_app, strOf_data, itS, ptrL, List.append_assoc]
  rfl
end Go.Proofs.YtgdopepghmjopaaGreatDoor
namespace Go.Proofs.YtgdopepghmjopaaGreatDoor
open Go.RowKit Go.Shelf
theorem ret_si {a b : ByteArray} {c d : Int} (h1 : a = b) (h2 : c = d) : Ending.returned (.tuple #[.string a, .int .i64 c]) = .returned (.tuple #[.string b, .int .i64 d]) := by rw [h1, h2]
theorem note_eq (c p e : Int) (n : Nat) : itS c ++ bl ++ itS p ++ bl ++ itS e ++ bl ++ strOf (hexL (be4 n)) ++ bl = strOf (noteL c p e (n : Int)) := by
  apply ba_eq
  simp only [ba_app, strOf_data, itS, noteL, List.append_assoc, List.nil_append, Int.toNat_natCast]
  rfl
theorem nseal_eq (s : ByteArray) (c : Nat) : s ++ strOf (hexL (be4 c)) ++ nl = s ++ strOf (sealL ⟨#[]⟩ c) := by
  apply ba_eq
  simp only [ba_app, strOf_data, sealL, List.append_assoc]
  rfl
end Go.Proofs.YtgdopepghmjopaaGreatDoor
