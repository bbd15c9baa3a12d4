import Derived.Test.YtfcghfllhcjmnaaDoorDaJoin
namespace Go.Proofs.YtfcghfllhcjmnaaDoor
open Go.RowKit
set_option maxRecDepth 100000 in
theorem isCRC_any (n : Int) (w : World) :
    Calls Tryd.prog 32 #[.int .i64 n] w fun e w' => e = .returned (.bool (decide (0 ≤ n) && decide (n ≤ 4294967295))) ∧ w = w' := by
  by_cases h0 : 0 ≤ n
  · go_enter Tryd.func32, Tryd.ntmps32
    go_wp2
    go_ret
    exact ⟨by simp [h0], rfl⟩
  · have h0' : decide (0 ≤ n) = false := decide_eq_false h0
    go_enter Tryd.func32, Tryd.ntmps32
    go_wp2
    go_ret
    exact ⟨by simp, rfl⟩
set_option maxHeartbeats 1000000 in
set_option maxRecDepth 100000 in
/-- CRCJoin, of good arguments -/
theorem crcJoin_ok (a b n : Nat) (ha : a < 4294967296) (hb : b < 4294967296) (hn : n ≤ 9007199254740992) (w : World) :
    Calls Tryd.prog 23 #[.int .i64 (a : Int), .int .i64 (b : Int), .int .i64 (n : Int)] w fun e w' => e = .returned (.tuple #[.int .i64 ((stps (8 * n) a ^^^ b : Nat) : Int), .int .i64 0]) ∧ w = w' := by
  have I : ∀ c : Nat, c < 4294967296 → ∀ w', Calls Tryd.prog 32 #[.int .i64 (c : Int)] w' fun e w'' => e = .returned (.bool true) ∧ w' = w'' := fun c hc w' => by
    have := isCRC_any (c : Int) w'
    rw [decide_eq_true (show (0 : Int) ≤ (c : Int) by omega), decide_eq_true (show (c : Int) ≤ 4294967295 by omega)] at this
    exact this
  have HA := hide (I a ha)
  have HB := hide (I b hb)
  clear I
  go_enter Tryd.func23, Tryd.ntmps23
  go_wp2_with fail
  refine Calls.mono (HA.out _) ?_
  rintro e wx ⟨rfl, rfl⟩
  go_wp2_with fail
  refine Calls.mono (HB.out _) ?_
  rintro e wx ⟨rfl, rfl⟩
  go_wp2_with fail
  clear HA HB
  go_loopw [8, 9, 10] (fun x y i wr => ∃ m p : Nat, i = .int .i64 (m : Int) ∧ m * p ≤ n ∧ m ≤ 9007199254740992 ∧ x = .int .u32 (stps (8 * (n - m * p)) a : Int) ∧ y = .int .u32 (stps (8 * p) 2147483648 : Int) ∧ wr = w) (fun _ _ i _ => (intOf i).toNat)
  case atStart => exact ⟨n, 1, rfl, by omega, hn, by rw [Nat.mul_one, Nat.sub_self]; rfl, rfl, rfl⟩
  case round =>
    obtain ⟨m, p, rfl, hmp, hm, rfl, rfl, rfl⟩ := hrel
    have hx := stps_lt (8 * (n - m * p)) ha
    have hy : stps (8 * p) 2147483648 < 4294967296 := stps_lt (8 * p) (by omega)
    by_cases h0 : m = 0
    · subst h0
      rw [Nat.zero_mul, Nat.sub_zero] at hx ⊢
      have hxx := bxor64 (stps (8 * n) a) b hx hb
      obtain ⟨Z, hZ⟩ : ∃ Z, Z = stps (8 * n) a ^^^ b := ⟨_, rfl⟩
      rw [← hZ] at hxx
      have HZ := hide hZ
      clear hZ
      generalize stps (8 * n) a = X at hx hxx ⊢
      go_wp2
      go_ret2
      exact ⟨by rw [← HZ.out]; rfl, rfl⟩
    · have hsq : stps (8 * (2 * p)) 2147483648 = pr (stps (8 * p) 2147483648) (stps (8 * p) 2147483648) 32 := by
        rw [pr_power _ _ hy, ← stps_add]
        congr 1
        omega
      have C2 : Hid (∀ w', Calls Tryd.prog 33 #[.int .u32 (stps (8 * p) 2147483648 : Int), .int .u32 (stps (8 * p) 2147483648 : Int)] w' fun e w'' => e = .returned (.int .u32 (stps (8 * (2 * p)) 2147483648 : Int)) ∧ w' = w'') := fun w' => by
        rw [hsq]; exact product_any _ _ hy hy w'
      have hpos : (0 : Int) < (m : Int) := by omega
      by_cases hodd : m % 2 = 1
      · have hmm : m / 2 * (2 * p) = m * p - p := by
          have : m = 2 * (m / 2) + 1 := by omega
          generalize m / 2 = h at *
          subst this
          rw [Nat.add_mul, Nat.one_mul, Nat.add_sub_cancel, Nat.mul_comm 2 h, Nat.mul_assoc]
        have hpm : p ≤ m * p := Nat.le_mul_of_pos_left p (by omega)
        have hw : stps (8 * (n - m / 2 * (2 * p))) a = pr (stps (8 * (n - m * p)) a) (stps (8 * p) 2147483648) 32 := by
          rw [pr_power _ _ hx, ← stps_add, hmm]
          congr 1
          omega
        have C1 : Hid (∀ w', Calls Tryd.prog 33 #[.int .u32 (stps (8 * (n - m * p)) a : Int), .int .u32 (stps (8 * p) 2147483648 : Int)] w' fun e w'' => e = .returned (.int .u32 (stps (8 * (n - m / 2 * (2 * p))) a : Int)) ∧ w' = w'') := fun w' => by
          rw [hw]; exact product_any _ _ hx hy w'
        have hle : m / 2 * (2 * p) ≤ n := by omega
        have HLE := hide hle
        have hq : ((m : Int) % 2 == 1) = true := by rw [show (m : Int) % 2 = 1 by omega]; rfl
        clear hw hsq hmm hpm hle hmp
        obtain ⟨X2, hX2⟩ : ∃ X2, X2 = stps (8 * (n - m / 2 * (2 * p))) a := ⟨_, rfl⟩
        obtain ⟨Y2, hY2⟩ : ∃ Y2, Y2 = stps (8 * (2 * p)) 2147483648 := ⟨_, rfl⟩
        rw [← hX2] at C1
        rw [← hY2] at C2
        have HX2 := hide hX2
        have HY2 := hide hY2
        clear hX2 hY2
        generalize stps (8 * (n - m * p)) a = X at hx C1 ⊢
        generalize stps (8 * p) 2147483648 = Y at hy C1 C2 ⊢
        go_wp2_with fail
        refine Calls.mono (C1.out _) ?_
        rintro e wx ⟨rfl, rfl⟩
        go_wp2_with (go_at_call 33; refine Calls.mono (C2.out _) ?_; rintro e wx ⟨rfl, rfl⟩)
        go_roundw
        case rel => exact ⟨m / 2, 2 * p, by go_num, HLE.out, by omega, by rw [HX2.out], by rw [HY2.out], by first | rfl | trivial⟩
        case measure => simp [intOf]; omega
      · have hmm : m / 2 * (2 * p) = m * p := by
          have : m = 2 * (m / 2) := by omega
          generalize m / 2 = h at *
          subst this
          rw [Nat.mul_comm 2 h, Nat.mul_assoc]
        have hw : stps (8 * (n - m / 2 * (2 * p))) a = stps (8 * (n - m * p)) a := by rw [hmm]
        have HLE := hide (show m / 2 * (2 * p) ≤ n by omega)
        have hq : ((m : Int) % 2 == 1) = false := by rw [show (m : Int) % 2 = 0 by omega]; rfl
        have HX2 := hide hw
        clear hw hsq hmm hmp
        obtain ⟨Y2, hY2⟩ : ∃ Y2, Y2 = stps (8 * (2 * p)) 2147483648 := ⟨_, rfl⟩
        rw [← hY2] at C2
        have HY2 := hide hY2
        clear hY2
        obtain ⟨X, hX⟩ : ∃ X, X = stps (8 * (n - m * p)) a := ⟨_, rfl⟩
        rw [← hX] at HX2 ⊢
        clear hX hx
        generalize stps (8 * p) 2147483648 = Y at hy C2 ⊢
        go_wp2_with (go_at_call 33; refine Calls.mono (C2.out _) ?_; rintro e wx ⟨rfl, rfl⟩)
        go_roundw
        case rel => exact ⟨m / 2, 2 * p, by go_num, HLE.out, by omega, by rw [HX2.out], by rw [HY2.out], by first | rfl | trivial⟩
        case measure => simp [intOf]; omega
end Go.Proofs.YtfcghfllhcjmnaaDoor
