import Derived.Test.YtfcghfllhcjmnaaDoorDaAlg
import Derived.Test.YtfcghfllhcjmnaaDoorDcLen
import Derived.Deep.LoopGhost
namespace Go.Proofs.YtfcghfllhcjmnaaDoor
open Go.RowKit
theorem bxor64 (a b : Nat) (ha : a < 4294967296) (hb : b < 4294967296) : bits .xor .i64 (a : Int) (b : Int) = ((a ^^^ b : Nat) : Int) := by
  have hx : a ^^^ b < 2 ^ 32 := Nat.xor_lt_two_pow (by omega) (by omega)
  have o : ∀ c : Nat, c < 4294967296 → (BitVec.ofInt 64 (c : Int)).toNat = c := fun c hc => by
    rw [BitVec.ofInt_natCast, BitVec.toNat_ofNat]; exact Nat.mod_eq_of_lt (by omega)
  show IntKind.i64.wrap ((BitVec.ofInt 64 (a : Int) ^^^ BitVec.ofInt 64 (b : Int)).toNat : Int) = _
  rw [BitVec.toNat_xor, o a ha, o b hb]
  generalize a ^^^ b = c at *
  simp [IntKind.wrap, IntKind.signed, IntKind.bits]
  omega
set_option maxRecDepth 100000 in
/-- step -/
theorem step_any (n : Nat) (hn : n < 4294967296) (w : World) :
    Calls Tryd.prog 41 #[.int .u32 (n : Int)] w fun e w' => e = .returned (.int .u32 (stp n : Int)) ∧ w = w' := by
  by_cases h2 : n % 2 = 0
  · have hq : ((n : Int) % 2 == 0) = true := by rw [show (n : Int) % 2 = 0 by omega]; rfl
    have hr : Hid ((n : Int) / 2 = (stp n : Int)) := by show _ = _; unfold stp; rw [if_pos h2]; omega
    go_enter Tryd.func41, Tryd.ntmps41
    go_wp2
    go_ret
    exact ⟨by rw [← hr.out]; rfl, rfl⟩
  · have hq : ((n : Int) % 2 == 0) = false := by rw [show (n : Int) % 2 = 1 by omega]; rfl
    have hx : bits .xor .u32 ((n : Int) / 2) 3988292384 = (stp n : Int) := by
      have := bxor32 (n / 2) 3988292384 (by omega) (by omega)
      rw [show ((n / 2 : Nat) : Int) = (n : Int) / 2 by omega] at this
      unfold stp
      rw [if_neg h2]
      exact this
    go_enter Tryd.func41, Tryd.ntmps41
    go_wp2
    go_ret
    exact ⟨rfl, rfl⟩
set_option maxHeartbeats 1000000 in
set_option maxRecDepth 100000 in
/-- product -/
theorem product_any (a b : Nat) (ha : a < 4294967296) (hb : b < 4294967296) (w : World) :
    Calls Tryd.prog 33 #[.int .u32 (a : Int), .int .u32 (b : Int)] w fun e w' => e = .returned (.int .u32 (pr a b 32 : Int)) ∧ w = w' := by
  go_enter Tryd.func33, Tryd.ntmps33
  go_wp2
  go_loopg [0, 1, 5] 32 (fun gk x y z wr => ∃ k : Nat, k + gk = 32 ∧ x = .int .u32 ((a * 2 ^ k % 4294967296 : Nat) : Int) ∧ y = .int .u32 (stps k b : Int) ∧ z = .int .u32 (pr a b k : Int) ∧ wr = w)
  case atStart => exact ⟨0, rfl, by rw [Nat.pow_zero, Nat.mul_one, Nat.mod_eq_of_lt ha], rfl, rfl, rfl⟩
  case round =>
    obtain ⟨k, hk, rfl, rfl, rfl, rfl⟩ := hrel
    have hxl : a * 2 ^ k % 4294967296 < 4294967296 := Nat.mod_lt _ (by omega)
    have hyl : stps k b < 4294967296 := stps_lt k hb
    have hzl : pr a b k < 4294967296 := pr_lt a b k hb
    have hnext : a * 2 ^ (k + 1) % 4294967296 = 2 * (a * 2 ^ k % 4294967296) % 4294967296 := by
      rw [Nat.pow_succ, ← Nat.mul_assoc, Nat.mul_comm _ 2]
      omega
    have hpr : pr a b (k + 1) = if 2147483648 ≤ a * 2 ^ k % 4294967296 then pr a b k ^^^ stps k b else pr a b k := rfl
    have hst : stps (k + 1) b = stp (stps k b) := by rw [stps_add]; rfl
    have hend : a * 2 ^ k % 4294967296 = 0 → pr a b 32 = pr a b k := fun h => by have := pr_stop a b k h gk; rwa [hk] at this
    have hlast : gk = 0 → a * 2 ^ k % 4294967296 = 0 := fun h => by
      rw [show k = 32 by omega, show (2 : Nat) ^ 32 = 4294967296 from rfl]
      exact Nat.mul_mod_left _ _
    generalize a * 2 ^ k % 4294967296 = x at *
    generalize stps k b = y at *
    generalize pr a b k = z at *
    have HN := hide hnext
    have HP := hide hpr
    have HST := hide hst
    have HE := hide hend
    clear hnext hpr hst hend
    have CS : Hid (∀ w', Calls Tryd.prog 41 #[.int .u32 (y : Int)] w' fun e w'' => e = .returned (.int .u32 (stp y : Int)) ∧ w' = w'') := fun w' => step_any y hyl w'
    by_cases hx0 : x = 0
    · have HE0 := hide (HE.out hx0)
      subst hx0
      clear HE HP HN
      go_wp2
      go_ret
      exact ⟨by rw [HE0.out]; rfl, rfl⟩
    · have hne : ((x : Int) != 0) = true := by simp; omega
      have hgk : gk ≠ 0 := fun h => hx0 (hlast h)
      have hsh : (2 * (x : Int)) % 4294967296 = ((2 * x % 4294967296 : Nat) : Int) := by omega
      by_cases htop : 2147483648 ≤ x
      · have hband : bits .and .u32 (x : Int) 2147483648 = 2147483648 := by
          have := band32 x 2147483648 hxl (by omega)
          rw [band_top x hxl, if_pos htop] at this
          exact this
        have hxz := bxor32 z y hzl hyl
        have HP' : Hid (pr a b (k + 1) = z ^^^ y) := by show _ = _; rw [HP.out, if_pos htop]
        generalize z ^^^ y = zy at *
        go_wp2_with (go_at_call 41; refine Calls.mono (CS.out _) ?_; rintro e wx ⟨rfl, rfl⟩)
        go_roundg (gk - 1)
        case measure => omega
        case rel => exact ⟨k + 1, by omega, by rw [HN.out]; go_num, by rw [HST.out], by rw [HP'.out], rfl⟩
      · have hband : bits .and .u32 (x : Int) 2147483648 = 0 := by
          have := band32 x 2147483648 hxl (by omega)
          rw [band_top x hxl, if_neg htop] at this
          exact this
        have HP' : Hid (pr a b (k + 1) = z) := by show _ = _; rw [HP.out, if_neg htop]
        go_wp2_with (go_at_call 41; refine Calls.mono (CS.out _) ?_; rintro e wx ⟨rfl, rfl⟩)
        go_roundg (gk - 1)
        case measure => omega
        case rel => exact ⟨k + 1, by omega, by rw [HN.out]; go_num, by rw [HST.out], by rw [HP'.out], rfl⟩
end Go.Proofs.YtfcghfllhcjmnaaDoor
