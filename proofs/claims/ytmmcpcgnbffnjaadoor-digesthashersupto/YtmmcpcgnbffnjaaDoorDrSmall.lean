import Derived.Test.YtmmcpcgnbffnjaaDoorDmMd5
import Derived.Test.YtmmcpcgnbffnjaaDoorDaJoin
namespace Go.Proofs.YtmmcpcgnbffnjaaDoor
open Go.RowKit
/-- the document's tables -/
def TabRS (g : Nat) (w : World) : Prop := ∀ j, j < 64 → w.cell? ⟨g, j, none⟩ = some (.int .i64 (sin j : Int))
def TabRP (g : Nat) (w : World) : Prop := ∀ j, j < 32 → w.cell? ⟨g, j, none⟩ = some (.int .i64 ((2 ^ j : Nat) : Int))
theorem TabRS.below {g : Nat} {w w' : World} {B : Nat} (h : TabRS g w) (hb : Below B w w') (hg : g < B) : TabRS g w' := fun j hj => (hb.cell (p := ⟨g, j, none⟩) hg).trans (h j hj)
theorem TabRP.below {g : Nat} {w w' : World} {B : Nat} (h : TabRP g w) (hb : Below B w w') (hg : g < B) : TabRP g w' := fun j hj => (hb.cell (p := ⟨g, j, none⟩) hg).trans (h j hj)
theorem ofInt64 (c : Nat) (hc : c < 4294967296) : (BitVec.ofInt 64 (c : Int)).toNat = c := by
  rw [BitVec.ofInt_natCast, BitVec.toNat_ofNat]; exact Nat.mod_eq_of_lt (by omega)
theorem i64_in {x : Nat} (h : x < 4294967296) : IntKind.i64.wrap (x : Int) = (x : Int) := by
  simp [IntKind.wrap, IntKind.signed, IntKind.bits]; omega
theorem i64_in63 {x : Nat} (h : x ≤ 9223372036854775807) : IntKind.i64.wrap (x : Int) = (x : Int) := by
  simp [IntKind.wrap, IntKind.signed, IntKind.bits]; omega
theorem i64_inI {x : Int} (h0 : -9223372036854775808 ≤ x) (h1 : x ≤ 9223372036854775807) : IntKind.i64.wrap x = x := by
  simp [IntKind.wrap, IntKind.signed, IntKind.bits]; omega
theorem band64 (a b : Nat) (ha : a < 4294967296) (hb : b < 4294967296) : bits .and .i64 (a : Int) (b : Int) = ((a &&& b : Nat) : Int) := by
  have hx : a &&& b < 2 ^ 32 := Nat.and_lt_two_pow _ (by omega)
  show IntKind.i64.wrap ((BitVec.ofInt 64 (a : Int) &&& BitVec.ofInt 64 (b : Int)).toNat : Int) = _
  rw [BitVec.toNat_and, ofInt64 a ha, ofInt64 b hb]
  exact i64_in hx
theorem bor64 (a b : Nat) (ha : a < 4294967296) (hb : b < 4294967296) : bits .or .i64 (a : Int) (b : Int) = ((a ||| b : Nat) : Int) := by
  have hx : a ||| b < 2 ^ 32 := Nat.or_lt_two_pow (by omega) (by omega)
  show IntKind.i64.wrap ((BitVec.ofInt 64 (a : Int) ||| BitVec.ofInt 64 (b : Int)).toNat : Int) = _
  rw [BitVec.toNat_or, ofInt64 a ha, ofInt64 b hb]
  exact i64_in hx
/-- the complement -/
theorem compl32 (b : Nat) (hb : b < 4294967296) : (4294967295 : Int) - (b : Int) = ((4294967295 ^^^ b : Nat) : Int) := by
  have h : 4294967295 ^^^ b = 4294967295 - b := by
    rw [show (4294967295 : Nat) - b = 2 ^ 32 - (b + 1) by omega]
    apply Nat.eq_of_testBit_eq
    intro i
    rw [Nat.testBit_two_pow_sub_succ (by omega), Nat.testBit_xor, show (4294967295 : Nat) = 2 ^ 32 - 1 from rfl, Nat.testBit_two_pow_sub_one]
    by_cases hi : i < 32
    · simp [hi]
    · have : b.testBit i = false := Nat.testBit_lt_two_pow (Nat.lt_of_lt_of_le hb (Nat.pow_le_pow_right (n := 2) (by omega) (show 32 ≤ i by omega)))
      simp [hi, this]
  rw [h]
  omega
set_option maxRecDepth 100000 in
theorem which_any (i : Nat) (hi : i < 64) (w : World) :
    Calls Tryd.prog 37 #[.int .i64 (i : Int)] w fun e w' => e = .returned (.int .i64 ((gN i % 16 : Nat) : Int)) ∧ w = w' := by
  rcases (show i / 16 = 0 ∨ i / 16 = 1 ∨ i / 16 = 2 ∨ i / 16 = 3 by omega) with hq | hq | hq | hq
  · have z : (i : Int) / 16 = 0 := by omega
    have HG : Hid ((gN i % 16 : Nat) = i) := by show _ = _; unfold gN; rw [if_pos hq]; omega
    go_enter Tryd.func37, Tryd.ntmps37
    go_wp2
    go_ret
    exact ⟨by rw [HG.out]; rfl, rfl⟩
  · have z : (i : Int) / 16 = 1 := by omega
    have HG : Hid (((gN i % 16 : Nat) : Int) = (5 * (i : Int) + 1) % 16) := by show _ = _; unfold gN; rw [if_neg (by omega), if_pos hq]; omega
    go_enter Tryd.func37, Tryd.ntmps37
    go_wp2
    go_ret
    exact ⟨by rw [HG.out]; rfl, rfl⟩
  · have z : (i : Int) / 16 = 2 := by omega
    have HG : Hid (((gN i % 16 : Nat) : Int) = (3 * (i : Int) + 5) % 16) := by show _ = _; unfold gN; rw [if_neg (by omega), if_neg (by omega), if_pos hq]; omega
    go_enter Tryd.func37, Tryd.ntmps37
    go_wp2
    go_ret
    exact ⟨by rw [HG.out]; rfl, rfl⟩
  · have z : (i : Int) / 16 = 3 := by omega
    have HG : Hid (((gN i % 16 : Nat) : Int) = 7 * (i : Int) % 16) := by show _ = _; unfold gN; rw [if_neg (by omega), if_neg (by omega), if_neg (by omega)]; omega
    go_enter Tryd.func37, Tryd.ntmps37
    go_wp2
    go_ret
    exact ⟨by rw [HG.out]; rfl, rfl⟩
set_option maxHeartbeats 1000000 in
set_option maxRecDepth 100000 in
theorem rmixed_any (i b c d : Nat) (hi : i < 64) (hb : b < 4294967296) (hc : c < 4294967296) (hd : d < 4294967296) (q : Int) (hqq : q = (i : Int) / 16) (w : World) :
    Calls Tryd.prog 36 #[.int .i64 q, .int .i64 (b : Int), .int .i64 (c : Int), .int .i64 (d : Int)] w fun e w' => e = .returned (.int .i64 (fN i b c d : Int)) ∧ w = w' := by
  subst hqq
  have nb := compl32 b hb
  have nd := compl32 d hd
  have lnb : 4294967295 ^^^ b < 4294967296 := xor32_lt (by omega) hb
  have lnd : 4294967295 ^^^ d < 4294967296 := xor32_lt (by omega) hd
  obtain ⟨NB, hNB⟩ : ∃ NB, NB = 4294967295 ^^^ b := ⟨_, rfl⟩
  obtain ⟨ND, hND⟩ : ∃ ND, ND = 4294967295 ^^^ d := ⟨_, rfl⟩
  rw [← hNB] at nb lnb
  rw [← hND] at nd lnd
  rcases (show i / 16 = 0 ∨ i / 16 = 1 ∨ i / 16 = 2 ∨ i / 16 = 3 by omega) with hq | hq | hq | hq
  · have z : (i : Int) / 16 = 0 := by omega
    have HF : Hid (fN i b c d = (b &&& c) ||| (NB &&& d)) := by show _ = _; unfold fN; rw [if_pos hq, hNB]
    clear hNB hND
    have x1 := band64 b c hb hc
    have x2 := band64 NB d lnb hd
    have x3 := bor64 (b &&& c) (NB &&& d) (Nat.and_lt_two_pow (n := 32) _ hc) (Nat.and_lt_two_pow (n := 32) _ hd)
    go_enter Tryd.func36, Tryd.ntmps36
    go_wp2
    go_ret
    exact ⟨by rw [HF.out]; rfl, rfl⟩
  · have z : (i : Int) / 16 = 1 := by omega
    have HF : Hid (fN i b c d = (d &&& b) ||| (ND &&& c)) := by show _ = _; unfold fN; rw [if_neg (by omega), if_pos hq, hND]
    clear hNB hND
    have x1 := band64 d b hd hb
    have x2 := band64 ND c lnd hc
    have x3 := bor64 (d &&& b) (ND &&& c) (Nat.and_lt_two_pow (n := 32) _ hb) (Nat.and_lt_two_pow (n := 32) _ hc)
    go_enter Tryd.func36, Tryd.ntmps36
    go_wp2
    go_ret
    exact ⟨by rw [HF.out]; rfl, rfl⟩
  · have z : (i : Int) / 16 = 2 := by omega
    have HF : Hid (fN i b c d = (b ^^^ c) ^^^ d) := by show _ = _; unfold fN; rw [if_neg (by omega), if_neg (by omega), if_pos hq]
    clear hNB hND
    have x1 := bxor64 b c hb hc
    have x2 := bxor64 (b ^^^ c) d (xor32_lt hb hc) hd
    go_enter Tryd.func36, Tryd.ntmps36
    go_wp2
    go_ret
    exact ⟨by rw [HF.out]; rfl, rfl⟩
  · have z : (i : Int) / 16 = 3 := by omega
    have HF : Hid (fN i b c d = c ^^^ (b ||| ND)) := by show _ = _; unfold fN; rw [if_neg (by omega), if_neg (by omega), if_neg (by omega), hND]
    clear hNB hND
    have x1 := bor64 b ND hb lnd
    have x2 := bxor64 c (b ||| ND) hc (Nat.or_lt_two_pow (n := 32) hb lnd)
    go_enter Tryd.func36, Tryd.ntmps36
    go_wp2
    go_ret
    exact ⟨by rw [HF.out]; rfl, rfl⟩
theorem rot_sum (x s : Nat) (hx : x < 4294967296) (h0 : 0 < s) (hs : s < 32) : rotN x s = x * 2 ^ s % 4294967296 + x / 2 ^ (32 - s) := by
  unfold rotN
  have e : x * 2 ^ s % 4294967296 = (x % 2 ^ (32 - s)) * 2 ^ s := by
    rw [show 4294967296 = 2 ^ (32 - s) * 2 ^ s by rw [← Nat.pow_add, show 32 - s + s = 32 by omega], Nat.mul_mod_mul_right]
  have hlt : x / 2 ^ (32 - s) < 2 ^ s := by
    apply Nat.div_lt_of_lt_mul
    rw [← Nat.pow_add, show 32 - s + s = 32 by omega]
    exact hx
  rw [e, Nat.or_comm, or_sum s _ _ hlt, Nat.add_comm]
theorem rot_lt (x s : Nat) (hx : x < 4294967296) : rotN x s < 4294967296 := Nat.or_lt_two_pow (n := 32) (Nat.mod_lt _ (by decide)) (Nat.lt_of_le_of_lt (Nat.div_le_self _ _) hx)
set_option maxHeartbeats 1000000 in
set_option maxRecDepth 100000 in
theorem turn_any (x s : Nat) (hx : x < 4294967296) (h0 : 0 < s) (hs : s < 32) (w : World) (hT : TabRP 5 w) :
    Calls Tryd.prog 39 #[.int .i64 (x : Int), .int .i64 (s : Int)] w fun e w' => e = .returned (.int .i64 (rotN x s : Int)) ∧ Below w.heap.size w w' := by
  have c1 := hT s hs
  have c2 := hT (32 - s) (by omega)
  clear hT
  have hp1 : 2 ^ s ≤ 2 ^ 31 := Nat.pow_le_pow_right (by omega) (by omega)
  have hp1' : 0 < 2 ^ s := Nat.pow_pos (by omega)
  have hp2 : 0 < 2 ^ (32 - s) := Nat.pow_pos (by omega)
  have hp3 : 2 ^ (32 - s) ≤ 2 ^ 31 := Nat.pow_le_pow_right (by omega) (by omega)
  have hmul : x * 2 ^ s ≤ 4294967295 * 2147483648 := Nat.mul_le_mul (by omega) (by omega)
  have HR : Hid ((rotN x s : Int) = (x : Int) * ((2 ^ s : Nat) : Int) % 4294967296 + (x : Int) / ((2 ^ (32 - s) : Nat) : Int)) := by
    show _ = _
    rw [rot_sum x s hx h0 hs, Int.natCast_add, Int.natCast_emod, Int.natCast_mul, Int.natCast_ediv]
    rfl
  have hd : x / 2 ^ (32 - s) ≤ x := Nat.div_le_self _ _
  have hmi : (x : Int) * ((2 ^ s : Nat) : Int) = ((x * 2 ^ s : Nat) : Int) := (Int.natCast_mul _ _).symm
  have hdi : (x : Int) / ((2 ^ (32 - s) : Nat) : Int) = ((x / 2 ^ (32 - s) : Nat) : Int) := (Int.natCast_ediv _ _).symm
  rw [hmi, hdi] at HR
  have hs32 : (32 : Int) - (s : Int) = ((32 - s : Nat) : Int) := by omega
  generalize 2 ^ s = P1 at *
  generalize 2 ^ (32 - s) = P2 at *
  go_enter Tryd.func39, Tryd.ntmps39
  have i0 : (0 : Int) ≤ (s : Int) := by omega
  have i1 : (s : Int) < 32 := by omega
  have i2 : (0 : Int) ≤ ((32 - s : Nat) : Int) := by omega
  have i3 : ((32 - s : Nat) : Int) < 32 := by omega
  generalize hQ1 : x * P1 = Q1 at *
  generalize hQ2 : x / P2 = Q2 at *
  have hP0 : ¬ (P2 = 0) := by omega
  have hw1 : IntKind.i64.wrap (Q1 : Int) = (Q1 : Int) := i64_in63 (by omega)
  have hw2 : IntKind.i64.wrap (Q2 : Int) = (Q2 : Int) := i64_in63 (by omega)
  have hw3 : IntKind.i64.wrap ((Q1 : Int) % 4294967296 + (Q2 : Int)) = (Q1 : Int) % 4294967296 + (Q2 : Int) := i64_inI (by omega) (by omega)
  have hw4 : IntKind.i64.wrap ((32 - s : Nat) : Int) = ((32 - s : Nat) : Int) := i64_in63 (by omega)
  have hw5 : (Q1 : Int).tmod 4294967296 = (Q1 : Int) % 4294967296 := Int.tmod_eq_emod_of_nonneg (by omega)
  go_wp2_with fail
  go_region_held3 (fun w' => w'.cell? ⟨5, s, none⟩ = some (.int .i64 (P1 : Int)) ∧ w'.cell? ⟨5, 32 - s, none⟩ = some (.int .i64 (P2 : Int))) (go_keep) (fail)
  go_wp2
  go_ret
  exact ⟨by rw [HR.out]; rfl, (Below.refl _ w).drew⟩
end Go.Proofs.YtmmcpcgnbffnjaaDoor
