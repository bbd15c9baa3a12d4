import Derived.Test.YtglipjiekkfaaaaRnRef
namespace Go.Proofs.Ytglipjiekkfaaaa
open Go.RowKit
theorem ofNat_lt (a b : Nat) : decide (UInt8.ofNat a < UInt8.ofNat b) = decide (a % 256 < b % 256) := by
  rw [decide_eq_decide, UInt8.lt_iff_toNat_lt, UInt8.toNat_ofNat', UInt8.toNat_ofNat']
theorem ofNat_eq (a b : Nat) : (UInt8.ofNat a == UInt8.ofNat b) = decide (a % 256 = b % 256) := by
  rw [Bool.eq_iff_iff, beq_iff_eq, decide_eq_true_eq, ← UInt8.toNat_inj, UInt8.toNat_ofNat', UInt8.toNat_ofNat']
theorem lexi {P r1 r2 q1 q2 : Nat} (h1 : r1 < P) (h2 : r2 < P) : (r1 + P * q1 < r2 + P * q2) ↔ (q1 < q2 ∨ (q1 = q2 ∧ r1 < r2)) := by
  rcases Nat.lt_trichotomy q1 q2 with h | h | h
  · have : P * (q1 + 1) ≤ P * q2 := Nat.mul_le_mul_left P h
    rw [Nat.mul_add] at this
    constructor
    · intro _; exact .inl h
    · intro _; omega
  · subst h
    constructor
    · intro k; exact .inr ⟨rfl, by omega⟩
    · rintro (k | ⟨_, k⟩) <;> omega
  · have : P * (q2 + 1) ≤ P * q1 := Nat.mul_le_mul_left P h
    rw [Nat.mul_add] at this
    constructor
    · intro k; omega
    · rintro (k | ⟨k, _⟩) <;> omega
theorem less_dig (w n m : Nat) : Op.bytesLess (dig w n) (dig w m) = decide (n % 256 ^ w < m % 256 ^ w) := by
  induction w with
  | zero => simp [dig, Op.bytesLess, Nat.mod_one]
  | succ w ih =>
    rw [dig_cons, dig_cons, Op.bytesLess, ih, ofNat_lt, ofNat_eq, Nat.pow_succ, Nat.mod_mul, Nat.mod_mul]
    have hP : 0 < 256 ^ w := Nat.pow_pos (by omega)
    have := lexi (q1 := n / 256 ^ w % 256) (q2 := m / 256 ^ w % 256) (Nat.mod_lt n hP) (Nat.mod_lt m hP)
    rw [Bool.eq_iff_iff]
    simp [this]
theorem dig_inj {w n m : Nat} (hn : n < 256 ^ w) (hm : m < 256 ^ w) (h : dig w n = dig w m) : n = m := by
  rw [← val_dig w n hn, ← val_dig w m hm, h]
theorem rd_mid (a : ByteArray) (l : List UInt8) (b : ByteArray) (hl1 : 1 ≤ l.length) (hl : l.length ≤ 4) :
    rdV (a ++ strOf l ++ b) (a.size : Int) (l.length : Int) = (val l : Int) ∧ rdE (a ++ strOf l ++ b) (a.size : Int) (l.length : Int) = 0 := by
  have hz : (a ++ strOf l ++ b).size = a.size + l.length + b.size := by rw [ByteArray.size_append, ByteArray.size_append, strOf_size]
  unfold rdV rdE
  rw [if_pos ⟨by omega, by omega, by omega, by omega⟩, if_pos ⟨by omega, by omega⟩, if_pos ⟨by omega, by omega⟩]
  refine ⟨?_, rfl⟩
  congr 2
  rw [Int.toNat_natCast, Int.toNat_natCast, ByteArray.data_append, ByteArray.data_append, Array.toList_append, Array.toList_append, List.append_assoc, List.drop_left' (by simp), List.take_left' (by rfl)]
  rfl
set_option maxHeartbeats 4000000 in
set_option maxRecDepth 100000 in
/-- the law RecordDigits, no width -/
theorem digits_none (n m k : Int) (a b : ByteArray) (hn : -9223372036854775808 ≤ n ∧ n ≤ 9223372036854775807) (ha : a.size ≤ 140737488351232) (hk : ¬ (1 ≤ k ∧ k ≤ 4)) (w : World) :
    Calls Try.prog 3 #[.int .i64 n, .int .i64 m, .int .i64 k, .string a, .string b] w fun e w' => e = .returned (.bool true) ∧ Below w.heap.size w w' := by
  have c1 := hide (fun w' => number_any n k hn.1 hn.2 w')
  have c2 := hide (fun w' => readNumber_any a 0 k (by omega) (by omega) (by omega) w')
  have e1 : numE n k = 30 := by unfold numE; rw [if_neg hk]
  have e2 : rdE a 0 k = 30 := by unfold rdE; rw [if_neg hk]
  rw [e1] at c1
  rw [e2] at c2
  generalize numS n k = N at *
  generalize rdV a 0 k = V at *
  clear e1 e2 hn ha
  go_enter Try.func3, Try.ntmps3
  by_cases h1 : k < 1
  · go_wp2_with fail
    refine Calls.mono (c1.out _) ?_
    rintro e w1 ⟨rfl, hb1⟩
    go_wp2_with fail
    refine Calls.mono (c2.out _) ?_
    rintro e w2 ⟨rfl, rfl⟩
    go_wp2_with fail
    refine Calls.mono (num_any _ _) ?_
    rintro e wx ⟨rfl, rfl⟩
    go_wp2_with fail
    refine Calls.mono (num_any _ _) ?_
    rintro e wx ⟨rfl, rfl⟩
    go_wp2
    go_ret
    exact ⟨rfl, hb1⟩
  · have h2 : 4 < k := by omega
    go_wp2_with fail
    refine Calls.mono (c1.out _) ?_
    rintro e w1 ⟨rfl, hb1⟩
    go_wp2_with fail
    refine Calls.mono (c2.out _) ?_
    rintro e w2 ⟨rfl, rfl⟩
    go_wp2_with fail
    refine Calls.mono (num_any _ _) ?_
    rintro e wx ⟨rfl, rfl⟩
    go_wp2_with fail
    refine Calls.mono (num_any _ _) ?_
    rintro e wx ⟨rfl, rfl⟩
    go_wp2
    go_ret
    exact ⟨rfl, hb1⟩
set_option maxHeartbeats 4000000 in
set_option maxRecDepth 100000 in
theorem digits_some (n m : Int) (k : Nat) (a b : ByteArray) (hn : -9223372036854775808 ≤ n ∧ n ≤ 9223372036854775807) (hm : -9223372036854775808 ≤ m ∧ m ≤ 9223372036854775807) (ha : a.size ≤ 140737488351232) (hb : b.size ≤ 140737488351232) (hk : 1 ≤ k ∧ k ≤ 4) (w : World) :
    Calls Try.prog 3 #[.int .i64 n, .int .i64 m, .int .i64 (k : Int), .string a, .string b] w fun e w' => e = .returned (.bool true) ∧ Below w.heap.size w w' := by
  have c1 := hide (fun w' => number_any n k hn.1 hn.2 w')
  have c3 := hide (fun w' => number_any m k hm.1 hm.2 w')
  obtain ⟨T, hT⟩ : ∃ T, T = 256 ^ k := ⟨_, rfl⟩
  have hkI : 1 ≤ (k : Int) ∧ (k : Int) ≤ 4 := by omega
  have NB : ∀ x : Int, ¬ (0 ≤ x ∧ x < (T : Int)) → numS x k = ⟨#[]⟩ ∧ numE x k = 31 := fun x hx => by
    rw [hT] at hx
    unfold numS numE
    rw [Int.toNat_natCast]
    exact ⟨if_neg (fun q => hx q.2.2), by rw [if_pos hkI, if_neg hx]⟩
  have NG : ∀ x : Int, 0 ≤ x ∧ x < (T : Int) → numS x k = strOf (dig k x.toNat) ∧ numE x k = 0 := fun x hx => by
    rw [hT] at hx
    unfold numS numE
    rw [Int.toNat_natCast]
    exact ⟨if_pos ⟨hkI.1, hkI.2, hx⟩, by rw [if_pos hkI, if_pos hx]⟩
  have hT4 : T ≤ 4294967296 := by rw [hT]; exact Nat.pow_le_pow_right (show 256 > 0 by omega) hk.2
  have NBH := hide NB
  have NGH := hide NG
  have HT := hide hT
  clear NB NG hT
  go_enter Try.func3, Try.ntmps3
  go_wp2_with fail
  go_loopw [15, 16] (fun x i wr => ∃ j : Nat, j ≤ k ∧ i = .int .i64 (j : Int) ∧ x = .int .i64 ((256 ^ j : Nat) : Int) ∧ w = wr)
    (fun _ i _ => k - (intOf i).toNat)
  case atStart => exact ⟨0, by omega, rfl, rfl, rfl⟩
  case round =>
    obtain ⟨j, hj, rfl, rfl, rfl⟩ := hrel
    by_cases hlt : j < k
    · have hp : 256 ^ j ≤ 16777216 := Nat.pow_le_pow_right (show 256 > 0 by omega) (show j ≤ 3 by omega)
      have he : 256 ^ (j + 1) = 256 ^ j * 256 := Nat.pow_succ _ _
      generalize 256 ^ j = P at *
      have HE := hide he
      clear he
      go_wp2
      go_roundw
      case rel => exact ⟨j + 1, by omega, by go_num, by rw [HE.out]; norm_cast, trivial⟩
      case measure => simp [intOf]; omega
    · obtain rfl : j = k := by omega
      rw [← HT.out]
      clear hlt
      by_cases hN : 0 ≤ n ∧ n < (T : Int)
      · have eN := NGH.out n hN
        have hvn := val_dig j n.toNat (by have := HT.out; omega)
        have RM := rd_mid a (dig j n.toNat) b (by rw [dig_len]; omega) (by rw [dig_len]; omega)
        rw [dig_len, hvn, Int.toNat_of_nonneg hN.1] at RM
        have c2 := fun w' => readNumber_any (a ++ strOf (dig j n.toNat) ++ b) (a.size : Int) (j : Int) (by rw [ByteArray.size_append, ByteArray.size_append, strOf_size, dig_len]; omega) (by omega) (by omega) w'
        rw [RM.1, RM.2] at c2
        have HC2 := hide c2
        rw [eN.1, eN.2] at c1
        have hzX : (strOf (dig j n.toNat)).size = j := by rw [strOf_size, dig_len]
        by_cases hM : 0 ≤ m ∧ m < (T : Int)
        · have eM := NGH.out m hM
          rw [eM.1, eM.2] at c3
          have hl : Op.bytesLess (strOf (dig j n.toNat)).toList (strOf (dig j m.toNat)).toList = decide (n < m) := by
            have h1 : n.toNat < 256 ^ j := by have := HT.out; omega
            have h2 : m.toNat < 256 ^ j := by have := HT.out; omega
            rw [ByteArray.toList_eq, ByteArray.toList_eq, strOf_data, strOf_data, less_dig, Nat.mod_eq_of_lt h1, Nat.mod_eq_of_lt h2, decide_eq_decide]
            omega
          have hq : ((strOf (dig j n.toNat)).toList == (strOf (dig j m.toNat)).toList) = decide (n = m) := by
            rw [eq_beq, decide_eq_decide]
            constructor
            · intro h
              have := dig_inj (by have := HT.out; omega) (by have := HT.out; omega) (strOf_inj h)
              omega
            · intro h; rw [h]
          clear eN eM hvn RM c2
          generalize strOf (dig j n.toNat) = X at *
          generalize strOf (dig j m.toNat) = Y at *
          go_wp2_with fail
          refine Calls.mono (c1.out _) ?_
          rintro e w1 ⟨rfl, hb1⟩
          go_wp2_with fail
          refine Calls.mono (num_any _ _) ?_
          rintro e wx ⟨rfl, rfl⟩
          go_wp2_with fail
          refine Calls.mono (HC2.out _) ?_
          rintro e wx ⟨rfl, rfl⟩
          go_wp2_with fail
          refine Calls.mono (num_any _ _) ?_
          rintro e wx ⟨rfl, rfl⟩
          go_wp2_with fail
          refine Calls.mono (c3.out _) ?_
          rintro e w3 ⟨rfl, hb3⟩
          go_wp2_with fail
          refine Calls.mono (num_any _ _) ?_
          rintro e wx ⟨rfl, rfl⟩
          go_wp2
          all_goals
            go_ret
            refine ⟨ret_bool ?_, hb1.trans (hb3.mono hb1.size)⟩
            first
              | rfl
              | exact beq_self_eq_true (decide (n = m))
              | (simp; omega)
        · have eM := NBH.out m hM
          rw [eM.1, eM.2] at c3
          clear eN eM hvn RM c2
          generalize strOf (dig j n.toNat) = X at *
          go_wp2_with fail
          refine Calls.mono (c1.out _) ?_
          rintro e w1 ⟨rfl, hb1⟩
          go_wp2_with fail
          refine Calls.mono (num_any _ _) ?_
          rintro e wx ⟨rfl, rfl⟩
          go_wp2_with fail
          refine Calls.mono (HC2.out _) ?_
          rintro e wx ⟨rfl, rfl⟩
          go_wp2_with fail
          refine Calls.mono (num_any _ _) ?_
          rintro e wx ⟨rfl, rfl⟩
          go_wp2_with fail
          refine Calls.mono (c3.out _) ?_
          rintro e w3 ⟨rfl, hb3⟩
          go_wp2_with fail
          refine Calls.mono (num_any _ _) ?_
          rintro e wx ⟨rfl, rfl⟩
          go_wp2
          all_goals
            go_ret
            refine ⟨ret_bool ?_, hb1.trans (hb3.mono hb1.size)⟩
            first
              | rfl
              | exact beq_self_eq_true (decide (n = m))
              | (simp; omega)
      · have eN := NBH.out n hN
        rw [eN.1, eN.2] at c1
        clear eN
        by_cases hneg : n < 0
        · go_wp2_with fail
          refine Calls.mono (c1.out _) ?_
          rintro e w1 ⟨rfl, hb1⟩
          go_wp2_with fail
          refine Calls.mono (num_any _ _) ?_
          rintro e wx ⟨rfl, rfl⟩
          go_wp2
          go_ret
          exact ⟨rfl, hb1⟩
        · have hge : (T : Int) ≤ n := by omega
          go_wp2_with fail
          refine Calls.mono (c1.out _) ?_
          rintro e w1 ⟨rfl, hb1⟩
          go_wp2_with fail
          refine Calls.mono (num_any _ _) ?_
          rintro e wx ⟨rfl, rfl⟩
          go_wp2
          go_ret
          exact ⟨rfl, hb1⟩
theorem digits_full (n m k : Int) (a b : ByteArray) (hn : -9223372036854775808 ≤ n ∧ n ≤ 9223372036854775807) (hm : -9223372036854775808 ≤ m ∧ m ≤ 9223372036854775807) (_ : -9223372036854775808 ≤ k ∧ k ≤ 9223372036854775807) (ha : a.size ≤ 140737488351232) (hb : b.size ≤ 140737488351232) (w : World) :
    Calls Try.prog 3 #[.int .i64 n, .int .i64 m, .int .i64 k, .string a, .string b] w fun e w' => e = .returned (.bool true) ∧ Below w.heap.size w w' := by
  by_cases hk : 1 ≤ k ∧ k ≤ 4
  · obtain ⟨j, rfl⟩ : ∃ j : Nat, k = (j : Int) := ⟨k.toNat, by omega⟩
    exact digits_some n m j a b hn hm ha hb (by omega) w
  · exact digits_none n m k a b hn ha hk w
end Go.Proofs.Ytglipjiekkfaaaa
