import Derived.Test.YtjibhdcnibgegaaRnTake
import Derived.Test.YtjibhdcnibgegaaRnIn
namespace Go.Proofs.Ytjibhdcnibgegaa
open Go.RowKit
theorem strOf_app (a b : List UInt8) : strOf (a ++ b) = strOf a ++ strOf b := by
  unfold strOf
  apply ByteArray.ext
  simp
theorem one_conv (w : World) (b : UInt8) : (convert 66 9 (.slice (some ⟨w.heap.size, 0, none⟩) 1 1)).run Try.prog (w.alloc (.cells #[.int .u8 (b.toNat : Int)] 5)) = .ok (.string (strOf [b])) (w.alloc (.cells #[.int .u8 (b.toNat : Int)] 5)) :=
  run_convert_bytes_back _ 66 9 5 ⟨w.heap.size, 0, none⟩ 1 [b] Try.underlying66 Try.underlying5 Try.underlying9 (fun j hj => by
    have := cell_one_new w (.int .u8 (b.toNat : Int)) 5 j (.int .u8 (b.toNat : Int)) (by simp at hj; subst hj; rfl)
    rw [this]
    simp at hj; subst hj; rfl)
theorem strOf_cons (b : UInt8) (l : List UInt8) : strOf (b :: l) = strOf [b] ++ strOf l := strOf_app [b] l
set_option maxHeartbeats 1000000 in
set_option maxRecDepth 100000 in
/-- the document's digits -/
theorem digits_any (n k : Nat) (hn : n < 9223372036854775808) (hk : k ≤ 4) (w : World) :
    Calls Try.prog 32 #[.int .i64 (n : Int), .int .i64 (k : Int)] w fun e w' => e = .returned (.string (strOf (dig k n))) ∧ Below w.heap.size w w' := by
  go_enter Try.func32, Try.ntmps32
  go_wp2
  go_loopw [0, 5, 6] (fun x s i wr => ∃ j : Nat, j ≤ k ∧ i = .int .i64 (j : Int) ∧ x = .int .i64 ((n / 256 ^ j : Nat) : Int) ∧ s = .string (strOf (dig j n)) ∧ Below w.heap.size w wr)
    (fun _ _ i _ => k - (intOf i).toNat)
  case atStart => exact ⟨0, by omega, rfl, by simp, rfl, Below.refl _ _⟩
  case round =>
    obtain ⟨j, hj, rfl, rfl, rfl, hb⟩ := hrel
    by_cases hlt : j < k
    · have hd := dig_cons j n
      rw [show dig (j + 1) n = UInt8.ofNat (n / 256 ^ j) :: dig j n from hd] at hd
      have hs : strOf (dig (j + 1) n) = strOf [UInt8.ofNat (n / 256 ^ j)] ++ strOf (dig j n) := by rw [dig_cons, strOf_cons]
      have hm : n / 256 ^ j < 9223372036854775808 := Nat.lt_of_le_of_lt (Nat.div_le_self _ _) hn
      have he : n / 256 ^ (j + 1) = n / 256 ^ j / 256 := by rw [Nat.pow_succ, Nat.div_div_eq_div_mul]
      clear hd
      have hlen : (strOf (dig j n)).size ≤ 4 := by rw [strOf_size, dig_len]; omega
      generalize n / 256 ^ j = N at *
      have hu : IntKind.u8.wrap ((N : Int) % 256) = (((UInt8.ofNat N).toNat : Nat) : Int) := by
        rw [u8_in (by omega) (by omega), UInt8.toNat_ofNat']; omega
      have hu1 : (strOf [UInt8.ofNat N]).size = 1 := by rw [strOf_size]; rfl
      generalize UInt8.ofNat N = b at *
      have hc := one_conv wr b
      have HS := hide hs
      have HE := hide he
      clear hs he
      generalize strOf (dig j n) = D at *
      generalize strOf [b] = B at *
      go_wp2
      go_roundw
      case rel =>
        refine ⟨j + 1, by omega, by go_num, ?_, ?_, ?_⟩
        · rw [HE.out]; norm_cast
        · rw [HS.out]
        · exact hb.alloc hb.size _
      case measure => simp [intOf]; omega
    · obtain rfl : j = k := by omega
      go_wp2
      go_ret
      exact ⟨rfl, hb⟩
set_option maxHeartbeats 1000000 in
set_option maxRecDepth 100000 in
/-- the document's sum -/
theorem sum_any (s : ByteArray) (a n : Nat) (h : a + n ≤ s.size) (hn : n ≤ 4) (hs : s.size ≤ 1099511627776000) (w : World) :
    Calls Try.prog 34 #[.string s, .int .i64 (a : Int), .int .i64 (n : Int)] w fun e w' => e = .returned (.int .i64 (val ((s.data.toList.drop a).take n) : Int)) ∧ w = w' := by
  go_enter Try.func34, Try.ntmps34
  go_wp2
  go_loopw [7, 8] (fun x i wr => ∃ j : Nat, j ≤ n ∧ i = .int .i64 (j : Int) ∧ x = .int .i64 (val ((s.data.toList.drop a).take j) : Int) ∧ w = wr)
    (fun _ i _ => n - (intOf i).toNat)
  case atStart => exact ⟨0, by omega, rfl, rfl, rfl⟩
  case round =>
    obtain ⟨j, hj, rfl, rfl, rfl⟩ := hrel
    by_cases hlt : j < n
    · have hk : a + j < s.size := by omega
      have hx : ∀ w', (Instr.index 9 (.string s) (.int .i64 ((a : Int) + (j : Int)))).run Try.prog w' = .ok (.int .u8 (s[a + j].toNat : Int)) w' := fun w' => by
        have := ix_str w' s (a + j) hk
        rwa [show ((a + j : Nat) : Int) = (a : Int) + (j : Int) by omega] at this
      have hX : s[a + j].toNat < 256 := s[a + j].toNat_lt
      have hv := val_take (s.data.toList.drop a) j (by rw [List.length_drop, size_data]; omega)
      rw [show (s.data.toList.drop a)[j]'(by rw [List.length_drop, size_data]; omega) = s[a + j] by rw [List.getElem_drop]; rfl] at hv
      have hN : val ((s.data.toList.drop a).take j) < 16777216 := by
        refine Nat.lt_of_lt_of_le (val_lt _) ?_
        exact Nat.pow_le_pow_right (show 256 > 0 by omega) (show ((s.data.toList.drop a).take j).length ≤ 3 by rw [List.length_take]; omega)
      generalize s[a + j].toNat = X at *
      generalize val ((s.data.toList.drop a).take j) = N at *
      have HV := hide hv
      clear hv
      go_wp2
      go_roundw
      case rel => exact ⟨j + 1, by omega, by go_num, by rw [HV.out]; norm_cast, trivial⟩
      case measure => simp [intOf]; omega
    · obtain rfl : j = n := by omega
      go_wp2
      go_ret
      exact ⟨rfl, rfl⟩
set_option maxHeartbeats 1000000 in
set_option maxRecDepth 100000 in
theorem power_any (n : Nat) (hn : n ≤ 4) (w : World) :
    Calls Try.prog 31 #[.int .i64 (n : Int)] w fun e w' => e = .returned (.int .i64 ((256 ^ n : Nat) : Int)) ∧ w = w' := by
  go_enter Try.func31, Try.ntmps31
  go_wp2
  go_loopw [3, 4] (fun x i wr => ∃ j : Nat, j ≤ n ∧ i = .int .i64 (j : Int) ∧ x = .int .i64 ((256 ^ j : Nat) : Int) ∧ w = wr)
    (fun _ i _ => n - (intOf i).toNat)
  case atStart => exact ⟨0, by omega, rfl, rfl, rfl⟩
  case round =>
    obtain ⟨j, hj, rfl, rfl, rfl⟩ := hrel
    by_cases hlt : j < n
    · have hp : 256 ^ j ≤ 16777216 := Nat.pow_le_pow_right (show 256 > 0 by omega) (show j ≤ 3 by omega)
      have he : 256 ^ (j + 1) = 256 ^ j * 256 := Nat.pow_succ _ _
      generalize 256 ^ j = P at *
      have HE := hide he
      clear he
      go_wp2
      go_roundw
      case rel => exact ⟨j + 1, by omega, by go_num, by rw [HE.out]; norm_cast, trivial⟩
      case measure => simp [intOf]; omega
    · obtain rfl : j = n := by omega
      go_wp2
      go_ret
      exact ⟨rfl, rfl⟩
set_option maxHeartbeats 2000000 in
set_option maxRecDepth 100000 in
/-- the document's Number -/
theorem rnumber_any (x n : Int) (hx0 : -9223372036854775808 ≤ x) (hx1 : x ≤ 9223372036854775807) (w : World) :
    Calls Try.prog 10 #[.int .i64 x, .int .i64 n] w fun e w' => e = .returned (.tuple #[.string (numS x n), .int .i64 (numE x n)]) ∧ Below w.heap.size w w' := by
  by_cases hw : 1 ≤ n ∧ n ≤ 4
  · have P : Hid (∀ w', Calls Try.prog 31 #[.int .i64 n] w' fun e w'' => e = .returned (.int .i64 ((256 ^ n.toNat : Nat) : Int)) ∧ w' = w'') := fun w' => by
      have := power_any n.toNat (by omega) w'
      rwa [Int.toNat_of_nonneg (by omega)] at this
    by_cases hb : 0 ≤ x ∧ x < ((256 ^ n.toNat : Nat) : Int)
    · have F := num_good hw hb
      have D : Hid (Calls Try.prog 32 #[.int .i64 x, .int .i64 n] w fun e w' => e = .returned (.string (strOf (dig n.toNat x.toNat))) ∧ Below w.heap.size w w') := by
        have := digits_any x.toNat n.toNat (by omega) (by omega) w
        rwa [Int.toNat_of_nonneg (by omega), Int.toNat_of_nonneg (by omega)] at this
      have HF := hide F
      clear F
      generalize ((256 ^ n.toNat : Nat) : Int) = Q at *
      go_enter Try.func10, Try.ntmps10
      go_wp2_with fail
      refine Calls.mono (P.out _) ?_
      rintro e w' ⟨rfl, rfl⟩
      go_wp2_with fail
      refine Calls.mono D.out ?_
      rintro e w1 ⟨rfl, hb1⟩
      go_wp2
      go_ret2
      exact ⟨HF.out, hb1⟩
    · have F := num_bad hw hb
      have HF := hide F
      clear F
      generalize ((256 ^ n.toNat : Nat) : Int) = Q at *
      go_enter Try.func10, Try.ntmps10
      by_cases hx : x < 0
      · go_wp2_with fail
        go_ret2
        exact ⟨HF.out, Below.refl _ _⟩
      · go_wp2_with fail
        refine Calls.mono (P.out _) ?_
        rintro e w' ⟨rfl, rfl⟩
        go_wp2_with fail
        go_ret2
        exact ⟨HF.out, Below.refl _ _⟩
  · have HF := hide (num_width (n := x) hw)
    go_enter Try.func10, Try.ntmps10
    go_wp2
    all_goals (go_ret2; exact ⟨HF.out, Below.refl _ _⟩)
set_option maxHeartbeats 2000000 in
set_option maxRecDepth 100000 in
/-- the document's ReadNumber -/
theorem rreadNumber_any (s : ByteArray) (a n : Int) (hs : s.size ≤ 1099511627776000) (ha0 : -9223372036854775808 ≤ a) (ha1 : a ≤ 9223372036854775807) (w : World) :
    Calls Try.prog 13 #[.string s, .int .i64 a, .int .i64 n] w fun e w' => e = .returned (.tuple #[.int .i64 (rdV s a n), .int .i64 (rdE s a n)]) ∧ w = w' := by
  by_cases hw : 1 ≤ n ∧ n ≤ 4
  · by_cases hb : 0 ≤ a ∧ a + n ≤ s.size
    · have F := rd_good hw hb
      have D : Hid (Calls Try.prog 34 #[.string s, .int .i64 a, .int .i64 n] w fun e w' => e = .returned (.int .i64 (val ((s.data.toList.drop a.toNat).take n.toNat) : Int)) ∧ w = w') := by
        have := sum_any s a.toNat n.toNat (by omega) (by omega) hs w
        rwa [Int.toNat_of_nonneg (by omega), Int.toNat_of_nonneg (by omega)] at this
      have HF := hide F
      clear F
      go_enter Try.func13, Try.ntmps13
      go_wp2_with fail
      refine Calls.mono D.out ?_
      rintro e w' ⟨rfl, rfl⟩
      go_wp2
      go_ret2
      exact ⟨HF.out, rfl⟩
    · have HF := hide (rd_bad hw hb)
      go_enter Try.func13, Try.ntmps13
      go_wp2_with fail
      all_goals (go_ret2; exact ⟨HF.out, rfl⟩)
  · have HF := hide (rd_width (s := s) (a := a) hw)
    go_enter Try.func13, Try.ntmps13
    go_wp2
    all_goals (go_ret2; exact ⟨HF.out, rfl⟩)
theorem num_any (d : Int) (w : World) :
    Calls Try.prog 11 #[.int .i64 d] w fun e w' => e = .returned (.int .i64 d) ∧ w = w' := by
  go_enter Try.func11, Try.ntmps11
  go_wp2
  go_ret
  exact ⟨rfl, rfl⟩
set_option maxHeartbeats 2000000 in
set_option maxRecDepth 100000 in
/-- the law RecordNumbers -/
theorem numbers_any (x n : Int) (s : ByteArray) (a : Int) (hx0 : -9223372036854775808 ≤ x) (hx1 : x ≤ 9223372036854775807) (hs : s.size ≤ 1099511627776000) (ha0 : -9223372036854775808 ≤ a) (ha1 : a ≤ 9223372036854775807) (w : World) :
    Calls Try.prog 3 #[.int .i64 x, .int .i64 n, .string s, .int .i64 a] w fun e w' => e = .returned (.bool true) ∧ Below w.heap.size w w' := by
  have c1 := hide (fun w' => number_any x n hx0 hx1 w')
  have c2 := hide (fun w' => rnumber_any x n hx0 hx1 w')
  have c3 := hide (fun w' => readNumber_any s a n hs ha0 ha1 w')
  have c4 := hide (fun w' => rreadNumber_any s a n hs ha0 ha1 w')
  generalize numS x n = N at *
  generalize numE x n = E at *
  generalize rdV s a n = V at *
  generalize rdE s a n = G at *
  clear hx0 hx1 hs ha0 ha1
  go_enter Try.func3, Try.ntmps3
  go_wp2_with fail
  refine Calls.mono (c1.out _) ?_
  rintro e w1 ⟨rfl, hb1⟩
  go_wp2_with fail
  refine Calls.mono (c2.out _) ?_
  rintro e w2 ⟨rfl, hb2⟩
  go_wp2_with fail
  refine Calls.mono (num_any _ _) ?_
  rintro e wx ⟨rfl, rfl⟩
  go_wp2_with fail
  refine Calls.mono (c3.out _) ?_
  rintro e wx ⟨rfl, rfl⟩
  go_wp2_with fail
  refine Calls.mono (c4.out _) ?_
  rintro e wx ⟨rfl, rfl⟩
  go_wp2_with fail
  refine Calls.mono (num_any _ _) ?_
  rintro e wx ⟨rfl, rfl⟩
  go_wp2
  go_ret
  exact ⟨rfl, hb1.trans (hb2.mono hb1.size)⟩
theorem numbers_full (x n : Int) (s : ByteArray) (a : Int) (hx : -9223372036854775808 ≤ x ∧ x ≤ 9223372036854775807) (_ : -9223372036854775808 ≤ n ∧ n ≤ 9223372036854775807) (hs : s.size ≤ 140737488351232) (ha : -9223372036854775808 ≤ a ∧ a ≤ 9223372036854775807) (w : World) :
    Calls Try.prog 3 #[.int .i64 x, .int .i64 n, .string s, .int .i64 a] w fun e w' => e = .returned (.bool true) ∧ Below w.heap.size w w' :=
  numbers_any x n s a hx.1 hx.2 (by omega) ha.1 ha.2 w
end Go.Proofs.Ytjibhdcnibgegaa
