import Derived.Test.YtfcghfllhcjmnaaDoorDaCrcJoin
import Derived.Test.YtfcghfllhcjmnaaDoorDkKnown
namespace Go.Proofs.YtfcghfllhcjmnaaDoor
open Go.RowKit
theorem num_any (d : Int) (w : World) :
    Calls Tryd.prog 16 #[.int .i64 d] w fun e w' => e = .returned (.int .i64 d) ∧ w = w' := by
  go_enter Tryd.func16, Tryd.ntmps16
  go_wp2
  go_ret
  exact ⟨rfl, rfl⟩
def bulkN (xs : List ByteArray) : Nat := (xs.map fun x => x.size + 1).sum
theorem bulkN_snoc (xs : List ByteArray) (k : Nat) (h : k < xs.length) : bulkN (xs.take (k + 1)) = bulkN (xs.take k) + xs[k].size + 1 := by
  unfold bulkN
  rw [List.take_succ_eq_append_getElem h, List.map_append, List.sum_append]
  simp
  omega
theorem bulkN_le (xs : List ByteArray) (k : Nat) : bulkN (xs.take k) ≤ bulkN xs := by
  have : bulkN xs = bulkN (xs.take k) + bulkN (xs.drop k) := by
    unfold bulkN
    rw [← List.sum_append, ← List.map_append, List.take_append_drop]
  omega
set_option maxHeartbeats 1000000 in
set_option maxRecDepth 100000 in
/-- Beyond, of small texts -/
theorem beyond_small (b : Nat) (xs : List ByteArray) (w : World) (hl : Lies b 0 w xs) (hs : bulkN xs ≤ 2147483647) (n : Nat) (hn : n = xs.length) :
    Calls Tryd.prog 12 #[.slice (some ⟨b, 0, none⟩) n n] w fun e w' => e = .returned (.bool false) ∧ w = w' := by
  subst hn
  have HL := hide hl
  clear hl
  have hlen : xs.length ≤ bulkN xs := by
    unfold bulkN
    clear hs HL
    induction xs with
    | nil => simp
    | cons a t ih => simp only [List.map_cons, List.sum_cons, List.length_cons]; omega
  go_enter Tryd.func12, Tryd.ntmps12
  go_wp2
  go_loop [3, 4] (fun v i => ∃ k : Nat, k ≤ xs.length ∧ i = .int .i64 k ∧ v = .int .i64 (bulkN (xs.take k) : Int)) (fun _ i => xs.length - (intOf i).toNat)
  case atStart => exact ⟨0, Nat.zero_le _, rfl, rfl⟩
  case round =>
    obtain ⟨k, hk, rfl, rfl⟩ := hrel
    have hb := bulkN_le xs k
    by_cases hlt : k < xs.length
    · have hc := HL.out k _ (List.getElem?_eq_getElem hlt)
      rw [Nat.zero_add] at hc
      have hS := bulkN_snoc xs k hlt
      have hb' := bulkN_le xs (k + 1)
      generalize xs[k] = X at *
      have HS := hide hS
      generalize bulkN (xs.take k) = T at *
      have hX : X.size ≤ 2147483647 := by omega
      have d1 : decide ((2147483647 : Int) < (X.size : Int)) = false := by rw [decide_eq_false_iff_not]; omega
      have d2 : decide ((2147483647 : Int) < (T : Int)) = false := by rw [decide_eq_false_iff_not]; omega
      clear hS
      go_wp2
      go_round
      case rel => exact ⟨k + 1, by omega, by go_num, by rw [HS.out]; go_num⟩
      case measure => simp [intOf]; omega
    · obtain rfl : k = xs.length := by omega
      rw [List.take_of_length_le (Nat.le_refl _)] at hb ⊢
      generalize bulkN xs = T at *
      have d2 : decide ((2147483647 : Int) < (T : Int)) = false := by rw [decide_eq_false_iff_not]; omega
      go_wp2
      go_ret
      exact ⟨rfl, rfl⟩
theorem beyond_new (w : World) (xs : List ByteArray) (ty : TypeId) (hs : bulkN xs ≤ 2147483647) (n : Nat) (hn : n = xs.length) :
    Calls Tryd.prog 12 #[.slice (some ⟨w.heap.size, 0, none⟩) n n] (w.alloc (.cells (xs.map Value.string).toArray ty)) fun e w' => e = .returned (.bool false) ∧ (w.alloc (.cells (xs.map Value.string).toArray ty)) = w' :=
  beyond_small w.heap.size xs _ (lies_new w xs ty) hs n hn
set_option maxHeartbeats 2000000 in
set_option maxRecDepth 100000 in
/-- the law DigestJoined -/
theorem joined_any (x y z : ByteArray) (w : World) (hx : x.size ≤ 1048576) (hy : y.size ≤ 1048576) (hz : z.size ≤ 1048576) (hT : Tabs w) :
    Calls Tryd.prog 7 #[.string x, .string y, .string z] w fun e w' => e = .returned (.bool true) ∧ Below w.heap.size w w' := by
  have HT := hide hT
  clear hT
  have sx := size_data x
  have sy := size_data y
  have sz := size_data z
  obtain ⟨a, hA⟩ : ∃ a, a = crcN 0 x.data.toList := ⟨_, rfl⟩
  obtain ⟨b, hB⟩ : ∃ b, b = crcN 0 y.data.toList := ⟨_, rfl⟩
  obtain ⟨c, hC⟩ : ∃ c, c = crcN 0 z.data.toList := ⟨_, rfl⟩
  obtain ⟨ab, hAB⟩ : ∃ ab, ab = crcN 0 (x.data.toList ++ y.data.toList) := ⟨_, rfl⟩
  obtain ⟨bc, hBC⟩ : ∃ bc, bc = crcN 0 (y.data.toList ++ z.data.toList) := ⟨_, rfl⟩
  obtain ⟨abc, hABC⟩ : ∃ abc, abc = crcN 0 (x.data.toList ++ y.data.toList ++ z.data.toList) := ⟨_, rfl⟩
  have la : a < 4294967296 := by rw [hA]; exact crcN_lt _ (by omega)
  have lb : b < 4294967296 := by rw [hB]; exact crcN_lt _ (by omega)
  have lc : c < 4294967296 := by rw [hC]; exact crcN_lt _ (by omega)
  have lab : ab < 4294967296 := by rw [hAB]; exact crcN_lt _ (by omega)
  have lbc : bc < 4294967296 := by rw [hBC]; exact crcN_lt _ (by omega)
  have e1 : stps (8 * y.size) a ^^^ b = ab := by rw [hAB, crc_cat, sy, hA, hB]
  have e2 : stps (8 * z.size) b ^^^ c = bc := by rw [hBC, crc_cat, sz, hB, hC]
  have e3 : stps (8 * z.size) ab ^^^ c = abc := by rw [hABC, crc_cat, sz, hAB, hC]
  have e4 : stps (8 * (y.size + z.size)) a ^^^ bc = abc := by
    rw [hABC, List.append_assoc, crc_cat, List.length_append, sy, sz, hA, hBC]
  have one : ∀ (s : ByteArray) (v : Nat), v = crcN 0 s.data.toList → s.size ≤ 2097152 → Hid (∀ w' : World, Tabs w' → Calls Tryd.prog 14 #[.slice (some ⟨w'.heap.size, 0, none⟩) 1 1] (w'.alloc (.cells #[.string s] 9)) fun e w'' => e = .returned (.int .i64 (v : Int)) ∧ (w'.alloc (.cells #[.string s] 9)) = w'') := fun s v hv hs w' h => by
    have := crc_new w' [s] 9 h (by simp) (fun q hq => by simp at hq; subst hq; omega) 1 rfl
    have ec : cat [s] = s.data.toList := by simp [cat]
    rw [ec, ← hv] at this
    exact this
  have CX := one x a hA (by omega)
  have CY := one y b hB (by omega)
  have CZ := one z c hC (by omega)
  have hxy : (x ++ y : ByteArray).data.toList = x.data.toList ++ y.data.toList := by rw [ByteArray.data_append, Array.toList_append]
  have hxys : (x ++ y : ByteArray).size = x.size + y.size := by rw [ByteArray.size_append]
  have CXY := one (x ++ y) ab (by rw [hxy, hAB]) (by omega)
  have C3 : Hid (∀ w' : World, Tabs w' → Calls Tryd.prog 14 #[.slice (some ⟨w'.heap.size, 0, none⟩) 3 3] (w'.alloc (.cells #[.string x, .string y, .string z] 9)) fun e w'' => e = .returned (.int .i64 (abc : Int)) ∧ (w'.alloc (.cells #[.string x, .string y, .string z] 9)) = w'') := fun w' h => by
    have := crc_new w' [x, y, z] 9 h (by simp) (fun q hq => by simp at hq; rcases hq with rfl | rfl | rfl <;> omega) 3 rfl
    have ec : cat [x, y, z] = x.data.toList ++ y.data.toList ++ z.data.toList := by simp [cat]
    rw [ec, ← hABC] at this
    exact this
  have BY : Hid (∀ w' : World, Calls Tryd.prog 12 #[.slice (some ⟨w'.heap.size, 0, none⟩) 3 3] (w'.alloc (.cells #[.string x, .string y, .string z] 9)) fun e w'' => e = .returned (.bool false) ∧ (w'.alloc (.cells #[.string x, .string y, .string z] 9)) = w'') := fun w' => beyond_new w' [x, y, z] 9 (by simp [bulkN]; omega) 3 rfl
  have J1 : Hid (∀ w' : World, Calls Tryd.prog 23 #[.int .i64 (a : Int), .int .i64 (b : Int), .int .i64 (y.size : Int)] w' fun e w'' => e = .returned (.tuple #[.int .i64 (ab : Int), .int .i64 0]) ∧ w' = w'') := fun w' => by rw [← e1]; exact crcJoin_ok a b y.size la lb (by omega) w'
  have J2 : Hid (∀ w' : World, Calls Tryd.prog 23 #[.int .i64 (b : Int), .int .i64 (c : Int), .int .i64 (z.size : Int)] w' fun e w'' => e = .returned (.tuple #[.int .i64 (bc : Int), .int .i64 0]) ∧ w' = w'') := fun w' => by rw [← e2]; exact crcJoin_ok b c z.size lb lc (by omega) w'
  have J3 : Hid (∀ w' : World, Calls Tryd.prog 23 #[.int .i64 (ab : Int), .int .i64 (c : Int), .int .i64 (z.size : Int)] w' fun e w'' => e = .returned (.tuple #[.int .i64 (abc : Int), .int .i64 0]) ∧ w' = w'') := fun w' => by rw [← e3]; exact crcJoin_ok ab c z.size lab lc (by omega) w'
  have J4 : Hid (∀ w' : World, Calls Tryd.prog 23 #[.int .i64 (a : Int), .int .i64 (bc : Int), .int .i64 ((y.size : Int) + (z.size : Int))] w' fun e w'' => e = .returned (.tuple #[.int .i64 (abc : Int), .int .i64 0]) ∧ w' = w'') := fun w' => by
    have := crcJoin_ok a bc (y.size + z.size) la lbc (by omega) w'
    rw [e4, Int.natCast_add] at this
    exact this
  have hxyl : (x ++ y : ByteArray).size ≤ 9223372036854775807 := by omega
  clear e1 e2 e3 e4 hA hB hC hAB hBC hABC one hxy hxys sx sy sz la lb lc lab lbc
  go_enter Tryd.func7, Tryd.ntmps7
  go_wp2_with fail
  refine Calls.mono (known_any _ HT.out) ?_
  rintro e w1 ⟨rfl, hb1⟩
  have HB1 := hide hb1
  clear hb1
  go_wp2_with fail
  refine Calls.mono (BY.out _) ?_
  rintro e w2 ⟨rfl, h2⟩
  have HB2 := hide (show Below w.heap.size w w2 by rw [← h2]; exact HB1.out.alloc HB1.out.size _)
  clear h2 HB1
  go_wp2_with fail
  refine Calls.mono (CX.out _ (HT.out.below HB2.out)) ?_
  rintro e w3 ⟨rfl, h2⟩
  have HB3 := hide (show Below w.heap.size w w3 by rw [← h2]; exact HB2.out.alloc HB2.out.size _)
  clear h2 HB2
  go_wp2_with fail
  refine Calls.mono (CY.out _ (HT.out.below HB3.out)) ?_
  rintro e w4 ⟨rfl, h2⟩
  have HB4 := hide (show Below w.heap.size w w4 by rw [← h2]; exact HB3.out.alloc HB3.out.size _)
  clear h2 HB3
  go_wp2_with fail
  refine Calls.mono (CZ.out _ (HT.out.below HB4.out)) ?_
  rintro e w5 ⟨rfl, h2⟩
  have HB5 := hide (show Below w.heap.size w w5 by rw [← h2]; exact HB4.out.alloc HB4.out.size _)
  clear h2 HB4
  go_wp2_with fail
  refine Calls.mono (J1.out _) ?_
  rintro e wx ⟨rfl, rfl⟩
  go_wp2_with fail
  refine Calls.mono (J2.out _) ?_
  rintro e wx ⟨rfl, rfl⟩
  go_wp2_with fail
  refine Calls.mono (J3.out _) ?_
  rintro e wx ⟨rfl, rfl⟩
  go_wp2_with fail
  refine Calls.mono (J4.out _) ?_
  rintro e wx ⟨rfl, rfl⟩
  go_wp2_with (go_at_call 16; refine Calls.mono (num_any _ _) ?_; rintro e wx ⟨rfl, rfl⟩)
  refine Calls.mono (CXY.out _ (HT.out.below HB5.out)) ?_
  rintro e w6 ⟨rfl, h2⟩
  have HB6 := hide (show Below w.heap.size w w6 by rw [← h2]; exact HB5.out.alloc HB5.out.size _)
  clear h2 HB5
  go_wp2_with fail
  refine Calls.mono (C3.out _ (HT.out.below HB6.out)) ?_
  rintro e w7 ⟨rfl, h2⟩
  have HB7 := hide (show Below w.heap.size w w7 by rw [← h2]; exact HB6.out.alloc HB6.out.size _)
  clear h2 HB6
  go_wp2
  go_ret
  exact ⟨rfl, HB7.out⟩
end Go.Proofs.YtfcghfllhcjmnaaDoor
