import Derived.Test.YtjibhdcnibgegaaRnPut
namespace Go.Proofs.Ytjibhdcnibgegaa
open Go.RowKit
theorem bor32 (a b : Nat) (ha : a < 16777216) (hb : b < 256) : bits .or .u32 ((a : Int) * 256) (b : Int) = ((a * 256 + b : Nat) : Int) := by
  have hx : 2 ^ 8 * a + b = 2 ^ 8 * a ||| b := Nat.two_pow_add_eq_or_of_lt (by omega) a
  have o : ∀ c : Nat, c < 4294967296 → (BitVec.ofInt 32 (c : Int)).toNat = c := fun c hc => by
    rw [BitVec.ofInt_natCast, BitVec.toNat_ofNat]; exact Nat.mod_eq_of_lt (by omega)
  show IntKind.u32.wrap ((BitVec.ofInt 32 ((a : Int) * 256) ||| BitVec.ofInt 32 (b : Int)).toNat : Int) = _
  rw [show (a : Int) * 256 = ((256 * a : Nat) : Int) by omega, BitVec.toNat_or, o (256 * a) (by omega), o b (by omega)]
  rw [show 256 * a = 2 ^ 8 * a by omega, ← hx, u32_in (by omega) (by omega)]
  omega
set_option maxHeartbeats 1000000 in
set_option maxRecDepth 100000 in
/-- take of at most four bytes -/
theorem take32_any (s : ByteArray) (hs : s.size ≤ 4) (w : World) :
    Calls Try.prog 33 #[.string s] w fun e w' => e = .returned (.int .u32 (val s.data.toList : Int)) ∧ w = w' := by
  go_enter Try.func33, Try.ntmps33
  go_wp2
  go_loopw [3, 7] (fun n i wr => ∃ k : Nat, k ≤ s.size ∧ i = .int .i64 (k : Int) ∧ n = .int .u32 (val (s.data.toList.take k) : Int) ∧ w = wr)
    (fun _ i _ => s.size - (intOf i).toNat)
  case atStart => exact ⟨0, by omega, rfl, rfl, rfl⟩
  case round =>
    obtain ⟨k, hk, rfl, rfl, rfl⟩ := hrel
    by_cases hlt : k < s.size
    · have hx : ∀ w', (Instr.index 9 (.string s) (.int .i64 (k : Int))).run Try.prog w' = .ok (.int .u8 (s[k].toNat : Int)) w' := fun w' => ix_str w' s k hlt
      have hX : s[k].toNat < 256 := s[k].toNat_lt
      have hv := val_take s.data.toList k (by rw [size_data]; exact hlt)
      rw [show s.data.toList[k]'(by rw [size_data]; exact hlt) = s[k] from rfl] at hv
      have hN : val (s.data.toList.take k) < 16777216 := by
        refine Nat.lt_of_lt_of_le (val_lt _) ?_
        rw [List.length_take, size_data, Nat.min_eq_left hk]
        exact Nat.pow_le_pow_right (by omega) (show k ≤ 3 by omega)
      generalize s[k].toNat = X at *
      generalize val (s.data.toList.take k) = N at *
      have HV := hide hv
      clear hv
      have hor := bor32 N X hN hX
      go_wp2
      go_roundw
      case rel => exact ⟨k + 1, by omega, by go_num, by rw [HV.out]; norm_cast, trivial⟩
      case measure => simp [intOf]; omega
    · obtain rfl : k = s.size := by omega
      go_wp2
      go_ret
      rw [List.take_of_length_le (by simp)]
      exact ⟨rfl, rfl⟩
theorem slice_str (s : ByteArray) (a b : Nat) : (s.extract a b).data.toList = (s.data.toList.drop a).take (b - a) := by
  rw [ByteArray.data_extract, Array.toList_extract, List.extract_eq_take_drop]
set_option maxRecDepth 100000 in
theorem isNumberWidth_any (n : Int) (w : World) : Calls Try.prog 29 #[.int .i64 n] w fun e w' => e = .returned (.bool (decide (1 ≤ n ∧ n ≤ 4))) ∧ w = w' := by
  go_enter Try.func29, Try.ntmps29
  go_wp2
  all_goals go_ret
  all_goals refine ⟨ret_bool ?_, rfl⟩
  all_goals (symm; simp; omega)
set_option maxHeartbeats 1000000 in
set_option maxRecDepth 100000 in
/-- ReadNumber -/
theorem readNumber_any (s : ByteArray) (a n : Int) (hs : s.size ≤ 1099511627776000) (ha0 : -9223372036854775808 ≤ a) (ha1 : a ≤ 9223372036854775807) (w : World) :
    Calls Try.prog 12 #[.string s, .int .i64 a, .int .i64 n] w fun e w' => e = .returned (.tuple #[.int .i64 (rdV s a n), .int .i64 (rdE s a n)]) ∧ w = w' := by
  by_cases hw : 1 ≤ n ∧ n ≤ 4
  · have hd : decide (1 ≤ n ∧ n ≤ 4) = true := decide_eq_true hw
    by_cases hb : 0 ≤ a ∧ a + n ≤ s.size
    · have F := rd_good hw hb
      have C := take32_any (s.extract a.toNat (a + n).toNat) (by simp; omega) w
      rw [slice_str, show (a + n).toNat - a.toNat = n.toNat by omega] at C
      have hV : val ((s.data.toList.drop a.toNat).take n.toNat) < 4294967296 := by
        refine Nat.lt_of_lt_of_le (val_lt _) ?_
        exact Nat.pow_le_pow_right (show 256 > 0 by omega) (show (List.take n.toNat (List.drop a.toNat s.data.toList)).length ≤ 4 by rw [List.length_take]; omega)
      generalize val ((s.data.toList.drop a.toNat).take n.toNat) = V at *
      have HF := hide F
      have HC := hide C
      clear F C
      go_enter Try.func12, Try.ntmps12
      go_wp2_with (go_at_call 29; refine Calls.mono (isNumberWidth_any _ _) ?_; rintro e w' ⟨rfl, rfl⟩)
      refine Calls.mono HC.out ?_
      rintro e w' ⟨rfl, rfl⟩
      go_wp2
      go_ret2
      exact ⟨HF.out, rfl⟩
    · have F := hide (rd_bad hw hb)
      go_enter Try.func12, Try.ntmps12
      go_wp2_with (go_at_call 29; refine Calls.mono (isNumberWidth_any _ _) ?_; rintro e w' ⟨rfl, rfl⟩)
      all_goals (go_ret2; exact ⟨F.out, rfl⟩)
  · have hd : decide (1 ≤ n ∧ n ≤ 4) = false := decide_eq_false hw
    have F := hide (rd_width (s := s) (a := a) hw)
    go_enter Try.func12, Try.ntmps12
    go_wp2_with (go_at_call 29; refine Calls.mono (isNumberWidth_any _ _) ?_; rintro e w' ⟨rfl, rfl⟩)
    go_ret2
    exact ⟨F.out, rfl⟩
theorem row4 {w : World} {base : Nat} {v : Value} {l : List UInt8} (h : w.ownsRow base 5 1 v (0 + 4) ([] ++ l.map ub)) :
    ∃ g cap, v = .slice (some ⟨g, 0, none⟩) 4 cap ∧ 4 ≤ cap ∧ ∀ j (hj : j < l.length), w.cell? ⟨g, j, none⟩ = some (ub l[j]) := by
  rcases h.2 with ⟨_, h0⟩ | ⟨g, cap, cur, rfl, hg, hblk, hn, hc, hcs, htake⟩
  · omega
  · refine ⟨g, cap, rfl, by omega, fun j hj => ?_⟩
    have := h.cellAt j (by have := h.1; simp at this; omega)
    rw [this]; simp [hj]
theorem convTail {w : World} (g k : Nat) (l : List UInt8) (hl : l.length = 4) (h : ∀ j (hj : j < l.length), w.cell? ⟨g, j, none⟩ = some (ub l[j])) (c : Nat) (n : Nat) (hn : n = 4 - k) :
    (convert 66 9 (.slice (some ⟨g, k, none⟩) n c)).run Try.prog w = .ok (.string (strOf (l.drop k))) w := by
  have e : n = (l.drop k).length := by simp [hl, hn]
  rw [e]
  exact run_convert_bytes_back w 66 9 5 ⟨g, k, none⟩ c (l.drop k) Try.underlying66 Try.underlying5 Try.underlying9 (fun j hj => by
    have := h (k + j) (by simp at hj; omega)
    have e0 : (⟨g, k, none⟩ : Addr).add j = ⟨g, k + j, none⟩ := by simp [Addr.add]
    rw [e0, this]
    simp [ub])
set_option maxHeartbeats 2000000 in
set_option maxRecDepth 100000 in
/-- Number -/
theorem number_any (x n : Int) (hx0 : -9223372036854775808 ≤ x) (hx1 : x ≤ 9223372036854775807) (w : World) :
    Calls Try.prog 9 #[.int .i64 x, .int .i64 n] w fun e w' => e = .returned (.tuple #[.string (numS x n), .int .i64 (numE x n)]) ∧ Below w.heap.size w w' := by
  by_cases hw : 1 ≤ n ∧ n ≤ 4
  · have hd : decide (1 ≤ n ∧ n ≤ 4) = true := decide_eq_true hw
    have hn4 : n = 1 ∨ n = 2 ∨ n = 3 ∨ n = 4 := by omega
    by_cases hb : 0 ≤ x ∧ x < ((256 ^ n.toNat : Nat) : Int)
    · have F := num_good hw hb
      have HP : Hid (Calls Try.prog 30 #[.slice none 0 0, .int .u32 x] w fun e w' => ∃ v', e = .returned v' ∧ w'.ownsRow w.heap.size 5 1 v' (0 + 4) ([] ++ (dig 4 x.toNat).map ub) ∧ Grew w w' (.slice none 0 0) v') := by
        have := put32_any x.toNat w.heap.size (.slice none 0 0) 0 [] w (World.ownsRow_nil _ _ _ _) (by omega) (Nat.le_refl _)
        rwa [Int.toNat_of_nonneg hb.1] at this
      have hx : x < 4294967296 := by
        rcases hn4 with rfl | rfl | rfl | rfl <;> simp at hb <;> omega
      have hc : IntKind.u32.wrap x = x := u32_in hb.1 hx
      have HF := hide F
      clear F
      go_enter Try.func9, Try.ntmps9
      rcases hn4 with rfl | rfl | rfl | rfl
      · have hq : (x / 256 != 0) = false := by simp at hb; rw [show x / 256 = 0 by omega]; rfl
        go_wp2_with (go_at_call 29; refine Calls.mono (isNumberWidth_any _ _) ?_; rintro e w' ⟨rfl, rfl⟩)
        refine Calls.mono HP.out ?_
        rintro e w1 ⟨v1, rfl, hown, hg⟩
        obtain ⟨g, cap, rfl, hcap, hcell⟩ := row4 hown
        have hcv := fun c => convTail (w := w1) g 3 (dig 4 x.toNat) (dig_len _ _) hcell c 1 rfl
        rw [show (dig 4 x.toNat).drop 3 = dig 1 x.toNat from dig_drop 3 1 _] at hcv
        go_wp2
        go_ret2
        exact ⟨HF.out, hg.below (Nat.le_refl _) (by intro k hk; cases hk)⟩
      · have hq : (x / 65536 != 0) = false := by simp at hb; rw [show x / 65536 = 0 by omega]; rfl
        go_wp2_with (go_at_call 29; refine Calls.mono (isNumberWidth_any _ _) ?_; rintro e w' ⟨rfl, rfl⟩)
        refine Calls.mono HP.out ?_
        rintro e w1 ⟨v1, rfl, hown, hg⟩
        obtain ⟨g, cap, rfl, hcap, hcell⟩ := row4 hown
        have hcv := fun c => convTail (w := w1) g 2 (dig 4 x.toNat) (dig_len _ _) hcell c 2 rfl
        rw [show (dig 4 x.toNat).drop 2 = dig 2 x.toNat from dig_drop 2 2 _] at hcv
        go_wp2
        go_ret2
        exact ⟨HF.out, hg.below (Nat.le_refl _) (by intro k hk; cases hk)⟩
      · have hq : (x / 16777216 != 0) = false := by simp at hb; rw [show x / 16777216 = 0 by omega]; rfl
        go_wp2_with (go_at_call 29; refine Calls.mono (isNumberWidth_any _ _) ?_; rintro e w' ⟨rfl, rfl⟩)
        refine Calls.mono HP.out ?_
        rintro e w1 ⟨v1, rfl, hown, hg⟩
        obtain ⟨g, cap, rfl, hcap, hcell⟩ := row4 hown
        have hcv := fun c => convTail (w := w1) g 1 (dig 4 x.toNat) (dig_len _ _) hcell c 3 rfl
        rw [show (dig 4 x.toNat).drop 1 = dig 3 x.toNat from dig_drop 1 3 _] at hcv
        go_wp2
        go_ret2
        exact ⟨HF.out, hg.below (Nat.le_refl _) (by intro k hk; cases hk)⟩
      · have hq : (x / 4294967296 != 0) = false := by simp at hb; rw [show x / 4294967296 = 0 by omega]; rfl
        go_wp2_with (go_at_call 29; refine Calls.mono (isNumberWidth_any _ _) ?_; rintro e w' ⟨rfl, rfl⟩)
        refine Calls.mono HP.out ?_
        rintro e w1 ⟨v1, rfl, hown, hg⟩
        obtain ⟨g, cap, rfl, hcap, hcell⟩ := row4 hown
        have hcv := fun c => convTail (w := w1) g 0 (dig 4 x.toNat) (dig_len _ _) hcell c 4 rfl
        rw [show (dig 4 x.toNat).drop 0 = dig 4 x.toNat from dig_drop 0 4 _] at hcv
        go_wp2
        go_ret2
        exact ⟨HF.out, hg.below (Nat.le_refl _) (by intro k hk; cases hk)⟩
    · have F := hide (num_bad hw hb)
      go_enter Try.func9, Try.ntmps9
      by_cases hx : x < 0
      · go_wp2_with (go_at_call 29; refine Calls.mono (isNumberWidth_any _ _) ?_; rintro e w' ⟨rfl, rfl⟩)
        go_ret2; exact ⟨F.out, Below.refl _ _⟩
      · rcases hn4 with rfl | rfl | rfl | rfl
        · have hq : (x / 256 != 0) = true := by simp at hb; simp; omega
          go_wp2_with (go_at_call 29; refine Calls.mono (isNumberWidth_any _ _) ?_; rintro e w' ⟨rfl, rfl⟩)
          go_ret2; exact ⟨F.out, Below.refl _ _⟩
        · have hq : (x / 65536 != 0) = true := by simp at hb; simp; omega
          go_wp2_with (go_at_call 29; refine Calls.mono (isNumberWidth_any _ _) ?_; rintro e w' ⟨rfl, rfl⟩)
          go_ret2; exact ⟨F.out, Below.refl _ _⟩
        · have hq : (x / 16777216 != 0) = true := by simp at hb; simp; omega
          go_wp2_with (go_at_call 29; refine Calls.mono (isNumberWidth_any _ _) ?_; rintro e w' ⟨rfl, rfl⟩)
          go_ret2; exact ⟨F.out, Below.refl _ _⟩
        · have hq : (x / 4294967296 != 0) = true := by simp at hb; simp; omega
          go_wp2_with (go_at_call 29; refine Calls.mono (isNumberWidth_any _ _) ?_; rintro e w' ⟨rfl, rfl⟩)
          go_ret2; exact ⟨F.out, Below.refl _ _⟩
  · have hd : decide (1 ≤ n ∧ n ≤ 4) = false := decide_eq_false hw
    have F := hide (num_width (n := x) hw)
    go_enter Try.func9, Try.ntmps9
    go_wp2_with (go_at_call 29; refine Calls.mono (isNumberWidth_any _ _) ?_; rintro e w' ⟨rfl, rfl⟩)
    go_ret2
    exact ⟨F.out, Below.refl _ _⟩
end Go.Proofs.Ytjibhdcnibgegaa
