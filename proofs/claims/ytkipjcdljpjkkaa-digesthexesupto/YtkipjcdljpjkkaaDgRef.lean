import Derived.Test.YtkipjcdljpjkkaaDgHalf
namespace Go.Proofs.Ytkipjcdljpjkkaa
open Go.RowKit
theorem one_of {x : Value} (hx : x.oneCell' = true) : ∀ u ∈ [x], u.oneCell' = true := by
  intro u hu; simp at hu; subst hu; exact hx
set_option maxHeartbeats 1000000 in
set_option maxRecDepth 100000 in
/-- the document's Hex -/
theorem rhex_any (s : ByteArray) (w : World) (hs : s.size ≤ 1099511627776) :
    Calls Try.prog 7 #[.string s] w fun e w' => e = .returned (.string (strOf (hexL s.data.toList))) ∧ Below w.heap.size w w' := by
  obtain ⟨i0, hi, hz0, hz1, hz2⟩ := info_parts info5
  go_enter Try.func7, Try.ntmps7
  go_wp2
  go_loopw [3, 4] (fun v i wr => ∃ k : Nat, k ≤ s.size ∧ i = .int .i64 k ∧
      wr.ownsRow w.heap.size 5 1 v (2 * k) ((hexL (s.data.toList.take k)).map ub) ∧ Below w.heap.size w wr)
    (fun _ i _ => s.size - (intOf i).toNat)
  case atStart => exact ⟨0, Nat.zero_le _, rfl, World.ownsRow_nil _ _ _ _, Below.refl _ _⟩
  case round =>
    obtain ⟨k, hk, rfl, hown, hnx⟩ := hrel
    have hsize := hnx.size
    by_cases hlt : k < s.size
    · have hb : (s[k].toNat : Int) < 256 := by have := s[k].toNat_lt; omega
      have hb0 : (0 : Int) ≤ s[k].toNat := by omega
      have hxs : ∀ w', (Instr.index 9 (.string s) (.int .i64 (k : Int))).run Try.prog w' = .ok (.int .u8 (s[k].toNat : Int)) w' := fun w' => ix_str w' s k hlt
      have hX0 : s[k].toNat < 256 := s[k].toNat_lt
      generalize hX : s[k].toNat = X at *
      have HX := hide hX
      clear hX
      have hd1 : ∀ w', (Instr.index 9 (.string ⟨#[48, 49, 50, 51, 52, 53, 54, 55, 56, 57, 97, 98, 99, 100, 101, 102]⟩) (.int .u8 ((X : Int) / 16))).run Try.prog w' = .ok (.int .u8 ((hd (X / 16)).toNat : Int)) w' := fun w' => by
        have := ix_digs w' (X / 16) (by omega)
        rwa [show ((X / 16 : Nat) : Int) = (X : Int) / 16 by omega] at this
      have hd2 : ∀ w', (Instr.index 9 (.string ⟨#[48, 49, 50, 51, 52, 53, 54, 55, 56, 57, 97, 98, 99, 100, 101, 102]⟩) (.int .u8 ((X : Int) % 16))).run Try.prog w' = .ok (.int .u8 ((hd (X % 16)).toNat : Int)) w' := fun w' => by
        have := ix_digs w' (X % 16) (by omega)
        rwa [show ((X % 16 : Nat) : Int) = (X : Int) % 16 by omega] at this
      go_wp2_with (first
        | (at_builtin; refine wpList_append_own _ rfl (.tmp 11) (.tmp 17) 30 rfl w.heap.size 5 i0 (.int .u8 0) 1 1 Try.underlying30 hi hz0 hz1 hz2 rfl (by decide) _ _ _ rfl (hown.alloc _) ⟨wr.heap.size, 0, none⟩ 1 1 [.int .u8 (hd (X / 16)).toNat] rfl rfl (cell_one_new _ _ _) (one_of rfl) (by unfold maxLen; omega) (by omega) (by simp; omega) ?_; intro v1 w2 hown2 hgrow2 hnil2)
        | (at_builtin; refine wpList_append_own _ rfl (.tmp 19) (.tmp 25) 30 rfl w.heap.size 5 i0 (.int .u8 0) 1 1 Try.underlying30 hi hz0 hz1 hz2 rfl (by decide) _ _ _ rfl (hown2.alloc _) ⟨w2.heap.size, 0, none⟩ 1 1 [.int .u8 (hd (X % 16)).toNat] rfl rfl (cell_one_new _ _ _) (one_of rfl) (by unfold maxLen; omega) (by omega) (by have := hgrow2.size; simp at this ⊢; omega) ?_; intro v3 w3 hown3 hgrow3 hnil3))
      go_roundw
      case rel =>
        have h2 : Below w.heap.size w w2 := (hnx.alloc hsize _).grown hgrow2 (by simp; omega) (fun j hj => (hown.lt j hj).1)
        refine ⟨k + 1, by omega, by go_num, ?_, ?_⟩
        · have e1 : (hexL (s.data.toList.take (k + 1))).map ub = (hexL (s.data.toList.take k)).map ub ++ [.int .u8 (hd (X / 16)).toNat] ++ [.int .u8 (hd (X % 16)).toNat] := by
            rw [hexL_snoc _ k (by simpa using hlt), List.map_append]
            have : s.data.toList[k]'(by simpa using hlt) = s[k] := rfl
            rw [this, HX.out, List.append_assoc]
            rfl
          rw [e1, show 2 * (k + 1) = 2 * k + 1 + 1 by omega]
          exact hown3
        · exact (h2.alloc h2.size _).grown hgrow3 (by have := h2.size; simp; omega) (fun j hj => (hown2.lt j hj).1)
      case measure => simp [intOf]; omega
    · obtain rfl : k = s.size := by omega
      have hc := own_conv (P := Try.prog) (src := 30) (dst := 9) hown (by rw [hexL_len, List.length_take, size_data]; omega) Try.underlying30 Try.underlying5 Try.underlying9
      rw [List.take_of_length_le (by simp)] at hc
      go_wp2
      go_ret
      exact ⟨rfl, hnx⟩
theorem digitV_cases (c : UInt8) : (unhd c = none ∧ digitV c = -1) ∨ ∃ x, unhd c = some x ∧ x < 16 ∧ digitV c = (x : Int) := by
  unfold digitV
  cases hx : unhd c with
  | none => exact Or.inl ⟨rfl, rfl⟩
  | some x => exact Or.inr ⟨x, rfl, unhd_lt hx, rfl⟩
theorem ub_sum (x y : Nat) (hx : x < 16) (hy : y < 16) : ub (UInt8.ofNat (16 * x + y)) = .int .u8 (16 * (x : Int) + y) := by
  unfold ub
  rw [UInt8.toNat_ofNat', Nat.mod_eq_of_lt (by omega)]
  norm_cast
set_option maxHeartbeats 1000000 in
set_option maxRecDepth 100000 in
/-- the document's Unhex -/
theorem runhex_even (s : ByteArray) (w : World) (hs : s.size ≤ 1099511627776) (he : s.size % 2 = 0) :
    Calls Try.prog 6 #[.string s] w fun e w' => e = .returned (.tuple #[.string (unS s.data.toList), .int .i64 (unE s.data.toList)]) ∧ Below w.heap.size w w' := by
  obtain ⟨i0, hi, hz0, hz1, hz2⟩ := info_parts info5
  have hq : ((s.size : Int) % 2 != 0) = false := by rw [show (s.size : Int) % 2 = 0 by omega]; rfl
  obtain ⟨N, hN⟩ : ∃ N, s.size = 2 * N := ⟨s.size / 2, by omega⟩
  go_enter Try.func6, Try.ntmps6
  go_wp2
  go_loopw [4, 5] (fun v i wr => ∃ (k : Nat) (t : List UInt8), k ≤ N ∧ i = .int .i64 (2 * (k : Int)) ∧ unhexL (s.data.toList.take (2 * k)) = some t ∧
      wr.ownsRow w.heap.size 5 1 v k (t.map ub) ∧ Below w.heap.size w wr)
    (fun _ i _ => s.size - (intOf i).toNat)
  case atStart => exact ⟨0, [], Nat.zero_le _, rfl, rfl, World.ownsRow_nil _ _ _ _, Below.refl _ _⟩
  case round =>
    obtain ⟨k, t, hk, rfl, ht, hown, hnx⟩ := hrel
    have hsize := hnx.size
    have hlen : t.length = k := by have := unhex_len ht; rw [List.length_take, size_data] at this; omega
    have HT := hide ht
    have HL := hide hlen
    clear ht hlen
    by_cases hlt : k < N
    · have h2 : 2 * k < s.size := by omega
      have h3 : 2 * k + 1 < s.size := by omega
      obtain ⟨X, hX⟩ : ∃ X, X = s[2 * k] := ⟨_, rfl⟩
      obtain ⟨Y, hY⟩ : ∃ Y, Y = s[2 * k + 1] := ⟨_, rfl⟩
      have hx1 : ∀ w', (Instr.index 9 (.string s) (.int .i64 (2 * (k : Int)))).run Try.prog w' = .ok (.int .u8 (X.toNat : Int)) w' := fun w' => by
        have := ix_str w' s (2 * k) h2
        rw [hX]
        rwa [show ((2 * k : Nat) : Int) = 2 * (k : Int) by omega] at this
      have hy1 : ∀ w', (Instr.index 9 (.string s) (.int .i64 (2 * (k : Int) + 1))).run Try.prog w' = .ok (.int .u8 (Y.toNat : Int)) w' := fun w' => by
        have := ix_str w' s (2 * k + 1) h3
        rw [hY]
        rwa [show ((2 * k + 1 : Nat) : Int) = 2 * (k : Int) + 1 by omega] at this
      have HX := hide hX
      have HY := hide hY
      clear hX hY
      have bad : (unhd X = none ∨ unhd Y = none) → unhexL s.data.toList = none := fun h => unhex_bad s.data.toList k (by rw [size_data]; exact h3) (by
        rw [show s.data.toList[2 * k]'(by rw [size_data]; exact h2) = X from HX.out.symm, show s.data.toList[2 * k + 1]'(by rw [size_data]; exact h3) = Y from HY.out.symm]; exact h)
      have BAD := hide bad
      clear bad
      rcases digitV_cases X with ⟨hx, hxv⟩ | ⟨x, hx, hx16, hxv⟩
      · have F := hide (unbad (BAD.out (Or.inl hx)))
        clear hx
        go_wp2_with (go_at_call 10; refine (digit_any _ _).mono ?_; rintro e w' ⟨rfl, rfl⟩)
        go_ret2
        exact ⟨F.out, hnx⟩
      · rcases digitV_cases Y with ⟨hy, hyv⟩ | ⟨y, hy, hy16, hyv⟩
        · have F := hide (unbad (BAD.out (Or.inr hy)))
          clear hx hy
          go_wp2_with (go_at_call 10; refine (digit_any _ _).mono ?_; rintro e w' ⟨rfl, rfl⟩)
          go_ret2
          exact ⟨F.out, hnx⟩
        · have STEP := hide (unhex_step s.data.toList k (by rw [size_data]; exact h3) HT.out (by rw [show s.data.toList[2 * k]'(by rw [size_data]; exact h2) = X from HX.out.symm]; exact hx) (by rw [show s.data.toList[2 * k + 1]'(by rw [size_data]; exact h3) = Y from HY.out.symm]; exact hy))
          clear hx hy
          go_wp2_with (first
            | (go_at_call 10; refine (digit_any _ _).mono ?_; rintro e w' ⟨rfl, rfl⟩)
            | (at_builtin; refine wpList_append_own _ rfl _ _ 30 rfl w.heap.size 5 i0 (.int .u8 0) 1 1 Try.underlying30 hi hz0 hz1 hz2 rfl (by decide) _ _ _ rfl (hown.alloc _) ⟨wr.heap.size, 0, none⟩ 1 1 [.int .u8 (16 * (x : Int) + y)] rfl rfl (cell_one_new _ _ _) (one_of rfl) (by unfold maxLen; omega) (by omega) (by simp; omega) ?_; intro v1 w2 hown2 hgrow2 hnil2))
          go_roundw
          case rel =>
            refine ⟨k + 1, t ++ [UInt8.ofNat (16 * x + y)], by omega, by go_num, STEP.out, ?_, ?_⟩
            · rw [List.map_append, List.map_cons, ub_sum x y hx16 hy16]
              exact hown2
            · exact (hnx.alloc hsize _).grown hgrow2 (by simp; omega) (fun j hj => (hown.lt j hj).1)
          case measure => simp [intOf]; omega
    · obtain rfl : k = N := by omega
      have hall : s.data.toList.take (2 * k) = s.data.toList := List.take_of_length_le (by rw [size_data]; omega)
      have hc := own_conv (P := Try.prog) (src := 30) (dst := 9) hown HL.out.symm Try.underlying30 Try.underlying5 Try.underlying9
      have F := hide (ungood (by have := HT.out; rwa [hall] at this))
      clear hall
      go_wp2
      go_ret2
      exact ⟨F.out, hnx⟩
set_option maxRecDepth 100000 in
theorem runhex_oddc (s : ByteArray) (w : World) (hs : s.size ≤ 1099511627776) (he : s.size % 2 = 1) :
    Calls Try.prog 6 #[.string s] w fun e w' => e = .returned (.tuple #[.string (unS s.data.toList), .int .i64 (unE s.data.toList)]) ∧ Below w.heap.size w w' := by
  have hq : ((s.size : Int) % 2 != 0) = true := by rw [show (s.size : Int) % 2 = 1 by omega]; rfl
  have F := hide (unbad (unhex_odd s.data.toList (by rw [size_data]; exact he)))
  go_enter Try.func6, Try.ntmps6
  go_wp2
  go_ret2
  exact ⟨F.out, Below.refl _ _⟩
theorem runhex_any (s : ByteArray) (w : World) (hs : s.size ≤ 1099511627776) :
    Calls Try.prog 6 #[.string s] w fun e w' => e = .returned (.tuple #[.string (unS s.data.toList), .int .i64 (unE s.data.toList)]) ∧ Below w.heap.size w w' := by
  rcases Nat.mod_two_eq_zero_or_one s.size with h | h
  · exact runhex_even s w hs h
  · exact runhex_oddc s w hs h
theorem unS_hex (l : List UInt8) : unS (hexL l) = strOf l := by unfold unS; rw [unhex_hex]; rfl
theorem unE_hex (l : List UInt8) : unE (hexL l) = 0 := by unfold unE; rw [unhex_hex]; rfl
theorem unS_len (l : List UInt8) : (unS l).size ≤ l.length := by
  unfold unS
  rw [strOf_size]
  cases h : unhexL l with
  | none => simp
  | some t => have := unhex_len h; simp; omega
set_option maxHeartbeats 1000000 in
set_option maxRecDepth 100000 in
/-- the law -/
theorem hexes_any (s : ByteArray) (w : World) (hs : s.size ≤ 1048576) :
    Calls Try.prog 3 #[.string s] w fun e w' => e = .returned (.bool true) ∧ Below w.heap.size w w' := by
  obtain ⟨H, hH⟩ : ∃ H, H = strOf (hexL s.data.toList) := ⟨_, rfl⟩
  obtain ⟨U, hU⟩ : ∃ U, U = unS s.data.toList := ⟨_, rfl⟩
  obtain ⟨E, hE⟩ : ∃ E, E = unE s.data.toList := ⟨_, rfl⟩
  have c1 : Hid (∀ w', Calls Try.prog 4 #[.string s] w' fun e w'' => e = .returned (.string H) ∧ Below w'.heap.size w' w'') := fun w' => by rw [hH]; exact hex_any s w' (by omega)
  have c2 : Hid (∀ w', Calls Try.prog 7 #[.string s] w' fun e w'' => e = .returned (.string H) ∧ Below w'.heap.size w' w'') := fun w' => by rw [hH]; exact rhex_any s w' (by omega)
  have c3 : Hid (∀ w', Calls Try.prog 5 #[.string s] w' fun e w'' => e = .returned (.tuple #[.string U, .int .i64 E]) ∧ Below w'.heap.size w' w'') := fun w' => by rw [hU, hE]; exact unhex_any s w' (by omega)
  have c4 : Hid (∀ w', Calls Try.prog 6 #[.string s] w' fun e w'' => e = .returned (.tuple #[.string U, .int .i64 E]) ∧ Below w'.heap.size w' w'') := fun w' => by rw [hU, hE]; exact runhex_any s w' (by omega)
  have hHs : H.size = 2 * s.size := by rw [hH, strOf_size, hexL_len, size_data]
  have c5 : Hid (∀ w', Calls Try.prog 5 #[.string H] w' fun e w'' => e = .returned (.tuple #[.string s, .int .i64 0]) ∧ Below w'.heap.size w' w'') := fun w' => by
    have := unhex_any H w' (by omega)
    rw [hH, strOf_data, unS_hex, unE_hex, strOf_toList] at this
    rw [hH]; exact this
  clear hHs hH hU hE
  go_enter Try.func3, Try.ntmps3
  go_wp2_with (go_at_call 4; refine Calls.mono (c1.out _) ?_; rintro e w1 ⟨rfl, hb1⟩)
  go_wp2_with (go_at_call 5; refine Calls.mono (c3.out _) ?_; rintro e w2 ⟨rfl, hb2⟩)
  go_wp2_with (go_at_call 6; refine Calls.mono (c4.out _) ?_; rintro e w3 ⟨rfl, hb3⟩)
  go_wp2_with (go_at_call 7; refine Calls.mono (c2.out _) ?_; rintro e w4 ⟨rfl, hb4⟩)
  go_wp2_with (first | (go_at_call 8; refine Calls.mono (num_any _ _) ?_; rintro e wx ⟨rfl, rfl⟩) | (go_at_call 5; refine Calls.mono (c5.out _) ?_; rintro e w5 ⟨rfl, hb5⟩))
  go_ret
  have h4 := ((hb1.trans (hb2.mono hb1.size)).trans (hb3.mono (Nat.le_trans hb1.size hb2.size))).trans (hb4.mono (Nat.le_trans (Nat.le_trans hb1.size hb2.size) hb3.size))
  exact ⟨rfl, h4.trans (hb5.mono h4.size)⟩
end Go.Proofs.Ytkipjcdljpjkkaa
