import Derived.Test.YtfcghfllhcjmnaaDoorDkUnhex
namespace Go.Proofs.YtfcghfllhcjmnaaDoor
open Go.RowKit
theorem unS_hex (l : List UInt8) : unS (hexL l) = strOf l := by unfold unS; rw [unhex_hex]; rfl
theorem unE_hex (l : List UInt8) : unE (hexL l) = 0 := by unfold unE; rw [unhex_hex]; rfl
theorem unS_len (l : List UInt8) : (unS l).size ≤ l.length := by
  unfold unS
  rw [strOf_size]
  cases h : unhexL l with
  | none => simp
  | some t => have := unhex_len h; simp; omega
theorem un_A0 (l : List UInt8) : unhexL (hexL l ++ [65, 48]) = none := by
  rw [unhexL_append _ _ (by rw [hexL_len]; omega), unhex_hex]
  rfl
theorem un_odd (l : List UInt8) : unhexL (hexL l ++ [48]) = none := unhex_odd _ (by rw [List.length_append, hexL_len]; simp)
theorem hd_digit : ∀ n : Fin 16, (48 ≤ (hd n.1).toNat ∧ (hd n.1).toNat ≤ 57) ∨ (97 ≤ (hd n.1).toNat ∧ (hd n.1).toNat ≤ 102) := by decide
theorem hexL_digit (l : List UInt8) : ∀ c ∈ hexL l, (48 ≤ c.toNat ∧ c.toNat ≤ 57) ∨ (97 ≤ c.toNat ∧ c.toNat ≤ 102) := by
  induction l with
  | nil => intro c h; cases h
  | cons b r ih =>
    intro c h
    have hb := b.toNat_lt
    rcases List.mem_cons.1 h with rfl | h
    · exact hd_digit ⟨b.toNat / 16, by omega⟩
    · rcases List.mem_cons.1 h with rfl | h
      · exact hd_digit ⟨b.toNat % 16, by omega⟩
      · exact ih c h
set_option maxHeartbeats 2000000 in
set_option maxRecDepth 100000 in
/-- the law DigestHexBack -/
theorem hexBack_any (s : ByteArray) (w : World) (hs : s.size ≤ 1048576) (hT : Tabs w) :
    Calls Tryd.prog 5 #[.string s] w fun e w' => e = .returned (.bool true) ∧ Below w.heap.size w w' := by
  obtain ⟨H, hH⟩ : ∃ H, H = strOf (hexL s.data.toList) := ⟨_, rfl⟩
  obtain ⟨U, hU⟩ : ∃ U, U = unS s.data.toList := ⟨_, rfl⟩
  have c1 : Hid (∀ w', Calls Tryd.prog 10 #[.string s] w' fun e w'' => e = .returned (.string H) ∧ Below w'.heap.size w' w'') := fun w' => by rw [hH]; exact hex_any s w' (by omega)
  have hHs : H.size = 2 * s.size := by rw [hH, strOf_size, hexL_len, size_data]
  have c2 : Hid (∀ w', Calls Tryd.prog 15 #[.string H] w' fun e w'' => e = .returned (.tuple #[.string s, .int .i64 0]) ∧ Below w'.heap.size w' w'') := fun w' => by
    have := unhex_any H w' (by omega)
    rw [hH, strOf_data, unS_hex, unE_hex, strOf_toList] at this
    rw [hH]; exact this
  have hdig : ∀ k (hk : k < H.size), (48 ≤ (H[k]).toNat ∧ (H[k]).toNat ≤ 57) ∨ (97 ≤ (H[k]).toNat ∧ (H[k]).toNat ≤ 102) := fun k hk => by
    subst hH
    exact hexL_digit s.data.toList _ (List.getElem_mem (by rw [strOf_size] at hk; exact hk))
  have HDG := hide hdig
  have c3 : Hid (∀ w', Calls Tryd.prog 15 #[.string (H ++ ⟨#[65, 48]⟩)] w' fun e w'' => e = .returned (.tuple #[.string ⟨#[]⟩, .int .i64 20]) ∧ Below w'.heap.size w' w'') := fun w' => by
    have := unhex_any (H ++ ⟨#[65, 48]⟩) w' (by rw [ByteArray.size_append, hHs]; show _ + 2 ≤ _; omega)
    have e : (H ++ ⟨#[65, 48]⟩ : ByteArray).data.toList = hexL s.data.toList ++ [65, 48] := by rw [ByteArray.data_append, Array.toList_append, hH]; rfl
    rw [e] at this
    rw [unbad (un_A0 s.data.toList)]
    exact this
  have c4 : Hid (∀ w', Calls Tryd.prog 15 #[.string (H ++ ⟨#[48]⟩)] w' fun e w'' => e = .returned (.tuple #[.string ⟨#[]⟩, .int .i64 20]) ∧ Below w'.heap.size w' w'') := fun w' => by
    have := unhex_any (H ++ ⟨#[48]⟩) w' (by rw [ByteArray.size_append, hHs]; show _ + 1 ≤ _; omega)
    have e : (H ++ ⟨#[48]⟩ : ByteArray).data.toList = hexL s.data.toList ++ [48] := by rw [ByteArray.data_append, Array.toList_append, hH]; rfl
    rw [e] at this
    rw [unbad (un_odd s.data.toList)]
    exact this
  have z1 : (H ++ ⟨#[65, 48]⟩ : ByteArray).size ≤ 9223372036854775807 := by rw [ByteArray.size_append, hHs]; show _ + 2 ≤ _; omega
  have z2 : (H ++ ⟨#[48]⟩ : ByteArray).size ≤ 9223372036854775807 := by rw [ByteArray.size_append, hHs]; show _ + 1 ≤ _; omega
  have HT := hide hT
  clear hdig hH hT
  go_enter Tryd.func5, Tryd.ntmps5
  go_wp2_with (go_at_call 10; refine Calls.mono (c1.out _) ?_; rintro e w1 ⟨rfl, hb1⟩)
  go_wp2_with (first | (go_at_call 16; refine Calls.mono (num_any _ _) ?_; rintro e wx ⟨rfl, rfl⟩) | (go_at_call 15; refine Calls.mono (c2.out _) ?_; rintro e w2 ⟨rfl, hb2⟩))
  have hB2 : Below w.heap.size w w2 := hb1.trans (hb2.mono hb1.size)
  clear hb1 hb2
  go_loop [6] (fun i => ∃ k : Nat, k ≤ H.size ∧ i = .int .i64 k) (fun i => H.size - (intOf i).toNat)
  case atStart => exact ⟨0, Nat.zero_le _, rfl⟩
  case round =>
    obtain ⟨k, hk, rfl⟩ := hrel
    by_cases hlt : k < H.size
    · have hxs : ∀ w', (Instr.index 9 (.string H) (.int .i64 (k : Int))).run Tryd.prog w' = .ok (.int .u8 (H[k].toNat : Int)) w' := fun w' => ix_str w' H k hlt
      have hD := HDG.out k hlt
      generalize H[k].toNat = X at *
      rcases hD with ⟨d0, d1⟩ | ⟨d0, d1⟩
      · have i0 : (48 : Int) ≤ (X : Int) := by omega
        have i1 : (X : Int) ≤ 57 := by omega
        go_wp2
        go_round
        case rel => exact ⟨k + 1, by omega, by go_num⟩
        case measure => simp [intOf]; omega
      · have i0 : (97 : Int) ≤ (X : Int) := by omega
        have i1 : (X : Int) ≤ 102 := by omega
        have i2 : (48 : Int) ≤ (X : Int) := by omega
        have i3 : decide ((X : Int) ≤ 57) = false := by rw [decide_eq_false_iff_not]; omega
        go_wp2
        go_round
        case rel => exact ⟨k + 1, by omega, by go_num⟩
        case measure => simp [intOf]; omega
    · have hE20 : ∀ w', Calls Tryd.prog 15 #[.string s] w' fun e w'' => e = .returned (.tuple #[.string (unS s.data.toList), .int .i64 (unE s.data.toList)]) ∧ Below w'.heap.size w' w'' := fun w' => unhex_any s w' (by omega)
      cases hun : unhexL s.data.toList with
      | none =>
        have c5 : Hid (∀ w', Calls Tryd.prog 15 #[.string s] w' fun e w'' => e = .returned (.tuple #[.string ⟨#[]⟩, .int .i64 20]) ∧ Below w'.heap.size w' w'') := fun w' => by rw [unbad hun]; exact hE20 w'
        clear hE20 hun hU
        go_wp2_with fail
        refine Calls.mono (c5.out _) ?_
        rintro e w3 ⟨rfl, hb3⟩
        have hB3 : Below w.heap.size w w3 := hB2.trans (hb3.mono hB2.size)
        clear hb3
        go_wp2_with (go_at_call 16; refine Calls.mono (num_any _ _) ?_; rintro e wx ⟨rfl, rfl⟩)
        refine Calls.mono (c3.out _) ?_
        rintro e w4 ⟨rfl, hb4⟩
        have hB4 : Below w.heap.size w w4 := hB3.trans (hb4.mono hB3.size)
        clear hb4
        go_wp2_with (go_at_call 16; refine Calls.mono (num_any _ _) ?_; rintro e wx ⟨rfl, rfl⟩)
        refine Calls.mono (c4.out _) ?_
        rintro e w5 ⟨rfl, hb5⟩
        have hB5 : Below w.heap.size w w5 := hB4.trans (hb5.mono hB4.size)
        clear hb5
        go_wp2_with (go_at_call 16; refine Calls.mono (num_any _ _) ?_; rintro e wx ⟨rfl, rfl⟩)
        refine Calls.mono (known_any _ (tabs_below HT.out hB5)) ?_
        rintro e w6 ⟨rfl, hb6⟩
        go_wp2
        go_ret
        exact ⟨rfl, hB5.trans (hb6.mono hB5.size)⟩
      | some t =>
        have c5 : Hid (∀ w', Calls Tryd.prog 15 #[.string s] w' fun e w'' => e = .returned (.tuple #[.string (strOf t), .int .i64 0]) ∧ Below w'.heap.size w' w'') := fun w' => by rw [ungood hun]; exact hE20 w'
        have hts : (strOf t).size ≤ 1048576 := by have := unhex_len hun; rw [size_data] at this; rw [strOf_size]; omega
        have c6 : Hid (∀ w', Calls Tryd.prog 10 #[.string (strOf t)] w' fun e w'' => e = .returned (.string s) ∧ Below w'.heap.size w' w'') := fun w' => by
          have := hex_any (strOf t) w' (by omega)
          rw [strOf_data, hex_unhex hun, strOf_toList] at this
          exact this
        clear hE20 hun hU
        generalize strOf t = TT at *
        go_wp2_with fail
        refine Calls.mono (c5.out _) ?_
        rintro e w3' ⟨rfl, hb3'⟩
        have hB3' : Below w.heap.size w w3' := hB2.trans (hb3'.mono hB2.size)
        clear hb3'
        go_wp2_with (go_at_call 16; refine Calls.mono (num_any _ _) ?_; rintro e wx ⟨rfl, rfl⟩)
        refine Calls.mono (c6.out _) ?_
        rintro e w3 ⟨rfl, hb3⟩
        have hB3 : Below w.heap.size w w3 := hB3'.trans (hb3.mono hB3'.size)
        clear hb3
        go_wp2_with (go_at_call 16; refine Calls.mono (num_any _ _) ?_; rintro e wx ⟨rfl, rfl⟩)
        refine Calls.mono (c3.out _) ?_
        rintro e w4 ⟨rfl, hb4⟩
        have hB4 : Below w.heap.size w w4 := hB3.trans (hb4.mono hB3.size)
        clear hb4
        go_wp2_with (go_at_call 16; refine Calls.mono (num_any _ _) ?_; rintro e wx ⟨rfl, rfl⟩)
        refine Calls.mono (c4.out _) ?_
        rintro e w5 ⟨rfl, hb5⟩
        have hB5 : Below w.heap.size w w5 := hB4.trans (hb5.mono hB4.size)
        clear hb5
        go_wp2_with (go_at_call 16; refine Calls.mono (num_any _ _) ?_; rintro e wx ⟨rfl, rfl⟩)
        refine Calls.mono (known_any _ (tabs_below HT.out hB5)) ?_
        rintro e w6 ⟨rfl, hb6⟩
        go_wp2
        go_ret
        exact ⟨rfl, hB5.trans (hb6.mono hB5.size)⟩
end Go.Proofs.YtfcghfllhcjmnaaDoor
