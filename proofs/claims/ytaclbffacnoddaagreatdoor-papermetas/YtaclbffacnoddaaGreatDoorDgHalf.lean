import Derived.Test.YtaclbffacnoddaaGreatDoorDgHex
namespace Go.Proofs.YtaclbffacnoddaaGreatDoor
open Go.RowKit
/-- what half answers -/
def halfV (c : UInt8) : Int × Bool := match unhd c with | some x => ((x : Int), true) | none => (0, false)
theorem half_tuple {a b : Int} {p q : Bool} (h : (a, p) = (b, q)) : Ending.returned (.tuple #[.int .u8 a, .bool p]) = .returned (.tuple #[.int .u8 b, .bool q]) := by
  injection h with h1 h2; rw [h1, h2]
theorem halfV_dig {c : UInt8} (h0 : (48 : Int) ≤ (c.toNat : Int)) (h1 : (c.toNat : Int) ≤ 57) : halfV c = ((c.toNat : Int) - 48, true) := by
  unfold halfV unhd
  rw [if_pos ⟨by omega, by omega⟩]
  show (((c.toNat - 48 : Nat) : Int), true) = _
  rw [show ((c.toNat - 48 : Nat) : Int) = (c.toNat : Int) - 48 by omega]
theorem halfV_let {c : UInt8} (h0 : (97 : Int) ≤ (c.toNat : Int)) (h1 : (c.toNat : Int) ≤ 102) : halfV c = ((c.toNat : Int) - 97 + 10, true) := by
  unfold halfV unhd
  rw [if_neg (by omega), if_pos ⟨by omega, by omega⟩]
  show (((c.toNat - 87 : Nat) : Int), true) = _
  rw [show ((c.toNat - 87 : Nat) : Int) = (c.toNat : Int) - 97 + 10 by omega]
theorem halfV_no {c : UInt8} (h0 : ¬ (48 ≤ c.toNat ∧ c.toNat ≤ 57)) (h1 : ¬ (97 ≤ c.toNat ∧ c.toNat ≤ 102)) : halfV c = (0, false) := by
  unfold halfV unhd
  rw [if_neg h0, if_neg h1]
set_option maxRecDepth 100000 in
theorem half_any (c : UInt8) (w : World) :
    Calls Tryz.prog 128 #[.int .u8 (c.toNat : Int)] w fun e w' => e = .returned (.tuple #[.int .u8 (halfV c).1, .bool (halfV c).2]) ∧ w = w' := by
  have hb : (c.toNat : Int) < 256 := by have := c.toNat_lt; omega
  have hb0 : (0 : Int) ≤ (c.toNat : Int) := by omega
  go_enter Tryz.func128, Tryz.ntmps128
  go_wp2
  all_goals go_ret2
  all_goals refine ⟨half_tuple ?_, rfl⟩
  all_goals first
    | (rw [halfV_dig (by omega) (by omega)]; done)
    | (rw [halfV_let (by omega) (by omega)]; done)
    | (rw [halfV_no (by omega) (by omega)]; done)
    | skip
/-- what digit answers -/
def digitV (c : UInt8) : Int := match unhd c with | some x => (x : Int) | none => -1
theorem digitV_hit {c : UInt8} {k : Nat} (hk : k < 16) (h : hd k = c) : digitV c = (k : Int) := by
  have := unhd_hd ⟨k, hk⟩
  rw [h] at this
  unfold digitV
  rw [this]
theorem digitV_none {c : UInt8} (h : ∀ j, j < 16 → hd j ≠ c) : digitV c = -1 := by
  unfold digitV
  cases hx : unhd c with
  | none => rfl
  | some x => exact absurd (hd_unhd hx) (h x (unhd_lt hx))
theorem halfV_some {c : UInt8} (h : (halfV c).2 = true) : ∃ x, unhd c = some x ∧ (halfV c).1 = (x : Int) ∧ x < 16 := by
  unfold halfV at *
  cases hx : unhd c with
  | none => rw [hx] at h; simp at h
  | some x => exact ⟨x, rfl, rfl, unhd_lt hx⟩
theorem halfV_none {c : UInt8} (h : (halfV c).2 = false) : unhd c = none := by
  unfold halfV at *
  cases hx : unhd c with
  | none => rfl
  | some x => rw [hx] at h; simp at h
theorem halfV_cases (c : UInt8) : (unhd c = none ∧ halfV c = (0, false)) ∨ ∃ x, unhd c = some x ∧ x < 16 ∧ halfV c = ((x : Int), true) := by
  unfold halfV
  cases hx : unhd c with
  | none => exact Or.inl ⟨rfl, rfl⟩
  | some x => exact Or.inr ⟨x, rfl, unhd_lt hx, rfl⟩
theorem cell_at_end {t : List UInt8} {k n : Nat} {z : Value} (hl : t.length = k) (hn : 0 < n) : (t.map ub ++ List.replicate n z)[k]? = some z := by
  rw [List.getElem?_append_right (by simp; omega)]
  simp [hl, hn]
theorem row_set {t : List UInt8} {k N : Nat} (hl : t.length = k) (hn : k < N) (x y : Nat) (hx : x < 16) (hy : y < 16) :
    (t.map ub ++ List.replicate (N - k) (Value.int .u8 0)).set k (.int .u8 (16 * (x : Int) + y)) = (t ++ [UInt8.ofNat (16 * x + y)]).map ub ++ List.replicate (N - (k + 1)) (Value.int .u8 0) := by
  obtain ⟨m, hm⟩ : ∃ m, N - k = m + 1 := ⟨N - k - 1, by omega⟩
  rw [hm, show N - (k + 1) = m by omega, List.set_append_right _ _ (by simp; omega)]
  have e : ub (UInt8.ofNat (16 * x + y)) = .int .u8 (16 * (x : Int) + y) := by
    unfold ub
    rw [UInt8.toNat_ofNat', Nat.mod_eq_of_lt (by omega)]
    norm_cast
  rw [List.map_append, List.map_cons, e]
  simp [hl, List.replicate_succ]
theorem unbad {l : List UInt8} (h : unhexL l = none) : Ending.returned (.tuple #[.string ⟨#[]⟩, .int .i64 20]) = .returned (.tuple #[.string (unS l), .int .i64 (unE l)]) := by
  unfold unS unE; rw [h]; rfl
theorem ungood {l t : List UInt8} (h : unhexL l = some t) : Ending.returned (.tuple #[.string (strOf t), .int .i64 0]) = .returned (.tuple #[.string (unS l), .int .i64 (unE l)]) := by
  unfold unS unE; rw [h]; rfl
set_option maxHeartbeats 1000000 in
set_option maxRecDepth 100000 in
theorem unhex_even (s : ByteArray) (w : World) (hs : s.size ≤ 1099511627776) (he : s.size % 2 = 0) :
    Calls Tryz.prog 116 #[.string s] w fun e w' => e = .returned (.tuple #[.string (unS s.data.toList), .int .i64 (unE s.data.toList)]) ∧ Below w.heap.size w w' := by
  obtain ⟨i0, hi, hz0, hz1, hz2⟩ := info_parts info5
  have hq : ((s.size : Int) % 2 != 0) = false := by rw [show (s.size : Int) % 2 = 0 by omega]; rfl
  obtain ⟨N, hN⟩ : ∃ N, s.size = 2 * N := ⟨s.size / 2, by omega⟩
  go_enter Tryz.func116, Tryz.ntmps116
  go_wp2_with (at_make; refine wpList_make_full _ rfl _ _ 87 rfl w.heap.size 5 i0 (.int .u8 0) 1 Tryz.underlying87 hi hz0 hz1 _ _ _ _ N rfl rfl (by omega) (by omega) (by rw [hz2]; omega) (by unfold maxLen; omega) (Nat.le_refl _) ?_)
  intro w1 hown1 hgrow1
  have hb1 : Below w.heap.size w w1 := (Below.refl _ w).grown hgrow1 (Nat.le_refl _) (by simp)
  rw [toList_madeCells_one] at hown1
  go_wp2
  go_loopw [20] (fun i wr => ∃ (k : Nat) (t : List UInt8), k ≤ N ∧ i = .int .i64 k ∧ unhexL (s.data.toList.take (2 * k)) = some t ∧
      wr.ownsRow w.heap.size 5 1 (.slice (some ⟨w.heap.size, 0, none⟩) N N) N (t.map ub ++ List.replicate (N - k) (Value.int .u8 0)) ∧ Below w.heap.size w wr)
    (fun i _ => N - (intOf i).toNat)
  case atStart => exact ⟨0, [], Nat.zero_le _, rfl, rfl, by simpa using hown1, hb1⟩
  case round =>
    obtain ⟨k, t, hk, rfl, ht, hown, hnx⟩ := hrel
    have hsize := hnx.size
    have hlen : t.length = k := by have := unhex_len ht; rw [List.length_take, size_data] at this; omega
    have HT := hide ht
    have HL := hide hlen
    clear ht hlen
    by_cases hlt : k < N
    · have h2 : 2 * k < s.size := by omega
      have h3 : 2 * k + 1 < s.size := by omega
      obtain ⟨X, hX⟩ : ∃ X, X = s[2 * k] := ⟨_, rfl⟩
      obtain ⟨Y, hY⟩ : ∃ Y, Y = s[2 * k + 1] := ⟨_, rfl⟩
      have hx1 : ∀ w', (Instr.index 9 (.string s) (.int .i64 (2 * (k : Int)))).run Tryz.prog w' = .ok (.int .u8 (X.toNat : Int)) w' := fun w' => by
        have := ix_str w' s (2 * k) h2
        rw [hX]
        rwa [show ((2 * k : Nat) : Int) = 2 * (k : Int) by omega] at this
      have hy1 : ∀ w', (Instr.index 9 (.string s) (.int .i64 (2 * (k : Int) + 1))).run Tryz.prog w' = .ok (.int .u8 (Y.toNat : Int)) w' := fun w' => by
        have := ix_str w' s (2 * k + 1) h3
        rw [hY]
        rwa [show ((2 * k + 1 : Nat) : Int) = 2 * (k : Int) + 1 by omega] at this
      have HX := hide hX
      have HY := hide hY
      clear hX hY
      have hc1 := hown.cellAt k (by omega)
      rw [cell_at_end HL.out (by omega)] at hc1
      have hc2 := hown.frozenAt k
      have bad : (unhd X = none ∨ unhd Y = none) → unhexL s.data.toList = none := fun h => unhex_bad s.data.toList k (by rw [size_data]; exact h3) (by
        rw [show s.data.toList[2 * k]'(by rw [size_data]; exact h2) = X from HX.out.symm, show s.data.toList[2 * k + 1]'(by rw [size_data]; exact h3) = Y from HY.out.symm]; exact h)
      have BAD := hide bad
      clear bad
      rcases halfV_cases X with ⟨hx, hxv⟩ | ⟨x, hx, hx16, hxv⟩
      · have F := hide (unbad (BAD.out (Or.inl hx)))
        clear hx
        go_wp2_with (go_at_call 128; refine (half_any _ _).mono ?_; rintro e w' ⟨rfl, rfl⟩)
        go_ret2
        exact ⟨F.out, hnx⟩
      · rcases halfV_cases Y with ⟨hy, hyv⟩ | ⟨y, hy, hy16, hyv⟩
        · have F := hide (unbad (BAD.out (Or.inr hy)))
          clear hx hy
          go_wp2_with (go_at_call 128; refine (half_any _ _).mono ?_; rintro e w' ⟨rfl, rfl⟩)
          go_ret2
          exact ⟨F.out, hnx⟩
        · have STEP := hide (unhex_step s.data.toList k (by rw [size_data]; exact h3) HT.out (by rw [show s.data.toList[2 * k]'(by rw [size_data]; exact h2) = X from HX.out.symm]; exact hx) (by rw [show s.data.toList[2 * k + 1]'(by rw [size_data]; exact h3) = Y from HY.out.symm]; exact hy))
          clear hx hy
          go_wp2_with (go_at_call 128; refine (half_any _ _).mono ?_; rintro e w' ⟨rfl, rfl⟩)
          go_roundw
          case rel =>
            refine ⟨k + 1, t ++ [UInt8.ofNat (16 * x + y)], by omega, by go_num, STEP.out, ?_, ?_⟩
            · have := hown.stored k (.int .u8 (16 * (x : Int) + y))
              rw [row_set HL.out (by omega) x y hx16 hy16] at this
              exact this.1
            · exact hnx.setCell (by simp) _
          case measure => simp [intOf]; omega
    · obtain rfl : k = N := by omega
      have hall : s.data.toList.take (2 * k) = s.data.toList := List.take_of_length_le (by rw [size_data]; omega)
      rw [Nat.sub_self, List.replicate_zero, List.append_nil] at hown
      have hc := own_conv (P := Tryz.prog) (src := 87) (dst := 9) hown HL.out.symm Tryz.underlying87 Tryz.underlying5 Tryz.underlying9
      have F := hide (ungood (by have := HT.out; rwa [hall] at this))
      clear hall
      go_wp2
      go_ret2
      exact ⟨F.out, hnx⟩
set_option maxRecDepth 100000 in
theorem unhex_oddc (s : ByteArray) (w : World) (hs : s.size ≤ 1099511627776) (he : s.size % 2 = 1) :
    Calls Tryz.prog 116 #[.string s] w fun e w' => e = .returned (.tuple #[.string (unS s.data.toList), .int .i64 (unE s.data.toList)]) ∧ Below w.heap.size w w' := by
  have hq : ((s.size : Int) % 2 != 0) = true := by rw [show (s.size : Int) % 2 = 1 by omega]; rfl
  have F := hide (unbad (unhex_odd s.data.toList (by rw [size_data]; exact he)))
  go_enter Tryz.func116, Tryz.ntmps116
  go_wp2
  go_ret2
  exact ⟨F.out, Below.refl _ _⟩
/-- digest.Unhex -/
theorem unhex_any (s : ByteArray) (w : World) (hs : s.size ≤ 1099511627776) :
    Calls Tryz.prog 116 #[.string s] w fun e w' => e = .returned (.tuple #[.string (unS s.data.toList), .int .i64 (unE s.data.toList)]) ∧ Below w.heap.size w w' := by
  rcases Nat.mod_two_eq_zero_or_one s.size with h | h
  · exact unhex_even s w hs h
  · exact unhex_oddc s w hs h
end Go.Proofs.YtaclbffacnoddaaGreatDoor
