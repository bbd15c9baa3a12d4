import Derived.Test.YtgdopepghmjopaaGreatDoorGPaIdx
import Derived.Test.YtgdopepghmjopaaGreatDoorGPaFit
namespace Go.Proofs.YtgdopepghmjopaaGreatDoor
open Go.RowKit Go.Shelf
def isDig (c : UInt8) : Bool := decide (48 ≤ c.toNat) && decide (c.toNat ≤ 57)
def valD (l : List UInt8) : Nat := l.foldl (fun n c => 10 * n + (c.toNat - 48)) 0
def zeroHd (l : List UInt8) : Bool := l.head? == some 48 && !(l == [48])
def numOk (l : List UInt8) : Bool := !l.isEmpty && decide (l.length ≤ 16) && !zeroHd l && l.all isDig
def numV (l : List UInt8) : Nat := if numOk l then valD l else 0
theorem valD_snoc (l : List UInt8) (c : UInt8) : valD (l ++ [c]) = 10 * valD l + (c.toNat - 48) := by unfold valD; rw [List.foldl_append]; rfl
theorem valD_lt (s : List UInt8) : ∀ k, k ≤ s.length → (s.take k).all isDig = true → valD (s.take k) < 10 ^ k
  | 0, _, _ => by simp [valD]
  | k + 1, hk, h => by
    rw [List.take_succ_eq_append_getElem (by omega), List.all_append, Bool.and_eq_true] at h
    have := valD_lt s k (by omega) h.1
    have hc : isDig s[k] = true := by simpa using h.2
    unfold isDig at hc
    simp at hc
    rw [List.take_succ_eq_append_getElem (by omega), valD_snoc, Nat.pow_succ]
    omega
theorem numOk_false_dig {s : ByteArray} {k : Nat} (h : k < s.size) (hd : isDig s[k] = false) : numOk s.data.toList = false := by
  unfold numOk
  have : s.data.toList.all isDig = false := by
    rw [List.all_eq_false]
    exact ⟨s[k], by have : s[k] = s.data.toList[k]'(by simpa using h) := rfl; rw [this]; exact List.getElem_mem _, by rw [hd]; simp⟩
  rw [this, Bool.and_false]
theorem ret_tup {a b : Int} {c d : Bool} (h1 : a = b) (h2 : c = d) : Ending.returned (.tuple #[.int .i64 a, .bool c]) = .returned (.tuple #[.int .i64 b, .bool d]) := by rw [h1, h2]
theorem numOk_bad {l : List UInt8} (h : numOk l = false) : Ending.returned (.tuple #[.int .i64 0, .bool false]) = .returned (.tuple #[.int .i64 (numV l : Int), .bool (numOk l)]) := by
  unfold numV; rw [h]; rfl
theorem toList_data (s : ByteArray) : s.toList = s.data.toList := ByteArray.toList_eq s
set_option maxHeartbeats 4000000 in
set_option maxRecDepth 100000 in
theorem readNumber_any (s : ByteArray) (w : World) (hs : s.size < 9223372036854775808) :
    Calls Tryz.prog 101 #[.string s, .int .i64 16] w fun e w' => e = .returned (.tuple #[.int .i64 (numV s.data.toList : Int), .bool (numOk s.data.toList)]) ∧ Below w.heap.size w w' := by
  by_cases h0 : s.size = 0
  · have e0 : s.data.toList = [] := List.length_eq_zero_iff.1 (by rw [size_data]; exact h0)
    have HB := hide (numOk_bad (l := s.data.toList) (by rw [e0]; rfl))
    have e1 : s.toList.isEmpty = true := by rw [toList_data, e0]; rfl
    clear e0
    go_enter Tryz.func101, Tryz.ntmps101
    go_wp2_with fail
    go_ret2
    exact ⟨HB.out, Below.refl _ _⟩
  have e1 : s.toList.isEmpty = false := by
    rw [toList_data, List.isEmpty_eq_false_iff]
    intro h; apply h0; rw [← size_data, h]; rfl
  by_cases h16 : 16 < s.size
  · have HB := hide (numOk_bad (l := s.data.toList) (by unfold numOk; rw [decide_eq_false (by rw [size_data]; omega)]; simp))
    have e2 : (16 : Int) < (s.size : Int) := by omega
    go_enter Tryz.func101, Tryz.ntmps101
    go_wp2_with fail
    go_ret2
    exact ⟨HB.out, Below.refl _ _⟩
  have e2 : ¬ (16 : Int) < (s.size : Int) := by omega
  have hp : 0 < s.size := by omega
  have hx0 : ∀ w', (Instr.index 9 (.string s) (.int .i64 0)).run Tryz.prog w' = .ok (.int .u8 ((s[0]'hp).toNat : Int)) w' := fun w' => ix_str w' s 0 hp
  have hhd : s.data.toList.head? = some (s[0]'hp) := by
    rw [List.head?_eq_getElem?]; exact Lib.data_getElem? s 0 hp
  have hd48 : ((s[0]'hp) = 48 ↔ (((s[0]'hp).toNat : Int) = 48)) := by
    constructor
    · intro h; rw [h]; rfl
    · intro h; rw [← UInt8.toNat_inj]; show _ = 48; omega
  generalize hc0 : (s[0]'hp) = c0 at *
  by_cases hz : zeroHd s.data.toList = true
  · have HB := hide (numOk_bad (l := s.data.toList) (by unfold numOk; rw [hz]; simp))
    unfold zeroHd at hz
    rw [hhd, Bool.and_eq_true] at hz
    have e3 : (c0.toNat : Int) = 48 := hd48.1 (by simpa using hz.1)
    have e4 : (s.toList == [48]) = false := by rw [toList_data]; simpa using hz.2
    clear hz hhd hd48
    go_enter Tryz.func101, Tryz.ntmps101
    go_wp2_with fail
    go_ret2
    exact ⟨HB.out, Below.refl _ _⟩
  have hz' : ((c0.toNat : Int) == 48) = false ∨ ((c0.toNat : Int) = 48 ∧ (s.toList == [48]) = true) := by
    unfold zeroHd at hz
    rw [hhd] at hz
    by_cases q : c0 = 48
    · refine .inr ⟨hd48.1 q, ?_⟩
      rw [toList_data]
      simpa [q] using hz
    · refine .inl ?_
      rw [beq_eq_false_iff_ne]
      exact fun e => q (hd48.2 e)
  have OK : Hid (s.data.toList.all isDig = true → numOk s.data.toList = true) := fun h => by
    unfold numOk
    rw [h, decide_eq_true (by rw [size_data]; omega)]
    rw [toList_data] at e1
    simp only [Bool.not_eq_true] at hz
    rw [e1, hz]; rfl
  clear hhd hd48 hz
  rcases hz' with e3 | ⟨e3, e4⟩
  all_goals
    go_enter Tryz.func101, Tryz.ntmps101
    go_wp2_with fail
    go_loopw [6, 7, 27] (fun n _ v wr => ∃ k : Nat, k ≤ s.size ∧ v = .int .i64 k ∧ n = .int .i64 (valD (s.data.toList.take k) : Int) ∧ Hid ((s.data.toList.take k).all isDig = true ∧ Below w.heap.size w wr)) (fun _ _ v _ => s.size - (intOf v).toNat)
    case atStart => exact ⟨0, Nat.zero_le _, rfl, rfl, rfl, Below.refl _ _⟩
    case round =>
      obtain ⟨k, hk, rfl, rfl, H⟩ := hrel
      have hV := valD_lt s.data.toList k (by rw [size_data]; exact hk) H.out.1
      have hV2 : valD (s.data.toList.take k) < 10000000000000000 := Nat.lt_of_lt_of_le hV (Nat.le_trans (Nat.pow_le_pow_right (by omega) (show k ≤ 16 by omega)) (by decide))
      by_cases hlt : k < s.size
      · have hxs : ∀ w', (Instr.index 9 (.string s) (.int .i64 (k : Int))).run Tryz.prog w' = .ok (.int .u8 (s[k].toNat : Int)) w' := fun w' => ix_str w' s k hlt
        have hsn : valD (s.data.toList.take (k + 1)) = 10 * valD (s.data.toList.take k) + (s[k].toNat - 48) := by
          rw [List.take_succ_eq_append_getElem (by simpa using hlt), valD_snoc]; rfl
        have hal : (s.data.toList.take (k + 1)).all isDig = ((s.data.toList.take k).all isDig && isDig s[k]) := by
          rw [List.take_succ_eq_append_getElem (by simpa using hlt), List.all_append]; simp; rfl
        have HB : Hid (isDig s[k] = false → _) := fun h => numOk_bad (numOk_false_dig hlt h)
        have hdg : isDig s[k] = (decide (48 ≤ s[k].toNat) && decide (s[k].toNat ≤ 57)) := rfl
        have HSN := hide hsn
        have HAL := hide hal
        have HDG := hide hdg
        clear hsn hal hdg hV
        generalize s[k] = c at *
        generalize valD (s.data.toList.take k) = V at *
        by_cases hd1 : c.toNat < 48
        · have e5 : (c.toNat : Int) < 48 := by omega
          have E5 := hide (HB.out (by rw [HDG.out, decide_eq_false (by omega)]; rfl))
          clear HB
          go_wp2_with fail
          go_ret2
          exact ⟨E5.out, H.out.2⟩
        · by_cases hd2 : 57 < c.toNat
          · have e5 : ¬ (c.toNat : Int) < 48 := by omega
            have e6 : (57 : Int) < (c.toNat : Int) := by omega
            have E5 := hide (HB.out (by rw [HDG.out, decide_eq_false (p := c.toNat ≤ 57) (by omega), Bool.and_false]))
            clear HB
            go_wp2_with fail
            go_ret2
            exact ⟨E5.out, H.out.2⟩
          · have e5 : ¬ (c.toNat : Int) < 48 := by omega
            have e6 : ¬ (57 : Int) < (c.toNat : Int) := by omega
            go_wp2_with fail
            refine ⟨⟨k + 1, by omega, by go_num, ?_, ?_, H.out.2⟩, by simp [intOf]; omega⟩
            · rw [HSN.out]; congr 1; omega
            · rw [HAL.out, H.out.1, HDG.out, decide_eq_true (by omega), decide_eq_true (by omega)]; rfl
      · obtain rfl : k = s.size := by omega
        have H1 := H.out.1
        rw [List.take_of_length_le (by simp)] at H1 ⊢
        have E5 : Hid (numOk s.data.toList = true ∧ numV s.data.toList = valD s.data.toList) := ⟨OK.out H1, by unfold numV; rw [OK.out H1]; rfl⟩
        clear H1 hV hV2
        go_wp2_with fail
        go_ret2
        exact ⟨ret_tup (by rw [E5.out.2]) E5.out.1.symm, H.out.2⟩
end Go.Proofs.YtgdopepghmjopaaGreatDoor
namespace Go.Proofs.YtgdopepghmjopaaGreatDoor
open Go.RowKit
/-- what half answers -/
def halfV (c : UInt8) : Int × Bool := match unhd c with | some x => ((x : Int), true) | none => (0, false)
theorem half_tuple {a b : Int} {p q : Bool} (h : (a, p) = (b, q)) : Ending.returned (.tuple #[.int .u8 a, .bool p]) = .returned (.tuple #[.int .u8 b, .bool q]) := by
  injection h with h1 h2; rw [h1, h2]
theorem halfV_dig {c : UInt8} (h0 : (48 : Int) ≤ (c.toNat : Int)) (h1 : (c.toNat : Int) ≤ 57) : halfV c = ((c.toNat : Int) - 48, true) := by
  unfold halfV unhd
  rw [if_pos ⟨by omega, by omega⟩]
  show (((c.toNat - 48 : Nat) : Int), true) = _
  rw [show ((c.toNat - 48 : Nat) : Int) = (c.toNat : Int) - 48 by omega]
theorem halfV_let {c : UInt8} (h0 : (97 : Int) ≤ (c.toNat : Int)) (h1 : (c.toNat : Int) ≤ 102) : halfV c = ((c.toNat : Int) - 97 + 10, true) := by
  unfold halfV unhd
  rw [if_neg (by omega), if_pos ⟨by omega, by omega⟩]
  show (((c.toNat - 87 : Nat) : Int), true) = _
  rw [show ((c.toNat - 87 : Nat) : Int) = (c.toNat : Int) - 97 + 10 by omega]
theorem halfV_no {c : UInt8} (h0 : ¬ (48 ≤ c.toNat ∧ c.toNat ≤ 57)) (h1 : ¬ (97 ≤ c.toNat ∧ c.toNat ≤ 102)) : halfV c = (0, false) := by
  unfold halfV unhd
  rw [if_neg h0, if_neg h1]
set_option maxRecDepth 100000 in
theorem half_any (c : UInt8) (w : World) :
    Calls Tryz.prog 121 #[.int .u8 (c.toNat : Int)] w fun e w' => e = .returned (.tuple #[.int .u8 (halfV c).1, .bool (halfV c).2]) ∧ w = w' := by
  have hb : (c.toNat : Int) < 256 := by have := c.toNat_lt; omega
  have hb0 : (0 : Int) ≤ (c.toNat : Int) := by omega
  go_enter Tryz.func121, Tryz.ntmps121
  go_wp2
  all_goals go_ret2
  all_goals refine ⟨half_tuple ?_, rfl⟩
  all_goals first
    | (rw [halfV_dig (by omega) (by omega)]; done)
    | (rw [halfV_let (by omega) (by omega)]; done)
    | (rw [halfV_no (by omega) (by omega)]; done)
    | skip
/-- what digit answers -/
def digitV (c : UInt8) : Int := match unhd c with | some x => (x : Int) | none => -1
theorem digitV_hit {c : UInt8} {k : Nat} (hk : k < 16) (h : hd k = c) : digitV c = (k : Int) := by
  have := unhd_hd ⟨k, hk⟩
  rw [h] at this
  unfold digitV
  rw [this]
theorem digitV_none {c : UInt8} (h : ∀ j, j < 16 → hd j ≠ c) : digitV c = -1 := by
  unfold digitV
  cases hx : unhd c with
  | none => rfl
  | some x => exact absurd (hd_unhd hx) (h x (unhd_lt hx))
theorem halfV_some {c : UInt8} (h : (halfV c).2 = true) : ∃ x, unhd c = some x ∧ (halfV c).1 = (x : Int) ∧ x < 16 := by
  unfold halfV at *
  cases hx : unhd c with
  | none => rw [hx] at h; simp at h
  | some x => exact ⟨x, rfl, rfl, unhd_lt hx⟩
theorem halfV_none {c : UInt8} (h : (halfV c).2 = false) : unhd c = none := by
  unfold halfV at *
  cases hx : unhd c with
  | none => rfl
  | some x => rw [hx] at h; simp at h
theorem halfV_cases (c : UInt8) : (unhd c = none ∧ halfV c = (0, false)) ∨ ∃ x, unhd c = some x ∧ x < 16 ∧ halfV c = ((x : Int), true) := by
  unfold halfV
  cases hx : unhd c with
  | none => exact Or.inl ⟨rfl, rfl⟩
  | some x => exact Or.inr ⟨x, rfl, unhd_lt hx, rfl⟩
theorem cell_at_end {t : List UInt8} {k n : Nat} {z : Value} (hl : t.length = k) (hn : 0 < n) : (t.map ub ++ List.replicate n z)[k]? = some z := by
  rw [List.getElem?_append_right (by simp; omega)]
  simp [hl, hn]
theorem row_set {t : List UInt8} {k N : Nat} (hl : t.length = k) (hn : k < N) (x y : Nat) (hx : x < 16) (hy : y < 16) :
    (t.map ub ++ List.replicate (N - k) (Value.int .u8 0)).set k (.int .u8 (16 * (x : Int) + y)) = (t ++ [UInt8.ofNat (16 * x + y)]).map ub ++ List.replicate (N - (k + 1)) (Value.int .u8 0) := by
  obtain ⟨m, hm⟩ : ∃ m, N - k = m + 1 := ⟨N - k - 1, by omega⟩
  rw [hm, show N - (k + 1) = m by omega, List.set_append_right _ _ (by simp; omega)]
  have e : ub (UInt8.ofNat (16 * x + y)) = .int .u8 (16 * (x : Int) + y) := by
    unfold ub
    rw [UInt8.toNat_ofNat', Nat.mod_eq_of_lt (by omega)]
    norm_cast
  rw [List.map_append, List.map_cons, e]
  simp [hl, List.replicate_succ]
theorem unbad {l : List UInt8} (h : unhexL l = none) : Ending.returned (.tuple #[.string ⟨#[]⟩, .int .i64 20]) = .returned (.tuple #[.string (unS l), .int .i64 (unE l)]) := by
  unfold unS unE; rw [h]; rfl
theorem ungood {l t : List UInt8} (h : unhexL l = some t) : Ending.returned (.tuple #[.string (strOf t), .int .i64 0]) = .returned (.tuple #[.string (unS l), .int .i64 (unE l)]) := by
  unfold unS unE; rw [h]; rfl
set_option maxHeartbeats 1000000 in
set_option maxRecDepth 100000 in
theorem unhex_even (s : ByteArray) (w : World) (hs : s.size ≤ 1099511627776) (he : s.size % 2 = 0) :
    Calls Tryz.prog 113 #[.string s] w fun e w' => e = .returned (.tuple #[.string (unS s.data.toList), .int .i64 (unE s.data.toList)]) ∧ Below w.heap.size w w' := by
  obtain ⟨i0, hi, hz0, hz1, hz2⟩ := info_parts info5
  have hq : ((s.size : Int) % 2 != 0) = false := by rw [show (s.size : Int) % 2 = 0 by omega]; rfl
  obtain ⟨N, hN⟩ : ∃ N, s.size = 2 * N := ⟨s.size / 2, by omega⟩
  go_enter Tryz.func113, Tryz.ntmps113
  go_wp2_with (at_make; refine wpList_make_full _ rfl _ _ 39 rfl w.heap.size 5 i0 (.int .u8 0) 1 Tryz.underlying39 hi hz0 hz1 _ _ _ _ N rfl rfl (by omega) (by omega) (by rw [hz2]; omega) (by unfold maxLen; omega) (Nat.le_refl _) ?_)
  intro w1 hown1 hgrow1
  have hb1 : Below w.heap.size w w1 := (Below.refl _ w).grown hgrow1 (Nat.le_refl _) (by simp)
  rw [toList_madeCells_one] at hown1
  go_wp2
  go_loopw [20] (fun i wr => ∃ (k : Nat) (t : List UInt8), k ≤ N ∧ i = .int .i64 k ∧ unhexL (s.data.toList.take (2 * k)) = some t ∧
      wr.ownsRow w.heap.size 5 1 (.slice (some ⟨w.heap.size, 0, none⟩) N N) N (t.map ub ++ List.replicate (N - k) (Value.int .u8 0)) ∧ Below w.heap.size w wr)
    (fun i _ => N - (intOf i).toNat)
  case atStart => exact ⟨0, [], Nat.zero_le _, rfl, rfl, by simpa using hown1, hb1⟩
  case round =>
    obtain ⟨k, t, hk, rfl, ht, hown, hnx⟩ := hrel
    have hsize := hnx.size
    have hlen : t.length = k := by have := unhex_len ht; rw [List.length_take, size_data] at this; omega
    have HT := hide ht
    have HL := hide hlen
    clear ht hlen
    by_cases hlt : k < N
    · have h2 : 2 * k < s.size := by omega
      have h3 : 2 * k + 1 < s.size := by omega
      obtain ⟨X, hX⟩ : ∃ X, X = s[2 * k] := ⟨_, rfl⟩
      obtain ⟨Y, hY⟩ : ∃ Y, Y = s[2 * k + 1] := ⟨_, rfl⟩
      have hx1 : ∀ w', (Instr.index 9 (.string s) (.int .i64 (2 * (k : Int)))).run Tryz.prog w' = .ok (.int .u8 (X.toNat : Int)) w' := fun w' => by
        have := ix_str w' s (2 * k) h2
        rw [hX]
        rwa [show ((2 * k : Nat) : Int) = 2 * (k : Int) by omega] at this
      have hy1 : ∀ w', (Instr.index 9 (.string s) (.int .i64 (2 * (k : Int) + 1))).run Tryz.prog w' = .ok (.int .u8 (Y.toNat : Int)) w' := fun w' => by
        have := ix_str w' s (2 * k + 1) h3
        rw [hY]
        rwa [show ((2 * k + 1 : Nat) : Int) = 2 * (k : Int) + 1 by omega] at this
      have HX := hide hX
      have HY := hide hY
      clear hX hY
      have hc1 := hown.cellAt k (by omega)
      rw [cell_at_end HL.out (by omega)] at hc1
      have hc2 := hown.frozenAt k
      have bad : (unhd X = none ∨ unhd Y = none) → unhexL s.data.toList = none := fun h => unhex_bad s.data.toList k (by rw [size_data]; exact h3) (by
        rw [show s.data.toList[2 * k]'(by rw [size_data]; exact h2) = X from HX.out.symm, show s.data.toList[2 * k + 1]'(by rw [size_data]; exact h3) = Y from HY.out.symm]; exact h)
      have BAD := hide bad
      clear bad
      rcases halfV_cases X with ⟨hx, hxv⟩ | ⟨x, hx, hx16, hxv⟩
      · have F := hide (unbad (BAD.out (Or.inl hx)))
        clear hx
        go_wp2_with (go_at_call 121; refine (half_any _ _).mono ?_; rintro e w' ⟨rfl, rfl⟩)
        go_ret2
        exact ⟨F.out, hnx⟩
      · rcases halfV_cases Y with ⟨hy, hyv⟩ | ⟨y, hy, hy16, hyv⟩
        · have F := hide (unbad (BAD.out (Or.inr hy)))
          clear hx hy
          go_wp2_with (go_at_call 121; refine (half_any _ _).mono ?_; rintro e w' ⟨rfl, rfl⟩)
          go_ret2
          exact ⟨F.out, hnx⟩
        · have STEP := hide (unhex_step s.data.toList k (by rw [size_data]; exact h3) HT.out (by rw [show s.data.toList[2 * k]'(by rw [size_data]; exact h2) = X from HX.out.symm]; exact hx) (by rw [show s.data.toList[2 * k + 1]'(by rw [size_data]; exact h3) = Y from HY.out.symm]; exact hy))
          clear hx hy
          go_wp2_with (go_at_call 121; refine (half_any _ _).mono ?_; rintro e w' ⟨rfl, rfl⟩)
          go_roundw
          case rel =>
            refine ⟨k + 1, t ++ [UInt8.ofNat (16 * x + y)], by omega, by go_num, STEP.out, ?_, ?_⟩
            · have := hown.stored k (.int .u8 (16 * (x : Int) + y))
              rw [row_set HL.out (by omega) x y hx16 hy16] at this
              exact this.1
            · exact hnx.setCell (by simp) _
          case measure => simp [intOf]; omega
    · obtain rfl : k = N := by omega
      have hall : s.data.toList.take (2 * k) = s.data.toList := List.take_of_length_le (by rw [size_data]; omega)
      rw [Nat.sub_self, List.replicate_zero, List.append_nil] at hown
      have hc := own_conv (P := Tryz.prog) (src := 39) (dst := 9) hown HL.out.symm Tryz.underlying39 Tryz.underlying5 Tryz.underlying9
      have F := hide (ungood (by have := HT.out; rwa [hall] at this))
      clear hall
      go_wp2
      go_ret2
      exact ⟨F.out, hnx⟩
set_option maxRecDepth 100000 in
theorem unhex_oddc (s : ByteArray) (w : World) (hs : s.size ≤ 1099511627776) (he : s.size % 2 = 1) :
    Calls Tryz.prog 113 #[.string s] w fun e w' => e = .returned (.tuple #[.string (unS s.data.toList), .int .i64 (unE s.data.toList)]) ∧ Below w.heap.size w w' := by
  have hq : ((s.size : Int) % 2 != 0) = true := by rw [show (s.size : Int) % 2 = 1 by omega]; rfl
  have F := hide (unbad (unhex_odd s.data.toList (by rw [size_data]; exact he)))
  go_enter Tryz.func113, Tryz.ntmps113
  go_wp2
  go_ret2
  exact ⟨F.out, Below.refl _ _⟩
/-- digest.Unhex -/
theorem unhex_any (s : ByteArray) (w : World) (hs : s.size ≤ 1099511627776) :
    Calls Tryz.prog 113 #[.string s] w fun e w' => e = .returned (.tuple #[.string (unS s.data.toList), .int .i64 (unE s.data.toList)]) ∧ Below w.heap.size w w' := by
  rcases Nat.mod_two_eq_zero_or_one s.size with h | h
  · exact unhex_even s w hs h
  · exact unhex_oddc s w hs h
end Go.Proofs.YtgdopepghmjopaaGreatDoor
namespace Go.Proofs.YtgdopepghmjopaaGreatDoor
open Go.RowKit Go.Shelf
/-- is the word so many bytes, as digits -/
def hexOk (l : List UInt8) (size : Nat) : Bool := decide (l.length = 2 * size) && (unhexL l).isSome
def hexV (l : List UInt8) (size : Nat) : ByteArray := if l.length = 2 * size then unS l else ⟨#[]⟩
theorem ret_sb {a b : ByteArray} {c d : Bool} (h1 : a = b) (h2 : c = d) : Ending.returned (.tuple #[.string a, .bool c]) = .returned (.tuple #[.string b, .bool d]) := by rw [h1, h2]
set_option maxHeartbeats 1000000 in
set_option maxRecDepth 100000 in
theorem readHex_any (s : ByteArray) (size : Nat) (w : World) (_hs : s.size < 9223372036854775808) (hz : size ≤ 1000) :
    Calls Tryz.prog 103 #[.string s, .int .i64 (size : Int)] w fun e w' => e = .returned (.tuple #[.string (hexV s.data.toList size), .bool (hexOk s.data.toList size)]) ∧ Below w.heap.size w w' := by
  by_cases h : s.size = 2 * size
  · have C := hide (unhex_any s w (by omega))
    have E1 : Hid (hexV s.data.toList size = unS s.data.toList ∧ hexOk s.data.toList size = (unhexL s.data.toList).isSome) := ⟨by unfold hexV; rw [if_pos (by rw [size_data]; exact h)], by unfold hexOk; rw [decide_eq_true (by rw [size_data]; exact h)]; rfl⟩
    have e1 : (s.size : Int) = 2 * (size : Int) := by omega
    cases hu : (unhexL s.data.toList).isSome with
    | true =>
      have e2 : unE s.data.toList = 0 := by unfold unE; rw [hu]; rfl
      rw [e2] at C
      rw [hu] at E1
      clear hu e2 h
      generalize unS s.data.toList = U at *
      go_enter Tryz.func103, Tryz.ntmps103
      go_wp2_with fail
      refine Calls.mono C.out ?_
      rintro e w1 ⟨rfl, b1⟩
      go_wp2_with fail
      go_ret2
      exact ⟨ret_sb E1.out.1.symm E1.out.2.symm, b1⟩
    | false =>
      have e2 : unE s.data.toList = 20 := by unfold unE; rw [hu]; rfl
      rw [e2] at C
      rw [hu] at E1
      clear hu e2 h
      generalize unS s.data.toList = U at *
      go_enter Tryz.func103, Tryz.ntmps103
      go_wp2_with fail
      refine Calls.mono C.out ?_
      rintro e w1 ⟨rfl, b1⟩
      go_wp2_with fail
      go_ret2
      exact ⟨ret_sb E1.out.1.symm E1.out.2.symm, b1⟩
  · have E1 : Hid (hexV s.data.toList size = ⟨#[]⟩ ∧ hexOk s.data.toList size = false) := ⟨by unfold hexV; rw [if_neg (by rw [size_data]; exact h)], by unfold hexOk; rw [decide_eq_false (by rw [size_data]; exact h)]; rfl⟩
    have e1 : ¬ (s.size : Int) = 2 * (size : Int) := by omega
    go_enter Tryz.func103, Tryz.ntmps103
    go_wp2_with fail
    go_ret2
    exact ⟨ret_sb E1.out.1.symm E1.out.2.symm, Below.refl _ _⟩
/-- bytes as a number, the highest first -/
def beV (l : List UInt8) : Nat := l.foldl (fun n b => n * 256 + b.toNat) 0
theorem beV_snoc (l : List UInt8) (c : UInt8) : beV (l ++ [c]) = beV l * 256 + c.toNat := by unfold beV; rw [List.foldl_append]; rfl
theorem beV_lt (s : List UInt8) : ∀ k, k ≤ s.length → beV (s.take k) < 256 ^ k
  | 0, _ => by simp [beV]
  | k + 1, hk => by
    have := beV_lt s k (by omega)
    have hc := s[k].toNat_lt
    rw [List.take_succ_eq_append_getElem (by omega), beV_snoc, Nat.pow_succ]
    omega
def sumOk (l : List UInt8) : Bool := hexOk l 4
def sumV (l : List UInt8) : Nat := beV (hexV l 4).data.toList
theorem unhexL_len : ∀ (l t : List UInt8), unhexL l = some t → l.length = 2 * t.length := by
  intro l
  induction h' : l.length using Nat.strongRecOn generalizing l with
  | ind n ih =>
    intro t h
    match l with
    | [] => simp [unhexL] at h; subst h; simpa using h'.symm
    | [_] => simp [unhexL] at h
    | a :: b :: r =>
      simp only [unhexL] at h
      cases ha : unhd a <;> cases hb : unhd b <;> cases hr : unhexL r <;> simp [ha, hb, hr] at h
      subst h
      simp only [List.length_cons] at h'
      have := ih r.length (by omega) r rfl _ hr
      simp only [List.length_cons]
      omega
theorem hexV_len (l : List UInt8) (size : Nat) : (hexV l size).size ≤ size := by
  unfold hexV
  split
  · unfold unS
    rw [strOf_size]
    cases h : unhexL l with
    | none => simp
    | some t => have := unhexL_len l t h; simp; omega
  · simp [ByteArray.size]
set_option maxHeartbeats 1000000 in
set_option maxRecDepth 100000 in
theorem readSum_any (s : ByteArray) (w : World) (hs : s.size < 9223372036854775808) :
    Calls Tryz.prog 102 #[.string s] w fun e w' => e = .returned (.tuple #[.int .i64 (sumV s.data.toList : Int), .bool (sumOk s.data.toList)]) ∧ Below w.heap.size w w' := by
  have C := hide (readHex_any s 4 w hs (by omega))
  have hl := hexV_len s.data.toList 4
  have E : Hid (sumV s.data.toList = beV (hexV s.data.toList 4).data.toList ∧ sumOk s.data.toList = hexOk s.data.toList 4) := ⟨rfl, rfl⟩
  generalize hexV s.data.toList 4 = D at *
  generalize hexOk s.data.toList 4 = O at *
  generalize sumV s.data.toList = SV at *
  generalize sumOk s.data.toList = SO at *
  go_enter Tryz.func102, Tryz.ntmps102
  go_wp2_with fail
  refine Calls.mono C.out ?_
  rintro e w1 ⟨rfl, b1⟩
  have B1 := hide b1
  clear C b1
  go_wp2_with fail
  go_loop [6, 7, 15] (fun n _ v => ∃ k : Nat, k ≤ D.size ∧ v = .int .i64 k ∧ n = .int .i64 (beV (D.data.toList.take k) : Int)) (fun _ _ v => D.size - (intOf v).toNat)
  case atStart => exact ⟨0, Nat.zero_le _, rfl, rfl⟩
  case round =>
    obtain ⟨k, hk, rfl, rfl⟩ := hrel
    have hV := beV_lt D.data.toList k (by rw [size_data]; exact hk)
    have hV2 : beV (D.data.toList.take k) < 4294967296 := Nat.lt_of_lt_of_le hV (Nat.le_trans (Nat.pow_le_pow_right (by omega) (show k ≤ 4 by omega)) (by decide))
    by_cases hlt : k < D.size
    · have hxs : ∀ w', (Instr.index 9 (.string D) (.int .i64 (k : Int))).run Tryz.prog w' = .ok (.int .u8 (D[k].toNat : Int)) w' := fun w' => ix_str w' D k hlt
      have hsn : Hid (beV (D.data.toList.take (k + 1)) = beV (D.data.toList.take k) * 256 + D[k].toNat) := by
        show _ = _
        rw [List.take_succ_eq_append_getElem (by simpa using hlt), beV_snoc]; rfl
      have hc := D[k].toNat_lt
      clear hV
      generalize D[k] = c at *
      generalize beV (D.data.toList.take k) = V at *
      go_wp2_with fail
      go_round
      case rel => exact ⟨k + 1, by omega, by go_num, by rw [hsn.out]; go_num⟩
      case measure => simp [intOf]; omega
    · obtain rfl : k = D.size := by omega
      rw [List.take_of_length_le (by simp)] at hV2 ⊢
      clear hV
      go_wp2_with fail
      go_ret2
      exact ⟨ret_tup (by rw [E.out.1]) E.out.2.symm, B1.out⟩
/-- what a shape reads of a word: the number, the text, is it good -/
def rdN (sh : Int) (l : List UInt8) : Int := if sh = 0 then (numV l : Int) else if sh = 1 then (sumV l : Int) else 0
def rdT (sh : Int) (l : List UInt8) : ByteArray := if sh = 0 ∨ sh = 1 then ⟨#[]⟩ else if sh = 2 then hexV l 16 else strOf l
def rdOk (sh : Int) (l : List UInt8) : Bool := if sh = 0 then numOk l else if sh = 1 then sumOk l else if sh = 2 then hexOk l 16 else !l.isEmpty
def ReadsAs (sh : Int) : Prop := ∀ (s : ByteArray) (w : World), s.size < 9223372036854775808 → Calls Tryz.prog 87 #[.int .i64 sh, .string s] w fun e w' => e = .returned (.tuple #[.agg #[.int .i64 (rdN sh s.data.toList), .string (rdT sh s.data.toList)], .bool (rdOk sh s.data.toList)]) ∧ Below w.heap.size w w'
set_option maxHeartbeats 1000000 in
set_option maxRecDepth 100000 in
theorem reads_num : ReadsAs 0 := fun s w hs => by
  have C := hide (fun w' => readNumber_any s w' hs)
  rw [show rdN 0 s.data.toList = (numV s.data.toList : Int) from rfl, show rdT 0 s.data.toList = ⟨#[]⟩ from rfl, show rdOk 0 s.data.toList = numOk s.data.toList from rfl]
  generalize numV s.data.toList = N at *
  generalize numOk s.data.toList = O at *
  go_enter Tryz.func87, Tryz.ntmps87
  go_wp2_with fail
  refine Calls.mono (C.out _) ?_
  rintro e w1 ⟨rfl, b1⟩
  have hl : w.heap.size < (w.alloc (.cells #[.int .i64 0, .string ⟨#[]⟩] 76)).heap.size := by simp
  have k0 : w1.cell? ⟨w.heap.size, 0, none⟩ = some (.int .i64 0) := by rw [b1.cell (by exact hl)]; simp
  have k1 : w1.cell? ⟨w.heap.size, 1, none⟩ = some (.string ⟨#[]⟩) := by rw [b1.cell (by exact hl)]; simp
  have f0 : w1.frozen? ⟨w.heap.size, 0, none⟩ = false := by rw [b1.frozen (by exact hl)]; simp
  have f1 : w1.frozen? ⟨w.heap.size, 1, none⟩ = false := by rw [b1.frozen (by exact hl)]; simp
  have B1 := hide (((Below.refl w.heap.size w).alloc (Nat.le_refl _) _).trans (b1.mono (by simp)))
  clear b1 C
  go_wp2_with fail
  exact bodyPost_ret (v := .tuple #[.agg #[.int .i64 (N : Int), .string ⟨#[]⟩], .bool O]) (by simp [results, Tryz.results87, go_sem, k0, k1]) rfl ⟨rfl, (B1.out.setCell (Nat.le_refl _) _).setCell (Nat.le_refl _) _⟩
set_option maxHeartbeats 1000000 in
set_option maxRecDepth 100000 in
theorem reads_sum : ReadsAs 1 := fun s w hs => by
  have C := hide (fun w' => readSum_any s w' hs)
  rw [show rdN 1 s.data.toList = (sumV s.data.toList : Int) from rfl, show rdT 1 s.data.toList = ⟨#[]⟩ from rfl, show rdOk 1 s.data.toList = sumOk s.data.toList from rfl]
  generalize sumV s.data.toList = N at *
  generalize sumOk s.data.toList = O at *
  go_enter Tryz.func87, Tryz.ntmps87
  go_wp2_with fail
  refine Calls.mono (C.out _) ?_
  rintro e w1 ⟨rfl, b1⟩
  have hl : w.heap.size < (w.alloc (.cells #[.int .i64 0, .string ⟨#[]⟩] 76)).heap.size := by simp
  have k0 : w1.cell? ⟨w.heap.size, 0, none⟩ = some (.int .i64 0) := by rw [b1.cell (by exact hl)]; simp
  have k1 : w1.cell? ⟨w.heap.size, 1, none⟩ = some (.string ⟨#[]⟩) := by rw [b1.cell (by exact hl)]; simp
  have f0 : w1.frozen? ⟨w.heap.size, 0, none⟩ = false := by rw [b1.frozen (by exact hl)]; simp
  have f1 : w1.frozen? ⟨w.heap.size, 1, none⟩ = false := by rw [b1.frozen (by exact hl)]; simp
  have B1 := hide (((Below.refl w.heap.size w).alloc (Nat.le_refl _) _).trans (b1.mono (by simp)))
  clear b1 C
  go_wp2_with fail
  exact bodyPost_ret (v := .tuple #[.agg #[.int .i64 (N : Int), .string ⟨#[]⟩], .bool O]) (by simp [results, Tryz.results87, go_sem, k0, k1]) rfl ⟨rfl, (B1.out.setCell (Nat.le_refl _) _).setCell (Nat.le_refl _) _⟩
end Go.Proofs.YtgdopepghmjopaaGreatDoor
