import Derived.Test.YtaieeabolcldgaaDoorPart11
import Derived.Test.YtaieeabolcldgaaDoorDjCrcs
namespace Go.Proofs.YtaieeabolcldgaaDoor
open Go.RowKit Go.Shelf
set_option maxHeartbeats 1000000 in
set_option maxRecDepth 100000 in
theorem rin_any (n lo hi : Int) (w : World) :
    Calls Tryd.prog 22 #[.int .i64 n, .int .i64 lo, .int .i64 hi] w fun e w' => e = .returned (.bool (inR n lo hi)) ∧ w = w' := by
  obtain ⟨B, hB⟩ : ∃ B, B = inR n lo hi := ⟨_, rfl⟩
  rw [← hB]
  unfold inR at hB
  have HB := hide hB
  clear hB
  by_cases h : lo ≤ n
  · go_enter Tryd.func22, Tryd.ntmps22
    go_wp2
    go_ret
    refine ⟨ret_bool ?_, rfl⟩
    rw [HB.out, decide_eq_true h]; rfl
  · go_enter Tryd.func22, Tryd.ntmps22
    go_wp2
    go_ret
    refine ⟨ret_bool ?_, rfl⟩
    rw [HB.out, decide_eq_false (by omega)]; rfl
theorem ret_i {a b : Int} (h : a = b) : Ending.returned (.int .i64 a) = .returned (.int .i64 b) := by rw [h]
set_option maxHeartbeats 2000000 in
set_option maxRecDepth 100000 in
theorem rpointerFields_any (c p e s : Int) (w : World) :
    Calls Tryd.prog 32 #[.agg #[.int .i64 c, .int .i64 p, .int .i64 e, .int .i64 s]] w fun x w' => x = .returned (.int .i64 (ptrE c p e s)) ∧ Below w.heap.size w w' := by
  have hb : Hid (Below w.heap.size w (w.alloc (.cells #[.int .i64 c, .int .i64 p, .int .i64 e, .int .i64 s] 42))) := (Below.refl _ _).alloc (Nat.le_refl _) _
  obtain ⟨B, hB⟩ : ∃ B, B = ptrE c p e s := ⟨_, rfl⟩
  rw [← hB]
  unfold ptrE ptrOk at hB
  have HB := hide hB
  clear hB
  cases h1 : inR c 0 999999 with
  | false =>
    go_enter Tryd.func32, Tryd.ntmps32
    go_wp2_with (go_at_call 22; refine Calls.mono (rin_any _ _ _ _) ?_; rintro e w' ⟨rfl, rfl⟩)
    go_ret
    exact ⟨ret_i (by rw [HB.out, h1]; rfl), hb.out⟩
  | true =>
    cases h2 : inR p 0 999999 with
    | false =>
      go_enter Tryd.func32, Tryd.ntmps32
      go_wp2_with (go_at_call 22; refine Calls.mono (rin_any _ _ _ _) ?_; rintro e w' ⟨rfl, rfl⟩)
      go_ret
      exact ⟨ret_i (by rw [HB.out, h1, h2]; rfl), hb.out⟩
    | true =>
      cases h3 : inR e 0 9007199254740992 with
      | false =>
        go_enter Tryd.func32, Tryd.ntmps32
        go_wp2_with (go_at_call 22; refine Calls.mono (rin_any _ _ _ _) ?_; rintro e w' ⟨rfl, rfl⟩)
        go_ret
        exact ⟨ret_i (by rw [HB.out, h1, h2, h3]; rfl), hb.out⟩
      | true =>
        cases h4 : inR s 0 9007199254740992 with
        | false =>
          go_enter Tryd.func32, Tryd.ntmps32
          go_wp2_with (go_at_call 22; refine Calls.mono (rin_any _ _ _ _) ?_; rintro e w' ⟨rfl, rfl⟩)
          go_ret
          exact ⟨ret_i (by rw [HB.out, h1, h2, h3, h4]; rfl), hb.out⟩
        | true =>
          go_enter Tryd.func32, Tryd.ntmps32
          go_wp2_with (go_at_call 22; refine Calls.mono (rin_any _ _ _ _) ?_; rintro e w' ⟨rfl, rfl⟩)
          go_ret
          exact ⟨ret_i (by rw [HB.out, h1, h2, h3, h4]; rfl), hb.out⟩
theorem wrap64_in {x : Int} (h0 : 0 ≤ x) (h1 : x < 9223372036854775808) : wrap64 x = x := by
  unfold wrap64
  omega
theorem one_of {x : Value} (hx : x.oneCell' = true) : ∀ u ∈ [x], u.oneCell' = true := by
  intro u hu; simp at hu; subst hu; exact hx
/-- the first j of the eight digits -/
def eightL (n j : Nat) : List UInt8 := (List.range j).map fun t => hd (n / 16 ^ (7 - t) % 16)
theorem eightL_succ (n j : Nat) : eightL n (j + 1) = eightL n j ++ [hd (n / 16 ^ (7 - j) % 16)] := by
  unfold eightL; rw [List.range_succ, List.map_append]; rfl
theorem eightL_len (n j : Nat) : (eightL n j).length = j := by simp [eightL]
theorem eightL_all (n : Nat) (h : n < 4294967296) : eightL n 8 = hexL (be4 n) := by
  have e : ∀ m : Nat, (UInt8.ofNat m).toNat = m % 256 := fun m => by simp
  simp only [eightL, List.range, List.range.loop, List.map_cons, List.map_nil, be4, hexL, e]
  simp only [show (7 - 0 : Nat) = 7 from rfl, show (7 - 1 : Nat) = 6 from rfl, show (7 - 2 : Nat) = 5 from rfl, show (7 - 3 : Nat) = 4 from rfl, show (7 - 4 : Nat) = 3 from rfl, show (7 - 5 : Nat) = 2 from rfl, show (7 - 6 : Nat) = 1 from rfl, show (7 - 7 : Nat) = 0 from rfl, Nat.reducePow]
  congr 1
  · congr 1; omega
  · congr 1
    · congr 1; omega
    · congr 1
      · congr 1; omega
      · congr 1
        · congr 1; omega
        · congr 1
          · congr 1; omega
          · congr 1
            · congr 1; omega
            · congr 1
              · congr 1; omega
              · congr 1; congr 1; omega
set_option maxHeartbeats 4000000 in
set_option maxRecDepth 100000 in
theorem eight_any (n : Nat) (hn : n < 4294967296) (w : World) :
    Calls Tryd.prog 24 #[.int .i64 (n : Int)] w fun e w' => e = .returned (.string (strOf (hexL (be4 n)))) ∧ Below w.heap.size w w' := by
  obtain ⟨i0, hi, hz0, hz1, hz2⟩ := info_parts info5
  rw [← eightL_all n hn]
  go_enter Tryd.func24, Tryd.ntmps24
  go_wp2_with fail
  go_loopw [3, 4, 5, 6] (fun v i _ _ wr => ∃ j : Nat, j ≤ 8 ∧ i = .int .i64 (7 - (j : Int)) ∧ Hid (wr.ownsRow w.heap.size 5 1 v j ((eightL n j).map ub) ∧ Below w.heap.size w wr)) (fun _ i _ _ _ => (intOf i + 1).toNat)
  case atStart => exact ⟨0, by omega, rfl, World.ownsRow_nil _ _ _ _, Below.refl _ _⟩
  case round =>
    obtain ⟨j, hj, rfl, H⟩ := hrel
    by_cases hlt : j < 8
    · have hg : (0 : Int) ≤ 7 - (j : Int) := by omega
      go_wp2_with fail
      go_loop [5, 6] (fun p k => ∃ t : Nat, t ≤ 7 - j ∧ k = .int .i64 (t : Int) ∧ p = .int .i64 ((16 ^ t : Nat) : Int)) (fun _ k => 7 - (intOf k).toNat)
      case atStart => exact ⟨0, Nat.zero_le _, rfl, rfl⟩
      case round =>
        obtain ⟨t, ht, rfl, rfl⟩ := hrel
        have hp7 : 16 ^ t ≤ 268435456 := Nat.le_trans (Nat.pow_le_pow_right (by omega) (show t ≤ 7 by omega)) (by decide)
        have hps : Hid (16 ^ (t + 1) = 16 * 16 ^ t) := by show _ = _; rw [Nat.pow_succ]; omega
        have hpp : 0 < 16 ^ t := Nat.pow_pos (by omega)
        by_cases htl : t < 7 - j
        · generalize 16 ^ t = PW at *
          have hc : (t : Int) < 7 - (j : Int) := by omega
          go_wp2_with fail
          go_round
          case rel => exact ⟨t + 1, by omega, by go_num, by rw [hps.out]; go_num⟩
          case measure => simp [intOf]; omega
        · obtain rfl : t = 7 - j := by omega
          have hc : ¬ (((7 - j : Nat) : Int) < 7 - (j : Int)) := by omega
          have HE := hide (eightL_succ n j)
          generalize 16 ^ (7 - j) = PW at *
          have hq : wrap64 ((n : Int) / (PW : Int)) = ((n / PW : Nat) : Int) := by
            have e1 : (n : Int) / (PW : Int) = ((n / PW : Nat) : Int) := by simp
            have e2 : n / PW ≤ n := Nat.div_le_self n PW
            have e3 : (0 : Int) ≤ ((n / PW : Nat) : Int) := Int.natCast_nonneg _
            have e4 : ((n / PW : Nat) : Int) ≤ (n : Int) := by exact_mod_cast e2
            rw [e1]
            generalize ((n / PW : Nat) : Int) = Z at *
            exact wrap64_in (by omega) (by omega)
          have hQ : n / PW < 4294967296 := Nat.lt_of_le_of_lt (Nat.div_le_self n PW) hn
          generalize n / PW = Q at *
          have hd1 : ∀ w', (Instr.index 9 (.string ⟨#[48, 49, 50, 51, 52, 53, 54, 55, 56, 57, 97, 98, 99, 100, 101, 102]⟩) (.int .i64 ((Q : Int) % 16))).run Tryd.prog w' = .ok (.int .u8 ((hd (Q % 16)).toNat : Int)) w' := fun w' => by
            have := ix_digs w' (Q % 16) (by omega) .i64
            rwa [show ((Q % 16 : Nat) : Int) = (Q : Int) % 16 by omega] at this
          obtain ⟨hown, hnx⟩ := H.out
          have hsize := hnx.size
          go_wp2_with (at_builtin; refine wpList_append_own _ rfl (.tmp 18) (.tmp 24) 59 rfl w.heap.size 5 i0 (.int .u8 0) 1 1 Tryd.underlying59 hi hz0 hz1 hz2 rfl (by decide) _ _ _ rfl (hown.alloc _) ⟨wr.heap.size, 0, none⟩ 1 1 [.int .u8 (hd (Q % 16)).toNat] rfl rfl (cell_one_new _ _ _) (one_of rfl) (by unfold maxLen; omega) (by omega) (by simp; omega) ?_; intro v1 w2 hown2 hgrow2 hnil2)
          have H2 : Hid (w2.ownsRow w.heap.size 5 1 v1 (j + 1) ((eightL n (j + 1)).map ub) ∧ Below w.heap.size w w2) := by
            refine ⟨?_, (hnx.alloc hsize _).grown hgrow2 (by simp; omega) (fun j hj => (hown.lt j hj).1)⟩
            rw [HE.out, List.map_append]
            exact hown2
          clear hown2 hgrow2 hnil2 hown hnx H
          go_roundw
          case rel => exact ⟨j + 1, by omega, by go_num, H2⟩
          case measure => simp [intOf]; omega
    · obtain rfl : j = 8 := by omega
      have hc := own_conv (P := Tryd.prog) (src := 59) (dst := 9) H.out.1 (by rw [eightL_len]) Tryd.underlying59 Tryd.underlying5 Tryd.underlying9
      go_wp2_with fail
      go_ret
      exact ⟨rfl, H.out.2⟩
end Go.Proofs.YtaieeabolcldgaaDoor
