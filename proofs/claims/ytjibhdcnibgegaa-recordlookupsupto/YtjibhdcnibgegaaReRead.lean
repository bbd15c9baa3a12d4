import Derived.Test.YtjibhdcnibgegaaReEnt
namespace Go.Proofs.Ytjibhdcnibgegaa
open Go.RowKit
/-- what both ReadEntries answer -/
def rdeOk (m : Int) (x : ByteArray) (i : Int) : Prop := (1 ≤ m ∧ m ≤ 16) ∧ x.size % (m.toNat + 4) = 0 ∧ 0 ≤ i ∧ i.toNat < x.size / (m.toNat + 4)
instance (m : Int) (x : ByteArray) (i : Int) : Decidable (rdeOk m x i) := by unfold rdeOk; exact inferInstance
def rdeH (m : Nat) (x : ByteArray) (i : Nat) : ByteArray := x.extract (i * (m + 4)) (i * (m + 4) + m)
def rdeO (m : Nat) (x : ByteArray) (i : Nat) : Nat := val ((x.data.toList.drop (i * (m + 4) + m)).take 4)
def rdeS (m : Int) (x : ByteArray) (i : Int) : ByteArray := if rdeOk m x i then rdeH m.toNat x i.toNat else ⟨#[]⟩
def rdeV (m : Int) (x : ByteArray) (i : Int) : Int := if rdeOk m x i then (rdeO m.toNat x i.toNat : Int) else 0
def rdeE (m : Int) (x : ByteArray) (i : Int) : Int := if 1 ≤ m ∧ m ≤ 16 then if x.size % (m.toNat + 4) = 0 then if 0 ≤ i ∧ i.toNat < x.size / (m.toNat + 4) then 0 else 1 else 38 else 30
def rdeR (m : Int) (x : ByteArray) (i : Int) : Ending := .returned (.tuple #[.string (rdeS m x i), .int .i64 (rdeV m x i), .int .i64 (rdeE m x i)])
theorem rde_width {m : Int} {x : ByteArray} {i : Int} (h : ¬ (1 ≤ m ∧ m ≤ 16)) : Ending.returned (.tuple #[.string ⟨#[]⟩, .int .i64 0, .int .i64 30]) = rdeR m x i := by
  unfold rdeR rdeS rdeV rdeE; rw [if_neg (fun k => h k.1), if_neg (fun k => h k.1), if_neg h]
theorem rde_index {m : Int} {x : ByteArray} {i : Int} (h : 1 ≤ m ∧ m ≤ 16) (hx : ¬ x.size % (m.toNat + 4) = 0) : Ending.returned (.tuple #[.string ⟨#[]⟩, .int .i64 0, .int .i64 38]) = rdeR m x i := by
  unfold rdeR rdeS rdeV rdeE; rw [if_neg (fun k => hx k.2.1), if_neg (fun k => hx k.2.1), if_pos h, if_neg hx]
theorem rde_arg {m : Int} {x : ByteArray} {i : Int} (h : 1 ≤ m ∧ m ≤ 16) (hx : x.size % (m.toNat + 4) = 0) (hi : ¬ (0 ≤ i ∧ i.toNat < x.size / (m.toNat + 4))) : Ending.returned (.tuple #[.string ⟨#[]⟩, .int .i64 0, .int .i64 1]) = rdeR m x i := by
  unfold rdeR rdeS rdeV rdeE; rw [if_neg (fun k => hi k.2.2), if_neg (fun k => hi k.2.2), if_pos h, if_pos hx, if_neg hi]
theorem rde_good {m : Int} {x : ByteArray} {i : Int} (h : 1 ≤ m ∧ m ≤ 16) (hx : x.size % (m.toNat + 4) = 0) (hi : 0 ≤ i ∧ i.toNat < x.size / (m.toNat + 4)) : Ending.returned (.tuple #[.string (rdeH m.toNat x i.toNat), .int .i64 (rdeO m.toNat x i.toNat : Int), .int .i64 0]) = rdeR m x i := by
  unfold rdeR rdeS rdeV rdeE; rw [if_pos ⟨h, hx, hi⟩, if_pos ⟨h, hx, hi⟩, if_pos h, if_pos hx, if_pos hi]
theorem ext_ext (x : ByteArray) (p q m : Nat) (h : p + m ≤ q) : (x.extract p q).extract 0 m = x.extract p (p + m) := by
  apply ByteArray.ext
  rw [ByteArray.data_extract, ByteArray.data_extract, ByteArray.data_extract, Array.extract_extract]
  simp [Nat.min_eq_left h]
theorem ext_tail (x : ByteArray) (p m : Nat) : ((x.extract p (p + m + 4)).extract m (m + 4)).data.toList = (x.data.toList.drop (p + m)).take 4 := by
  rw [slice_str, slice_str, show m + 4 - m = 4 by omega, show p + m + 4 - p = m + 4 by omega, List.drop_take, List.drop_drop, List.take_take]
  congr 1
  omega
theorem in_index {x : ByteArray} {m i : Nat} (hi : i < x.size / (m + 4)) : i * (m + 4) + m + 4 ≤ x.size := by
  have h1 := Nat.div_mul_le_self x.size (m + 4)
  have h2 : (i + 1) * (m + 4) ≤ x.size / (m + 4) * (m + 4) := Nat.mul_le_mul_right _ hi
  rw [Nat.succ_mul] at h2
  omega
set_option maxHeartbeats 2000000 in
set_option maxRecDepth 100000 in
set_option linter.unusedSimpArgs false in
theorem entryAt_any (m i : Nat) (x : ByteArray) (hm1 : 1 ≤ m) (hm : m ≤ 16) (hx : x.size ≤ 140737488351232) (hi : i < x.size / (m + 4)) (w : World) :
    Calls Try.prog 37 #[.int .i64 (m : Int), .string x, .int .i64 (i : Int)] w fun e w' => e = .returned (.agg #[.string (rdeH m x i), .int .i64 (rdeO m x i : Int)]) ∧ Below w.heap.size w w' := by
  have hin := in_index hi
  have hi2 : i ≤ 140737488351232 := Nat.le_trans (Nat.le_of_lt hi) (Nat.le_trans (Nat.div_le_self _ _) hx)
  obtain ⟨p, hp⟩ : ∃ p, p = i * (m + 4) := ⟨_, rfl⟩
  have e1 : (i : Int) * ((m : Int) + 4) = (p : Int) := by rw [hp]; push_cast; rfl
  have e2 : ((i : Int) + 1) * ((m : Int) + 4) = (p : Int) + m + 4 := by rw [Int.add_mul, e1]; omega
  rw [← hp] at hin
  have hC := fun w' => take32_any ((x.extract p (p + m + 4)).extract m (m + 4)) (by simp; omega) w'
  rw [ext_tail x p m] at hC
  have hO : val ((x.data.toList.drop (p + m)).take 4) < 4294967296 := Nat.lt_of_lt_of_le (val_lt _) (Nat.pow_le_pow_right (show 256 > 0 by omega) (show ((x.data.toList.drop (p + m)).take 4).length ≤ 4 by rw [List.length_take]; omega))
  have hH : rdeH m x i = (x.extract p (p + m + 4)).extract 0 m := by rw [ext_ext _ _ _ _ (by omega), hp]; rfl
  have hV : rdeO m x i = val ((x.data.toList.drop (p + m)).take 4) := by rw [hp]; rfl
  rw [hH, hV]
  have hsz : (x.extract p (p + m + 4)).size = m + 4 := by simp; omega
  have HC := hide hC
  clear hC hH hV hp
  generalize val ((x.data.toList.drop (p + m)).take 4) = V at *
  go_enter Try.func37, Try.ntmps37
  go_wp2_with fail
  refine wp_region_held_drew (S := fun _ => True) (by kernel_rfl) trivial (fun hHeld => ?_)
  refine wpAnyH_take (i := 0) (v := (.string (x.extract p (p + m + 4)))) rfl (by kernel_rfl) (by kernel_rfl) (by kernel_rfl) (fun _ _ _ h => h) (Or.inl ⟨by rfl, ?_⟩) (by assumption) ?_
  · intro w' hSw
    (try dsimp only at hSw)
    go_simp <;> first | exact i64_in (by omega) (by omega) | exact u32_in (by omega) (by omega) | exact u32_add _ _ | (rw [Int.tmod_eq_emod_of_nonneg (by omega)]; omega) | (rw [Int.tdiv_eq_ediv_of_nonneg (by omega)]; omega) | omega
  (try simp only [Act.put, List.setIfInBounds_toArray, List.set_cons_zero, List.set_cons_succ])
  refine wpAnyH_take (i := 1) (v := (.int .i64 (m : Int))) rfl (by kernel_rfl) (by kernel_rfl) (by kernel_rfl) (fun _ _ _ h => h) (Or.inl ⟨by rfl, ?_⟩) (by assumption) ?_
  · intro w' hSw
    (try dsimp only at hSw)
    go_simp <;> first | exact i64_in (by omega) (by omega) | exact u32_in (by omega) (by omega) | exact u32_add _ _ | (rw [Int.tmod_eq_emod_of_nonneg (by omega)]; omega) | (rw [Int.tdiv_eq_ediv_of_nonneg (by omega)]; omega) | omega
  (try simp only [Act.put, List.setIfInBounds_toArray, List.set_cons_zero, List.set_cons_succ])
  refine wpAnyH_take (i := 2) (v := (.string ((x.extract p (p + m + 4)).extract 0 m))) rfl (by kernel_rfl) (by kernel_rfl) (by kernel_rfl) (fun _ _ _ h => h) (Or.inl ⟨by rfl, ?_⟩) (by assumption) ?_
  · intro w' hSw
    (try dsimp only at hSw)
    go_simp <;> first | exact i64_in (by omega) (by omega) | exact u32_in (by omega) (by omega) | exact u32_add _ _ | (rw [Int.tmod_eq_emod_of_nonneg (by omega)]; omega) | (rw [Int.tdiv_eq_ediv_of_nonneg (by omega)]; omega) | omega
  (try simp only [Act.put, List.setIfInBounds_toArray, List.set_cons_zero, List.set_cons_succ])
  refine wpAnyH_take (i := 3) (v := (.string (x.extract p (p + m + 4)))) rfl (by kernel_rfl) (by kernel_rfl) (by kernel_rfl) (fun _ _ _ h => h) (Or.inl ⟨by rfl, ?_⟩) (by assumption) ?_
  · intro w' hSw
    (try dsimp only at hSw)
    go_simp <;> first | exact i64_in (by omega) (by omega) | exact u32_in (by omega) (by omega) | exact u32_add _ _ | (rw [Int.tmod_eq_emod_of_nonneg (by omega)]; omega) | (rw [Int.tdiv_eq_ediv_of_nonneg (by omega)]; omega) | omega
  (try simp only [Act.put, List.setIfInBounds_toArray, List.set_cons_zero, List.set_cons_succ])
  refine wpAnyH_take (i := 4) (v := (.int .i64 (m : Int))) rfl (by kernel_rfl) (by kernel_rfl) (by kernel_rfl) (fun _ _ _ h => h) (Or.inl ⟨by rfl, ?_⟩) (by assumption) ?_
  · intro w' hSw
    (try dsimp only at hSw)
    go_simp <;> first | exact i64_in (by omega) (by omega) | exact u32_in (by omega) (by omega) | exact u32_add _ _ | (rw [Int.tmod_eq_emod_of_nonneg (by omega)]; omega) | (rw [Int.tdiv_eq_ediv_of_nonneg (by omega)]; omega) | omega
  (try simp only [Act.put, List.setIfInBounds_toArray, List.set_cons_zero, List.set_cons_succ])
  refine wpAnyH_take (i := 5) (v := (.string ((x.extract p (p + m + 4)).extract m (m + 4)))) rfl (by kernel_rfl) (by kernel_rfl) (by kernel_rfl) (fun _ _ _ h => h) (Or.inl ⟨by rfl, ?_⟩) (by assumption) ?_
  · intro w' hSw
    (try dsimp only at hSw)
    go_simp <;> first | exact i64_in (by omega) (by omega) | exact u32_in (by omega) (by omega) | exact u32_add _ _ | (rw [Int.tmod_eq_emod_of_nonneg (by omega)]; omega) | (rw [Int.tdiv_eq_ediv_of_nonneg (by omega)]; omega) | omega
  (try simp only [Act.put, List.setIfInBounds_toArray, List.set_cons_zero, List.set_cons_succ])
  refine wpAnyH_ready (rs := [6]) (by kernel_rfl) (by simp) ?_
  refine AllReadyH.cons rfl (fun K hK => ?_) AllReadyH.nil
  go_simp
  refine Calls.mono (HC.out _) ?_
  rintro e w1 ⟨rfl, rfl⟩
  refine hK.out _ _ trivial (fun hHeld => ?_)
  clear hK K
  (try simp only [Act.put, List.setIfInBounds_toArray, List.set_cons_zero, List.set_cons_succ])
  refine wpAnyH_take (i := 7) (v := (.int .i64 (V : Int))) rfl (by kernel_rfl) (by kernel_rfl) (by kernel_rfl) (fun _ _ _ h => h) (Or.inl ⟨by rfl, ?_⟩) (by assumption) ?_
  · intro w' hSw
    (try dsimp only at hSw)
    (go_simp; exact i64_in (by omega) (by omega))
  (try simp only [Act.put, List.setIfInBounds_toArray, List.set_cons_zero, List.set_cons_succ])
  refine wpAnyH_take (i := 8) (v := (.agg #[.string ((x.extract p (p + m + 4)).extract 0 m), .int .i64 (V : Int)])) rfl (by kernel_rfl) (by kernel_rfl) (by kernel_rfl) (fun _ _ _ h => h) (Or.inl ⟨by rfl, ?_⟩) (by assumption) ?_
  · intro w' hSw
    (try dsimp only at hSw)
    go_simp <;> first | exact i64_in (by omega) (by omega) | exact u32_in (by omega) (by omega) | exact u32_add _ _ | (rw [Int.tmod_eq_emod_of_nonneg (by omega)]; omega) | (rw [Int.tdiv_eq_ediv_of_nonneg (by omega)]; omega) | omega
  (try simp only [Act.put, List.setIfInBounds_toArray, List.set_cons_zero, List.set_cons_succ])
  refine wpAnyH_ready (rs := [9]) (by kernel_rfl) (by simp) ?_
  refine AllReadyH.cons rfl (fun K hK => ?_) AllReadyH.nil
  go_simp
  refine hK.out _ _ trivial (fun hHeld => ?_)
  clear hK K
  (try simp only [Act.put, List.setIfInBounds_toArray, List.set_cons_zero, List.set_cons_succ])
  refine wpAnyH_done (by kernel_rfl) ?_ _
  go_wp2
  refine bodyPost_ret (v := .agg #[.string ((x.extract p (p + m + 4)).extract 0 m), .int .i64 (V : Int)]) ?_ rfl ⟨rfl, ?_⟩
  · exact results_cell_row rfl _ _ w.heap.size 75 _ (0, 0) _ rfl (heap_alloc_new w _) Try.underlying75 rfl (by kernel_rfl)
  · exact ((Below.refl _ w).alloc (Nat.le_refl _) _).drew
theorem mod_ne {a b : Nat} (h : ¬ a % b = 0) : ((a : Int) % (b : Int) != 0) = true := by
  have : ¬ ((a : Int) % (b : Int) = 0) := by norm_cast
  simpa using this
theorem mod_eq {a b : Nat} (h : a % b = 0) : ((a : Int) % (b : Int) != 0) = false := by
  have : ((a : Int) % (b : Int) = 0) := by norm_cast
  simpa using this
set_option maxHeartbeats 2000000 in
set_option maxRecDepth 100000 in
theorem countEntries_any (m : Int) (x : ByteArray) (hx : x.size ≤ 140737488351232) (w : World) :
    Calls Try.prog 36 #[.int .i64 m, .string x] w fun e w' =>
      e = .returned (.tuple #[.int .i64 (if (1 ≤ m ∧ m ≤ 16) ∧ x.size % (m.toNat + 4) = 0 then ((x.size / (m.toNat + 4) : Nat) : Int) else 0), .int .i64 (if 1 ≤ m ∧ m ≤ 16 then if x.size % (m.toNat + 4) = 0 then 0 else 38 else 30)]) ∧ w = w' := by
  by_cases hm : 1 ≤ m ∧ m ≤ 16
  · have hd : decide (1 ≤ m ∧ m ≤ 16) = true := decide_eq_true hm
    obtain ⟨n, rfl⟩ : ∃ n : Nat, m = (n : Int) := ⟨m.toNat, by omega⟩
    rw [Int.toNat_natCast]
    by_cases hq : x.size % (n + 4) = 0
    · rw [if_pos ⟨hm, hq⟩, if_pos hm, if_pos hq]
      have h1 := mod_eq hq
      rw [show ((n + 4 : Nat) : Int) = (n : Int) + 4 by omega] at h1
      have h2 : (x.size : Int) / ((n : Int) + 4) = ((x.size / (n + 4) : Nat) : Int) := by push_cast; rfl
      have h3 : x.size / (n + 4) ≤ x.size := Nat.div_le_self _ _
      generalize x.size / (n + 4) = Z at *
      clear hq
      go_enter Try.func36, Try.ntmps36
      go_wp2_with fail
      refine Calls.mono (isHashWidth_any _ _) ?_
      rintro e w' ⟨rfl, rfl⟩
      go_wp2_with fail
      go_ret2
      exact ⟨rfl, rfl⟩
    · rw [if_neg (fun k => hq k.2), if_pos hm, if_neg hq]
      have h1 := mod_ne hq
      rw [show ((n + 4 : Nat) : Int) = (n : Int) + 4 by omega] at h1
      clear hq
      go_enter Try.func36, Try.ntmps36
      go_wp2_with fail
      refine Calls.mono (isHashWidth_any _ _) ?_
      rintro e w' ⟨rfl, rfl⟩
      go_wp2_with fail
      go_ret2
      exact ⟨rfl, rfl⟩
  · have hd : decide (1 ≤ m ∧ m ≤ 16) = false := decide_eq_false hm
    rw [if_neg (fun k => hm k.1), if_neg hm]
    go_enter Try.func36, Try.ntmps36
    go_wp2_with fail
    refine Calls.mono (isHashWidth_any _ _) ?_
    rintro e w' ⟨rfl, rfl⟩
    go_wp2_with fail
    go_ret2
    exact ⟨rfl, rfl⟩
set_option maxHeartbeats 2000000 in
set_option maxRecDepth 100000 in
theorem readEntry_any (m : Int) (x : ByteArray) (i : Int) (hx : x.size ≤ 140737488351232) (w : World) :
    Calls Try.prog 16 #[.int .i64 m, .string x, .int .i64 i] w fun e w' => e = rdeR m x i ∧ Below w.heap.size w w' := by
  have C := countEntries_any m x hx w
  by_cases hm : 1 ≤ m ∧ m ≤ 16
  · by_cases hq : x.size % (m.toNat + 4) = 0
    · rw [if_pos ⟨hm, hq⟩, if_pos hm, if_pos hq] at C
      by_cases hi : 0 ≤ i ∧ i.toNat < x.size / (m.toNat + 4)
      · have HF := hide (rde_good hm hq hi)
        have A := entryAt_any m.toNat i.toNat x (by omega) (by omega) hx hi.2 w
        rw [Int.toNat_of_nonneg (by omega), Int.toNat_of_nonneg hi.1] at A
        have HC := hide C
        have HA := hide A
        clear C A hq
        have h3 : x.size / (m.toNat + 4) ≤ x.size := Nat.div_le_self _ _
        generalize x.size / (m.toNat + 4) = Z at *
        generalize rdeH m.toNat x i.toNat = HH at *
        generalize rdeO m.toNat x i.toNat = OO at *
        have hi2 : i < (Z : Int) := by omega
        go_enter Try.func16, Try.ntmps16
        go_wp2_with fail
        refine Calls.mono HC.out ?_
        rintro e w' ⟨rfl, rfl⟩
        go_wp2_with fail
        refine Calls.mono HA.out ?_
        rintro e w1 ⟨rfl, hb1⟩
        have hb2 := hide ((hb1.alloc hb1.size (.cells #[.string HH, .int .i64 (OO : Int)] 75)).drew)
        go_wp2_with fail
        have g0 : (w1.alloc (.cells #[.string HH, .int .i64 (OO : Int)] 75)).cell? ⟨w1.heap.size, 0, none⟩ = some (.string HH) := by simp
        have g1 : (w1.alloc (.cells #[.string HH, .int .i64 (OO : Int)] 75)).cell? ⟨w1.heap.size, 1, none⟩ = some (.int .i64 (OO : Int)) := by simp
        generalize (w1.alloc (.cells #[.string HH, .int .i64 (OO : Int)] 75)) = w2 at *
        go_region_held3 (fun w' => w'.cell? ⟨w1.heap.size, 0, none⟩ = some (.string HH) ∧ w'.cell? ⟨w1.heap.size, 1, none⟩ = some (.int .i64 (OO : Int))) (go_keep) (fail)
        go_wp2
        go_ret3
        exact ⟨HF.out, hb2.out⟩
      · have HF := hide (rde_arg hm hq hi)
        have HC := hide C
        clear C hq
        have h3 : x.size / (m.toNat + 4) ≤ x.size := Nat.div_le_self _ _
        generalize x.size / (m.toNat + 4) = Z at *
        by_cases hi2 : i < 0
        · go_enter Try.func16, Try.ntmps16
          go_wp2_with fail
          refine Calls.mono HC.out ?_
          rintro e w' ⟨rfl, rfl⟩
          go_wp2_with fail
          all_goals (go_ret3; exact ⟨HF.out, Below.refl _ _⟩)
        · have hi3 : (Z : Int) ≤ i := by omega
          clear hi
          go_enter Try.func16, Try.ntmps16
          go_wp2_with fail
          refine Calls.mono HC.out ?_
          rintro e w' ⟨rfl, rfl⟩
          go_wp2_with fail
          all_goals (go_ret3; exact ⟨HF.out, Below.refl _ _⟩)
    · rw [if_neg (fun k => hq k.2), if_pos hm, if_neg hq] at C
      have HF := hide (rde_index (i := i) hm hq)
      have HC := hide C
      clear C hq
      go_enter Try.func16, Try.ntmps16
      go_wp2_with fail
      refine Calls.mono HC.out ?_
      rintro e w' ⟨rfl, rfl⟩
      go_wp2_with fail
      all_goals (go_ret3; exact ⟨HF.out, Below.refl _ _⟩)
  · rw [if_neg (fun k => hm k.1), if_neg hm] at C
    have HF := hide (rde_width (x := x) (i := i) hm)
    have HC := hide C
    clear C
    go_enter Try.func16, Try.ntmps16
    go_wp2_with fail
    refine Calls.mono HC.out ?_
    rintro e w' ⟨rfl, rfl⟩
    go_wp2_with fail
    all_goals (go_ret3; exact ⟨HF.out, Below.refl _ _⟩)
set_option maxHeartbeats 2000000 in
set_option maxRecDepth 100000 in
set_option linter.unusedSimpArgs false in
theorem rreadEntry_any (m : Int) (x : ByteArray) (i : Int) (hx : x.size ≤ 140737488351232) (w : World) :
    Calls Try.prog 17 #[.int .i64 m, .string x, .int .i64 i] w fun e w' => e = rdeR m x i ∧ Below w.heap.size w w' := by
  by_cases hm : 1 ≤ m ∧ m ≤ 16
  · obtain ⟨n, rfl⟩ : ∃ n : Nat, m = (n : Int) := ⟨m.toNat, by omega⟩
    have h2 : (x.size : Int) / ((n : Int) + 4) = ((x.size / (n + 4) : Nat) : Int) := by push_cast; rfl
    have h3 : x.size / (n + 4) ≤ x.size := Nat.div_le_self _ _
    by_cases hq : x.size % (n + 4) = 0
    · have h1 := mod_eq hq
      rw [show ((n + 4 : Nat) : Int) = (n : Int) + 4 by omega] at h1
      by_cases hi : 0 ≤ i ∧ i.toNat < x.size / (n + 4)
      · have HF := rde_good (x := x) (i := i) hm (by rwa [Int.toNat_natCast]) (by rwa [Int.toNat_natCast])
        rw [Int.toNat_natCast] at HF
        have hin := in_index hi.2
        obtain ⟨j, rfl⟩ : ∃ j : Nat, i = (j : Int) := ⟨i.toNat, by omega⟩
        rw [Int.toNat_natCast] at hin HF
        obtain ⟨p, hp⟩ : ∃ p, p = j * (n + 4) := ⟨_, rfl⟩
        have e1 : (j : Int) * ((n : Int) + 4) = (p : Int) := by rw [hp]; push_cast; rfl
        rw [← hp] at hin
        have hS : rdeH n x j = x.extract p (p + n) := by rw [hp]; rfl
        have hV : rdeO n x j = val ((x.data.toList.drop (p + n)).take 4) := by rw [hp]; rfl
        rw [hS, hV] at HF
        have C : ∀ w', Calls Try.prog 34 #[.string x, .int .i64 ((p : Int) + (n : Int)), .int .i64 4] w' fun e w'' => e = .returned (.int .i64 (val ((x.data.toList.drop (p + n)).take 4) : Int)) ∧ w' = w'' := fun w' => by
          have := sum_any x (p + n) 4 (by omega) (by omega) (by omega) w'
          rwa [show ((p + n : Nat) : Int) = (p : Int) + (n : Int) by omega] at this
        have HC := hide C
        have HFF := hide HF
        clear HF C hS hV hp hq
        generalize val ((x.data.toList.drop (p + n)).take 4) = V at *
        have hj2 : (j : Int) < ((x.size / (n + 4) : Nat) : Int) := by omega
        generalize x.size / (n + 4) = Z at *
        go_enter Try.func17, Try.ntmps17
        go_wp2_with fail
        refine wp_region_held_drew (S := fun _ => True) (by kernel_rfl) trivial (fun hHeld => ?_)
        refine wpAnyH_take (i := 0) (v := (.string x)) rfl (by kernel_rfl) (by kernel_rfl) (by kernel_rfl) (fun _ _ _ h => h) (Or.inl ⟨by rfl, ?_⟩) (by assumption) ?_
        · intro w' hSw
          (try dsimp only at hSw)
          go_simp <;> first | exact i64_in (by omega) (by omega) | exact u32_in (by omega) (by omega) | exact u32_add _ _ | (rw [Int.tmod_eq_emod_of_nonneg (by omega)]; omega) | (rw [Int.tdiv_eq_ediv_of_nonneg (by omega)]; omega) | omega
        (try simp only [Act.put, List.setIfInBounds_toArray, List.set_cons_zero, List.set_cons_succ])
        refine wpAnyH_take (i := 1) (v := (.int .i64 (j : Int))) rfl (by kernel_rfl) (by kernel_rfl) (by kernel_rfl) (fun _ _ _ h => h) (Or.inl ⟨by rfl, ?_⟩) (by assumption) ?_
        · intro w' hSw
          (try dsimp only at hSw)
          go_simp <;> first | exact i64_in (by omega) (by omega) | exact u32_in (by omega) (by omega) | exact u32_add _ _ | (rw [Int.tmod_eq_emod_of_nonneg (by omega)]; omega) | (rw [Int.tdiv_eq_ediv_of_nonneg (by omega)]; omega) | omega
        (try simp only [Act.put, List.setIfInBounds_toArray, List.set_cons_zero, List.set_cons_succ])
        refine wpAnyH_take (i := 2) (v := (.int .i64 ((n : Int) + 4))) rfl (by kernel_rfl) (by kernel_rfl) (by kernel_rfl) (fun _ _ _ h => h) (Or.inl ⟨by rfl, ?_⟩) (by assumption) ?_
        · intro w' hSw
          (try dsimp only at hSw)
          go_simp <;> first | exact i64_in (by omega) (by omega) | exact u32_in (by omega) (by omega) | exact u32_add _ _ | (rw [Int.tmod_eq_emod_of_nonneg (by omega)]; omega) | (rw [Int.tdiv_eq_ediv_of_nonneg (by omega)]; omega) | omega
        (try simp only [Act.put, List.setIfInBounds_toArray, List.set_cons_zero, List.set_cons_succ])
        refine wpAnyH_take (i := 3) (v := (.int .i64 (p : Int))) rfl (by kernel_rfl) (by kernel_rfl) (by kernel_rfl) (fun _ _ _ h => h) (Or.inl ⟨by rfl, ?_⟩) (by assumption) ?_
        · intro w' hSw
          (try dsimp only at hSw)
          go_simp <;> first | exact i64_in (by omega) (by omega) | exact u32_in (by omega) (by omega) | exact u32_add _ _ | (rw [Int.tmod_eq_emod_of_nonneg (by omega)]; omega) | (rw [Int.tdiv_eq_ediv_of_nonneg (by omega)]; omega) | omega
        (try simp only [Act.put, List.setIfInBounds_toArray, List.set_cons_zero, List.set_cons_succ])
        refine wpAnyH_take (i := 4) (v := (.int .i64 (j : Int))) rfl (by kernel_rfl) (by kernel_rfl) (by kernel_rfl) (fun _ _ _ h => h) (Or.inl ⟨by rfl, ?_⟩) (by assumption) ?_
        · intro w' hSw
          (try dsimp only at hSw)
          go_simp <;> first | exact i64_in (by omega) (by omega) | exact u32_in (by omega) (by omega) | exact u32_add _ _ | (rw [Int.tmod_eq_emod_of_nonneg (by omega)]; omega) | (rw [Int.tdiv_eq_ediv_of_nonneg (by omega)]; omega) | omega
        (try simp only [Act.put, List.setIfInBounds_toArray, List.set_cons_zero, List.set_cons_succ])
        refine wpAnyH_take (i := 5) (v := (.int .i64 ((n : Int) + 4))) rfl (by kernel_rfl) (by kernel_rfl) (by kernel_rfl) (fun _ _ _ h => h) (Or.inl ⟨by rfl, ?_⟩) (by assumption) ?_
        · intro w' hSw
          (try dsimp only at hSw)
          go_simp <;> first | exact i64_in (by omega) (by omega) | exact u32_in (by omega) (by omega) | exact u32_add _ _ | (rw [Int.tmod_eq_emod_of_nonneg (by omega)]; omega) | (rw [Int.tdiv_eq_ediv_of_nonneg (by omega)]; omega) | omega
        (try simp only [Act.put, List.setIfInBounds_toArray, List.set_cons_zero, List.set_cons_succ])
        refine wpAnyH_take (i := 6) (v := (.int .i64 (p : Int))) rfl (by kernel_rfl) (by kernel_rfl) (by kernel_rfl) (fun _ _ _ h => h) (Or.inl ⟨by rfl, ?_⟩) (by assumption) ?_
        · intro w' hSw
          (try dsimp only at hSw)
          go_simp <;> first | exact i64_in (by omega) (by omega) | exact u32_in (by omega) (by omega) | exact u32_add _ _ | (rw [Int.tmod_eq_emod_of_nonneg (by omega)]; omega) | (rw [Int.tdiv_eq_ediv_of_nonneg (by omega)]; omega) | omega
        (try simp only [Act.put, List.setIfInBounds_toArray, List.set_cons_zero, List.set_cons_succ])
        refine wpAnyH_take (i := 7) (v := (.int .i64 (n : Int))) rfl (by kernel_rfl) (by kernel_rfl) (by kernel_rfl) (fun _ _ _ h => h) (Or.inl ⟨by rfl, ?_⟩) (by assumption) ?_
        · intro w' hSw
          (try dsimp only at hSw)
          go_simp <;> first | exact i64_in (by omega) (by omega) | exact u32_in (by omega) (by omega) | exact u32_add _ _ | (rw [Int.tmod_eq_emod_of_nonneg (by omega)]; omega) | (rw [Int.tdiv_eq_ediv_of_nonneg (by omega)]; omega) | omega
        (try simp only [Act.put, List.setIfInBounds_toArray, List.set_cons_zero, List.set_cons_succ])
        refine wpAnyH_take (i := 8) (v := (.int .i64 ((p : Int) + (n : Int)))) rfl (by kernel_rfl) (by kernel_rfl) (by kernel_rfl) (fun _ _ _ h => h) (Or.inl ⟨by rfl, ?_⟩) (by assumption) ?_
        · intro w' hSw
          (try dsimp only at hSw)
          go_simp <;> first | exact i64_in (by omega) (by omega) | exact u32_in (by omega) (by omega) | exact u32_add _ _ | (rw [Int.tmod_eq_emod_of_nonneg (by omega)]; omega) | (rw [Int.tdiv_eq_ediv_of_nonneg (by omega)]; omega) | omega
        (try simp only [Act.put, List.setIfInBounds_toArray, List.set_cons_zero, List.set_cons_succ])
        refine wpAnyH_take (i := 9) (v := (.string (x.extract p (p + n)))) rfl (by kernel_rfl) (by kernel_rfl) (by kernel_rfl) (fun _ _ _ h => h) (Or.inl ⟨by rfl, ?_⟩) (by assumption) ?_
        · intro w' hSw
          (try dsimp only at hSw)
          (go_simp; rw [if_pos ⟨by omega, by omega⟩, if_pos (by omega), show ((p : Int) + (n : Int)).toNat = p + n by omega])
        (try simp only [Act.put, List.setIfInBounds_toArray, List.set_cons_zero, List.set_cons_succ])
        refine wpAnyH_take (i := 10) (v := (.string x)) rfl (by kernel_rfl) (by kernel_rfl) (by kernel_rfl) (fun _ _ _ h => h) (Or.inl ⟨by rfl, ?_⟩) (by assumption) ?_
        · intro w' hSw
          (try dsimp only at hSw)
          go_simp <;> first | exact i64_in (by omega) (by omega) | exact u32_in (by omega) (by omega) | exact u32_add _ _ | (rw [Int.tmod_eq_emod_of_nonneg (by omega)]; omega) | (rw [Int.tdiv_eq_ediv_of_nonneg (by omega)]; omega) | omega
        (try simp only [Act.put, List.setIfInBounds_toArray, List.set_cons_zero, List.set_cons_succ])
        refine wpAnyH_take (i := 11) (v := (.int .i64 (j : Int))) rfl (by kernel_rfl) (by kernel_rfl) (by kernel_rfl) (fun _ _ _ h => h) (Or.inl ⟨by rfl, ?_⟩) (by assumption) ?_
        · intro w' hSw
          (try dsimp only at hSw)
          go_simp <;> first | exact i64_in (by omega) (by omega) | exact u32_in (by omega) (by omega) | exact u32_add _ _ | (rw [Int.tmod_eq_emod_of_nonneg (by omega)]; omega) | (rw [Int.tdiv_eq_ediv_of_nonneg (by omega)]; omega) | omega
        (try simp only [Act.put, List.setIfInBounds_toArray, List.set_cons_zero, List.set_cons_succ])
        refine wpAnyH_take (i := 12) (v := (.int .i64 ((n : Int) + 4))) rfl (by kernel_rfl) (by kernel_rfl) (by kernel_rfl) (fun _ _ _ h => h) (Or.inl ⟨by rfl, ?_⟩) (by assumption) ?_
        · intro w' hSw
          (try dsimp only at hSw)
          go_simp <;> first | exact i64_in (by omega) (by omega) | exact u32_in (by omega) (by omega) | exact u32_add _ _ | (rw [Int.tmod_eq_emod_of_nonneg (by omega)]; omega) | (rw [Int.tdiv_eq_ediv_of_nonneg (by omega)]; omega) | omega
        (try simp only [Act.put, List.setIfInBounds_toArray, List.set_cons_zero, List.set_cons_succ])
        refine wpAnyH_take (i := 13) (v := (.int .i64 (p : Int))) rfl (by kernel_rfl) (by kernel_rfl) (by kernel_rfl) (fun _ _ _ h => h) (Or.inl ⟨by rfl, ?_⟩) (by assumption) ?_
        · intro w' hSw
          (try dsimp only at hSw)
          go_simp <;> first | exact i64_in (by omega) (by omega) | exact u32_in (by omega) (by omega) | exact u32_add _ _ | (rw [Int.tmod_eq_emod_of_nonneg (by omega)]; omega) | (rw [Int.tdiv_eq_ediv_of_nonneg (by omega)]; omega) | omega
        (try simp only [Act.put, List.setIfInBounds_toArray, List.set_cons_zero, List.set_cons_succ])
        refine wpAnyH_take (i := 14) (v := (.int .i64 (n : Int))) rfl (by kernel_rfl) (by kernel_rfl) (by kernel_rfl) (fun _ _ _ h => h) (Or.inl ⟨by rfl, ?_⟩) (by assumption) ?_
        · intro w' hSw
          (try dsimp only at hSw)
          go_simp <;> first | exact i64_in (by omega) (by omega) | exact u32_in (by omega) (by omega) | exact u32_add _ _ | (rw [Int.tmod_eq_emod_of_nonneg (by omega)]; omega) | (rw [Int.tdiv_eq_ediv_of_nonneg (by omega)]; omega) | omega
        (try simp only [Act.put, List.setIfInBounds_toArray, List.set_cons_zero, List.set_cons_succ])
        refine wpAnyH_take (i := 15) (v := (.int .i64 ((p : Int) + (n : Int)))) rfl (by kernel_rfl) (by kernel_rfl) (by kernel_rfl) (fun _ _ _ h => h) (Or.inl ⟨by rfl, ?_⟩) (by assumption) ?_
        · intro w' hSw
          (try dsimp only at hSw)
          go_simp <;> first | exact i64_in (by omega) (by omega) | exact u32_in (by omega) (by omega) | exact u32_add _ _ | (rw [Int.tmod_eq_emod_of_nonneg (by omega)]; omega) | (rw [Int.tdiv_eq_ediv_of_nonneg (by omega)]; omega) | omega
        (try simp only [Act.put, List.setIfInBounds_toArray, List.set_cons_zero, List.set_cons_succ])
        refine wpAnyH_ready (rs := [16]) (by kernel_rfl) (by simp) ?_
        refine AllReadyH.cons rfl (fun K hK => ?_) AllReadyH.nil
        go_simp
        refine Calls.mono (HC.out _) ?_
        rintro e w1 ⟨rfl, rfl⟩
        refine hK.out _ _ trivial (fun hHeld => ?_)
        clear hK K
        (try simp only [Act.put, List.setIfInBounds_toArray, List.set_cons_zero, List.set_cons_succ])
        refine wpAnyH_ready (rs := [17]) (by kernel_rfl) (by simp) ?_
        refine AllReadyH.cons rfl (fun K hK => ?_) AllReadyH.nil
        go_simp
        refine hK.out _ _ trivial (fun hHeld => ?_)
        clear hK K
        (try simp only [Act.put, List.setIfInBounds_toArray, List.set_cons_zero, List.set_cons_succ])
        refine wpAnyH_ready (rs := [18]) (by kernel_rfl) (by simp) ?_
        refine AllReadyH.cons rfl (fun K hK => ?_) AllReadyH.nil
        go_simp
        refine hK.out _ _ trivial (fun hHeld => ?_)
        clear hK K
        (try simp only [Act.put, List.setIfInBounds_toArray, List.set_cons_zero, List.set_cons_succ])
        refine wpAnyH_ready (rs := [19]) (by kernel_rfl) (by simp) ?_
        refine AllReadyH.cons rfl (fun K hK => ?_) AllReadyH.nil
        go_simp
        refine hK.out _ _ trivial (fun hHeld => ?_)
        clear hK K
        (try simp only [Act.put, List.setIfInBounds_toArray, List.set_cons_zero, List.set_cons_succ])
        refine wpAnyH_done (by kernel_rfl) ?_ _
        go_wp2
        go_ret3
        exact ⟨HFF.out, (Below.refl _ _).drew⟩
      · have HF := hide (rde_arg (x := x) (i := i) hm (by rwa [Int.toNat_natCast]) (by rwa [Int.toNat_natCast]))
        clear hq
        generalize x.size / (n + 4) = Z at *
        by_cases hi2 : i < 0
        · go_enter Try.func17, Try.ntmps17
          go_wp2_with fail
          all_goals (go_ret3; exact ⟨HF.out, Below.refl _ _⟩)
        · have hi3 : (Z : Int) ≤ i := by omega
          clear hi
          go_enter Try.func17, Try.ntmps17
          go_wp2_with fail
          all_goals (go_ret3; exact ⟨HF.out, Below.refl _ _⟩)
    · have HF := hide (rde_index (x := x) (i := i) hm (by rwa [Int.toNat_natCast]))
      have h1 := mod_ne hq
      rw [show ((n + 4 : Nat) : Int) = (n : Int) + 4 by omega] at h1
      clear hq h2 h3
      go_enter Try.func17, Try.ntmps17
      go_wp2_with fail
      all_goals (go_ret3; exact ⟨HF.out, Below.refl _ _⟩)
  · have HF := hide (rde_width (x := x) (i := i) hm)
    go_enter Try.func17, Try.ntmps17
    go_wp2_with fail
    all_goals (go_ret3; exact ⟨HF.out, Below.refl _ _⟩)
set_option maxHeartbeats 2000000 in
set_option maxRecDepth 100000 in
/-- the law RecordEntries -/
theorem entries_full (m : Int) (h : ByteArray) (o : Int) (x : ByteArray) (i : Int) (_ : -9223372036854775808 ≤ m ∧ m ≤ 9223372036854775807) (hh : h.size ≤ 140737488351232) (ho : -9223372036854775808 ≤ o ∧ o ≤ 9223372036854775807) (hx : x.size ≤ 140737488351232) (_ : -9223372036854775808 ≤ i ∧ i ≤ 9223372036854775807) (w : World) :
    Calls Try.prog 4 #[.int .i64 m, .string h, .int .i64 o, .string x, .int .i64 i] w fun e w' => e = .returned (.bool true) ∧ Below w.heap.size w w' := by
  have c1 := hide (fun w' => entry_any m h o hh ho.1 ho.2 w')
  have c2 := hide (fun w' => rentry_any m h o hh ho.1 ho.2 w')
  have c3 := hide (fun w' => readEntry_any m x i hx w')
  have c4 := hide (fun w' => rreadEntry_any m x i hx w')
  unfold entR at c1 c2
  unfold rdeR at c3 c4
  generalize entS m h o = N at *
  generalize entE m h o = E at *
  generalize rdeS m x i = S at *
  generalize rdeV m x i = V at *
  generalize rdeE m x i = G at *
  clear hh ho hx
  go_enter Try.func4, Try.ntmps4
  go_wp2_with fail
  refine Calls.mono (c1.out _) ?_
  rintro e w1 ⟨rfl, hb1⟩
  go_wp2_with fail
  refine Calls.mono (c2.out _) ?_
  rintro e w2 ⟨rfl, hb2⟩
  go_wp2_with fail
  refine Calls.mono (num_any _ _) ?_
  rintro e wx ⟨rfl, rfl⟩
  go_wp2_with fail
  refine Calls.mono (c3.out _) ?_
  rintro e w3 ⟨rfl, hb3⟩
  go_wp2_with fail
  refine Calls.mono (c4.out _) ?_
  rintro e w4 ⟨rfl, hb4⟩
  go_wp2_with fail
  refine Calls.mono (num_any _ _) ?_
  rintro e wx ⟨rfl, rfl⟩
  go_wp2
  go_ret
  have h2 := hb1.trans (hb2.mono hb1.size)
  have h3 := h2.trans (hb3.mono h2.size)
  exact ⟨rfl, h3.trans (hb4.mono h3.size)⟩
end Go.Proofs.Ytjibhdcnibgegaa
