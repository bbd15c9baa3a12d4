import Derived.Test.YtioiphonajinmaaGreatDoorGGhSort
import Derived.Test.YtioiphonajinmaaGreatDoorGGhHold
import Derived.Test.YtioiphonajinmaaGreatDoorGDgPlain
import Derived.Deep.RegionHeld3
import Derived.ProofKit
namespace Go.Proofs.YtioiphonajinmaaGreatDoor
open Go.RowKit Go.Shelf
theorem ba_eq {a b : ByteArray} (h : a.data.toList = b.data.toList) : a = b := by rw [← strOf_toList a, h, strOf_toList]
theorem ba_app (a b : ByteArray) : (a ++ b).data.toList = a.data.toList ++ b.data.toList := by simp
set_option maxHeartbeats 1000000 in
set_option maxRecDepth 100000 in
/-- mayBe -/
theorem mayBe_any (p r c : Int) (d : Bool) (w : World) :
    Calls Tryz.prog 30 #[.agg #[.int .i64 p, .int .i64 r, .int .i64 c, .bool d]] w fun e w' => e = .returned (.bool (isVal p r c)) ∧ Below w.heap.size w w' := by
  by_cases h1 : 0 ≤ p
  case pos =>
    by_cases h2 : p < 64
    case pos =>
      by_cases h3 : 0 ≤ r
      case pos =>
        by_cases h4 : r < 16
        case pos =>
          by_cases h5 : 0 ≤ c
          case pos =>
            by_cases h6 : c < 16
            case pos =>
              have E := hide (show isVal p r c = true from decide_eq_true ⟨h1, h2, h3, h4, h5, h6⟩)
              go_enter Tryz.func30, Tryz.ntmps30
              go_wp2
              go_ret
              exact ⟨ret_bool E.out.symm, (Below.refl _ _).alloc (Nat.le_refl _) _⟩
            case neg =>
              have E := hide (show isVal p r c = false from decide_eq_false (by omega))
              go_enter Tryz.func30, Tryz.ntmps30
              go_wp2
              go_ret
              exact ⟨ret_bool E.out.symm, (Below.refl _ _).alloc (Nat.le_refl _) _⟩
          case neg =>
            have E := hide (show isVal p r c = false from decide_eq_false (by omega))
            go_enter Tryz.func30, Tryz.ntmps30
            go_wp2
            go_ret
            exact ⟨ret_bool E.out.symm, (Below.refl _ _).alloc (Nat.le_refl _) _⟩
        case neg =>
          have E := hide (show isVal p r c = false from decide_eq_false (by omega))
          go_enter Tryz.func30, Tryz.ntmps30
          go_wp2
          go_ret
          exact ⟨ret_bool E.out.symm, (Below.refl _ _).alloc (Nat.le_refl _) _⟩
      case neg =>
        have E := hide (show isVal p r c = false from decide_eq_false (by omega))
        go_enter Tryz.func30, Tryz.ntmps30
        go_wp2
        go_ret
        exact ⟨ret_bool E.out.symm, (Below.refl _ _).alloc (Nat.le_refl _) _⟩
    case neg =>
      have E := hide (show isVal p r c = false from decide_eq_false (by omega))
      go_enter Tryz.func30, Tryz.ntmps30
      go_wp2
      go_ret
      exact ⟨ret_bool E.out.symm, (Below.refl _ _).alloc (Nat.le_refl _) _⟩
  case neg =>
    have E := hide (show isVal p r c = false from decide_eq_false (by omega))
    go_enter Tryz.func30, Tryz.ntmps30
    go_wp2
    go_ret
    exact ⟨ret_bool E.out.symm, (Below.refl _ _).alloc (Nat.le_refl _) _⟩
set_option maxHeartbeats 4000000 in
set_option maxRecDepth 100000 in
set_option linter.unusedSimpArgs false in
/-- titleOf -/
theorem titleOf_any (p r c : Nat) (d : Bool) (hp : p < 100) (hr : r < 100) (hc : c < 100) (w : World) :
    Calls Tryz.prog 23 #[.agg #[.int .i64 (p : Int), .int .i64 (r : Int), .int .i64 (c : Int), .bool d]] w fun e w' => e = .returned (.agg #[.string (strOf (dd p)), .string (strOf (dd r)), .string (strOf (dd c)), .string (strOf (endW d))]) ∧ Below w.heap.size w w' := by
  cases d with
  | true =>
    obtain ⟨W0, hW0⟩ : ∃ W0, W0 = (w.alloc (.cells #[.int .i64 (p : Int), .int .i64 (r : Int), .int .i64 (c : Int), .bool true] 45)).alloc (.cells #[.string ⟨#[]⟩, .string ⟨#[]⟩, .string ⟨#[]⟩, .string ⟨#[]⟩] 62) := ⟨_, rfl⟩
    have b0 : Below w.heap.size w W0 := by rw [hW0]; exact ((Below.refl _ w).alloc (Nat.le_refl _) _).alloc (by simp) _
    have s0 : W0.heap.size = w.heap.size + 2 := by rw [hW0]; simp
    have Q0 : Hid (∀ w', Below W0.heap.size W0 w' → w'.cell? ⟨w.heap.size, 0, none⟩ = some (.int .i64 (p : Int)) ∧ w'.cell? ⟨w.heap.size, 1, none⟩ = some (.int .i64 (r : Int)) ∧ w'.cell? ⟨w.heap.size, 2, none⟩ = some (.int .i64 (c : Int))) := fun w' hb => by
      rw [hb.cell (by show w.heap.size < _; omega), hb.cell (by show w.heap.size < _; omega), hb.cell (by show w.heap.size < _; omega), hW0]
      exact ⟨by simp, by simp, by simp⟩
    have I1 := hide (fun w' => Tryz.strconv_Itoa_small p hp w')
    have I2 := hide (fun w' => Tryz.strconv_Itoa_small r hr w')
    have I3 := hide (fun w' => Tryz.strconv_Itoa_small c hc w')
    have e0 : strOf (endW true) = ⟨#[100, 97, 116, 97]⟩ := rfl
    rw [e0]
    unfold strOf dd
    generalize Lib.decDigits p = X1 at *
    generalize Lib.decDigits r = X2 at *
    generalize Lib.decDigits c = X3 at *
    go_enter Tryz.func23, Tryz.ntmps23
    go_wp2
    rw [← hW0]
    have BW := hide (Below.refl W0.heap.size W0).drew
    refine wp_region_held_drew (S := fun w' => w'.cell? ⟨w.heap.size, 0, none⟩ = some (.int .i64 (p : Int)) ∧ w'.cell? ⟨w.heap.size, 1, none⟩ = some (.int .i64 (r : Int)) ∧ w'.cell? ⟨w.heap.size, 2, none⟩ = some (.int .i64 (c : Int))) (by kernel_rfl) (Q0.out _ BW.out) (fun hHeld => ?_)
    refine wpAnyH_take (i := 0) (v := (.pointer (some ⟨w.heap.size, 0, none⟩))) rfl (by kernel_rfl) (by kernel_rfl) (by kernel_rfl) (fun _ _ _ h => h) (Or.inl ⟨by rfl, ?_⟩) (by assumption) ?_
    · intro w' hSw
      (try dsimp only at hSw)
      go_simp <;> first | exact i64_in (by omega) (by omega) | exact u32_in (by omega) (by omega) | exact u32_add _ _ | (rw [Int.tmod_eq_emod_of_nonneg (by omega)]; omega) | (rw [Int.tdiv_eq_ediv_of_nonneg (by omega)]; omega) | omega
    (try simp only [Act.put, List.setIfInBounds_toArray, List.set_cons_zero, List.set_cons_succ])
    refine wpAnyH_take (i := 1) (v := (.int .i64 (p : Int))) rfl (by kernel_rfl) (by kernel_rfl) (by kernel_rfl) (fun _ _ _ h => h) (Or.inl ⟨by rfl, ?_⟩) (by assumption) ?_
    · intro w' hSw
      (try dsimp only at hSw)
      (obtain ⟨hS1, hS2, hS3⟩ := hSw; go_simp)
    (try simp only [Act.put, List.setIfInBounds_toArray, List.set_cons_zero, List.set_cons_succ])
    refine wpAnyH_take (i := 3) (v := (.pointer (some ⟨w.heap.size, 1, none⟩))) rfl (by kernel_rfl) (by kernel_rfl) (by kernel_rfl) (fun _ _ _ h => h) (Or.inl ⟨by rfl, ?_⟩) (by assumption) ?_
    · intro w' hSw
      (try dsimp only at hSw)
      go_simp <;> first | exact i64_in (by omega) (by omega) | exact u32_in (by omega) (by omega) | exact u32_add _ _ | (rw [Int.tmod_eq_emod_of_nonneg (by omega)]; omega) | (rw [Int.tdiv_eq_ediv_of_nonneg (by omega)]; omega) | omega
    (try simp only [Act.put, List.setIfInBounds_toArray, List.set_cons_zero, List.set_cons_succ])
    refine wpAnyH_take (i := 4) (v := (.int .i64 (r : Int))) rfl (by kernel_rfl) (by kernel_rfl) (by kernel_rfl) (fun _ _ _ h => h) (Or.inl ⟨by rfl, ?_⟩) (by assumption) ?_
    · intro w' hSw
      (try dsimp only at hSw)
      (obtain ⟨hS1, hS2, hS3⟩ := hSw; go_simp)
    (try simp only [Act.put, List.setIfInBounds_toArray, List.set_cons_zero, List.set_cons_succ])
    refine wpAnyH_take (i := 6) (v := (.pointer (some ⟨w.heap.size, 2, none⟩))) rfl (by kernel_rfl) (by kernel_rfl) (by kernel_rfl) (fun _ _ _ h => h) (Or.inl ⟨by rfl, ?_⟩) (by assumption) ?_
    · intro w' hSw
      (try dsimp only at hSw)
      go_simp <;> first | exact i64_in (by omega) (by omega) | exact u32_in (by omega) (by omega) | exact u32_add _ _ | (rw [Int.tmod_eq_emod_of_nonneg (by omega)]; omega) | (rw [Int.tdiv_eq_ediv_of_nonneg (by omega)]; omega) | omega
    (try simp only [Act.put, List.setIfInBounds_toArray, List.set_cons_zero, List.set_cons_succ])
    refine wpAnyH_take (i := 7) (v := (.int .i64 (c : Int))) rfl (by kernel_rfl) (by kernel_rfl) (by kernel_rfl) (fun _ _ _ h => h) (Or.inl ⟨by rfl, ?_⟩) (by assumption) ?_
    · intro w' hSw
      (try dsimp only at hSw)
      (obtain ⟨hS1, hS2, hS3⟩ := hSw; go_simp)
    (try simp only [Act.put, List.setIfInBounds_toArray, List.set_cons_zero, List.set_cons_succ])
    refine wpAnyH_take (i := 9) (v := (.string ⟨#[100, 97, 116, 97]⟩)) rfl (by kernel_rfl) (by kernel_rfl) (by kernel_rfl) (fun _ _ _ h => h) (Or.inl ⟨by rfl, ?_⟩) (by assumption) ?_
    · intro w' hSw
      (try dsimp only at hSw)
      go_simp <;> first | exact i64_in (by omega) (by omega) | exact u32_in (by omega) (by omega) | exact u32_add _ _ | (rw [Int.tmod_eq_emod_of_nonneg (by omega)]; omega) | (rw [Int.tdiv_eq_ediv_of_nonneg (by omega)]; omega) | omega
    (try simp only [Act.put, List.setIfInBounds_toArray, List.set_cons_zero, List.set_cons_succ])
    refine wpAnyH_ready (rs := [2]) (by kernel_rfl) (by simp) ?_
    refine AllReadyH.cons rfl (fun K hK => ?_) AllReadyH.nil
    go_simp
    refine Calls.mono (I1.out _) ?_
    rintro x w2 ⟨rfl, rfl⟩
    refine hK.out _ _ ((by rw [← hW0]; exact Q0.out _ BW.out)) (fun hHeld => ?_)
    clear hK
    (try simp only [Act.put, List.setIfInBounds_toArray, List.set_cons_zero, List.set_cons_succ])
    refine wpAnyH_ready (rs := [5]) (by kernel_rfl) (by simp) ?_
    refine AllReadyH.cons rfl (fun K hK => ?_) AllReadyH.nil
    go_simp
    refine Calls.mono (I2.out _) ?_
    rintro x w3 ⟨rfl, rfl⟩
    refine hK.out _ _ ((by rw [← hW0]; exact Q0.out _ BW.out)) (fun hHeld => ?_)
    clear hK
    (try simp only [Act.put, List.setIfInBounds_toArray, List.set_cons_zero, List.set_cons_succ])
    refine wpAnyH_ready (rs := [8]) (by kernel_rfl) (by simp) ?_
    refine AllReadyH.cons rfl (fun K hK => ?_) AllReadyH.nil
    go_simp
    refine Calls.mono (I3.out _) ?_
    rintro x w4 ⟨rfl, rfl⟩
    refine hK.out _ _ ((by rw [← hW0]; exact Q0.out _ BW.out)) (fun hHeld => ?_)
    clear hK
    (try simp only [Act.put, List.setIfInBounds_toArray, List.set_cons_zero, List.set_cons_succ])
    refine wpAnyH_take (i := 10) (v := (.agg #[.string ⟨X1.toArray⟩, .string ⟨X2.toArray⟩, .string ⟨X3.toArray⟩, .string ⟨#[100, 97, 116, 97]⟩])) rfl (by kernel_rfl) (by kernel_rfl) (by kernel_rfl) (fun _ _ _ h => h) (Or.inl ⟨by rfl, ?_⟩) (by assumption) ?_
    · intro w' hSw
      (try dsimp only at hSw)
      go_simp <;> first | exact i64_in (by omega) (by omega) | exact u32_in (by omega) (by omega) | exact u32_add _ _ | (rw [Int.tmod_eq_emod_of_nonneg (by omega)]; omega) | (rw [Int.tdiv_eq_ediv_of_nonneg (by omega)]; omega) | omega
    (try simp only [Act.put, List.setIfInBounds_toArray, List.set_cons_zero, List.set_cons_succ])
    refine wpAnyH_ready (rs := [11]) (by kernel_rfl) (by simp) ?_
    refine AllReadyH.cons rfl (fun K hK => ?_) AllReadyH.nil
    go_simp
    refine hK.out _ _ (⟨by simp, by simp, by simp⟩) (fun hHeld => ?_)
    clear hK
    (try simp only [Act.put, List.setIfInBounds_toArray, List.set_cons_zero, List.set_cons_succ])
    refine wpAnyH_done (by kernel_rfl) ?_ _
    clear hHeld
    go_wp2
    refine bodyPost_ret (v := .agg #[.string ⟨X1.toArray⟩, .string ⟨X2.toArray⟩, .string ⟨X3.toArray⟩, .string ⟨#[100, 97, 116, 97]⟩]) (by simp [results, Tryz.results23, go_sem]) rfl ⟨rfl, ?_⟩
    exact (((Below.refl _ w).alloc (Nat.le_refl _) _).alloc (by simp) _).drew
  | false =>
    obtain ⟨W0, hW0⟩ : ∃ W0, W0 = (w.alloc (.cells #[.int .i64 (p : Int), .int .i64 (r : Int), .int .i64 (c : Int), .bool false] 45)).alloc (.cells #[.string ⟨#[]⟩, .string ⟨#[]⟩, .string ⟨#[]⟩, .string ⟨#[]⟩] 62) := ⟨_, rfl⟩
    have b0 : Below w.heap.size w W0 := by rw [hW0]; exact ((Below.refl _ w).alloc (Nat.le_refl _) _).alloc (by simp) _
    have s0 : W0.heap.size = w.heap.size + 2 := by rw [hW0]; simp
    have Q0 : Hid (∀ w', Below W0.heap.size W0 w' → w'.cell? ⟨w.heap.size, 0, none⟩ = some (.int .i64 (p : Int)) ∧ w'.cell? ⟨w.heap.size, 1, none⟩ = some (.int .i64 (r : Int)) ∧ w'.cell? ⟨w.heap.size, 2, none⟩ = some (.int .i64 (c : Int))) := fun w' hb => by
      rw [hb.cell (by show w.heap.size < _; omega), hb.cell (by show w.heap.size < _; omega), hb.cell (by show w.heap.size < _; omega), hW0]
      exact ⟨by simp, by simp, by simp⟩
    have I1 := hide (fun w' => Tryz.strconv_Itoa_small p hp w')
    have I2 := hide (fun w' => Tryz.strconv_Itoa_small r hr w')
    have I3 := hide (fun w' => Tryz.strconv_Itoa_small c hc w')
    have e0 : strOf (endW false) = ⟨#[105, 110, 100, 101, 120]⟩ := rfl
    rw [e0]
    unfold strOf dd
    generalize Lib.decDigits p = X1 at *
    generalize Lib.decDigits r = X2 at *
    generalize Lib.decDigits c = X3 at *
    go_enter Tryz.func23, Tryz.ntmps23
    go_wp2
    rw [← hW0]
    have BW := hide (Below.refl W0.heap.size W0).drew
    refine wp_region_held_drew (S := fun w' => w'.cell? ⟨w.heap.size, 0, none⟩ = some (.int .i64 (p : Int)) ∧ w'.cell? ⟨w.heap.size, 1, none⟩ = some (.int .i64 (r : Int)) ∧ w'.cell? ⟨w.heap.size, 2, none⟩ = some (.int .i64 (c : Int))) (by kernel_rfl) (Q0.out _ BW.out) (fun hHeld => ?_)
    refine wpAnyH_take (i := 0) (v := (.pointer (some ⟨w.heap.size, 0, none⟩))) rfl (by kernel_rfl) (by kernel_rfl) (by kernel_rfl) (fun _ _ _ h => h) (Or.inl ⟨by rfl, ?_⟩) (by assumption) ?_
    · intro w' hSw
      (try dsimp only at hSw)
      go_simp <;> first | exact i64_in (by omega) (by omega) | exact u32_in (by omega) (by omega) | exact u32_add _ _ | (rw [Int.tmod_eq_emod_of_nonneg (by omega)]; omega) | (rw [Int.tdiv_eq_ediv_of_nonneg (by omega)]; omega) | omega
    (try simp only [Act.put, List.setIfInBounds_toArray, List.set_cons_zero, List.set_cons_succ])
    refine wpAnyH_take (i := 1) (v := (.int .i64 (p : Int))) rfl (by kernel_rfl) (by kernel_rfl) (by kernel_rfl) (fun _ _ _ h => h) (Or.inl ⟨by rfl, ?_⟩) (by assumption) ?_
    · intro w' hSw
      (try dsimp only at hSw)
      (obtain ⟨hS1, hS2, hS3⟩ := hSw; go_simp)
    (try simp only [Act.put, List.setIfInBounds_toArray, List.set_cons_zero, List.set_cons_succ])
    refine wpAnyH_take (i := 3) (v := (.pointer (some ⟨w.heap.size, 1, none⟩))) rfl (by kernel_rfl) (by kernel_rfl) (by kernel_rfl) (fun _ _ _ h => h) (Or.inl ⟨by rfl, ?_⟩) (by assumption) ?_
    · intro w' hSw
      (try dsimp only at hSw)
      go_simp <;> first | exact i64_in (by omega) (by omega) | exact u32_in (by omega) (by omega) | exact u32_add _ _ | (rw [Int.tmod_eq_emod_of_nonneg (by omega)]; omega) | (rw [Int.tdiv_eq_ediv_of_nonneg (by omega)]; omega) | omega
    (try simp only [Act.put, List.setIfInBounds_toArray, List.set_cons_zero, List.set_cons_succ])
    refine wpAnyH_take (i := 4) (v := (.int .i64 (r : Int))) rfl (by kernel_rfl) (by kernel_rfl) (by kernel_rfl) (fun _ _ _ h => h) (Or.inl ⟨by rfl, ?_⟩) (by assumption) ?_
    · intro w' hSw
      (try dsimp only at hSw)
      (obtain ⟨hS1, hS2, hS3⟩ := hSw; go_simp)
    (try simp only [Act.put, List.setIfInBounds_toArray, List.set_cons_zero, List.set_cons_succ])
    refine wpAnyH_take (i := 6) (v := (.pointer (some ⟨w.heap.size, 2, none⟩))) rfl (by kernel_rfl) (by kernel_rfl) (by kernel_rfl) (fun _ _ _ h => h) (Or.inl ⟨by rfl, ?_⟩) (by assumption) ?_
    · intro w' hSw
      (try dsimp only at hSw)
      go_simp <;> first | exact i64_in (by omega) (by omega) | exact u32_in (by omega) (by omega) | exact u32_add _ _ | (rw [Int.tmod_eq_emod_of_nonneg (by omega)]; omega) | (rw [Int.tdiv_eq_ediv_of_nonneg (by omega)]; omega) | omega
    (try simp only [Act.put, List.setIfInBounds_toArray, List.set_cons_zero, List.set_cons_succ])
    refine wpAnyH_take (i := 7) (v := (.int .i64 (c : Int))) rfl (by kernel_rfl) (by kernel_rfl) (by kernel_rfl) (fun _ _ _ h => h) (Or.inl ⟨by rfl, ?_⟩) (by assumption) ?_
    · intro w' hSw
      (try dsimp only at hSw)
      (obtain ⟨hS1, hS2, hS3⟩ := hSw; go_simp)
    (try simp only [Act.put, List.setIfInBounds_toArray, List.set_cons_zero, List.set_cons_succ])
    refine wpAnyH_take (i := 9) (v := (.string ⟨#[105, 110, 100, 101, 120]⟩)) rfl (by kernel_rfl) (by kernel_rfl) (by kernel_rfl) (fun _ _ _ h => h) (Or.inl ⟨by rfl, ?_⟩) (by assumption) ?_
    · intro w' hSw
      (try dsimp only at hSw)
      go_simp <;> first | exact i64_in (by omega) (by omega) | exact u32_in (by omega) (by omega) | exact u32_add _ _ | (rw [Int.tmod_eq_emod_of_nonneg (by omega)]; omega) | (rw [Int.tdiv_eq_ediv_of_nonneg (by omega)]; omega) | omega
    (try simp only [Act.put, List.setIfInBounds_toArray, List.set_cons_zero, List.set_cons_succ])
    refine wpAnyH_ready (rs := [2]) (by kernel_rfl) (by simp) ?_
    refine AllReadyH.cons rfl (fun K hK => ?_) AllReadyH.nil
    go_simp
    refine Calls.mono (I1.out _) ?_
    rintro x w2 ⟨rfl, rfl⟩
    refine hK.out _ _ ((by rw [← hW0]; exact Q0.out _ BW.out)) (fun hHeld => ?_)
    clear hK
    (try simp only [Act.put, List.setIfInBounds_toArray, List.set_cons_zero, List.set_cons_succ])
    refine wpAnyH_ready (rs := [5]) (by kernel_rfl) (by simp) ?_
    refine AllReadyH.cons rfl (fun K hK => ?_) AllReadyH.nil
    go_simp
    refine Calls.mono (I2.out _) ?_
    rintro x w3 ⟨rfl, rfl⟩
    refine hK.out _ _ ((by rw [← hW0]; exact Q0.out _ BW.out)) (fun hHeld => ?_)
    clear hK
    (try simp only [Act.put, List.setIfInBounds_toArray, List.set_cons_zero, List.set_cons_succ])
    refine wpAnyH_ready (rs := [8]) (by kernel_rfl) (by simp) ?_
    refine AllReadyH.cons rfl (fun K hK => ?_) AllReadyH.nil
    go_simp
    refine Calls.mono (I3.out _) ?_
    rintro x w4 ⟨rfl, rfl⟩
    refine hK.out _ _ ((by rw [← hW0]; exact Q0.out _ BW.out)) (fun hHeld => ?_)
    clear hK
    (try simp only [Act.put, List.setIfInBounds_toArray, List.set_cons_zero, List.set_cons_succ])
    refine wpAnyH_take (i := 10) (v := (.agg #[.string ⟨X1.toArray⟩, .string ⟨X2.toArray⟩, .string ⟨X3.toArray⟩, .string ⟨#[105, 110, 100, 101, 120]⟩])) rfl (by kernel_rfl) (by kernel_rfl) (by kernel_rfl) (fun _ _ _ h => h) (Or.inl ⟨by rfl, ?_⟩) (by assumption) ?_
    · intro w' hSw
      (try dsimp only at hSw)
      go_simp <;> first | exact i64_in (by omega) (by omega) | exact u32_in (by omega) (by omega) | exact u32_add _ _ | (rw [Int.tmod_eq_emod_of_nonneg (by omega)]; omega) | (rw [Int.tdiv_eq_ediv_of_nonneg (by omega)]; omega) | omega
    (try simp only [Act.put, List.setIfInBounds_toArray, List.set_cons_zero, List.set_cons_succ])
    refine wpAnyH_ready (rs := [11]) (by kernel_rfl) (by simp) ?_
    refine AllReadyH.cons rfl (fun K hK => ?_) AllReadyH.nil
    go_simp
    refine hK.out _ _ (⟨by simp, by simp, by simp⟩) (fun hHeld => ?_)
    clear hK
    (try simp only [Act.put, List.setIfInBounds_toArray, List.set_cons_zero, List.set_cons_succ])
    refine wpAnyH_done (by kernel_rfl) ?_ _
    clear hHeld
    go_wp2
    refine bodyPost_ret (v := .agg #[.string ⟨X1.toArray⟩, .string ⟨X2.toArray⟩, .string ⟨X3.toArray⟩, .string ⟨#[105, 110, 100, 101, 120]⟩]) (by simp [results, Tryz.results23, go_sem]) rfl ⟨rfl, ?_⟩
    exact (((Below.refl _ w).alloc (Nat.le_refl _) _).alloc (by simp) _).drew
def us : ByteArray := ⟨#[95]⟩
def dot : ByteArray := ⟨#[46]⟩
set_option maxHeartbeats 1000000 in
set_option maxRecDepth 100000 in
/-- name -/
theorem name_any (a b c e : ByteArray) (h1 : a.size ≤ 1000) (h2 : b.size ≤ 1000) (h3 : c.size ≤ 1000) (h4 : e.size ≤ 1000) (w : World) :
    Calls Tryz.prog 24 #[.agg #[.string a, .string b, .string c, .string e]] w fun x w' => x = .returned (.string (a ++ us ++ b ++ us ++ c ++ dot ++ e)) ∧ Below w.heap.size w w' := by
  have y1 : us.size = 1 := rfl
  have y2 : dot.size = 1 := rfl
  have hus : (⟨#[95]⟩ : ByteArray) = us := rfl
  have hdot : (⟨#[46]⟩ : ByteArray) = dot := rfl
  go_enter Tryz.func24, Tryz.ntmps24
  go_wp2
  go_ret
  exact ⟨rfl, (Below.refl _ _).alloc (Nat.le_refl _) _⟩
set_option maxHeartbeats 1000000 in
set_option maxRecDepth 100000 in
/-- Atoi, of any text -/
theorem atoi_any (s : ByteArray) (hs : s.size ≤ 281474976710656) (e1 e2 : Value) (w : World) (h1 : w.cell? ⟨1, 0, none⟩ = some e1) (h2 : w.cell? ⟨2, 0, none⟩ = some e2) (k1 : ∃ te pe, e1 = .iface te pe) (k2 : ∃ te pe, e2 = .iface te pe) :
    Calls Tryz.prog 43 #[.string s] w fun e w' => ∃ v, e = .returned (.tuple #[.int .i64 (av s.data.toList), v]) ∧ (v = .nilIface ∨ ∃ te pe, v = .iface te pe) ∧ Below w.heap.size w w' := by
  unfold av
  cases h : Lib.atoiAll s.data.toList with
  | ok v =>
    refine (Tryz.strconv_Atoi_ok s (by omega) v h w).mono ?_
    rintro e w' ⟨rfl, hw⟩
    refine ⟨_, rfl, Or.inl rfl, ?_⟩
    rcases hw with rfl | ⟨t, rfl⟩
    · exact Below.refl _ _
    · exact Lib.bytesWorld_below _ _ _
  | «syntax» =>
    refine (Tryz.strconv_Atoi_syntax s hs h e1 w h1 (Or.inr k1)).mono ?_
    rintro e w' ⟨N, rfl, _, _, hb⟩
    exact ⟨_, rfl, Or.inr ⟨_, _, rfl⟩, hb⟩
  | range =>
    refine (Tryz.strconv_Atoi_range s hs h e2 w h2 (Or.inr k2)).mono ?_
    rintro e w' ⟨N, rfl, _, _, hb⟩
    exact ⟨_, rfl, Or.inr ⟨_, _, rfl⟩, hb⟩
end Go.Proofs.YtioiphonajinmaaGreatDoor
namespace Go.Proofs.YtioiphonajinmaaGreatDoor
open Go.RowKit Go.Shelf
theorem fnD_eq (p r c : Nat) : strOf (dd p) ++ us ++ strOf (dd r) ++ us ++ strOf (dd c) = strOf (dd p ++ 95 :: (dd r ++ 95 :: dd c)) := by
  apply ba_eq
  have e1 : us.data.toList = [95] := rfl
  simp only [ba_app, strOf_data, e1, List.append_assoc, List.cons_append, List.nil_append]
theorem fnE_eq (p r c : Nat) (d : Bool) : strOf (dd p) ++ us ++ strOf (dd r) ++ us ++ strOf (dd c) ++ strOf (46 :: endW d) = strOf (fnL (p, r, c, d)) := by
  apply ba_eq
  have e1 : us.data.toList = [95] := rfl
  unfold fnL
  simp only [ba_app, strOf_data, e1, List.append_assoc, List.cons_append, List.nil_append]
end Go.Proofs.YtioiphonajinmaaGreatDoor
