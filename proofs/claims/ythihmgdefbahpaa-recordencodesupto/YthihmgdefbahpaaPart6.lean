import Derived.Test.YthihmgdefbahpaaPart5
import Derived.Laws.ResultCell
namespace Go.Proofs.Ythihmgdefbahpaa
open Go.RowKit
set_option maxHeartbeats 1000000 in
set_option maxRecDepth 100000 in
set_option linter.unusedSimpArgs false in
/-- the document's rises -/
theorem rises_any (k : Nat) (x : ByteArray) (hk : 1 ≤ k ∧ k ≤ 16) (hx : x.size ≤ 1099511627776) (w : World) :
    Calls Try.prog 60 #[.int .i64 (k : Int), .string x] w fun e w' => e = .returned (.bool (allUp k x)) ∧ Below w.heap.size w w' := by
  have hq : (x.size : Int) / ((k : Int) + 4) = ((x.size / (k + 4) : Nat) : Int) := by push_cast; rfl
  have hdv : x.size / (k + 4) ≤ x.size := Nat.div_le_self _ _
  obtain ⟨N, hN⟩ : ∃ N, N = x.size / (k + 4) := ⟨_, rfl⟩
  rw [← hN] at hq hdv
  have HN := hide hN
  clear hN
  go_enter Try.func60, Try.ntmps60
  go_wp2_with fail
  go_loopw [6] (fun i wr => ∃ j : Nat, 1 ≤ j ∧ i = .int .i64 (j : Int) ∧ (∀ t, t < j → t < N → upB k x t = true) ∧ Below w.heap.size w wr)
    (fun i _ => N + 1 - (intOf i).toNat)
  case atStart => exact ⟨1, by omega, rfl, fun t ht _ => (by have h0 : t = 0 := (by omega); subst h0; rfl), Below.refl _ _⟩
  case round =>
    obtain ⟨j, hj, rfl, hup, hnx⟩ := hrel
    have HUP := hide hup
    have HNX := hide hnx
    clear hup hnx
    by_cases hlt : j < N
    · have hin := in_index (x := x) (m := k) (i := j) (by rw [← HN.out]; exact hlt)
      have hin2 := in_index (x := x) (m := k) (i := j - 1) (by rw [← HN.out]; omega)
      obtain ⟨p, hp⟩ : ∃ p, p = j * (k + 4) := ⟨_, rfl⟩
      obtain ⟨r, hr⟩ : ∃ r, r = (j - 1) * (k + 4) := ⟨_, rfl⟩
      have e1 : (j : Int) * ((k : Int) + 4) = (p : Int) := by rw [hp]; push_cast; rfl
      have e2 : ((j : Int) - 1) * ((k : Int) + 4) = (r : Int) := by rw [hr, show (j : Int) - 1 = ((j - 1 : Nat) : Int) by omega]; push_cast; rfl
      have hA : rdeH k x j = x.extract p (p + k) := by rw [hp]; rfl
      have hB : rdeH k x (j - 1) = x.extract r (r + k) := by rw [hr]; rfl
      rw [← hp] at hin
      rw [← hr] at hin2
      have hji : (j : Int) < (N : Int) := by omega
      have hup : upB k x j = !(Op.bytesLess (x.extract p (p + k)).toList (x.extract r (r + k)).toList || (x.extract p (p + k)).toList == (x.extract r (r + k)).toList) := by
        unfold upB
        rw [hA, hB, decide_eq_false (by omega : ¬ j = 0), eq_beq, lessS]
        rw [Bool.false_or, Bool.or_comm]
      obtain ⟨XA, hXA⟩ : ∃ X, x.extract p (p + k) = X := ⟨_, rfl⟩
      obtain ⟨XB, hXB⟩ : ∃ X, x.extract r (r + k) = X := ⟨_, rfl⟩
      rw [hXA, hXB] at hup
      have HU := hide hup
      have HXA := hide hXA
      have HXB := hide hXB
      clear hA hB hp hr hup hXA hXB
      have hw1 : IntKind.i64.wrap (p : Int) = (p : Int) := i64_in (by omega) (by omega)
      have hw2 : IntKind.i64.wrap (r : Int) = (r : Int) := i64_in (by omega) (by omega)
      have hw3 : IntKind.i64.wrap ((p : Int) + (k : Int)) = (p : Int) + (k : Int) := i64_in (by omega) (by omega)
      have hw4 : IntKind.i64.wrap ((r : Int) + (k : Int)) = (r : Int) + (k : Int) := i64_in (by omega) (by omega)
      have hw5 : IntKind.i64.wrap ((j : Int) - 1) = (j : Int) - 1 := i64_in (by omega) (by omega)
      cases hC : (Op.bytesLess XA.toList XB.toList || XA.toList == XB.toList) with
      | true =>
        have hF : allUp k x = false := allUp_no (by rw [← HN.out]; exact hlt) (by rw [HU.out, hC]; rfl)
        have HF := hide hF
        clear hF
        go_wp2_with fail
        refine wp_region_held_drew (S := fun _ => True) (by kernel_rfl) trivial (fun hHeld => ?_)
        refine wpAnyH_take (i := 0) (v := (.string x)) rfl (by kernel_rfl) (by kernel_rfl) (by kernel_rfl) (fun _ _ _ h => h) (Or.inl ⟨by rfl, ?_⟩) (by assumption) ?_
        · intro w' hSw
          (try dsimp only at hSw)
          go_simp
        (try simp only [Act.put, List.setIfInBounds_toArray, List.set_cons_zero, List.set_cons_succ])
        refine wpAnyH_take (i := 1) (v := (.int .i64 (j : Int))) rfl (by kernel_rfl) (by kernel_rfl) (by kernel_rfl) (fun _ _ _ h => h) (Or.inl ⟨by rfl, ?_⟩) (by assumption) ?_
        · intro w' hSw
          (try dsimp only at hSw)
          go_simp
        (try simp only [Act.put, List.setIfInBounds_toArray, List.set_cons_zero, List.set_cons_succ])
        refine wpAnyH_take (i := 2) (v := (.int .i64 ((k : Int) + 4))) rfl (by kernel_rfl) (by kernel_rfl) (by kernel_rfl) (fun _ _ _ h => h) (Or.inl ⟨by rfl, ?_⟩) (by assumption) ?_
        · intro w' hSw
          (try dsimp only at hSw)
          go_simp
        (try simp only [Act.put, List.setIfInBounds_toArray, List.set_cons_zero, List.set_cons_succ])
        refine wpAnyH_take (i := 3) (v := (.int .i64 (p : Int))) rfl (by kernel_rfl) (by kernel_rfl) (by kernel_rfl) (fun _ _ _ h => h) (Or.inl ⟨by rfl, ?_⟩) (by assumption) ?_
        · intro w' hSw
          (try dsimp only at hSw)
          go_simp
        (try simp only [Act.put, List.setIfInBounds_toArray, List.set_cons_zero, List.set_cons_succ])
        refine wpAnyH_take (i := 4) (v := (.int .i64 (j : Int))) rfl (by kernel_rfl) (by kernel_rfl) (by kernel_rfl) (fun _ _ _ h => h) (Or.inl ⟨by rfl, ?_⟩) (by assumption) ?_
        · intro w' hSw
          (try dsimp only at hSw)
          go_simp
        (try simp only [Act.put, List.setIfInBounds_toArray, List.set_cons_zero, List.set_cons_succ])
        refine wpAnyH_take (i := 5) (v := (.int .i64 ((k : Int) + 4))) rfl (by kernel_rfl) (by kernel_rfl) (by kernel_rfl) (fun _ _ _ h => h) (Or.inl ⟨by rfl, ?_⟩) (by assumption) ?_
        · intro w' hSw
          (try dsimp only at hSw)
          go_simp
        (try simp only [Act.put, List.setIfInBounds_toArray, List.set_cons_zero, List.set_cons_succ])
        refine wpAnyH_take (i := 6) (v := (.int .i64 (p : Int))) rfl (by kernel_rfl) (by kernel_rfl) (by kernel_rfl) (fun _ _ _ h => h) (Or.inl ⟨by rfl, ?_⟩) (by assumption) ?_
        · intro w' hSw
          (try dsimp only at hSw)
          go_simp
        (try simp only [Act.put, List.setIfInBounds_toArray, List.set_cons_zero, List.set_cons_succ])
        refine wpAnyH_take (i := 7) (v := (.int .i64 (k : Int))) rfl (by kernel_rfl) (by kernel_rfl) (by kernel_rfl) (fun _ _ _ h => h) (Or.inl ⟨by rfl, ?_⟩) (by assumption) ?_
        · intro w' hSw
          (try dsimp only at hSw)
          go_simp
        (try simp only [Act.put, List.setIfInBounds_toArray, List.set_cons_zero, List.set_cons_succ])
        refine wpAnyH_take (i := 8) (v := (.int .i64 ((p : Int) + (k : Int)))) rfl (by kernel_rfl) (by kernel_rfl) (by kernel_rfl) (fun _ _ _ h => h) (Or.inl ⟨by rfl, ?_⟩) (by assumption) ?_
        · intro w' hSw
          (try dsimp only at hSw)
          go_simp
        (try simp only [Act.put, List.setIfInBounds_toArray, List.set_cons_zero, List.set_cons_succ])
        refine wpAnyH_take (i := 9) (v := (.string XA)) rfl (by kernel_rfl) (by kernel_rfl) (by kernel_rfl) (fun _ _ _ h => h) (Or.inl ⟨by rfl, ?_⟩) (by assumption) ?_
        · intro w' hSw
          (try dsimp only at hSw)
          (go_simp; (repeat rw [if_pos (by first | omega | exact ⟨by omega, by omega⟩)]); (try rw [show ((p : Int) + (k : Int)).toNat = p + k by omega]); (try rw [show ((r : Int) + (k : Int)).toNat = r + k by omega]); first | rw [HXA.out] | rw [HXB.out])
        (try simp only [Act.put, List.setIfInBounds_toArray, List.set_cons_zero, List.set_cons_succ])
        refine wpAnyH_take (i := 10) (v := (.string x)) rfl (by kernel_rfl) (by kernel_rfl) (by kernel_rfl) (fun _ _ _ h => h) (Or.inl ⟨by rfl, ?_⟩) (by assumption) ?_
        · intro w' hSw
          (try dsimp only at hSw)
          go_simp
        (try simp only [Act.put, List.setIfInBounds_toArray, List.set_cons_zero, List.set_cons_succ])
        refine wpAnyH_take (i := 11) (v := (.int .i64 (j : Int))) rfl (by kernel_rfl) (by kernel_rfl) (by kernel_rfl) (fun _ _ _ h => h) (Or.inl ⟨by rfl, ?_⟩) (by assumption) ?_
        · intro w' hSw
          (try dsimp only at hSw)
          go_simp
        (try simp only [Act.put, List.setIfInBounds_toArray, List.set_cons_zero, List.set_cons_succ])
        refine wpAnyH_take (i := 12) (v := (.int .i64 ((j : Int) - 1))) rfl (by kernel_rfl) (by kernel_rfl) (by kernel_rfl) (fun _ _ _ h => h) (Or.inl ⟨by rfl, ?_⟩) (by assumption) ?_
        · intro w' hSw
          (try dsimp only at hSw)
          go_simp
        (try simp only [Act.put, List.setIfInBounds_toArray, List.set_cons_zero, List.set_cons_succ])
        refine wpAnyH_take (i := 13) (v := (.int .i64 ((k : Int) + 4))) rfl (by kernel_rfl) (by kernel_rfl) (by kernel_rfl) (fun _ _ _ h => h) (Or.inl ⟨by rfl, ?_⟩) (by assumption) ?_
        · intro w' hSw
          (try dsimp only at hSw)
          go_simp
        (try simp only [Act.put, List.setIfInBounds_toArray, List.set_cons_zero, List.set_cons_succ])
        refine wpAnyH_take (i := 14) (v := (.int .i64 (r : Int))) rfl (by kernel_rfl) (by kernel_rfl) (by kernel_rfl) (fun _ _ _ h => h) (Or.inl ⟨by rfl, ?_⟩) (by assumption) ?_
        · intro w' hSw
          (try dsimp only at hSw)
          go_simp
        (try simp only [Act.put, List.setIfInBounds_toArray, List.set_cons_zero, List.set_cons_succ])
        refine wpAnyH_take (i := 15) (v := (.int .i64 (j : Int))) rfl (by kernel_rfl) (by kernel_rfl) (by kernel_rfl) (fun _ _ _ h => h) (Or.inl ⟨by rfl, ?_⟩) (by assumption) ?_
        · intro w' hSw
          (try dsimp only at hSw)
          go_simp
        (try simp only [Act.put, List.setIfInBounds_toArray, List.set_cons_zero, List.set_cons_succ])
        refine wpAnyH_take (i := 16) (v := (.int .i64 ((j : Int) - 1))) rfl (by kernel_rfl) (by kernel_rfl) (by kernel_rfl) (fun _ _ _ h => h) (Or.inl ⟨by rfl, ?_⟩) (by assumption) ?_
        · intro w' hSw
          (try dsimp only at hSw)
          go_simp
        (try simp only [Act.put, List.setIfInBounds_toArray, List.set_cons_zero, List.set_cons_succ])
        refine wpAnyH_take (i := 17) (v := (.int .i64 ((k : Int) + 4))) rfl (by kernel_rfl) (by kernel_rfl) (by kernel_rfl) (fun _ _ _ h => h) (Or.inl ⟨by rfl, ?_⟩) (by assumption) ?_
        · intro w' hSw
          (try dsimp only at hSw)
          go_simp
        (try simp only [Act.put, List.setIfInBounds_toArray, List.set_cons_zero, List.set_cons_succ])
        refine wpAnyH_take (i := 18) (v := (.int .i64 (r : Int))) rfl (by kernel_rfl) (by kernel_rfl) (by kernel_rfl) (fun _ _ _ h => h) (Or.inl ⟨by rfl, ?_⟩) (by assumption) ?_
        · intro w' hSw
          (try dsimp only at hSw)
          go_simp
        (try simp only [Act.put, List.setIfInBounds_toArray, List.set_cons_zero, List.set_cons_succ])
        refine wpAnyH_take (i := 19) (v := (.int .i64 (k : Int))) rfl (by kernel_rfl) (by kernel_rfl) (by kernel_rfl) (fun _ _ _ h => h) (Or.inl ⟨by rfl, ?_⟩) (by assumption) ?_
        · intro w' hSw
          (try dsimp only at hSw)
          go_simp
        (try simp only [Act.put, List.setIfInBounds_toArray, List.set_cons_zero, List.set_cons_succ])
        refine wpAnyH_take (i := 20) (v := (.int .i64 ((r : Int) + (k : Int)))) rfl (by kernel_rfl) (by kernel_rfl) (by kernel_rfl) (fun _ _ _ h => h) (Or.inl ⟨by rfl, ?_⟩) (by assumption) ?_
        · intro w' hSw
          (try dsimp only at hSw)
          go_simp
        (try simp only [Act.put, List.setIfInBounds_toArray, List.set_cons_zero, List.set_cons_succ])
        refine wpAnyH_take (i := 21) (v := (.string XB)) rfl (by kernel_rfl) (by kernel_rfl) (by kernel_rfl) (fun _ _ _ h => h) (Or.inl ⟨by rfl, ?_⟩) (by assumption) ?_
        · intro w' hSw
          (try dsimp only at hSw)
          (go_simp; (repeat rw [if_pos (by first | omega | exact ⟨by omega, by omega⟩)]); (try rw [show ((p : Int) + (k : Int)).toNat = p + k by omega]); (try rw [show ((r : Int) + (k : Int)).toNat = r + k by omega]); first | rw [HXA.out] | rw [HXB.out])
        (try simp only [Act.put, List.setIfInBounds_toArray, List.set_cons_zero, List.set_cons_succ])
        refine wpAnyH_ready (rs := [22]) (by kernel_rfl) (by simp) ?_
        refine AllReadyH.cons rfl (fun K hK => ?_) AllReadyH.nil
        go_simp
        refine hK.out _ _ trivial (fun hHeld => ?_)
        clear hK
        (try simp only [Act.put, List.setIfInBounds_toArray, List.set_cons_zero, List.set_cons_succ])
        refine wpAnyH_done (by kernel_rfl) ?_ _
        clear e1 e2 hw1 hw2 hw3 hw4 hw5 hin hin2
        go_wp2_with fail
        go_ret
        exact ⟨by rw [HF.out]; rfl, HNX.out.drew⟩
      | false =>
        have HC : Hid (upB k x j = true) := by
          have e : upB k x j = true := by rw [HU.out, hC]; rfl
          exact e
        go_wp2_with fail
        refine wp_region_held_drew (S := fun _ => True) (by kernel_rfl) trivial (fun hHeld => ?_)
        refine wpAnyH_take (i := 0) (v := (.string x)) rfl (by kernel_rfl) (by kernel_rfl) (by kernel_rfl) (fun _ _ _ h => h) (Or.inl ⟨by rfl, ?_⟩) (by assumption) ?_
        · intro w' hSw
          (try dsimp only at hSw)
          go_simp
        (try simp only [Act.put, List.setIfInBounds_toArray, List.set_cons_zero, List.set_cons_succ])
        refine wpAnyH_take (i := 1) (v := (.int .i64 (j : Int))) rfl (by kernel_rfl) (by kernel_rfl) (by kernel_rfl) (fun _ _ _ h => h) (Or.inl ⟨by rfl, ?_⟩) (by assumption) ?_
        · intro w' hSw
          (try dsimp only at hSw)
          go_simp
        (try simp only [Act.put, List.setIfInBounds_toArray, List.set_cons_zero, List.set_cons_succ])
        refine wpAnyH_take (i := 2) (v := (.int .i64 ((k : Int) + 4))) rfl (by kernel_rfl) (by kernel_rfl) (by kernel_rfl) (fun _ _ _ h => h) (Or.inl ⟨by rfl, ?_⟩) (by assumption) ?_
        · intro w' hSw
          (try dsimp only at hSw)
          go_simp
        (try simp only [Act.put, List.setIfInBounds_toArray, List.set_cons_zero, List.set_cons_succ])
        refine wpAnyH_take (i := 3) (v := (.int .i64 (p : Int))) rfl (by kernel_rfl) (by kernel_rfl) (by kernel_rfl) (fun _ _ _ h => h) (Or.inl ⟨by rfl, ?_⟩) (by assumption) ?_
        · intro w' hSw
          (try dsimp only at hSw)
          go_simp
        (try simp only [Act.put, List.setIfInBounds_toArray, List.set_cons_zero, List.set_cons_succ])
        refine wpAnyH_take (i := 4) (v := (.int .i64 (j : Int))) rfl (by kernel_rfl) (by kernel_rfl) (by kernel_rfl) (fun _ _ _ h => h) (Or.inl ⟨by rfl, ?_⟩) (by assumption) ?_
        · intro w' hSw
          (try dsimp only at hSw)
          go_simp
        (try simp only [Act.put, List.setIfInBounds_toArray, List.set_cons_zero, List.set_cons_succ])
        refine wpAnyH_take (i := 5) (v := (.int .i64 ((k : Int) + 4))) rfl (by kernel_rfl) (by kernel_rfl) (by kernel_rfl) (fun _ _ _ h => h) (Or.inl ⟨by rfl, ?_⟩) (by assumption) ?_
        · intro w' hSw
          (try dsimp only at hSw)
          go_simp
        (try simp only [Act.put, List.setIfInBounds_toArray, List.set_cons_zero, List.set_cons_succ])
        refine wpAnyH_take (i := 6) (v := (.int .i64 (p : Int))) rfl (by kernel_rfl) (by kernel_rfl) (by kernel_rfl) (fun _ _ _ h => h) (Or.inl ⟨by rfl, ?_⟩) (by assumption) ?_
        · intro w' hSw
          (try dsimp only at hSw)
          go_simp
        (try simp only [Act.put, List.setIfInBounds_toArray, List.set_cons_zero, List.set_cons_succ])
        refine wpAnyH_take (i := 7) (v := (.int .i64 (k : Int))) rfl (by kernel_rfl) (by kernel_rfl) (by kernel_rfl) (fun _ _ _ h => h) (Or.inl ⟨by rfl, ?_⟩) (by assumption) ?_
        · intro w' hSw
          (try dsimp only at hSw)
          go_simp
        (try simp only [Act.put, List.setIfInBounds_toArray, List.set_cons_zero, List.set_cons_succ])
        refine wpAnyH_take (i := 8) (v := (.int .i64 ((p : Int) + (k : Int)))) rfl (by kernel_rfl) (by kernel_rfl) (by kernel_rfl) (fun _ _ _ h => h) (Or.inl ⟨by rfl, ?_⟩) (by assumption) ?_
        · intro w' hSw
          (try dsimp only at hSw)
          go_simp
        (try simp only [Act.put, List.setIfInBounds_toArray, List.set_cons_zero, List.set_cons_succ])
        refine wpAnyH_take (i := 9) (v := (.string XA)) rfl (by kernel_rfl) (by kernel_rfl) (by kernel_rfl) (fun _ _ _ h => h) (Or.inl ⟨by rfl, ?_⟩) (by assumption) ?_
        · intro w' hSw
          (try dsimp only at hSw)
          (go_simp; (repeat rw [if_pos (by first | omega | exact ⟨by omega, by omega⟩)]); (try rw [show ((p : Int) + (k : Int)).toNat = p + k by omega]); (try rw [show ((r : Int) + (k : Int)).toNat = r + k by omega]); first | rw [HXA.out] | rw [HXB.out])
        (try simp only [Act.put, List.setIfInBounds_toArray, List.set_cons_zero, List.set_cons_succ])
        refine wpAnyH_take (i := 10) (v := (.string x)) rfl (by kernel_rfl) (by kernel_rfl) (by kernel_rfl) (fun _ _ _ h => h) (Or.inl ⟨by rfl, ?_⟩) (by assumption) ?_
        · intro w' hSw
          (try dsimp only at hSw)
          go_simp
        (try simp only [Act.put, List.setIfInBounds_toArray, List.set_cons_zero, List.set_cons_succ])
        refine wpAnyH_take (i := 11) (v := (.int .i64 (j : Int))) rfl (by kernel_rfl) (by kernel_rfl) (by kernel_rfl) (fun _ _ _ h => h) (Or.inl ⟨by rfl, ?_⟩) (by assumption) ?_
        · intro w' hSw
          (try dsimp only at hSw)
          go_simp
        (try simp only [Act.put, List.setIfInBounds_toArray, List.set_cons_zero, List.set_cons_succ])
        refine wpAnyH_take (i := 12) (v := (.int .i64 ((j : Int) - 1))) rfl (by kernel_rfl) (by kernel_rfl) (by kernel_rfl) (fun _ _ _ h => h) (Or.inl ⟨by rfl, ?_⟩) (by assumption) ?_
        · intro w' hSw
          (try dsimp only at hSw)
          go_simp
        (try simp only [Act.put, List.setIfInBounds_toArray, List.set_cons_zero, List.set_cons_succ])
        refine wpAnyH_take (i := 13) (v := (.int .i64 ((k : Int) + 4))) rfl (by kernel_rfl) (by kernel_rfl) (by kernel_rfl) (fun _ _ _ h => h) (Or.inl ⟨by rfl, ?_⟩) (by assumption) ?_
        · intro w' hSw
          (try dsimp only at hSw)
          go_simp
        (try simp only [Act.put, List.setIfInBounds_toArray, List.set_cons_zero, List.set_cons_succ])
        refine wpAnyH_take (i := 14) (v := (.int .i64 (r : Int))) rfl (by kernel_rfl) (by kernel_rfl) (by kernel_rfl) (fun _ _ _ h => h) (Or.inl ⟨by rfl, ?_⟩) (by assumption) ?_
        · intro w' hSw
          (try dsimp only at hSw)
          go_simp
        (try simp only [Act.put, List.setIfInBounds_toArray, List.set_cons_zero, List.set_cons_succ])
        refine wpAnyH_take (i := 15) (v := (.int .i64 (j : Int))) rfl (by kernel_rfl) (by kernel_rfl) (by kernel_rfl) (fun _ _ _ h => h) (Or.inl ⟨by rfl, ?_⟩) (by assumption) ?_
        · intro w' hSw
          (try dsimp only at hSw)
          go_simp
        (try simp only [Act.put, List.setIfInBounds_toArray, List.set_cons_zero, List.set_cons_succ])
        refine wpAnyH_take (i := 16) (v := (.int .i64 ((j : Int) - 1))) rfl (by kernel_rfl) (by kernel_rfl) (by kernel_rfl) (fun _ _ _ h => h) (Or.inl ⟨by rfl, ?_⟩) (by assumption) ?_
        · intro w' hSw
          (try dsimp only at hSw)
          go_simp
        (try simp only [Act.put, List.setIfInBounds_toArray, List.set_cons_zero, List.set_cons_succ])
        refine wpAnyH_take (i := 17) (v := (.int .i64 ((k : Int) + 4))) rfl (by kernel_rfl) (by kernel_rfl) (by kernel_rfl) (fun _ _ _ h => h) (Or.inl ⟨by rfl, ?_⟩) (by assumption) ?_
        · intro w' hSw
          (try dsimp only at hSw)
          go_simp
        (try simp only [Act.put, List.setIfInBounds_toArray, List.set_cons_zero, List.set_cons_succ])
        refine wpAnyH_take (i := 18) (v := (.int .i64 (r : Int))) rfl (by kernel_rfl) (by kernel_rfl) (by kernel_rfl) (fun _ _ _ h => h) (Or.inl ⟨by rfl, ?_⟩) (by assumption) ?_
        · intro w' hSw
          (try dsimp only at hSw)
          go_simp
        (try simp only [Act.put, List.setIfInBounds_toArray, List.set_cons_zero, List.set_cons_succ])
        refine wpAnyH_take (i := 19) (v := (.int .i64 (k : Int))) rfl (by kernel_rfl) (by kernel_rfl) (by kernel_rfl) (fun _ _ _ h => h) (Or.inl ⟨by rfl, ?_⟩) (by assumption) ?_
        · intro w' hSw
          (try dsimp only at hSw)
          go_simp
        (try simp only [Act.put, List.setIfInBounds_toArray, List.set_cons_zero, List.set_cons_succ])
        refine wpAnyH_take (i := 20) (v := (.int .i64 ((r : Int) + (k : Int)))) rfl (by kernel_rfl) (by kernel_rfl) (by kernel_rfl) (fun _ _ _ h => h) (Or.inl ⟨by rfl, ?_⟩) (by assumption) ?_
        · intro w' hSw
          (try dsimp only at hSw)
          go_simp
        (try simp only [Act.put, List.setIfInBounds_toArray, List.set_cons_zero, List.set_cons_succ])
        refine wpAnyH_take (i := 21) (v := (.string XB)) rfl (by kernel_rfl) (by kernel_rfl) (by kernel_rfl) (fun _ _ _ h => h) (Or.inl ⟨by rfl, ?_⟩) (by assumption) ?_
        · intro w' hSw
          (try dsimp only at hSw)
          (go_simp; (repeat rw [if_pos (by first | omega | exact ⟨by omega, by omega⟩)]); (try rw [show ((p : Int) + (k : Int)).toNat = p + k by omega]); (try rw [show ((r : Int) + (k : Int)).toNat = r + k by omega]); first | rw [HXA.out] | rw [HXB.out])
        (try simp only [Act.put, List.setIfInBounds_toArray, List.set_cons_zero, List.set_cons_succ])
        refine wpAnyH_ready (rs := [22]) (by kernel_rfl) (by simp) ?_
        refine AllReadyH.cons rfl (fun K hK => ?_) AllReadyH.nil
        go_simp
        refine hK.out _ _ trivial (fun hHeld => ?_)
        clear hK
        (try simp only [Act.put, List.setIfInBounds_toArray, List.set_cons_zero, List.set_cons_succ])
        refine wpAnyH_done (by kernel_rfl) ?_ _
        clear e1 e2 hw1 hw2 hw3 hw4 hw5 hin hin2
        go_wp2_with fail
        go_roundw
        case rel =>
          refine ⟨j + 1, by omega, by go_num, fun t ht hn => ?_, HNX.out.drew⟩
          rcases Nat.lt_or_ge t j with h | h
          · exact HUP.out t h hn
          · obtain rfl : t = j := by omega
            exact HC.out
        case measure => simp [intOf]; omega
    · have HF : Hid (allUp k x = true) := allUp_yes (fun i hi => HUP.out i (by rw [← HN.out] at hi; omega) (by rw [HN.out]; exact hi))
      have hji : (N : Int) ≤ (j : Int) := by omega
      go_wp2_with fail
      go_ret
      exact ⟨by rw [HF.out]; rfl, HNX.out⟩
end Go.Proofs.Ythihmgdefbahpaa
namespace Go.Proofs.Ythihmgdefbahpaa
open Go.RowKit
theorem gcell_len (ts : List (GR × Value)) : (gcell ts).length = ts.length * 2 := by
  induction ts with
  | nil => rfl
  | cons p r ih => unfold gcell at ih ⊢; rw [List.flatMap_cons, List.length_append, ih]; simp; omega
theorem gcell_at (ps : List (GR × Value)) : ∀ i (h : i < ps.length), (gcell ps)[i * 2]? = some (.string ps[i].1.1) ∧ (gcell ps)[i * 2 + 1]? = some ps[i].2 := by
  induction ps with
  | nil => intro i h; simp at h
  | cons p r ih =>
    intro i h
    cases i with
    | zero => exact ⟨rfl, rfl⟩
    | succ i =>
      have := ih i (by simpa using h)
      have e : gcell (p :: r) = .string p.1.1 :: p.2 :: gcell r := rfl
      rw [e, show (i + 1) * 2 = i * 2 + 1 + 1 by omega]
      simpa using this
/-- groups in memory, one by one -/
theorem GroupsAt.split {w : World} {base : Nat} {v : Value} {gs : List GR} (h : GroupsAt w base v gs) : ∃ ao g cap, v = .slice ao gs.length cap ∧ (0 < gs.length → ao = some ⟨g, 0, none⟩) ∧ (0 < gs.length → g < w.heap.size) ∧
    ∀ i (hi : i < gs.length), ∃ pv, w.cell? ⟨g, i * 2, none⟩ = some (.string gs[i].1) ∧ w.cell? ⟨g, i * 2 + 1, none⟩ = some pv ∧ w.ownsRow base 65 2 pv gs[i].2.length (pc gs[i].2) := by
  obtain ⟨ts, rfl, h2, h3⟩ := h
  simp only [List.length_map]
  rcases h2.2 with ⟨rfl, h0⟩ | ⟨g, cap, cur, rfl, hg, hblk, _⟩
  · obtain rfl := List.length_eq_zero_iff.1 h0
    exact ⟨none, 0, 0, rfl, fun k => by simp at k, fun k => by simp at k, fun i hi => by simp at hi⟩
  · refine ⟨some ⟨g, 0, none⟩, g, cap, rfl, fun _ => rfl, fun _ => row_lt h2, fun i hi => ⟨ts[i].2, ?_, ?_, ?_⟩⟩
    · rw [h2.cellAt (i * 2) (by omega), (gcell_at ts i hi).1, List.getElem_map]
    · rw [h2.cellAt (i * 2 + 1) (by omega), (gcell_at ts i hi).2]
    · rw [List.getElem_map]; exact h3 _ (List.getElem_mem hi)
set_option maxHeartbeats 1000000 in
set_option maxRecDepth 100000 in
set_option linter.unusedSimpArgs false in
/-- sameGroups, of two lists that are the same -/
theorem sameGroups_any (v1 v2 : Value) (b1 b2 : Nat) (gs : List GR) (w : World) (h1 : GroupsAt w b1 v1 gs) (h2 : GroupsAt w b2 v2 gs) (hlen : gs.length ≤ 1099511627776) (hps : ∀ g ∈ gs, g.2.length ≤ 1099511627776) :
    Calls Try.prog 26 #[v1, v2] w fun e w' => e = .returned (.bool true) ∧ Below w.heap.size w w' := by
  obtain ⟨a1, g1, c1, rfl, h11, h12, h13⟩ := h1.split
  obtain ⟨a2, g2, c2, rfl, h21, h22, h23⟩ := h2.split
  have H13 := hide h13
  have H23 := hide h23
  clear h1 h2 h13 h23
  go_enter Try.func26, Try.ntmps26
  go_wp2_with fail
  go_loopw [5] (fun i wr => ∃ k : Nat, k ≤ gs.length ∧ i = .int .i64 k ∧ Below w.heap.size w wr) (fun i _ => gs.length - (intOf i).toNat)
  case atStart => exact ⟨0, Nat.zero_le _, rfl, Below.refl _ _⟩
  case round =>
    obtain ⟨k, hk, rfl, hnx⟩ := hrel
    by_cases hlt : k < gs.length
    · obtain rfl := h11 (by omega)
      obtain rfl := h21 (by omega)
      have t1 := h12 (by omega)
      have t2 := h22 (by omega)
      obtain ⟨p1, d1, d2, d3⟩ := H13.out k hlt
      obtain ⟨p2, d4, d5, d6⟩ := H23.out k hlt
      rw [← hnx.cell (by exact t1)] at d1 d2
      rw [← hnx.cell (by exact t2)] at d4 d5
      have o1 := own_below d3 hnx
      have o2 := own_below d6 hnx
      obtain ⟨q1, r1, u1, rfl, x11, x12, x13⟩ := own_pairs o1
      obtain ⟨q2, r2, u2, rfl, x21, x22, x23⟩ := own_pairs o2
      have hkl := hps gs[k] (List.getElem_mem hlt)
      have SP := hide (fun w' (hb : Below wr.heap.size wr w') => samePairs_any q1 q2 r1 0 u1 r2 0 u2 gs[k].2 w' x11 x21 (fun h => Nat.lt_of_lt_of_le (x12 h) hb.size) (fun h => Nat.lt_of_lt_of_le (x22 h) hb.size) (fun i hi => by have := x12 (by omega); exact x13.below this hb i hi) (fun i hi => by have := x22 (by omega); exact x23.below this hb i hi) (by omega))
      have hk1 : (k : Int) < (gs.length : Int) := by omega
      have HNX := hide hnx
      clear hnx o1 o2 d3 d6 x11 x12 x13 x21 x22 x23
      generalize gs[k].1 = X at *
      generalize gs[k].2 = Y at *
      generalize hYN : Y.length = YN at *
      have HK : Hid (∀ w', Below wr.heap.size wr w' → World.cell? w' ⟨g1, k * 2, none⟩ = some (.string X) ∧ World.cell? w' ⟨g1, k * 2 + 1, none⟩ = some (.slice q1 YN u1) ∧ World.cell? w' ⟨g2, k * 2, none⟩ = some (.string X) ∧ World.cell? w' ⟨g2, k * 2 + 1, none⟩ = some (.slice q2 YN u2)) := fun w' hb => by
        have l1 : g1 < wr.heap.size := Nat.lt_of_lt_of_le t1 HNX.out.size
        have l2 : g2 < wr.heap.size := Nat.lt_of_lt_of_le t2 HNX.out.size
        rw [hb.cell (by exact l1), hb.cell (by exact l1), hb.cell (by exact l2), hb.cell (by exact l2)]
        exact ⟨d1, d2, d4, d5⟩
      obtain ⟨GN, hGN⟩ : ∃ GN, GN = gs.length := ⟨_, rfl⟩
      have hk2 : (k : Int) < (GN : Int) := by omega
      have HGN := hide hGN
      rw [← hGN]
      clear d1 d2 d4 d5 hk1 hGN hYN
      go_wp2_with fail
      refine wp_region_held_drew (S := fun w' => w'.cell? ⟨g1, k * 2, none⟩ = some (.string X) ∧ w'.cell? ⟨g1, k * 2 + 1, none⟩ = some (.slice q1 YN u1) ∧ w'.cell? ⟨g2, k * 2, none⟩ = some (.string X) ∧ w'.cell? ⟨g2, k * 2 + 1, none⟩ = some (.slice q2 YN u2)) (by kernel_rfl) (HK.out _ (Below.refl _ _).drew) (fun hHeld => ?_)
      refine wpAnyH_take (i := 0) (v := (.slice (some ⟨g1, 0, none⟩) GN c1)) rfl (by kernel_rfl) (by kernel_rfl) (by kernel_rfl) (fun _ _ _ h => h) (Or.inl ⟨by rfl, ?_⟩) (by assumption) ?_
      · intro w' hSw
        (try dsimp only at hSw)
        go_simp <;> first | exact i64_in (by omega) (by omega) | exact u32_in (by omega) (by omega) | exact u32_add _ _ | (rw [Int.tmod_eq_emod_of_nonneg (by omega)]; omega) | (rw [Int.tdiv_eq_ediv_of_nonneg (by omega)]; omega) | omega
      (try simp only [Act.put, List.setIfInBounds_toArray, List.set_cons_zero, List.set_cons_succ])
      refine wpAnyH_take (i := 1) (v := (.int .i64 (k : Int))) rfl (by kernel_rfl) (by kernel_rfl) (by kernel_rfl) (fun _ _ _ h => h) (Or.inl ⟨by rfl, ?_⟩) (by assumption) ?_
      · intro w' hSw
        (try dsimp only at hSw)
        go_simp <;> first | exact i64_in (by omega) (by omega) | exact u32_in (by omega) (by omega) | exact u32_add _ _ | (rw [Int.tmod_eq_emod_of_nonneg (by omega)]; omega) | (rw [Int.tdiv_eq_ediv_of_nonneg (by omega)]; omega) | omega
      (try simp only [Act.put, List.setIfInBounds_toArray, List.set_cons_zero, List.set_cons_succ])
      refine wpAnyH_take (i := 2) (v := (.pointer (some ⟨g1, k * 2, none⟩))) rfl (by kernel_rfl) (by kernel_rfl) (by kernel_rfl) (fun _ _ _ h => h) (Or.inl ⟨by rfl, ?_⟩) (by assumption) ?_
      · intro w' hSw
        (try dsimp only at hSw)
        go_simp <;> first | exact i64_in (by omega) (by omega) | exact u32_in (by omega) (by omega) | exact u32_add _ _ | (rw [Int.tmod_eq_emod_of_nonneg (by omega)]; omega) | (rw [Int.tdiv_eq_ediv_of_nonneg (by omega)]; omega) | omega
      (try simp only [Act.put, List.setIfInBounds_toArray, List.set_cons_zero, List.set_cons_succ])
      refine wpAnyH_take (i := 3) (v := (.pointer (some ⟨g1, k * 2, none⟩))) rfl (by kernel_rfl) (by kernel_rfl) (by kernel_rfl) (fun _ _ _ h => h) (Or.inl ⟨by rfl, ?_⟩) (by assumption) ?_
      · intro w' hSw
        (try dsimp only at hSw)
        go_simp <;> first | exact i64_in (by omega) (by omega) | exact u32_in (by omega) (by omega) | exact u32_add _ _ | (rw [Int.tmod_eq_emod_of_nonneg (by omega)]; omega) | (rw [Int.tdiv_eq_ediv_of_nonneg (by omega)]; omega) | omega
      (try simp only [Act.put, List.setIfInBounds_toArray, List.set_cons_zero, List.set_cons_succ])
      refine wpAnyH_take (i := 4) (v := (.string X)) rfl (by kernel_rfl) (by kernel_rfl) (by kernel_rfl) (fun _ _ _ h => h) (Or.inl ⟨by rfl, ?_⟩) (by assumption) ?_
      · intro w' hSw
        (try dsimp only at hSw)
        (obtain ⟨hS1, hS2, hS3, hS4⟩ := hSw; go_simp)
      (try simp only [Act.put, List.setIfInBounds_toArray, List.set_cons_zero, List.set_cons_succ])
      refine wpAnyH_take (i := 5) (v := (.slice (some ⟨g2, 0, none⟩) GN c2)) rfl (by kernel_rfl) (by kernel_rfl) (by kernel_rfl) (fun _ _ _ h => h) (Or.inl ⟨by rfl, ?_⟩) (by assumption) ?_
      · intro w' hSw
        (try dsimp only at hSw)
        go_simp <;> first | exact i64_in (by omega) (by omega) | exact u32_in (by omega) (by omega) | exact u32_add _ _ | (rw [Int.tmod_eq_emod_of_nonneg (by omega)]; omega) | (rw [Int.tdiv_eq_ediv_of_nonneg (by omega)]; omega) | omega
      (try simp only [Act.put, List.setIfInBounds_toArray, List.set_cons_zero, List.set_cons_succ])
      refine wpAnyH_take (i := 6) (v := (.int .i64 (k : Int))) rfl (by kernel_rfl) (by kernel_rfl) (by kernel_rfl) (fun _ _ _ h => h) (Or.inl ⟨by rfl, ?_⟩) (by assumption) ?_
      · intro w' hSw
        (try dsimp only at hSw)
        go_simp <;> first | exact i64_in (by omega) (by omega) | exact u32_in (by omega) (by omega) | exact u32_add _ _ | (rw [Int.tmod_eq_emod_of_nonneg (by omega)]; omega) | (rw [Int.tdiv_eq_ediv_of_nonneg (by omega)]; omega) | omega
      (try simp only [Act.put, List.setIfInBounds_toArray, List.set_cons_zero, List.set_cons_succ])
      refine wpAnyH_take (i := 7) (v := (.pointer (some ⟨g2, k * 2, none⟩))) rfl (by kernel_rfl) (by kernel_rfl) (by kernel_rfl) (fun _ _ _ h => h) (Or.inl ⟨by rfl, ?_⟩) (by assumption) ?_
      · intro w' hSw
        (try dsimp only at hSw)
        go_simp <;> first | exact i64_in (by omega) (by omega) | exact u32_in (by omega) (by omega) | exact u32_add _ _ | (rw [Int.tmod_eq_emod_of_nonneg (by omega)]; omega) | (rw [Int.tdiv_eq_ediv_of_nonneg (by omega)]; omega) | omega
      (try simp only [Act.put, List.setIfInBounds_toArray, List.set_cons_zero, List.set_cons_succ])
      refine wpAnyH_take (i := 8) (v := (.pointer (some ⟨g2, k * 2, none⟩))) rfl (by kernel_rfl) (by kernel_rfl) (by kernel_rfl) (fun _ _ _ h => h) (Or.inl ⟨by rfl, ?_⟩) (by assumption) ?_
      · intro w' hSw
        (try dsimp only at hSw)
        go_simp <;> first | exact i64_in (by omega) (by omega) | exact u32_in (by omega) (by omega) | exact u32_add _ _ | (rw [Int.tmod_eq_emod_of_nonneg (by omega)]; omega) | (rw [Int.tdiv_eq_ediv_of_nonneg (by omega)]; omega) | omega
      (try simp only [Act.put, List.setIfInBounds_toArray, List.set_cons_zero, List.set_cons_succ])
      refine wpAnyH_take (i := 9) (v := (.string X)) rfl (by kernel_rfl) (by kernel_rfl) (by kernel_rfl) (fun _ _ _ h => h) (Or.inl ⟨by rfl, ?_⟩) (by assumption) ?_
      · intro w' hSw
        (try dsimp only at hSw)
        (obtain ⟨hS1, hS2, hS3, hS4⟩ := hSw; go_simp)
      (try simp only [Act.put, List.setIfInBounds_toArray, List.set_cons_zero, List.set_cons_succ])
      refine wpAnyH_take (i := 10) (v := (.bool false)) rfl (by kernel_rfl) (by kernel_rfl) (by kernel_rfl) (fun _ _ _ h => h) (Or.inl ⟨by rfl, ?_⟩) (by assumption) ?_
      · intro w' hSw
        (try dsimp only at hSw)
        go_simp <;> first | exact i64_in (by omega) (by omega) | exact u32_in (by omega) (by omega) | exact u32_add _ _ | (rw [Int.tmod_eq_emod_of_nonneg (by omega)]; omega) | (rw [Int.tdiv_eq_ediv_of_nonneg (by omega)]; omega) | omega
      (try simp only [Act.put, List.setIfInBounds_toArray, List.set_cons_zero, List.set_cons_succ])
      refine wpAnyH_take (i := 11) (v := (.bool false)) rfl (by kernel_rfl) (by kernel_rfl) (by kernel_rfl) (fun _ _ _ h => h) (Or.inl ⟨by rfl, ?_⟩) (by assumption) ?_
      · intro w' hSw
        (try dsimp only at hSw)
        go_simp <;> first | exact i64_in (by omega) (by omega) | exact u32_in (by omega) (by omega) | exact u32_add _ _ | (rw [Int.tmod_eq_emod_of_nonneg (by omega)]; omega) | (rw [Int.tdiv_eq_ediv_of_nonneg (by omega)]; omega) | omega
      (try simp only [Act.put, List.setIfInBounds_toArray, List.set_cons_zero, List.set_cons_succ])
      refine wpAnyH_take (i := 12) (v := (.slice (some ⟨g1, 0, none⟩) GN c1)) rfl (by kernel_rfl) (by kernel_rfl) (by kernel_rfl) (fun _ _ _ h => h) (Or.inl ⟨by kernel_rfl, ?_⟩) (by assumption) ?_
      · intro w' hSw
        (try dsimp only at hSw)
        go_simp
      (try simp only [Act.put, List.setIfInBounds_toArray, List.set_cons_zero, List.set_cons_succ])
      refine wpAnyH_take (i := 13) (v := (.int .i64 (k : Int))) rfl (by kernel_rfl) (by kernel_rfl) (by kernel_rfl) (fun _ _ _ h => h) (Or.inl ⟨by kernel_rfl, ?_⟩) (by assumption) ?_
      · intro w' hSw
        (try dsimp only at hSw)
        go_simp
      (try simp only [Act.put, List.setIfInBounds_toArray, List.set_cons_zero, List.set_cons_succ])
      refine wpAnyH_take (i := 14) (v := (.pointer (some ⟨g1, k * 2, none⟩))) rfl (by kernel_rfl) (by kernel_rfl) (by kernel_rfl) (fun _ _ _ h => h) (Or.inl ⟨by kernel_rfl, ?_⟩) (by assumption) ?_
      · intro w' hSw
        (try dsimp only at hSw)
        go_simp
      (try simp only [Act.put, List.setIfInBounds_toArray, List.set_cons_zero, List.set_cons_succ])
      refine wpAnyH_take (i := 15) (v := (.pointer (some ⟨g1, k * 2 + 1, none⟩))) rfl (by kernel_rfl) (by kernel_rfl) (by kernel_rfl) (fun _ _ _ h => h) (Or.inl ⟨by kernel_rfl, ?_⟩) (by assumption) ?_
      · intro w' hSw
        (try dsimp only at hSw)
        go_simp
      (try simp only [Act.put, List.setIfInBounds_toArray, List.set_cons_zero, List.set_cons_succ])
      refine wpAnyH_take (i := 16) (v := (.slice q1 YN u1)) rfl (by kernel_rfl) (by kernel_rfl) (by kernel_rfl) (fun _ _ _ h => h) (Or.inl ⟨by kernel_rfl, ?_⟩) (by assumption) ?_
      · intro w' hSw
        (try dsimp only at hSw)
        (obtain ⟨hS1, hS2, hS3, hS4⟩ := hSw; go_simp)
      (try simp only [Act.put, List.setIfInBounds_toArray, List.set_cons_zero, List.set_cons_succ])
      refine wpAnyH_take (i := 17) (v := (.slice (some ⟨g2, 0, none⟩) GN c2)) rfl (by kernel_rfl) (by kernel_rfl) (by kernel_rfl) (fun _ _ _ h => h) (Or.inl ⟨by kernel_rfl, ?_⟩) (by assumption) ?_
      · intro w' hSw
        (try dsimp only at hSw)
        go_simp
      (try simp only [Act.put, List.setIfInBounds_toArray, List.set_cons_zero, List.set_cons_succ])
      refine wpAnyH_take (i := 18) (v := (.int .i64 (k : Int))) rfl (by kernel_rfl) (by kernel_rfl) (by kernel_rfl) (fun _ _ _ h => h) (Or.inl ⟨by kernel_rfl, ?_⟩) (by assumption) ?_
      · intro w' hSw
        (try dsimp only at hSw)
        go_simp
      (try simp only [Act.put, List.setIfInBounds_toArray, List.set_cons_zero, List.set_cons_succ])
      refine wpAnyH_take (i := 19) (v := (.pointer (some ⟨g2, k * 2, none⟩))) rfl (by kernel_rfl) (by kernel_rfl) (by kernel_rfl) (fun _ _ _ h => h) (Or.inl ⟨by kernel_rfl, ?_⟩) (by assumption) ?_
      · intro w' hSw
        (try dsimp only at hSw)
        go_simp
      (try simp only [Act.put, List.setIfInBounds_toArray, List.set_cons_zero, List.set_cons_succ])
      refine wpAnyH_take (i := 20) (v := (.pointer (some ⟨g2, k * 2 + 1, none⟩))) rfl (by kernel_rfl) (by kernel_rfl) (by kernel_rfl) (fun _ _ _ h => h) (Or.inl ⟨by kernel_rfl, ?_⟩) (by assumption) ?_
      · intro w' hSw
        (try dsimp only at hSw)
        go_simp
      (try simp only [Act.put, List.setIfInBounds_toArray, List.set_cons_zero, List.set_cons_succ])
      refine wpAnyH_take (i := 21) (v := (.slice q2 YN u2)) rfl (by kernel_rfl) (by kernel_rfl) (by kernel_rfl) (fun _ _ _ h => h) (Or.inl ⟨by kernel_rfl, ?_⟩) (by assumption) ?_
      · intro w' hSw
        (try dsimp only at hSw)
        (obtain ⟨hS1, hS2, hS3, hS4⟩ := hSw; go_simp)
      (try simp only [Act.put, List.setIfInBounds_toArray, List.set_cons_zero, List.set_cons_succ])
      refine wpAnyH_ready (rs := [22]) (by kernel_rfl) (by simp) ?_
      refine AllReadyH.cons rfl (fun K hK => ?_) AllReadyH.nil
      go_simp
      refine Calls.mono (SP.out _ (Below.refl _ _).drew) ?_
      rintro e w2 ⟨rfl, hb2⟩
      have B2 := (Below.refl wr.heap.size wr).drew.trans hb2
      refine hK.out _ _ (HK.out _ B2) (fun hHeld => ?_)
      clear hK
      (try simp only [Act.put, List.setIfInBounds_toArray, List.set_cons_zero, List.set_cons_succ])
      refine wpAnyH_ready (rs := [23]) (by kernel_rfl) (by simp) ?_
      refine AllReadyH.cons rfl (fun K hK => ?_) AllReadyH.nil
      go_simp
      refine hK.out _ _ (HK.out _ B2) (fun hHeld => ?_)
      clear hK
      (try simp only [Act.put, List.setIfInBounds_toArray, List.set_cons_zero, List.set_cons_succ])
      refine wpAnyH_ready (rs := [24]) (by kernel_rfl) (by simp) ?_
      refine AllReadyH.cons rfl (fun K hK => ?_) AllReadyH.nil
      go_simp
      refine hK.out _ _ (HK.out _ B2) (fun hHeld => ?_)
      clear hK
      (try simp only [Act.put, List.setIfInBounds_toArray, List.set_cons_zero, List.set_cons_succ])
      refine wpAnyH_done (by kernel_rfl) ?_ _
      go_wp2
      go_roundw
      case rel => exact ⟨k + 1, by omega, by go_num, HNX.out.trans (B2.mono HNX.out.size)⟩
      case measure => simp [intOf]; omega
    · have HNX := hide hnx
      clear hnx
      go_wp2
      go_ret
      exact ⟨rfl, HNX.out⟩
end Go.Proofs.Ythihmgdefbahpaa
namespace Go.Proofs.Ythihmgdefbahpaa
open Go.RowKit
theorem run_appAny (w : World) (base n : Nat) (v : Value) (xs : List Value) (ty : TypeId) (s : ByteArray) (hown : w.ownsRow base 5 1 v n xs) (hbytes : n + s.size ≤ 140737488355328) (hbase : base ≤ w.heap.size) :
    ∃ v' w', (Builtin.append_ #[76, 9] ty #[v, .string s]).run Try.prog w = .ok v' w' ∧ w'.ownsRow base 5 1 v' (n + s.size) (xs ++ s.data.toList.map ub) ∧ Grew w w' v v' := by
  rcases hown.2 with ⟨rfl, rfl⟩ | ⟨g, cap, cur, rfl, _⟩
  · obtain ⟨i0, hi, hz0, hz1, hz2⟩ := info_parts info5
    obtain ⟨v', w', hr, ho, hg, hn⟩ := Lib.run_append_own_string (P := Try.prog) w base 76 9 ty 5 i0 Try.underlying76 Try.underlying9 hi hz0 hz1 hz2 _ 0 xs hown s (by unfold maxLen; omega) hbytes hbase
    refine ⟨v', w', hr, ho, hg, ?_⟩
    by_cases hs : s.size = 0
    · rw [hn.2 ⟨rfl, hs⟩]; exact .inl rfl
    · have h2 := run_append_nil_string (P := Try.prog) w 76 9 ty 5 i0 (.int .u8 0) Try.underlying76 Try.underlying9 hi hz0 s (by omega) (by omega) (by rw [hz2]; omega)
      rw [hr] at h2
      injection h2 with h2 h3
      exact .inr ⟨w.heap.size, by rw [h2]; rfl, Nat.le_refl _⟩
  · exact run_appStr w base g n cap xs ty s hown hbytes hbase
theorem wpList_appAny {w : World} {ops : Array Oper} {rest : List Oper} {o : Oper} {a : Act} {Q : Exit → Act → World → Prop} (hgd : o.guard = none) (sl x : Operand)
    (ho : o.op = .call { callee := .builtin .append, args := #[sl, x], argTypes := #[76, 9] })
    (base n : Nat) (v : Value) (xs : List Value) (s : ByteArray) (hs : a.eval sl = v) (hx : a.eval x = .string s) (hown : w.ownsRow base 5 1 v n xs) (hbytes : n + s.size ≤ 140737488355328) (hbase : base ≤ w.heap.size)
    (h : ∀ v' w', w'.ownsRow base 5 1 v' (n + s.size) (xs ++ s.data.toList.map ub) → Grew w w' v v' → wpList Try.prog ops Q rest (a.put o.dst v') w') : wpList Try.prog ops Q (o :: rest) a w := by
  refine wpList_plain hgd fun K hK => ?_
  obtain ⟨v', w', hr, h2, h3⟩ := run_appAny w base n v xs o.type s hown hbytes hbase
  unfold Oper.wp execOp
  simp only [ho, resolve, invoke, builtin, Sem.run_bind, Sem.run_pure, Result.andThen_ok, List.map_toArray, List.map_cons, List.map_nil, hs, hx, hr]
  exact hK _ _ (h v' w' h2 h3)
/-- two rows apart -/
def Apart (a b : Value) : Prop := a.ownBlock = none ∨ a.ownBlock ≠ b.ownBlock
theorem Apart.symm {a b : Value} (h : Apart a b) : Apart b a := by
  unfold Apart at *
  rcases h with h | h
  · cases hb : b.ownBlock with
    | none => exact .inl rfl
    | some x => right; rw [h]; simp
  · exact .inr (Ne.symm h)
theorem Apart.grew {w w' : World} {a b b' : Value} {base e s n : Nat} {x : List Value} (h : Apart a b) (ho : w.ownsRow base e s a n x) (hg : Grew w w' b b') : Apart a b' ∧ w'.ownsRow base e s a n x := by
  refine ⟨?_, ho.kept hg.by' h⟩
  unfold Apart at *
  rcases h with h | h
  · exact .inl h
  · right
    rcases hg.at' with e | ⟨k, e, hk⟩
    · rw [e]; exact h
    · rw [e]
      intro he
      have := (ho.lt k he).2
      omega
theorem own_shape {w : World} {base e s n : Nat} {v : Value} {x : List Value} (h : w.ownsRow base e s v n x) : ∃ a c, v = .slice a n c := by
  rcases h.2 with ⟨rfl, rfl⟩ | ⟨g, cap, cur, rfl, _⟩
  · exact ⟨_, _, rfl⟩
  · exact ⟨_, _, rfl⟩
theorem encD_take (gs : List GR) (j : Nat) (h : j < gs.length) : encD (gs.take (j + 1)) = encD (gs.take j) ++ recL gs[j].2 := by
  rw [List.take_succ_eq_append_getElem h, encD_snoc]
theorem encN_step (gs : List GR) (j : Nat) (h : j < gs.length) : encN gs (j + 1) = encN gs j ++ gs[j].1.data.toList ++ dig 4 (encD (gs.take j)).length := by
  rw [encN, List.getD_eq_getElem?_getD, List.getElem?_eq_getElem h, Option.getD_some]
theorem encD_le (gs : List GR) (j : Nat) : (encD (gs.take j)).length ≤ (encD gs).length := by
  have : encD gs = encD (gs.take j) ++ encD (gs.drop j) := by unfold encD; rw [← List.flatMap_append, List.take_append_drop]
  rw [this, List.length_append]; omega
set_option maxHeartbeats 3000000 in
set_option maxRecDepth 100000 in
/-- the document's Encode, of groups that are right -/
theorem rencode_any (k : Nat) (hk : 1 ≤ k ∧ k ≤ 16) (gs : List GR) (v : Value) (b0 : Nat) (w : World) (hg : GroupsAt w b0 v gs) (hH : ∀ i (h : i < gs.length), gs[i].1.size = k ∧ errL gs[i].2 = 0)
    (hup : ∀ i (h : i + 1 < gs.length), (Op.bytesLess gs[i + 1].1.toList gs[i].1.toList || gs[i + 1].1.toList == gs[i].1.toList) = false) (hlen : gs.length ≤ 1048576) (hD : (encD gs).length ≤ 65536) :
    Calls Try.prog 15 #[.int .i64 (k : Int), v] w fun e w' => e = .returned (.tuple #[.agg #[.string (strOf (encN gs gs.length)), .string (strOf (encD gs))], .int .i64 0]) ∧ Below w.heap.size w w' := by
  obtain ⟨ao, g, cap, rfl, hao, hb, hcell⟩ := hg.split
  have HCELL := hide hcell
  have HH := hide hH
  have HUP := hide hup
  clear hcell hH hup hg
  go_enter Try.func15, Try.ntmps15
  obtain ⟨W0, hW0⟩ : ∃ W0, W0 = w.alloc (.cells #[.string ⟨#[]⟩, .string ⟨#[]⟩] 23) := ⟨_, rfl⟩
  have s0 : W0.heap.size = w.heap.size + 1 := by rw [hW0]; simp
  have b0w : Below w.heap.size w W0 := by rw [hW0]; exact (Below.refl _ w).alloc (Nat.le_refl _) _
  have HB0 := hide b0w
  have KC : Hid (W0.cell? ⟨w.heap.size, 0, none⟩ = some (.string ⟨#[]⟩) ∧ W0.cell? ⟨w.heap.size, 1, none⟩ = some (.string ⟨#[]⟩) ∧ W0.frozen? ⟨w.heap.size, 0, none⟩ = false ∧ W0.frozen? ⟨w.heap.size, 1, none⟩ = false) := by
    rw [hW0]
    exact ⟨by simp, by simp, by simp, by simp⟩
  clear b0w
  go_wp2_with fail
  rw [← hW0]
  go_loopw [6, 7, 8] (fun vi vd i wr => ∃ j : Nat, j ≤ gs.length ∧ i = .int .i64 (j : Int) ∧ (encN gs j).length = j * (k + 4) ∧ wr.ownsRow W0.heap.size 5 1 vi (encN gs j).length ((encN gs j).map ub) ∧ wr.ownsRow W0.heap.size 5 1 vd (encD (gs.take j)).length ((encD (gs.take j)).map ub) ∧ Apart vd vi ∧ Below W0.heap.size W0 wr)
    (fun _ _ i _ => gs.length - (intOf i).toNat)
  case atStart => exact ⟨0, by omega, rfl, by simp [encN], World.ownsRow_nil _ _ _ _, World.ownsRow_nil _ _ _ _, .inl rfl, Below.refl _ _⟩
  case round =>
    obtain ⟨j, hj, rfl, hln, hoi, hod, hap, hnx⟩ := hrel
    have hsz := hnx.size
    have hlD := encD_le gs j
    have hlnb : (encN gs j).length ≤ 20971520 := by
      rw [hln]
      exact Nat.mul_le_mul (show j ≤ 1048576 by omega) (show k + 4 ≤ 20 by omega)
    have HLN := hide hln
    clear hln
    have kc0 : wr.cell? ⟨w.heap.size, 0, none⟩ = some (.string ⟨#[]⟩) := by rw [hnx.cell (by rw [s0]; exact Nat.lt_succ_self _)]; exact KC.out.1
    have kc1 : wr.cell? ⟨w.heap.size, 1, none⟩ = some (.string ⟨#[]⟩) := by rw [hnx.cell (by rw [s0]; exact Nat.lt_succ_self _)]; exact KC.out.2.1
    have kf0 : wr.frozen? ⟨w.heap.size, 0, none⟩ = false := by rw [hnx.frozen (by rw [s0]; exact Nat.lt_succ_self _)]; exact KC.out.2.2.1
    have kf1 : wr.frozen? ⟨w.heap.size, 1, none⟩ = false := by rw [hnx.frozen (by rw [s0]; exact Nat.lt_succ_self _)]; exact KC.out.2.2.2
    have HOI := hide hoi
    have HOD := hide hod
    have HAP := hide hap
    have HNX := hide hnx
    obtain ⟨ad, cd, rfl⟩ := own_shape hod
    have bw : Below w.heap.size w wr := HB0.out.trans (hnx.mono (by omega))
    have BW := hide bw
    clear hoi hod hap hnx
    by_cases hlt : j < gs.length
    · clear kc0 kc1 kf0 kf1
      obtain rfl := hao (by omega)
      have lt0 := hb (by omega)
      obtain ⟨pv, c0, c1, opv⟩ := HCELL.out j hlt
      obtain ⟨hz, herr⟩ := HH.out j hlt
      have opw := own_below opv bw
      obtain ⟨q1, r1, u1, rfl, x11, x12, x13⟩ := own_pairs opw
      obtain ⟨fl, fp, fz, fs⟩ := fine herr
      clear fs fp
      have RC := hide (fun w' (hb : Below wr.heap.size wr w') => rrecord_any q1 r1 0 u1 gs[j].2 w' x11 (fun h => Nat.lt_of_lt_of_le (x12 h) hb.size) (by omega) (fun i hi => by have := x12 (by omega); exact x13.below this hb i hi))
      rw [herr, recS_ok herr] at RC
      have HED := hide (encD_take gs j hlt)
      have HEN := hide (encN_step gs j hlt)
      have hrl := recL_len gs[j].2
      have hle2 := encD_le gs (j + 1)
      rw [HED.out, List.length_append] at hle2
      have rt1 : Hid ((strOf (recL gs[j].2)).data.toList = recL gs[j].2) := rfl
      have rt2 : (strOf (recL gs[j].2)).size = (recL gs[j].2).length := strOf_size _
      have hprev : ∀ i, j = i + 1 → ∃ H0, wr.cell? ⟨g, i * 2, none⟩ = some (.string H0) ∧ (Op.bytesLess gs[j].1.toList H0.toList || gs[j].1.toList == H0.toList) = false := fun i hi => by
        subst hi
        obtain ⟨_, e0, _, _⟩ := HCELL.out i (by omega)
        exact ⟨gs[i].1, by rw [BW.out.cell (by exact lt0)]; exact e0, HUP.out i hlt⟩
      have HPREV := hide hprev
      rw [← bw.cell (by exact lt0)] at c0 c1
      have hji : (j : Int) < (gs.length : Int) := by omega
      clear opv opw x11 x12 x13 bw hprev herr
      generalize gs[j].1 = H at *
      generalize hYL : gs[j].2.length = YL at *
      clear hYL
      generalize strOf (recL gs[j].2) = RT at *
      generalize recL gs[j].2 = RL at *
      have hne : ((H.size : Int) != (k : Int)) = false := by rw [hz]; simp
      obtain ⟨WA, hWA⟩ : ∃ WA, WA = wr.alloc (.cells #[.string H, .slice q1 YL u1] 49) := ⟨_, rfl⟩
      have sA : WA.heap.size = wr.heap.size + 1 := by rw [hWA]; simp
      have bA : Below wr.heap.size wr WA := by rw [hWA]; exact (Below.refl _ wr).alloc (Nat.le_refl _) _
      have p0 : WA.cell? ⟨wr.heap.size, 0, none⟩ = some (.string H) := by rw [hWA]; simp
      have p1 : WA.cell? ⟨wr.heap.size, 1, none⟩ = some (.slice q1 YL u1) := by rw [hWA]; simp
      have BA := hide bA
      have D4 := hide (fun w' => digits_any (encD (gs.take j)).length 4 (by omega) (by omega) w')
      have z4 : (strOf (dig 4 (encD (gs.take j)).length)).size = 4 := by rw [strOf_size, dig_len]
      have d4 : Hid ((strOf (dig 4 (encD (gs.take j)).length)).data.toList = dig 4 (encD (gs.take j)).length) := rfl
      generalize strOf (dig 4 (encD (gs.take j)).length) = E4 at *
      have KEY : ∀ nq, ∀ w2, Below (WA.drewN nq).heap.size (WA.drewN nq) w2 → Below wr.heap.size wr w2 ∧ w2.cell? ⟨wr.heap.size, 0, none⟩ = some (.string H) := fun nq w2 hb => by
        have hb' : Below WA.heap.size WA w2 := (below_drewN (Below.refl _ WA) nq).trans hb
        exact ⟨BA.out.trans (hb'.mono (by omega)), (hb'.cell (by rw [sA]; exact Nat.lt_succ_self _)).trans p0⟩
      have HKEY := hide KEY
      clear KEY bA
      have HP0 := hide p0
      by_cases hj0 : j = 0
      · subst hj0
        rw [Nat.zero_mul] at c0 c1
        go_wp2_with fail
        rw [← hWA]
        clear hWA
        go_quiet (fail)
        go_wp2_with fail
        refine Calls.mono (RC.out _ (below_drewN BA.out _)) ?_
        rintro e w2 ⟨rfl, hb2⟩
        obtain ⟨B2, c20⟩ := HKEY.out _ w2 hb2
        have s2 := B2.size
        have N2 := hide (HNX.out.trans (B2.mono hsz))
        have OI2 := hide (own_below HOI.out B2)
        have OD2 := hide (own_below HOD.out B2)
        have s02 : W0.heap.size ≤ w2.heap.size := Nat.le_trans hsz s2
        clear hb2 B2
        go_wp2_with (at_builtin; refine wpList_appAny rfl _ _ rfl W0.heap.size _ _ _ H rfl rfl OI2.out (by omega) s02 ?_; intro v3 w3 o3 G3; have s3 := G3.size; have s03 := Nat.le_trans s02 s3; have O3 := hide o3; have AD3 := hide (HAP.out.grew OD2.out G3); have N3 := hide (N2.out.trans (G3.below s02 (fun t ht => (OI2.out.lt t ht).1))); clear o3 G3)
        refine Calls.mono (D4.out _) ?_
        rintro e w4 ⟨rfl, hb4⟩
        have s4 := hb4.size
        have s04 := Nat.le_trans s03 s4
        have O4 := hide (own_below O3.out hb4)
        have OD4 := hide (own_below AD3.out.2 hb4)
        have N4 := hide (N3.out.trans (hb4.mono s03))
        clear hb4
        go_wp2_with (first
          | (at_builtin; refine wpList_appAny rfl _ _ rfl W0.heap.size _ _ _ RT rfl rfl AD5.out.2 (by omega) s05 ?_; intro v6 w6 o6 G6; have O6 := hide o6; have AD6 := hide (AD5.out.1.symm.grew O5.out G6); have N6 := hide (N5.out.trans (G6.below s05 (fun t ht => (AD5.out.2.lt t ht).1))); clear o6 G6)
          | (at_builtin; refine wpList_appAny rfl _ _ rfl W0.heap.size _ _ _ E4 rfl rfl O4.out (by omega) s04 ?_; intro v5 w5 o5 G5; have s5 := G5.size; have s05 := Nat.le_trans s04 s5; have O5 := hide o5; have AD5 := hide (AD3.out.1.grew OD4.out G5); have N5 := hide (N4.out.trans (G5.below s04 (fun t ht => (O4.out.lt t ht).1))); clear o5 G5))
        go_roundw
        case rel =>
          refine ⟨1, by omega, by go_num, ?_, ?_, ?_, AD6.out.1.symm, N6.out⟩
          · rw [HEN.out]; simp only [List.length_append, dig_len, HLN.out, size_data]; rw [hz]; first | omega | (rw [Nat.add_mul]; omega)
          · have := AD6.out.2
            rw [d4.out] at this
            rw [HEN.out]
            simp only [List.map_append, List.length_append, dig_len, size_data] at this ⊢
            rw [z4] at this
            exact this
          · have := O6.out
            rw [rt1.out] at this
            rw [HED.out]
            simp only [List.map_append, List.length_append] at this ⊢
            rw [rt2] at this
            exact this
        case measure => simp [intOf]; omega
      · obtain ⟨i, hi⟩ : ∃ i, j = i + 1 := ⟨j - 1, by omega⟩
        obtain ⟨H0, cp, hle⟩ := HPREV.out i hi
        have pA : WA.cell? ⟨g, i * 2, none⟩ = some (.string H0) := by rw [BA.out.cell (by exact Nat.lt_of_lt_of_le lt0 BW.out.size)]; exact cp
        have hk3 : decide (0 < j) = true := decide_eq_true (by omega)
        have hk4 : (j : Int) - 1 = (i : Int) := by omega
        have hi2 : (i : Int) < (gs.length : Int) := by omega
        have HI := hide hi
        clear hi cp hj0
        go_wp2_with fail
        rw [← hWA]
        clear hWA
        go_quiet (fail)
        go_wp2_with fail
        refine Calls.mono (RC.out _ (below_drewN BA.out _)) ?_
        rintro e w2 ⟨rfl, hb2⟩
        obtain ⟨B2, c20⟩ := HKEY.out _ w2 hb2
        have s2 := B2.size
        have N2 := hide (HNX.out.trans (B2.mono hsz))
        have OI2 := hide (own_below HOI.out B2)
        have OD2 := hide (own_below HOD.out B2)
        have s02 : W0.heap.size ≤ w2.heap.size := Nat.le_trans hsz s2
        clear hb2 B2
        go_wp2_with (at_builtin; refine wpList_appAny rfl _ _ rfl W0.heap.size _ _ _ H rfl rfl OI2.out (by omega) s02 ?_; intro v3 w3 o3 G3; have s3 := G3.size; have s03 := Nat.le_trans s02 s3; have O3 := hide o3; have AD3 := hide (HAP.out.grew OD2.out G3); have N3 := hide (N2.out.trans (G3.below s02 (fun t ht => (OI2.out.lt t ht).1))); clear o3 G3)
        refine Calls.mono (D4.out _) ?_
        rintro e w4 ⟨rfl, hb4⟩
        have s4 := hb4.size
        have s04 := Nat.le_trans s03 s4
        have O4 := hide (own_below O3.out hb4)
        have OD4 := hide (own_below AD3.out.2 hb4)
        have N4 := hide (N3.out.trans (hb4.mono s03))
        clear hb4
        go_wp2_with (first
          | (at_builtin; refine wpList_appAny rfl _ _ rfl W0.heap.size _ _ _ RT rfl rfl AD5.out.2 (by omega) s05 ?_; intro v6 w6 o6 G6; have O6 := hide o6; have AD6 := hide (AD5.out.1.symm.grew O5.out G6); have N6 := hide (N5.out.trans (G6.below s05 (fun t ht => (AD5.out.2.lt t ht).1))); clear o6 G6)
          | (at_builtin; refine wpList_appAny rfl _ _ rfl W0.heap.size _ _ _ E4 rfl rfl O4.out (by omega) s04 ?_; intro v5 w5 o5 G5; have s5 := G5.size; have s05 := Nat.le_trans s04 s5; have O5 := hide o5; have AD5 := hide (AD3.out.1.grew OD4.out G5); have N5 := hide (N4.out.trans (G5.below s04 (fun t ht => (O4.out.lt t ht).1))); clear o5 G5))
        go_roundw
        case rel =>
          refine ⟨j + 1, by omega, by go_num, ?_, ?_, ?_, AD6.out.1.symm, N6.out⟩
          · rw [HEN.out]; simp only [List.length_append, dig_len, HLN.out, size_data]; rw [hz]; first | omega | (rw [Nat.add_mul]; omega)
          · have := AD6.out.2
            rw [d4.out] at this
            rw [HEN.out]
            simp only [List.map_append, List.length_append, dig_len, size_data] at this ⊢
            rw [z4] at this
            exact this
          · have := O6.out
            rw [rt1.out] at this
            rw [HED.out]
            simp only [List.map_append, List.length_append] at this ⊢
            rw [rt2] at this
            exact this
        case measure => simp [intOf]; omega
    · obtain rfl : j = gs.length := by omega
      rw [List.take_length] at HOD hlD
      have hci := own_conv (P := Try.prog) (src := 76) (dst := 9) (l := encN gs gs.length) HOI.out rfl Try.underlying76 Try.underlying5 Try.underlying9
      have hcd := own_conv (P := Try.prog) (src := 76) (dst := 9) (l := encD gs) HOD.out rfl Try.underlying76 Try.underlying5 Try.underlying9
      rw [List.take_length]
      have hbi : ((encD gs).length : Int) ≤ 65536 := by omega
      have HNB := hide (HB0.out.trans (HNX.out.mono (by omega)))
      go_wp2_with fail
      refine bodyPost_ret (v := .tuple #[.agg #[.string (strOf (encN gs gs.length)), .string (strOf (encD gs))], .int .i64 0]) ?_ rfl ⟨rfl, ?_⟩
      · rw [results_cell_tmp rfl]
        go_simp
      · exact (HNB.out.setCell (Nat.le_refl _) _).setCell (Nat.le_refl _) _
end Go.Proofs.Ythihmgdefbahpaa
