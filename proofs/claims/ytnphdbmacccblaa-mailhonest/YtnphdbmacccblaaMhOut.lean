import Derived.Test.YtnphdbmacccblaaMhNote
namespace Go.Proofs.Ytnphdbmacccblaa
open Go.RowKit
set_option maxHeartbeats 8000000 in
set_option maxRecDepth 100000 in
set_option linter.unusedSimpArgs false in
set_option linter.unusedVariables false in
theorem out_any {w : World} {S : Nat → Prop} {Eb : Nat} {A : AB} (h : Bo w S Eb A) (x : Lt) (k : Nat) (hk : k < A.length) (hx : A[k] = (x, false)) (hid : x.id = (k : Int) + 1) (hA : A.length ≤ 3298534883328) :
    Calls Try.prog 39 #[.pointer (some ⟨Eb, 0, none⟩), x.v] w fun e w' => e = .returned (.bool true) ∧ Bo w' S Eb (A.set k (x, true)) ∧ Kp w w' S := by
  obtain ⟨vA, vG, h⟩ := h
  have e1 : (A.map (·.1)).length = A.length := List.length_map _
  have e2 : (A.map (·.2)).length = A.length := List.length_map _
  obtain ⟨ga, capa, hvA⟩ := own_g h.rA (by omega)
  obtain ⟨g, capg, hvG⟩ := own_g h.rG (by omega)
  rw [e1] at hvA
  rw [e2] at hvG
  subst hvA
  subst hvG
  obtain ⟨W0, hW0⟩ : ∃ W0, W0 = w.alloc (.cells #[.int .i64 x.id, .int .i64 x.fr, .int .i64 x.td, .string x.tx] 33) := ⟨_, rfl⟩
  obtain ⟨I, hI⟩ : ∃ I, I = w.heap.size := ⟨_, rfl⟩
  have HX : Hid (BkY W0 S Eb (.slice (some ⟨ga, 0, none⟩) A.length capa) (.slice (some ⟨g, 0, none⟩) A.length capg) (A.map (·.1)) (A.map (·.2))) := by subst hW0; exact h.alloc _
  have II : Hid (LtAt W0 I x) := by subst hW0; subst hI; exact heap_last w _
  have K0 : Hid (Kp w W0 S) := by subst hW0; exact (Kp.refl w S).alloc _
  have NI : Hid (¬ S I) := fun e => by have := h.sb I e; omega
  have x0 : W0.cell? ⟨g, k, none⟩ = some (.bool false) := by
    have z : BkY W0 S Eb (.slice (some ⟨ga, 0, none⟩) A.length capa) (.slice (some ⟨g, 0, none⟩) (A.map (·.2)).length capg) (A.map (·.1)) (A.map (·.2)) := by rw [e2]; exact HX.out
    have := z.gn k (by omega)
    rw [List.getElem_map, hx] at this
    exact this
  obtain ⟨l0, l1, l2, l3⟩ : W0.cell? ⟨ga, k * 4, none⟩ = some (.int .i64 x.id) ∧ W0.cell? ⟨ga, k * 4 + 1, none⟩ = some (.int .i64 x.fr) ∧ W0.cell? ⟨ga, k * 4 + 2, none⟩ = some (.int .i64 x.td) ∧ W0.cell? ⟨ga, k * 4 + 3, none⟩ = some (.string x.tx) := by
    have z : BkY W0 S Eb (.slice (some ⟨ga, 0, none⟩) (A.map (·.1)).length capa) (.slice (some ⟨g, 0, none⟩) A.length capg) (A.map (·.1)) (A.map (·.2)) := by rw [e1]; exact HX.out
    have := z.lt k (by omega)
    rw [List.getElem_map, hx] at this
    exact this
  have HA := hide hx
  have i0 := II.out.c0
  have i1 := II.out.c1
  have i2 := II.out.c2
  have i3 := II.out.c3
  have k0 := HX.out.c0
  have k1 := HX.out.c1
  have HID := hide hid
  rw [hid] at l0 i0
  have c1 : decide ((k : Int) + 1 < 1) = false := by simp; omega
  have c2 : decide ((A.length : Int) < (k : Int) + 1) = false := by simp; omega
  have w1 : wrap64 ((k : Int) + 1 - 1) = (k : Int) := by rw [wrap_in (by omega) (by omega)]; omega
  have hki : (k : Int) < (A.length : Int) := by omega
  clear h e1 e2 hx hid
  go_enter Try.func39, Try.ntmps39
  unfold Lt.v
  go_upto_region 1 with fail
  rw [← hW0, ← hI]
  clear hW0 hI
  go_quiet (fail)
  have I2 : Hid (LtAt (W0.drewN nq) I x) := II.out
  have X2 := hide (HX.out.kp (Kp.of_below (show Below W0.heap.size W0 (W0.drewN nq) from ⟨rfl, rfl, rfl, Nat.le_refl _, fun _ _ => rfl⟩) non) (fun _ _ f => f))
  have K2 : Hid (Kp w (W0.drewN nq) S) := K0.out.drewN nq
  generalize W0.drewN nq = W2 at *
  clear x0 l0 l1 l2 l3 i0 i1 i2 i3 k0 k1 II HX K0
  go_upto_region 3 with fail
  have X3 := hide X2.out.drew
  have I3 : Hid (LtAt W2.drew I x) := I2.out
  have gS : Hid (S g ∧ g ≠ Eb ∧ g ≠ I) := ⟨X2.out.sG g rfl, fun e => own_ty X2.out.rG X2.out.blk (by decide) (by rw [← e]; rfl), fun e => own_ty X2.out.rG (show W2.heap[I]? = _ from I2.out) (by decide) (by rw [← e]; rfl)⟩
  have s0 : W2.drew.cell? ⟨Eb, 1, none⟩ = some (.slice (some ⟨g, 0, none⟩) A.length capg) ∧ W2.drew.cell? ⟨I, 0, none⟩ = some (.int .i64 ((k : Int) + 1)) := ⟨X3.out.c1, by rw [← HID.out]; exact I3.out.c0⟩
  have SH := hide s0
  clear s0
  refine wp_region_held_drew (S := fun X => X.cell? ⟨Eb, 1, none⟩ = some (.slice (some ⟨g, 0, none⟩) A.length capg) ∧ X.cell? ⟨I, 0, none⟩ = some (.int .i64 ((k : Int) + 1))) (by kernel_rfl) SH.out (fun hHeld => ?_)
  refine wpAnyH_take (i := 0) (v := (.pointer (some ⟨Eb, 0, none⟩))) rfl (by kernel_rfl) (by kernel_rfl) (by kernel_rfl) (fun _ _ _ h => h) (Or.inl ⟨by rfl, ?_⟩) (by assumption) ?_
  · intro w' hSw
    (try dsimp only at hSw)
    go_simp
  (try simp only [Act.put, List.setIfInBounds_toArray, List.set_cons_zero, List.set_cons_succ])
  refine wpAnyH_take (i := 1) (v := (.pointer (some ⟨Eb, 0, none⟩))) rfl (by kernel_rfl) (by kernel_rfl) (by kernel_rfl) (fun _ _ _ h => h) (Or.inl ⟨by rfl, ?_⟩) (by assumption) ?_
  · intro w' hSw
    (try dsimp only at hSw)
    go_simp
  (try simp only [Act.put, List.setIfInBounds_toArray, List.set_cons_zero, List.set_cons_succ])
  refine wpAnyH_take (i := 2) (v := (.pointer (some ⟨Eb, 1, none⟩))) rfl (by kernel_rfl) (by kernel_rfl) (by kernel_rfl) (fun _ _ _ h => h) (Or.inl ⟨by rfl, ?_⟩) (by assumption) ?_
  · intro w' hSw
    (try dsimp only at hSw)
    go_simp
  (try simp only [Act.put, List.setIfInBounds_toArray, List.set_cons_zero, List.set_cons_succ])
  refine wpAnyH_take (i := 3) (v := (.slice (some ⟨g, 0, none⟩) A.length capg)) rfl (by kernel_rfl) (by kernel_rfl) (by kernel_rfl) (fun _ _ _ h => h) (Or.inl ⟨by rfl, ?_⟩) (by assumption) ?_
  · intro w' hSw
    (try dsimp only at hSw)
    (have y := hSw.1; go_simp)
  (try simp only [Act.put, List.setIfInBounds_toArray, List.set_cons_zero, List.set_cons_succ])
  refine wpAnyH_take (i := 4) (v := (.pointer (some ⟨I, 0, none⟩))) rfl (by kernel_rfl) (by kernel_rfl) (by kernel_rfl) (fun _ _ _ h => h) (Or.inl ⟨by rfl, ?_⟩) (by assumption) ?_
  · intro w' hSw
    (try dsimp only at hSw)
    go_simp
  (try simp only [Act.put, List.setIfInBounds_toArray, List.set_cons_zero, List.set_cons_succ])
  refine wpAnyH_take (i := 5) (v := (.int .i64 ((k : Int) + 1))) rfl (by kernel_rfl) (by kernel_rfl) (by kernel_rfl) (fun _ _ _ h => h) (Or.inl ⟨by rfl, ?_⟩) (by assumption) ?_
  · intro w' hSw
    (try dsimp only at hSw)
    (have y := hSw.2; go_simp)
  (try simp only [Act.put, List.setIfInBounds_toArray, List.set_cons_zero, List.set_cons_succ])
  refine wpAnyH_take (i := 6) (v := (.int .i64 (k : Int))) rfl (by kernel_rfl) (by kernel_rfl) (by kernel_rfl) (fun _ _ _ h => h) (Or.inl ⟨by rfl, ?_⟩) (by assumption) ?_
  · intro w' hSw
    (try dsimp only at hSw)
    (go_simp; exact i64_in (by omega) (by omega))
  (try simp only [Act.put, List.setIfInBounds_toArray, List.set_cons_zero, List.set_cons_succ])
  refine wpAnyH_take (i := 7) (v := (.pointer (some ⟨g, k, none⟩))) rfl (by kernel_rfl) (by kernel_rfl) (by kernel_rfl) (fun _ _ _ h => h) (Or.inl ⟨by rfl, ?_⟩) (by assumption) ?_
  · intro w' hSw
    (try dsimp only at hSw)
    go_simp
  (try simp only [Act.put, List.setIfInBounds_toArray, List.set_cons_zero, List.set_cons_succ])
  have x9 : W2.drew.cell? ⟨g, k, none⟩ = some (.bool false) := by
    have z : BkY W2.drew S Eb (.slice (some ⟨ga, 0, none⟩) A.length capa) (.slice (some ⟨g, 0, none⟩) (A.map (·.2)).length capg) (A.map (·.1)) (A.map (·.2)) := by rw [List.length_map]; exact X3.out
    have := z.gn k (by rw [List.length_map]; exact hk)
    rw [List.getElem_map, HA.out] at this
    exact this
  have z9 : W2.drew.frozen? ⟨g, k, none⟩ = false := by
    have hrG := X3.out.rG
    rw [List.length_map] at hrG
    exact hrG.frozenAt k
  obtain ⟨b9, k9⟩ := X3.out.kill k x hk (by rw [HA.out])
  have Z9 : Hid (Bo (W2.drew.setCell ⟨g, k, none⟩ (.bool true)) S Eb (A.set k (x, true)) ∧ Kp w (W2.drew.setCell ⟨g, k, none⟩ (.bool true)) S) := ⟨b9, K2.out.drew.trans k9 (fun _ e => Or.inl e)⟩
  have S9 : Hid ((W2.drew.setCell ⟨g, k, none⟩ (.bool true)).cell? ⟨Eb, 1, none⟩ = some (.slice (some ⟨g, 0, none⟩) A.length capg) ∧ (W2.drew.setCell ⟨g, k, none⟩ (.bool true)).cell? ⟨I, 0, none⟩ = some (.int .i64 ((k : Int) + 1))) := by
    refine ⟨?_, ?_⟩
    · rw [World.cell?_of_block (w := W2.drew) (Below.heap_setCell _ _ _ _ (fun e => gS.out.2.1 e.symm))]; exact SH.out.1
    · rw [World.cell?_of_block (w := W2.drew) (Below.heap_setCell _ _ _ _ (fun e => gS.out.2.2 e.symm))]; exact SH.out.2
  clear b9 k9
  obtain ⟨W9, hW9⟩ : ∃ W9, W9 = W2.drew.setCell ⟨g, k, none⟩ (.bool true) := ⟨_, rfl⟩
  rw [← hW9] at Z9 S9
  refine wpAnyH_ready (rs := [8]) (by kernel_rfl) (by simp) ?_
  refine AllReadyH.cons rfl (fun K hK => ?_) AllReadyH.nil
  go_simp
  first | rw [← hW9] | (rw [hW9] at S9 Z9)
  clear hW9
  refine hK.out _ _ (S9.out) (fun hHeld => ?_)
  clear hK
  (try simp only [Act.put, List.setIfInBounds_toArray, List.set_cons_zero, List.set_cons_succ])
  refine wpAnyH_done (by kernel_rfl) ?_ _
  clear hHeld x9 z9
  go_wp2_with fail
  go_ret
  exact ⟨rfl, Z9.out⟩
end Go.Proofs.Ytnphdbmacccblaa
