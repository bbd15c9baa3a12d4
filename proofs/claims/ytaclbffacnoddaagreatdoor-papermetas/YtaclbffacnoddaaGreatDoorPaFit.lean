import Derived.Test.YtaclbffacnoddaaGreatDoorPart3
import Derived.Deep.RegionHeld3
namespace Go.Proofs.YtaclbffacnoddaaGreatDoor
open Go.RowKit Go.Shelf
/-- what the closure that gets answers, in every world that w grows to -/
def GetsAt (w : World) (f : FD) (n : Int) (t : ByteArray) : Prop := ∀ w', Below w.heap.size w w' → Calls Tryz.prog f.gf f.ca w' fun e w'' => e = .returned (.agg #[.int .i64 n, .string t]) ∧ Below w'.heap.size w' w''
def AllowsIs (f : FD) (n : Int) (t : ByteArray) (ok : Bool) : Prop := ∀ w', Calls Tryz.prog 70 #[.int .i64 f.sh, .agg #[.int .i64 n, .string t], .int .i64 f.lo, .int .i64 f.hi] w' fun e w'' => e = .returned (.bool ok) ∧ Below w'.heap.size w' w''
theorem GetsAt.below {w w1 : World} {f : FD} {n : Int} {t : ByteArray} (h : GetsAt w f n t) (hb : Below w.heap.size w w1) : GetsAt w1 f n t := fun w' hw => h w' (hb.trans (hw.mono hb.size))
set_option maxHeartbeats 2000000 in
set_option maxRecDepth 100000 in
set_option linter.unusedSimpArgs false in
theorem fit1_any (f : FD) (n : Int) (t : ByteArray) (ok : Bool) (w : World) (he : Enters Tryz.prog f.gf) (hg : GetsAt w f n t) (ha : AllowsIs f n t ok) :
    Calls Tryz.prog 69 (#[.agg f.cells.toArray] ++ #[]) w fun e w' => e = .returned (.bool ok) ∧ Below w.heap.size w w' := by
  unfold Enters at he
  obtain ⟨W0, hW0⟩ : ∃ W0, W0 = w.alloc (.cells f.cells.toArray 76) := ⟨_, rfl⟩
  have b0 : Below w.heap.size w W0 := by rw [hW0]; exact (Below.refl _ w).alloc (Nat.le_refl _) _
  have s0 : W0.heap.size = w.heap.size + 1 := by rw [hW0]; simp
  have KC : Hid (∀ w', Below W0.heap.size W0 w' → w'.cell? ⟨w.heap.size, 1, none⟩ = some (.int .i64 f.sh) ∧ w'.cell? ⟨w.heap.size, 2, none⟩ = some (.int .i64 f.lo) ∧ w'.cell? ⟨w.heap.size, 3, none⟩ = some (.int .i64 f.hi) ∧ w'.cell? ⟨w.heap.size, 4, none⟩ = some (.func (.func f.gf) #[] f.ca)) := fun w' hw => by
    have hl : w.heap.size < W0.heap.size := by omega
    rw [hw.cell (by exact hl), hw.cell (by exact hl), hw.cell (by exact hl), hw.cell (by exact hl), hW0]
    exact ⟨by simp [FD.cells], by simp [FD.cells], by simp [FD.cells], by simp [FD.cells]⟩
  have G := hide (hg.below b0)
  have A := hide ha
  have B0 := hide b0
  clear hg ha b0 s0
  unfold FD.cells at hW0 ⊢
  simp only [Array.append_empty]
  go_enter Tryz.func69, Tryz.ntmps69
  go_wp2_with fail
  rw [← hW0]
  clear hW0
  refine wp_region_held_drew (S := fun w' => w'.cell? ⟨w.heap.size, 1, none⟩ = some (.int .i64 f.sh) ∧ w'.cell? ⟨w.heap.size, 2, none⟩ = some (.int .i64 f.lo) ∧ w'.cell? ⟨w.heap.size, 3, none⟩ = some (.int .i64 f.hi) ∧ w'.cell? ⟨w.heap.size, 4, none⟩ = some (.func (.func f.gf) #[] f.ca)) (by kernel_rfl) (KC.out _ (Below.refl _ W0).drew) (fun hHeld => ?_)
  refine wpAnyH_take (i := 0) (v := (.pointer (some ⟨w.heap.size, 1, none⟩))) rfl (by kernel_rfl) (by kernel_rfl) (by kernel_rfl) (fun _ _ _ h => h) (Or.inl ⟨by rfl, ?_⟩) (by assumption) ?_
  · intro w' hSw
    (try dsimp only at hSw)
    go_simp <;> first | exact i64_in (by omega) (by omega) | exact u32_in (by omega) (by omega) | exact u32_add _ _ | (rw [Int.tmod_eq_emod_of_nonneg (by omega)]; omega) | (rw [Int.tdiv_eq_ediv_of_nonneg (by omega)]; omega) | omega
  (try simp only [Act.put, List.setIfInBounds_toArray, List.set_cons_zero, List.set_cons_succ])
  refine wpAnyH_take (i := 1) (v := (.int .i64 f.sh)) rfl (by kernel_rfl) (by kernel_rfl) (by kernel_rfl) (fun _ _ _ h => h) (Or.inl ⟨by rfl, ?_⟩) (by assumption) ?_
  · intro w' hSw
    (try dsimp only at hSw)
    (obtain ⟨hS1, hS2, hS3, hS4⟩ := hSw; go_simp)
  (try simp only [Act.put, List.setIfInBounds_toArray, List.set_cons_zero, List.set_cons_succ])
  refine wpAnyH_take (i := 2) (v := (.pointer (some ⟨w.heap.size, 4, none⟩))) rfl (by kernel_rfl) (by kernel_rfl) (by kernel_rfl) (fun _ _ _ h => h) (Or.inl ⟨by rfl, ?_⟩) (by assumption) ?_
  · intro w' hSw
    (try dsimp only at hSw)
    go_simp <;> first | exact i64_in (by omega) (by omega) | exact u32_in (by omega) (by omega) | exact u32_add _ _ | (rw [Int.tmod_eq_emod_of_nonneg (by omega)]; omega) | (rw [Int.tdiv_eq_ediv_of_nonneg (by omega)]; omega) | omega
  (try simp only [Act.put, List.setIfInBounds_toArray, List.set_cons_zero, List.set_cons_succ])
  refine wpAnyH_take (i := 3) (v := (.func (.func f.gf) #[] f.ca)) rfl (by kernel_rfl) (by kernel_rfl) (by kernel_rfl) (fun _ _ _ h => h) (Or.inl ⟨by rfl, ?_⟩) (by assumption) ?_
  · intro w' hSw
    (try dsimp only at hSw)
    (obtain ⟨hS1, hS2, hS3, hS4⟩ := hSw; go_simp)
  (try simp only [Act.put, List.setIfInBounds_toArray, List.set_cons_zero, List.set_cons_succ])
  refine wpAnyH_take (i := 5) (v := (.pointer (some ⟨w.heap.size, 2, none⟩))) rfl (by kernel_rfl) (by kernel_rfl) (by kernel_rfl) (fun _ _ _ h => h) (Or.inl ⟨by rfl, ?_⟩) (by assumption) ?_
  · intro w' hSw
    (try dsimp only at hSw)
    go_simp <;> first | exact i64_in (by omega) (by omega) | exact u32_in (by omega) (by omega) | exact u32_add _ _ | (rw [Int.tmod_eq_emod_of_nonneg (by omega)]; omega) | (rw [Int.tdiv_eq_ediv_of_nonneg (by omega)]; omega) | omega
  (try simp only [Act.put, List.setIfInBounds_toArray, List.set_cons_zero, List.set_cons_succ])
  refine wpAnyH_take (i := 6) (v := (.int .i64 f.lo)) rfl (by kernel_rfl) (by kernel_rfl) (by kernel_rfl) (fun _ _ _ h => h) (Or.inl ⟨by rfl, ?_⟩) (by assumption) ?_
  · intro w' hSw
    (try dsimp only at hSw)
    (obtain ⟨hS1, hS2, hS3, hS4⟩ := hSw; go_simp)
  (try simp only [Act.put, List.setIfInBounds_toArray, List.set_cons_zero, List.set_cons_succ])
  refine wpAnyH_take (i := 7) (v := (.pointer (some ⟨w.heap.size, 3, none⟩))) rfl (by kernel_rfl) (by kernel_rfl) (by kernel_rfl) (fun _ _ _ h => h) (Or.inl ⟨by rfl, ?_⟩) (by assumption) ?_
  · intro w' hSw
    (try dsimp only at hSw)
    go_simp <;> first | exact i64_in (by omega) (by omega) | exact u32_in (by omega) (by omega) | exact u32_add _ _ | (rw [Int.tmod_eq_emod_of_nonneg (by omega)]; omega) | (rw [Int.tdiv_eq_ediv_of_nonneg (by omega)]; omega) | omega
  (try simp only [Act.put, List.setIfInBounds_toArray, List.set_cons_zero, List.set_cons_succ])
  refine wpAnyH_take (i := 8) (v := (.int .i64 f.hi)) rfl (by kernel_rfl) (by kernel_rfl) (by kernel_rfl) (fun _ _ _ h => h) (Or.inl ⟨by rfl, ?_⟩) (by assumption) ?_
  · intro w' hSw
    (try dsimp only at hSw)
    (obtain ⟨hS1, hS2, hS3, hS4⟩ := hSw; go_simp)
  (try simp only [Act.put, List.setIfInBounds_toArray, List.set_cons_zero, List.set_cons_succ])
  refine wpAnyH_ready (rs := [4]) (by kernel_rfl) (by simp) ?_
  refine AllReadyH.cons rfl (fun K hK => ?_) AllReadyH.nil
  go_simp
  refine Calls.mono (G.out _ (Below.refl _ W0).drew) ?_
  rintro e w1 ⟨rfl, b1⟩
  have B1 := hide ((Below.refl _ W0).drew.trans (b1.mono (Nat.le_refl _)))
  clear b1
  refine hK.out _ _ (KC.out _ B1.out) (fun hHeld => ?_)
  clear hK
  (try simp only [Act.put, List.setIfInBounds_toArray, List.set_cons_zero, List.set_cons_succ])
  refine wpAnyH_ready (rs := [9]) (by kernel_rfl) (by simp) ?_
  refine AllReadyH.cons rfl (fun K hK => ?_) AllReadyH.nil
  go_simp
  refine Calls.mono (A.out _) ?_
  rintro e w2 ⟨rfl, b2⟩
  have B2 := hide (B1.out.trans (b2.mono B1.out.size))
  clear b2
  refine hK.out _ _ (KC.out _ B2.out) (fun hHeld => ?_)
  clear hK
  (try simp only [Act.put, List.setIfInBounds_toArray, List.set_cons_zero, List.set_cons_succ])
  refine wpAnyH_ready (rs := [10]) (by kernel_rfl) (by simp) ?_
  refine AllReadyH.cons rfl (fun K hK => ?_) AllReadyH.nil
  go_simp
  refine hK.out _ _ (KC.out _ B2.out) (fun hHeld => ?_)
  clear hK
  (try simp only [Act.put, List.setIfInBounds_toArray, List.set_cons_zero, List.set_cons_succ])
  refine wpAnyH_done (by kernel_rfl) ?_ _
  go_wp2_with fail
  go_ret
  exact ⟨rfl, B0.out.trans (B2.out.mono B0.out.size)⟩
theorem TabAt.below {b : Nat} {w w' : World} {ts : List FD} (h : TabAt b w ts) (hl : b < w.heap.size) (hb : Below w.heap.size w w') : TabAt b w' ts := fun i hi j v hv => by
  rw [hb.cell (by exact hl)]; exact h i hi j v hv
def allB (n : Nat) (ok : Nat → Bool) : Bool := (List.range n).all ok
theorem allB_true {n : Nat} {ok : Nat → Bool} (h : ∀ j, j < n → ok j = true) : allB n ok = true := by
  unfold allB; rw [List.all_eq_true]; intro x hx; exact h x (by simpa using hx)
theorem allB_false {n i : Nat} {ok : Nat → Bool} (h : i < n) (hf : ok i = false) : allB n ok = false := by
  unfold allB; rw [List.all_eq_false]; exact ⟨i, by simpa using h, by rw [hf]; simp⟩
theorem fit_step {w w' w'' : World} {e : Ending} {i : Nat} {ok : Nat → Bool} (e1 : e = .returned (.bool (ok i))) (b0 : Below w.heap.size w w') (b1 : Below w'.heap.size w' w'') (h : ∀ j, j < i → ok j = true) : (e = .returned (.bool true) ∧ Below w.heap.size w w'' ∧ ∀ j, j < i + 1 → ok j = true) ∨ (e = .returned (.bool false) ∧ Below w.heap.size w w'' ∧ ok i = false) := by
  have b2 := b0.trans (b1.mono b0.size)
  rcases Bool.eq_false_or_eq_true (ok i) with hk | hk
  · refine .inl ⟨by rw [e1, hk], b2, fun j hj => ?_⟩
    rcases Nat.lt_or_ge j i with q | q
    · exact h j q
    · rw [show j = i by omega]; exact hk
  · exact .inr ⟨by rw [e1, hk], b2, hk⟩
set_option maxHeartbeats 2000000 in
set_option maxRecDepth 100000 in
/-- fit, over a table in memory -/
theorem fit_any (b cap : Nat) (ts : List FD) (w : World) (nv : Nat → Int) (tv : Nat → ByteArray) (ok : Nat → Bool) (hlen : ts.length ≤ 1000000) (hT : TabAt b w ts) (hb : b < w.heap.size)
    (he : ∀ i (h : i < ts.length), Enters Tryz.prog ts[i].gf) (hg : ∀ i (h : i < ts.length), GetsAt w ts[i] (nv i) (tv i)) (ha : ∀ i (h : i < ts.length), AllowsIs ts[i] (nv i) (tv i) (ok i)) :
    Calls Tryz.prog 25 #[.slice (some ⟨b, 0, none⟩) ts.length cap] w fun e w' => e = .returned (.bool (allB ts.length ok)) ∧ Below w.heap.size w w' := by
  have C := hide (walk_any 69 (enters_of Tryz.func69 (by kernel_rfl) rfl) #[] b cap ts w (fun i w' => Below w.heap.size w w' ∧ ∀ j, j < i → ok j = true) (fun i w' => Below w.heap.size w w' ∧ ok i = false) hlen ⟨Below.refl _ _, fun j hj => by omega⟩
    (fun i w' _ h => hT.below hb h.1) (fun i w' o _ h => ⟨h.1.alloc h.1.size o, h.2⟩)
    (fun i h w' hI => (fit1_any ts[i] (nv i) (tv i) (ok i) w' (he i h) ((hg i h).below hI.1) (ha i h)).mono fun e w'' ⟨e1, b1⟩ => fit_step e1 hI.1 b1 hI.2))
  have D := hide (C.out.mono (R' := fun e w' => e = .returned (.bool (allB ts.length ok)) ∧ Below w.heap.size w w') fun e w' h => by
    rcases h with ⟨rfl, h1, h2⟩ | ⟨rfl, i, hi, h1, h2⟩
    · exact ⟨by rw [allB_true h2], h1⟩
    · exact ⟨by rw [allB_false hi h2], h1⟩)
  clear hT he hg ha C
  have hmf : ∀ (fn : Fn) (first cap : Array Value) (w : World), (Instr.makeFunc fn first cap).run Tryz.prog w = .ok (.func fn first cap) w := fun _ _ _ _ => rfl
  go_enter Tryz.func25, Tryz.ntmps25
  go_wp2_with fail
  refine Calls.mono D.out ?_
  rintro e w1 ⟨rfl, h1⟩
  go_wp2
  go_ret
  exact ⟨rfl, h1⟩
end Go.Proofs.YtaclbffacnoddaaGreatDoor
