import Derived.Test.YtgdibjnendjhnaaGreatDoorW12
import Derived.Deep.RegionHeld3
import Derived.Deep.AppendLies
import Derived.Deep.RegionLaw
namespace Go.Proofs.YtgdibjnendjhnaaGreatDoor
open Go.RowKit
theorem setCell_below {B : Nat} {a w : World} {b j : Nat} {v : Value} (h : Below B a w) (hb : B ≤ b) : Below B a (w.setCell ⟨b, j, none⟩ v) := h.setCell hb v
theorem row_cells2 {w : World} {B : Nat} {cs : Array Value} {t : TypeId} {fr : Nat × Nat} (h : w.heap[B]? = some (.cells cs t fr)) (j : Nat) : w.cell? ⟨B, j, none⟩ = cs[j]? := cell_of_row w B j cs t fr h
theorem new2 (w : World) (o1 o2 : Obj) : ((w.alloc o1).alloc o2).heap[w.heap.size + 1]? = some o2 := by have := heap_alloc_new (w.alloc o1) o2; rwa [World.size_alloc] at this
theorem info113 : (Tryz.prog.info? 113).map (fun i => (i.zero, i.size, i.bytes)) = some (some (.agg #[.string ByteArray.empty, .int .i64 0]), 2, 24) := by kernel_rfl
theorem info94 : (Tryz.prog.info? 94).map (fun i => (i.zero, i.size, i.bytes)) = some (some (.agg #[.int .i64 0, .string ByteArray.empty, .slice none 0 0, .string ByteArray.empty, .slice none 0 0]), 5, 88) := by kernel_rfl
theorem info130 : (Tryz.prog.info? 130).map (fun i => (i.zero, i.size, i.bytes)) = some (some (.agg #[.int .i64 0, .int .i64 0, .int .i64 0, .string ByteArray.empty, .string ByteArray.empty, .string ByteArray.empty]), 6, 72) := by kernel_rfl
set_option maxHeartbeats 2000000 in
set_option maxRecDepth 100000 in
theorem ract_ok (r : Nat) (w : World) (h3 : w.cell? ⟨r, 3, none⟩ = some (.int .i64 (-1))) (h1 : w.cell? ⟨r, 1, none⟩ = some (.int .i64 0)) (f1 : w.frozen? ⟨r, 1, none⟩ = false) :
    Calls Tryz.prog 85 #[.pointer (some ⟨r, 0, none⟩)] w fun e w' => e = .returned (.int .i64 0) ∧ w' = w.setCell ⟨r, 1, none⟩ (.int .i64 1) := by
  go_enter Tryz.func85, Tryz.ntmps85
  go_wp2
  go_ret
  exact ⟨rfl, rfl⟩
set_option maxHeartbeats 2000000 in
set_option maxRecDepth 100000 in
theorem having_none (x : ByteArray) (t : Int) (w : World) :
    Calls Tryz.prog 112 #[.slice none 0 0, .string x, .int .i64 t] w fun e w' => ∃ g c, e = .returned (.slice (some ⟨g, 0, none⟩) 1 c) ∧ Below w.heap.size w w' := by
  obtain ⟨i0, hi0, hz0, hz1, hz2⟩ := info_parts info113
  go_enter Tryz.func112, Tryz.ntmps112
  go_wp2
  refine wp_loop_rounds 1 ?_
  rw [rounds_succ]
  go_wp2_with (at_builtin; refine wpList_append_own _ rfl _ _ 90 rfl w.heap.size 113 i0 (.agg #[.string ByteArray.empty, .int .i64 0]) 2 24 Tryz.underlying90 hi0 hz0 hz1 hz2 rfl (by decide) (.slice none 0 0) 0 [] rfl (World.ownsRow_nil _ _ _ _) ⟨w.heap.size, 0, none⟩ 1 1 [.string x, .int .i64 t] rfl rfl (World.news_of_block (cs := #[.string x, .int .i64 t]) (t := 113) (fr := (0, 0)) (heap_alloc_new w _)) (by simp [Value.oneCell']) (by unfold maxLen; omega) (by omega) (by simp) ?_; intro v' w3 hown' hgrow3 hnil3)
  go_ret
  obtain ⟨g, c, hv⟩ := Joins.ownsRow_form hown' (by omega)
  exact ⟨⟨g, c, by rw [hv]; rfl⟩, ((Below.refl _ _).alloc (Nat.le_refl _) _).grown hgrow3 (by simp) (by simp [Value.ownBlock])⟩
set_option maxHeartbeats 2000000 in
set_option maxRecDepth 100000 in
theorem done_put (x : ByteArray) (th n : Int) (w : World) :
    Calls Tryz.prog 86 #[.agg #[.string ⟨#[]⟩, .slice none 0 0], .agg #[.int .i64 th, .int .i64 3, .int .i64 n, .string x, .string ⟨#[]⟩, .string ⟨#[]⟩]] w fun e w' => ∃ g c, e = .returned (.agg #[.string ⟨#[]⟩, .slice (some ⟨g, 0, none⟩) 1 c]) ∧ Below w.heap.size w w' := by
  have HH : Hid (∀ w', Calls Tryz.prog 112 #[.slice none 0 0, .string x, .int .i64 n] w' fun e w'' => ∃ g c, e = .returned (.slice (some ⟨g, 0, none⟩) 1 c) ∧ Below w'.heap.size w' w'') := fun w' => having_none x n w'
  go_enter Tryz.func86, Tryz.ntmps86
  go_wp2_with (go_at_call 112; refine Calls.mono (HH.out _) ?_; rintro e w1 ⟨g, c, rfl, hb⟩; have q0 : w1.cell? ⟨w.heap.size, 0, none⟩ = some (.string ⟨#[]⟩) := (by rw [hb.cell (p := ⟨w.heap.size, 0, none⟩) (by simp; omega)]; simp [go_sem]); have q1 : w1.cell? ⟨w.heap.size, 1, none⟩ = some (.slice none 0 0) := (by rw [hb.cell (p := ⟨w.heap.size, 1, none⟩) (by simp; omega)]; simp [go_sem]); have q2 : w1.cell? ⟨w.heap.size + 1 + 1, 0, none⟩ = some (.string ⟨#[]⟩) := (by rw [hb.cell (p := ⟨w.heap.size + 1 + 1, 0, none⟩) (by simp)]; simp [go_sem]); have q3 : w1.cell? ⟨w.heap.size + 1 + 1, 1, none⟩ = some (.slice none 0 0) := (by rw [hb.cell (p := ⟨w.heap.size + 1 + 1, 1, none⟩) (by simp)]; simp [go_sem]); have r1 : w1.frozen? ⟨w.heap.size, 1, none⟩ = false := (by rw [hb.frozen (p := ⟨w.heap.size, 1, none⟩) (by simp; omega)]; simp [go_sem]); have r2 : w1.frozen? ⟨w.heap.size + 1 + 1, 0, none⟩ = false := (by rw [hb.frozen (p := ⟨w.heap.size + 1 + 1, 0, none⟩) (by simp)]; simp [go_sem]); have r3 : w1.frozen? ⟨w.heap.size + 1 + 1, 1, none⟩ = false := (by rw [hb.frozen (p := ⟨w.heap.size + 1 + 1, 1, none⟩) (by simp)]; simp [go_sem]))
  have hB : Below w.heap.size w w1 := ((((Below.refl _ _).alloc (Nat.le_refl _) _).alloc (by simp) _).alloc (by simp; omega) _).trans (hb.mono (by simp; omega))
  refine bodyPost_ret (v := .agg #[.string ⟨#[]⟩, .slice (some ⟨g, 0, none⟩) 1 c]) (by simp [results, Tryz.results86, go_sem, q2, q3]) rfl ⟨g, c, rfl, ?_⟩
  repeat (first | exact hB | refine setCell_below ?_ (by omega))
set_option linter.unusedSimpArgs false in
set_option maxHeartbeats 4000000 in
set_option maxRecDepth 100000 in
set_option linter.unusedSimpArgs false in
theorem rchange_ok (B r g cap : Nat) (x : ByteArray) (n : Int) (w : World) (hBr : B ≤ r) (hBg : B ≤ g) (hrg : r ≠ g) (hr : r < w.heap.size) (hg : g < w.heap.size)
    (h1 : w.cell? ⟨r, 1, none⟩ = some (.int .i64 0)) (h3 : w.cell? ⟨r, 3, none⟩ = some (.int .i64 (-1))) (h5 : w.cell? ⟨r, 5, none⟩ = some (.slice (some ⟨g, 0, none⟩) 2 cap)) (h6 : w.cell? ⟨r, 6, none⟩ = some (.slice none 0 0))
    (g1 : w.cell? ⟨g, 1, none⟩ = some (.string ⟨#[]⟩)) (g2 : w.cell? ⟨g, 2, none⟩ = some (.slice none 0 0))
    (fr : ∀ j, w.frozen? ⟨r, j, none⟩ = false) (fg : ∀ j, w.frozen? ⟨g, j, none⟩ = false) :
    Calls Tryz.prog 62 #[.pointer (some ⟨r, 0, none⟩), .agg #[.int .i64 0, .int .i64 3, .int .i64 n, .string x, .string ⟨#[]⟩, .string ⟨#[]⟩]] w fun e w' => e = .returned (.int .i64 0) ∧ Below B w w' := by
  have HA : Hid (∀ ob, Calls Tryz.prog 85 #[.pointer (some ⟨r, 0, none⟩)] (w.alloc ob) fun e w' => e = .returned (.int .i64 0) ∧ Keeps (fun k => k = r) (w.alloc ob) w' ∧ w'.cell? ⟨r, 5, none⟩ = some (.slice (some ⟨g, 0, none⟩) 2 cap) ∧ w'.cell? ⟨r, 6, none⟩ = some (.slice none 0 0) ∧ w'.frozen? ⟨r, 6, none⟩ = false) := fun ob => by
    have hb := (Below.refl w.heap.size w).alloc (Nat.le_refl _) ob
    refine (ract_ok r (w.alloc ob) ((hb.cell (p := ⟨r, 3, none⟩) hr).trans h3) ((hb.cell (p := ⟨r, 1, none⟩) hr).trans h1) ((hb.frozen (p := ⟨r, 1, none⟩) hr).trans (fr 1))).mono ?_
    rintro e w' ⟨he, rfl⟩
    refine ⟨he, Keeps.setCell (S := fun k => k = r) (Keeps.refl _ _) (Or.inl rfl) _, ?_, ?_, ?_⟩
    · rw [World.cell?_setCell_other _ _ _ _ (by simp)]; exact (hb.cell (p := ⟨r, 5, none⟩) hr).trans h5
    · rw [World.cell?_setCell_other _ _ _ _ (by simp)]; exact (hb.cell (p := ⟨r, 6, none⟩) hr).trans h6
    · rw [World.frozen?_setCell]; exact (hb.frozen (p := ⟨r, 6, none⟩) hr).trans (fr 6)
  have HD : Hid (∀ w', Calls Tryz.prog 86 #[.agg #[.string ⟨#[]⟩, .slice none 0 0], .agg #[.int .i64 0, .int .i64 3, .int .i64 n, .string x, .string ⟨#[]⟩, .string ⟨#[]⟩]] w' fun e w'' => ∃ g c, e = .returned (.agg #[.string ⟨#[]⟩, .slice (some ⟨g, 0, none⟩) 1 c]) ∧ Below w'.heap.size w' w'') := fun w' => done_put x 0 n w'
  obtain ⟨i0, hi0, hz0, hz1, hz2⟩ := info_parts info130
  have fg1 := fg 1
  have fg2 := fg 2
  clear h1 h3 h5 h6 fr fg
  go_enter Tryz.func62, Tryz.ntmps62
  go_wp2_with (go_at_call 85; refine Calls.mono (HA.out _) ?_; rintro e w1 ⟨rfl, hk1, d5, d6, f6⟩)
  have hblk : w1.heap[w.heap.size]? = some (.cells #[.int .i64 0, .int .i64 3, .int .i64 n, .string x, .string ⟨#[]⟩, .string ⟨#[]⟩] 130) := by
    rw [hk1.block w.heap.size (by simp) (by omega)]
    exact heap_alloc_new w _
  have e0 := row_cells2 hblk 0
  have e1 := row_cells2 hblk 1
  have e2 := row_cells2 hblk 2
  have e3 := row_cells2 hblk 3
  have e4 := row_cells2 hblk 4
  have e5 := row_cells2 hblk 5
  simp at e0 e1 e2 e3 e4 e5
  have hs1 : w.heap.size < w1.heap.size := by have := hk1.size; simp at this; omega
  have d1 : w1.cell? ⟨g, 1, none⟩ = some (.string ⟨#[]⟩) := by rw [hk1.cell (p := ⟨g, 1, none⟩) (by simp; omega) (fun e => hrg e.symm), ((Below.refl w.heap.size w).alloc (Nat.le_refl _) _).cell (p := ⟨g, 1, none⟩) hg]; exact g1
  have d2 : w1.cell? ⟨g, 2, none⟩ = some (.slice none 0 0) := by rw [hk1.cell (p := ⟨g, 2, none⟩) (by simp; omega) (fun e => hrg e.symm), ((Below.refl w.heap.size w).alloc (Nat.le_refl _) _).cell (p := ⟨g, 2, none⟩) hg]; exact g2
  have f1 : w1.frozen? ⟨g, 1, none⟩ = false := by rw [hk1.frozen (p := ⟨g, 1, none⟩) (by simp; omega) (fun e => hrg e.symm), ((Below.refl w.heap.size w).alloc (Nat.le_refl _) _).frozen (p := ⟨g, 1, none⟩) hg]; exact fg1
  have f2 : w1.frozen? ⟨g, 2, none⟩ = false := by rw [hk1.frozen (p := ⟨g, 2, none⟩) (by simp; omega) (fun e => hrg e.symm), ((Below.refl w.heap.size w).alloc (Nat.le_refl _) _).frozen (p := ⟨g, 2, none⟩) hg]; exact fg2
  have hB1 : Below B w w1 := (((Keeps.refl _ w).alloc _).trans hk1).below (by omega) (fun k e => by subst e; exact hBr)
  have hr1 : r < w1.heap.size := by omega
  have hg1 : g < w1.heap.size := by omega
  clear hblk g1 g2 fg1 fg2 hk1
  refine wp_region_held_drew (S := (fun w' => w'.cell? ⟨r, 5, none⟩ = some (.slice (some ⟨g, 0, none⟩) 2 cap) ∧ w'.cell? ⟨w.heap.size, 0, none⟩ = some (.int .i64 0) ∧ w'.cell? ⟨w.heap.size, 1, none⟩ = some (.int .i64 3) ∧ w'.cell? ⟨w.heap.size, 2, none⟩ = some (.int .i64 n) ∧ w'.cell? ⟨w.heap.size, 3, none⟩ = some (.string x) ∧ w'.cell? ⟨w.heap.size, 4, none⟩ = some (.string ⟨#[]⟩) ∧ w'.cell? ⟨w.heap.size, 5, none⟩ = some (.string ⟨#[]⟩))) (by kernel_rfl) ⟨d5, e0, e1, e2, e3, e4, e5⟩ (fun hHeld => ?_)
  refine wpAnyH_take (i := 0) (v := (.pointer (some ⟨r, 0, none⟩))) rfl (by kernel_rfl) (by kernel_rfl) (by kernel_rfl) (fun _ _ _ h => h) (Or.inl ⟨by rfl, ?_⟩) (by assumption) ?_
  · intro w' hSw
    (try dsimp only at hSw)
    go_simp
  (try simp only [Act.put, List.setIfInBounds_toArray, List.set_cons_zero, List.set_cons_succ])
  refine wpAnyH_take (i := 1) (v := (.pointer (some ⟨r, 0, none⟩))) rfl (by kernel_rfl) (by kernel_rfl) (by kernel_rfl) (fun _ _ _ h => h) (Or.inl ⟨by rfl, ?_⟩) (by assumption) ?_
  · intro w' hSw
    (try dsimp only at hSw)
    go_simp
  (try simp only [Act.put, List.setIfInBounds_toArray, List.set_cons_zero, List.set_cons_succ])
  refine wpAnyH_take (i := 2) (v := (.pointer (some ⟨r, 5, none⟩))) rfl (by kernel_rfl) (by kernel_rfl) (by kernel_rfl) (fun _ _ _ h => h) (Or.inl ⟨by rfl, ?_⟩) (by assumption) ?_
  · intro w' hSw
    (try dsimp only at hSw)
    go_simp
  (try simp only [Act.put, List.setIfInBounds_toArray, List.set_cons_zero, List.set_cons_succ])
  refine wpAnyH_take (i := 3) (v := (.slice (some ⟨g, 0, none⟩) 2 cap)) rfl (by kernel_rfl) (by kernel_rfl) (by kernel_rfl) (fun _ _ _ h => h) (Or.inl ⟨by rfl, ?_⟩) (by assumption) ?_
  · intro w' hSw
    (try dsimp only at hSw)
    go_simp
  (try simp only [Act.put, List.setIfInBounds_toArray, List.set_cons_zero, List.set_cons_succ])
  refine wpAnyH_take (i := 4) (v := (.pointer (some ⟨w.heap.size, 0, none⟩))) rfl (by kernel_rfl) (by kernel_rfl) (by kernel_rfl) (fun _ _ _ h => h) (Or.inl ⟨by rfl, ?_⟩) (by assumption) ?_
  · intro w' hSw
    (try dsimp only at hSw)
    go_simp
  (try simp only [Act.put, List.setIfInBounds_toArray, List.set_cons_zero, List.set_cons_succ])
  refine wpAnyH_take (i := 5) (v := (.int .i64 0)) rfl (by kernel_rfl) (by kernel_rfl) (by kernel_rfl) (fun _ _ _ h => h) (Or.inl ⟨by rfl, ?_⟩) (by assumption) ?_
  · intro w' hSw
    (try dsimp only at hSw)
    go_simp
  (try simp only [Act.put, List.setIfInBounds_toArray, List.set_cons_zero, List.set_cons_succ])
  refine wpAnyH_take (i := 6) (v := (.pointer (some ⟨r, 0, none⟩))) rfl (by kernel_rfl) (by kernel_rfl) (by kernel_rfl) (fun _ _ _ h => h) (Or.inl ⟨by rfl, ?_⟩) (by assumption) ?_
  · intro w' hSw
    (try dsimp only at hSw)
    go_simp
  (try simp only [Act.put, List.setIfInBounds_toArray, List.set_cons_zero, List.set_cons_succ])
  refine wpAnyH_take (i := 7) (v := (.pointer (some ⟨r, 0, none⟩))) rfl (by kernel_rfl) (by kernel_rfl) (by kernel_rfl) (fun _ _ _ h => h) (Or.inl ⟨by rfl, ?_⟩) (by assumption) ?_
  · intro w' hSw
    (try dsimp only at hSw)
    go_simp
  (try simp only [Act.put, List.setIfInBounds_toArray, List.set_cons_zero, List.set_cons_succ])
  refine wpAnyH_take (i := 8) (v := (.pointer (some ⟨r, 5, none⟩))) rfl (by kernel_rfl) (by kernel_rfl) (by kernel_rfl) (fun _ _ _ h => h) (Or.inl ⟨by rfl, ?_⟩) (by assumption) ?_
  · intro w' hSw
    (try dsimp only at hSw)
    go_simp
  (try simp only [Act.put, List.setIfInBounds_toArray, List.set_cons_zero, List.set_cons_succ])
  refine wpAnyH_take (i := 9) (v := (.slice (some ⟨g, 0, none⟩) 2 cap)) rfl (by kernel_rfl) (by kernel_rfl) (by kernel_rfl) (fun _ _ _ h => h) (Or.inl ⟨by rfl, ?_⟩) (by assumption) ?_
  · intro w' hSw
    (try dsimp only at hSw)
    go_simp
  (try simp only [Act.put, List.setIfInBounds_toArray, List.set_cons_zero, List.set_cons_succ])
  refine wpAnyH_take (i := 10) (v := (.pointer (some ⟨w.heap.size, 0, none⟩))) rfl (by kernel_rfl) (by kernel_rfl) (by kernel_rfl) (fun _ _ _ h => h) (Or.inl ⟨by rfl, ?_⟩) (by assumption) ?_
  · intro w' hSw
    (try dsimp only at hSw)
    go_simp
  (try simp only [Act.put, List.setIfInBounds_toArray, List.set_cons_zero, List.set_cons_succ])
  refine wpAnyH_take (i := 11) (v := (.int .i64 0)) rfl (by kernel_rfl) (by kernel_rfl) (by kernel_rfl) (fun _ _ _ h => h) (Or.inl ⟨by rfl, ?_⟩) (by assumption) ?_
  · intro w' hSw
    (try dsimp only at hSw)
    go_simp
  (try simp only [Act.put, List.setIfInBounds_toArray, List.set_cons_zero, List.set_cons_succ])
  refine wpAnyH_take (i := 12) (v := (.pointer (some ⟨g, 0, none⟩))) rfl (by kernel_rfl) (by kernel_rfl) (by kernel_rfl) (fun _ _ _ h => h) (Or.inl ⟨by rfl, ?_⟩) (by assumption) ?_
  · intro w' hSw
    (try dsimp only at hSw)
    go_simp
  (try simp only [Act.put, List.setIfInBounds_toArray, List.set_cons_zero, List.set_cons_succ])
  refine wpAnyH_take (i := 13) (v := (.pointer (some ⟨g, 1, none⟩))) rfl (by kernel_rfl) (by kernel_rfl) (by kernel_rfl) (fun _ _ _ h => h) (Or.inl ⟨by rfl, ?_⟩) (by assumption) ?_
  · intro w' hSw
    (try dsimp only at hSw)
    go_simp
  (try simp only [Act.put, List.setIfInBounds_toArray, List.set_cons_zero, List.set_cons_succ])
  refine wpAnyH_take (i := 15) (v := (.agg #[.int .i64 0, .int .i64 3, .int .i64 n, .string x, .string ⟨#[]⟩, .string ⟨#[]⟩])) rfl (by kernel_rfl) (by kernel_rfl) (by kernel_rfl) (fun _ _ _ h => h) (Or.inl ⟨by rfl, ?_⟩) (by assumption) ?_
  · intro w' hSw
    (try dsimp only at hSw)
    go_simp
  (try simp only [Act.put, List.setIfInBounds_toArray, List.set_cons_zero, List.set_cons_succ])
  refine wpAnyH_ready (rs := [14]) (by kernel_rfl) (by simp) ?_
  refine AllReadyH.cons rfl (fun K hK => ?_) AllReadyH.nil
  go_simp
  refine hK.out _ _ hHeld (fun hHeld => ?_)
  clear hK K
  (try simp only [Act.put, List.setIfInBounds_toArray, List.set_cons_zero, List.set_cons_succ])
  refine wpAnyH_ready (rs := [16]) (by kernel_rfl) (by simp) ?_
  refine AllReadyH.cons rfl (fun K hK => ?_) AllReadyH.nil
  go_simp
  refine Calls.mono (HD.out _) ?_
  rintro e w2 ⟨g9, c9, rfl, hb2⟩
  have k1 : w2.cell? ⟨g, 1, none⟩ = some (.string ⟨#[]⟩) := (hb2.cell (p := ⟨g, 1, none⟩) hg1).trans d1
  have k2 : w2.cell? ⟨g, 2, none⟩ = some (.slice none 0 0) := (hb2.cell (p := ⟨g, 2, none⟩) hg1).trans d2
  have u1 : w2.frozen? ⟨g, 1, none⟩ = false := (hb2.frozen (p := ⟨g, 1, none⟩) hg1).trans f1
  have u2 : w2.frozen? ⟨g, 2, none⟩ = false := (hb2.frozen (p := ⟨g, 2, none⟩) hg1).trans f2
  have S2 : ∀ q k, q < w1.heap.size → w2.cell? ⟨q, k, none⟩ = w1.cell? ⟨q, k, none⟩ := fun q k hq => hb2.cell (p := ⟨q, k, none⟩) hq
  refine hK.out _ _ ⟨(S2 _ _ hr1).trans d5, (S2 _ _ hs1).trans e0, (S2 _ _ hs1).trans e1, (S2 _ _ hs1).trans e2, (S2 _ _ hs1).trans e3, (S2 _ _ hs1).trans e4, (S2 _ _ hs1).trans e5⟩ (fun hHeld => ?_)
  clear hK K
  have d62 : w2.cell? ⟨r, 6, none⟩ = some (.slice none 0 0) := (S2 _ _ hr1).trans d6
  have f62 : w2.frozen? ⟨r, 6, none⟩ = false := (hb2.frozen (p := ⟨r, 6, none⟩) hr1).trans f6
  have d52 := hHeld.1
  clear d1 d2 f1 f2 S2 d5 d6 f6 e0 e1 e2 e3 e4 e5
  refine wpAnyH_take (i := 17) (v := (.pointer (some ⟨g, 0, none⟩))) rfl (by kernel_rfl) (by kernel_rfl) (by kernel_rfl) (fun _ _ _ h => h) (Or.inl ⟨by rfl, ?_⟩) (by assumption) ?_
  · intro w' hSw
    (try dsimp only at hSw)
    go_simp
  (try simp only [Act.put, List.setIfInBounds_toArray, List.set_cons_zero, List.set_cons_succ])
  refine wpAnyH_take (i := 18) (v := (.pointer (some ⟨g, 1, none⟩))) rfl (by kernel_rfl) (by kernel_rfl) (by kernel_rfl) (fun _ _ _ h => h) (Or.inl ⟨by rfl, ?_⟩) (by assumption) ?_
  · intro w' hSw
    (try dsimp only at hSw)
    go_simp
  (try simp only [Act.put, List.setIfInBounds_toArray, List.set_cons_zero, List.set_cons_succ])
  refine wpAnyH_ready (rs := [19]) (by kernel_rfl) (by simp) ?_
  refine AllReadyH.cons rfl (fun K hK => ?_) AllReadyH.nil
  go_simp
  have oth : ∀ q k v1 v2, q ≠ g → ((w2.setCell ⟨g, 1, none⟩ v1).setCell ⟨g, 2, none⟩ v2).cell? ⟨q, k, none⟩ = w2.cell? ⟨q, k, none⟩ := fun q k v1 v2 hq => by
    rw [World.cell?_setCell_other _ _ _ _ (by intro e; injection e with e1 e2; exact hq e1.symm), World.cell?_setCell_other _ _ _ _ (by intro e; injection e with e1 e2; exact hq e1.symm)]
  have nwg : w.heap.size ≠ g := by omega
  obtain ⟨s5, s0, s1, s2, s3, s4, s6⟩ := hHeld
  refine hK.out _ _ ⟨(oth _ _ _ _ hrg).trans s5, (oth _ _ _ _ nwg).trans s0, (oth _ _ _ _ nwg).trans s1, (oth _ _ _ _ nwg).trans s2, (oth _ _ _ _ nwg).trans s3, (oth _ _ _ _ nwg).trans s4, (oth _ _ _ _ nwg).trans s6⟩ (fun hHeld => ?_)
  clear hK K
  refine wpAnyH_done (by kernel_rfl) ?_ _
  have hB3 : Below B w ((w2.setCell ⟨g, 1, none⟩ (.string ⟨#[]⟩)).setCell ⟨g, 2, none⟩ (.slice (some ⟨g9, 0, none⟩) 1 c9)) := setCell_below (setCell_below (hB1.trans (Below.drew (Below.refl B w1) |>.trans (hb2.mono (by show B ≤ w1.heap.size; omega)))) hBg) hBg
  have d63 := (oth r 6 (.string ⟨#[]⟩) (.slice (some ⟨g9, 0, none⟩) 1 c9) hrg).trans d62
  have f63 : ((w2.setCell ⟨g, 1, none⟩ (.string ⟨#[]⟩)).setCell ⟨g, 2, none⟩ (.slice (some ⟨g9, 0, none⟩) 1 c9)).frozen? ⟨r, 6, none⟩ = false := by rw [World.frozen?_setCell, World.frozen?_setCell]; exact f62
  have hz3 : w2.heap.size ≤ ((w2.setCell ⟨g, 1, none⟩ (.string ⟨#[]⟩)).setCell ⟨g, 2, none⟩ (.slice (some ⟨g9, 0, none⟩) 1 c9)).heap.size := by simp [World.setCell]
  have hzz : w1.heap.size ≤ w2.heap.size := hb2.size
  clear s5 s0 s1 s2 s3 s4 s6 oth k1 k2 u1 u2 d62 f62 d52
  generalize ((w2.setCell ⟨g, 1, none⟩ (.string ⟨#[]⟩)).setCell ⟨g, 2, none⟩ (.slice (some ⟨g9, 0, none⟩) 1 c9)) = W3 at *
  obtain ⟨s5, s0, s1, s2, s3, s4, s6⟩ := hHeld
  have hw3 : w.heap.size < W3.heap.size := by omega
  have hr3 : r < W3.heap.size := by omega
  go_wp2_with fail
  go_region_law ((refine step_append_lies _ (by rfl) _ _ _ (by rfl) W3.heap.size 130 i0 _ 6 72 Tryz.underlying87 hi0 hz0 hz1 hz2 rfl (by omega) (.slice none 0 0) 0 [] (by rfl) (World.ownsRow_nil _ _ _ _) ⟨W3.heap.size, 0, none⟩ 1 1 [(.int .i64 0), (.int .i64 3), (.int .i64 n), (.string x), (.string ⟨#[]⟩), (.string ⟨#[]⟩)] (by rfl) (by rfl) (World.news_of_block (cs := #[(.int .i64 0), (.int .i64 3), (.int .i64 n), (.string x), (.string ⟨#[]⟩), (.string ⟨#[]⟩)]) (t := 130) (fr := (0, 0)) (heap_alloc_new W3 _)) (by simp [Value.oneCell']) (by omega) (by unfold maxLen; omega) (by omega) (by simp) (W3.heap.size + 1) (by simp) ?_; intro g7 c7 w7 hown7 hgrow7 hat7 hlt7; have d67 : w7.cell? ⟨r, 6, none⟩ = some (.slice none 0 0) := (by rw [hgrow7.cell_far _ (by simp; omega) (by simp [Value.ownBlock])]; simp [go_sem, hr3, d63]); have f67 : w7.frozen? ⟨r, 6, none⟩ = false := (by rw [hgrow7.frozen_far _ (by simp; omega) (by simp [Value.ownBlock])]; simp [go_sem, hr3, f63])))
  all_goals
    have hB7 : Below B w w7 := (Below.drew (hB3.alloc (by omega) _)).grown hgrow7 (by simp; omega) (by simp [Value.ownBlock])
    have HB7 := hide hB7
    clear hB7
    go_wp2
    go_ret
    exact ⟨rfl, by repeat (first | exact HB7.out | refine Below.drew ?_ | refine setCell_below ?_ hBr)⟩
end Go.Proofs.YtgdibjnendjhnaaGreatDoor
