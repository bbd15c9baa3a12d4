import Derived.Test.YtgdibjnendjhnaaGreatDoorW16r
namespace Go.Proofs.YtgdibjnendjhnaaGreatDoor
open Go.RowKit
/-- the document's disk with the root alone, as a writing call wants it -/
structure RefW (w : World) (B r t c : Nat) : Prop where
  at0 : RefAt w r t c
  c1 : w.cell? ⟨r, 1, none⟩ = some (.int .i64 0)
  c3 : w.cell? ⟨r, 3, none⟩ = some (.int .i64 (-1))
  c6 : w.cell? ⟨r, 6, none⟩ = some (.slice none 0 0)
  fr : ∀ j, w.frozen? ⟨r, j, none⟩ = false
  own : w.ownsRow B 94 5 (.slice (some ⟨t, 0, none⟩) 1 c) 1 [.int .i64 1, .string ⟨#[]⟩, .slice none 0 0, .string ⟨#[]⟩, .slice none 0 0]
  hB : B ≤ r
  hrt : r ≠ t
theorem RefW.later {w w' : World} {B r t c : Nat} (h : RefW w B r t c) (hb : Below w.heap.size w w') : RefW w' B r t c where
  at0 := h.at0.later hb
  c1 := by rw [hb.cell (p := ⟨r, 1, none⟩) h.at0.lt]; exact h.c1
  c3 := by rw [hb.cell (p := ⟨r, 3, none⟩) h.at0.lt]; exact h.c3
  c6 := by rw [hb.cell (p := ⟨r, 6, none⟩) h.at0.lt]; exact h.c6
  fr := fun j => by rw [hb.frozen (p := ⟨r, j, none⟩) h.at0.lt]; exact h.fr j
  own := ⟨h.own.1, by
    rcases h.own.2 with ⟨h1, _⟩ | ⟨g, cap, cur, hv, hg, hblk, r1, r2, r3, r4⟩
    · cases h1
    · refine Or.inr ⟨g, cap, cur, hv, hg, ?_, r1, r2, r3, r4⟩
      have : g < w.heap.size := by
        rcases Nat.lt_or_ge g w.heap.size with h' | h'
        · exact h'
        · rw [Array.getElem?_eq_none h'] at hblk; simp at hblk
      rw [hb.block g this]; exact hblk⟩
  hB := h.hB
  hrt := h.hrt
set_option maxHeartbeats 4000000 in
set_option maxRecDepth 100000 in
theorem make_one (B r t c : Nat) (s : ByteArray) (w : World) (h : RefW w B r t c) (hBw : B ≤ w.heap.size) (h62 : s.size ≤ 4611686018427387904) (hp : isPath s.data.toList = true) (hn : nNames s.data.toList = 1) :
    Calls Tryz.prog 59 #[.pointer (some ⟨r, 0, none⟩), .string s, .int .i64 1] w fun e w' => e = .returned (.int .i64 0) ∧ Below B w w' := by
  have HN := hide (dnames_many r s 1 true w h.at0.c4 h62 hp hn (by omega))
  have HW := hide h
  clear h hp h62 hn
  obtain ⟨i0, hi0, hz0, hz1, hz2⟩ := info_parts info94
  go_enter Tryz.func59, Tryz.ntmps59
  go_wp2_with (go_at_call 47; refine Calls.mono HN.out ?_; rintro e w1 ⟨B1, cv, rfl, _, hB1, hx, hb1⟩)
  obtain ⟨x0, hx0⟩ := hx 0 (by omega)
  have HS := hide (spot_one r t c B1 cv x0 w1 (HW.out.later hb1).at0 hB1 hx0)
  clear hx hx0
  go_wp2_with fail
  refine Calls.mono HS.out ?_
  rintro e w2 ⟨rfl, hb2⟩
  have hbb := hb1.trans (hb2.mono hb1.size)
  have d5 := (HW.out.later hbb).at0.c5
  have hr2 := (HW.out.later hbb).at0.lt
  have ht2 := (HW.out.later hbb).at0.tlt
  have hown2 := (HW.out.later hbb).own
  have hrt := HW.out.hrt
  have hz : w.heap.size ≤ w2.heap.size := hbb.size
  go_wp2_with (at_builtin; refine wpList_append_lies _ rfl _ _ 86 rfl B 94 i0 _ 5 88 Tryz.underlying86 hi0 hz0 hz1 hz2 rfl (by omega) (.slice (some ⟨t, 0, none⟩) 1 c) 1 [.int .i64 1, .string ⟨#[]⟩, .slice none 0 0, .string ⟨#[]⟩, .slice none 0 0] rfl ((hown2.alloc _).alloc _) ⟨w2.heap.size + 1, 0, none⟩ 1 1 [.int .i64 1, .string ⟨#[]⟩, .slice none 0 0, .string ⟨#[]⟩, .slice none 0 0] rfl rfl (World.news_of_block (cs := #[.int .i64 1, .string ⟨#[]⟩, .slice none 0 0, .string ⟨#[]⟩, .slice none 0 0]) (t := 94) (fr := (0, 0)) (new2 w2 _ _)) (by simp [Value.oneCell']) (by omega) (by unfold maxLen; omega) (by omega) (by simp; omega) (w2.heap.size + 2) (by simp) ?_; intro g cap w3 hown3 hgrow hat hlt3; have j5 : w3.cell? ⟨r, 5, none⟩ = some (.slice (some ⟨t, 0, none⟩) 1 c) := (by rw [hgrow.cell_far _ (by simp; omega) (by simp [Value.ownBlock]; omega)]; simp [go_sem, hr2, d5]); have jf : w3.frozen? ⟨r, 5, none⟩ = false := (by rw [hgrow.frozen_far _ (by simp; omega) (by simp [Value.ownBlock]; omega)]; simp [go_sem, hr2, (HW.out.later hbb).fr 5]))
  have hO3 := HW.out.later hbb
  have hsz3 : w2.heap.size + 2 ≤ w3.heap.size := by have := hgrow.size; simpa using this
  have far : ∀ q k, q < w2.heap.size → q ≠ t → w3.cell? ⟨q, k, none⟩ = w2.cell? ⟨q, k, none⟩ := fun q k h1 h2 => by
    rw [hgrow.cell_far _ (by simp; omega) (by simp [Value.ownBlock]; omega)]
    simp [go_sem, h1]
  have farf : ∀ q k, q < w2.heap.size → q ≠ t → w3.frozen? ⟨q, k, none⟩ = w2.frozen? ⟨q, k, none⟩ := fun q k h1 h2 => by
    rw [hgrow.frozen_far _ (by simp; omega) (by simp [Value.ownBlock]; omega)]
    simp [go_sem, h1]
  have p0 : w3.cell? ⟨w2.heap.size, 0, none⟩ = some (.int .i64 0) := by
    rw [hgrow.cell_far _ (by simp; omega) (by simp [Value.ownBlock]; omega)]; simp
  have p1 : w3.cell? ⟨w2.heap.size, 1, none⟩ = some (.string x0) := by
    rw [hgrow.cell_far _ (by simp; omega) (by simp [Value.ownBlock]; omega)]; simp
  have hgr : r ≠ g := by
    rcases hat with h' | h'
    · simp [Value.ownBlock] at h'; omega
    · omega
  have hBg := (hown3.lt g rfl).1
  have HC : Hid (Calls Tryz.prog 62 #[.pointer (some ⟨r, 0, none⟩), .agg #[.int .i64 0, .int .i64 3, .int .i64 1, .string x0, .string ⟨#[]⟩, .string ⟨#[]⟩]] (w3.setCell ⟨r, 5, none⟩ (.slice (some ⟨g, 0, none⟩) 2 cap)).drew fun e w' => e = .returned (.int .i64 0) ∧ Below B (w3.setCell ⟨r, 5, none⟩ (.slice (some ⟨g, 0, none⟩) 2 cap)).drew w') := by
    have oth : ∀ q k, (q ≠ r ∨ k ≠ 5) → (w3.setCell ⟨r, 5, none⟩ (.slice (some ⟨g, 0, none⟩) 2 cap)).cell? ⟨q, k, none⟩ = w3.cell? ⟨q, k, none⟩ := fun q k hq => World.cell?_setCell_other _ _ _ _ (by intro e; injection e with e1 e2; omega)
    refine rchange_ok B r g cap x0 1 _ HW.out.hB hBg hgr (by show r < (w3.setCell _ _).heap.size; simp [World.setCell]; omega) (by show g < (w3.setCell _ _).heap.size; simp [World.setCell]; omega) ?_ ?_ ?_ ?_ ?_ ?_ ?_ ?_
    · exact (oth r 1 (Or.inr (by omega))).trans ((far r 1 hr2 hrt).trans hO3.c1)
    · exact (oth r 3 (Or.inr (by omega))).trans ((far r 3 hr2 hrt).trans hO3.c3)
    · exact World.cell?_setCell_same _ _ _ j5
    · exact (oth r 6 (Or.inr (by omega))).trans ((far r 6 hr2 hrt).trans hO3.c6)
    · exact (oth g 1 (Or.inl hgr.symm)).trans (by rw [hown3.cellAt 1 (by omega)]; rfl)
    · exact (oth g 2 (Or.inl hgr.symm)).trans (by rw [hown3.cellAt 2 (by omega)]; rfl)
    · intro k; exact (World.frozen?_setCell _ _ _ _).trans ((farf r k hr2 hrt).trans (hO3.fr k))
    · intro k; exact (World.frozen?_setCell _ _ _ _).trans (hown3.frozenAt k)
  have hBel : Below B w (w3.setCell ⟨r, 5, none⟩ (.slice (some ⟨g, 0, none⟩) 2 cap)).drew := by
    refine Below.drew (setCell_below ?_ HW.out.hB)
    refine Below.grown ((alloc_below (alloc_below hbb _) _).mono hBw) hgrow (by simp; omega) ?_
    intro k hk
    simp [Value.ownBlock] at hk
    subst hk
    exact (hown2.lt t rfl).1
  have HB := hide hBel
  clear hBel far farf hown3 hat hgrow hown2 hO3 d5
  have nr : ¬ r = w2.heap.size := by omega
  have nr' : ¬ w2.heap.size = r := by omega
  go_region_with (go_at_call 62; refine Calls.mono HC.out ?_; rintro e w5 ⟨rfl, hb5⟩)
  all_goals
    go_wp2
    go_ret
    exact ⟨rfl, HB.out.trans hb5⟩
end Go.Proofs.YtgdibjnendjhnaaGreatDoor
