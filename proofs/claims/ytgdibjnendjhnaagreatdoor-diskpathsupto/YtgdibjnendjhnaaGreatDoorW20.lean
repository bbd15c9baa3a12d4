import Derived.Test.YtgdibjnendjhnaaGreatDoorW17
import Derived.Test.YtgdibjnendjhnaaGreatDoorW18
namespace Go.Proofs.YtgdibjnendjhnaaGreatDoor
open Go.RowKit
set_option maxHeartbeats 2000000 in
set_option maxRecDepth 100000 in
theorem rnew_ok (w : World) :
    Calls Tryz.prog 11 #[.int .i64 0] w fun e w' => ∃ r t c, e = .returned (.tuple #[.pointer (some ⟨r, 0, none⟩), .int .i64 0]) ∧ RefW w' w.heap.size r t c ∧ Below w.heap.size w w' := by
  obtain ⟨i0, hi0, hz0, hz1, hz2⟩ := info_parts info94
  go_enter Tryz.func11, Tryz.ntmps11
  go_wp2_with (at_builtin; refine wpList_append_lies _ rfl _ _ 86 rfl w.heap.size 94 i0 _ 5 88 Tryz.underlying86 hi0 hz0 hz1 hz2 rfl (by omega) (.slice none 0 0) 0 [] rfl (World.ownsRow_nil _ _ _ _) ⟨w.heap.size + 1, 0, none⟩ 1 1 [.int .i64 1, .string ⟨#[]⟩, .slice none 0 0, .string ⟨#[]⟩, .slice none 0 0] rfl rfl (World.news_of_block (cs := #[.int .i64 1, .string ⟨#[]⟩, .slice none 0 0, .string ⟨#[]⟩, .slice none 0 0]) (t := 94) (fr := (0, 0)) (new2 w _ _)) (by simp [Value.oneCell']) (by omega) (by unfold maxLen; omega) (by omega) (by simp; omega) (w.heap.size + 2) (by simp) ?_; intro g cap w3 hown3 hgrow hat hlt3; have j5 : w3.cell? ⟨w.heap.size, 5, none⟩ = some (.slice none 0 0) := (by rw [hgrow.cell_far _ (by simp; omega) (by simp [Value.ownBlock])]; simp); have jf : w3.frozen? ⟨w.heap.size, 5, none⟩ = false := (by rw [hgrow.frozen_far _ (by simp; omega) (by simp [Value.ownBlock])]; simp [go_sem]))
  go_ret2
  have hg : g = w.heap.size + 2 := by
    rcases hat with h' | h'
    · simp [Value.ownBlock] at h'
    · exact h'
  have hsz : w.heap.size + 2 ≤ w3.heap.size := by have := hgrow.size; simpa using this
  have rc : ∀ k, w3.cell? ⟨w.heap.size, k, none⟩ = (#[Value.int .i64 0, .int .i64 0, .int .i64 0, .int .i64 (-1), .bool false, .slice none 0 0, .slice none 0 0] : Array Value)[k]? := fun k => by
    rw [hgrow.cell_far _ (by simp; omega) (by simp [Value.ownBlock])]; simp
  have oth : ∀ q k, (q ≠ w.heap.size ∨ k ≠ 5) → (w3.setCell ⟨w.heap.size, 5, none⟩ (.slice (some ⟨g, 0, none⟩) 1 cap)).cell? ⟨q, k, none⟩ = w3.cell? ⟨q, k, none⟩ := fun q k hq => World.cell?_setCell_other _ _ _ _ (by intro e; injection e with e1 e2; omega)
  have size' : (w3.setCell ⟨w.heap.size, 5, none⟩ (.slice (some ⟨g, 0, none⟩) 1 cap)).heap.size = w3.heap.size := by simp [World.setCell]
  refine ⟨w.heap.size, g, cap, rfl, ?_, ?_⟩
  · refine { at0 := ?_, c1 := ?_, c3 := ?_, c6 := ?_, fr := ?_, own := ?_, hB := Nat.le_refl _, hrt := by omega }
    · refine { c4 := ?_, c5 := ?_, k0 := ?_, k2 := ?_, lt := by rw [size']; omega, tlt := by rw [size']; omega }
      · rw [oth _ _ (Or.inr (by omega)), rc]; rfl
      · exact World.cell?_setCell_same _ _ _ j5
      · rw [oth _ _ (Or.inl (by omega)), hown3.cellAt 0 (by omega)]; rfl
      · rw [oth _ _ (Or.inl (by omega)), hown3.cellAt 2 (by omega)]; rfl
    · rw [oth _ _ (Or.inr (by omega)), rc]; rfl
    · rw [oth _ _ (Or.inr (by omega)), rc]; rfl
    · rw [oth _ _ (Or.inr (by omega)), rc]; rfl
    · intro k
      rw [World.frozen?_setCell, hgrow.frozen_far _ (by simp; omega) (by simp [Value.ownBlock])]
      simp [go_sem]
    · refine ⟨hown3.1, ?_⟩
      rcases hown3.2 with ⟨h1, _⟩ | ⟨g', cap', cur, hv, hg', hblk, r1, r2, r3, r4⟩
      · cases h1
      · refine Or.inr ⟨g', cap', cur, hv, hg', ?_, r1, r2, r3, r4⟩
        rw [Below.heap_setCell _ _ _ _ (by cases hv; show _ ≠ w.heap.size; omega)]
        exact hblk
  · refine setCell_below ?_ (Nat.le_refl _)
    exact Below.grown (alloc_below (alloc_below (Below.refl _ _) _) _) hgrow (by simp; omega) (by simp [Value.ownBlock])
set_option maxHeartbeats 2000000 in
set_option maxRecDepth 100000 in
theorem num_any (n : Int) (w : World) : Calls Tryz.prog 12 #[.int .i64 n] w fun e w' => e = .returned (.int .i64 n) ∧ w' = w := by
  go_enter Tryz.func12, Tryz.ntmps12
  go_wp2
  go_ret
  exact ⟨rfl, rfl⟩
set_option maxHeartbeats 2000000 in
set_option maxRecDepth 100000 in
theorem place_zero (w : World) : Calls Tryz.prog 13 #[.int .i64 0] w fun e w' => e = .returned (.int .i64 0) ∧ w' = w := by
  go_enter Tryz.func13, Tryz.ntmps13
  go_wp2
  go_ret
  exact ⟨rfl, rfl⟩
theorem keeps_map {S : Nat → Prop} {w w' : World} {m c : Nat} (hk : Keeps S w w') (hs : ¬ S m) (h : w.heap[m]? = some (.map #[] c)) : w'.heap[m]? = some (.map #[] c) := by
  rw [hk.block m (lt_of_map h) hs]; exact h
theorem OwnW.keeps {S : Nat → Prop} {w w' : World} {b m n p : Nat} (h : OwnW w b m n p) (hk : Keeps S w w') (hb : ¬ S b) (hm : ¬ S m) (hp : ¬ S p) (h0 : ¬ S 0) : OwnW w' b m n p where
  at0 := {
    c5 := by rw [hk.cell (p := ⟨b, 5, none⟩) h.at0.lt hb]; exact h.at0.c5
    c10 := by rw [hk.cell (p := ⟨b, 10, none⟩) h.at0.lt hb]; exact h.at0.c10
    c11 := by rw [hk.cell (p := ⟨b, 11, none⟩) h.at0.lt hb]; exact h.at0.c11
    c14 := by rw [hk.cell (p := ⟨b, 14, none⟩) h.at0.lt hb]; exact h.at0.c14
    lt := Nat.lt_of_lt_of_le h.at0.lt hk.size
    hm := by obtain ⟨c, hc⟩ := h.at0.hm; exact ⟨c, keeps_map hk hm hc⟩
    g := by obtain ⟨k, hg⟩ := h.at0.g; exact ⟨k, by rw [hk.cell (p := ⟨0, 0, none⟩) h.at0.pos h0]; exact hg⟩
    pos := Nat.lt_of_lt_of_le h.at0.pos hk.size }
  c1 := by rw [hk.cell (p := ⟨b, 1, none⟩) h.at0.lt hb]; exact h.c1
  c2 := by rw [hk.cell (p := ⟨b, 2, none⟩) h.at0.lt hb]; exact h.c2
  c4 := by rw [hk.cell (p := ⟨b, 4, none⟩) h.at0.lt hb]; exact h.c4
  c7 := by rw [hk.cell (p := ⟨b, 7, none⟩) h.at0.lt hb]; exact h.c7
  c8 := by rw [hk.cell (p := ⟨b, 8, none⟩) h.at0.lt hb]; exact h.c8
  c9 := by rw [hk.cell (p := ⟨b, 9, none⟩) h.at0.lt hb]; exact h.c9
  fz := fun j => by rw [hk.frozen (p := ⟨b, j, none⟩) h.at0.lt hb]; exact h.fz j
  hp := by obtain ⟨c, hc⟩ := h.hp; exact ⟨c, keeps_map hk hp hc⟩
  hmp := h.hmp
  hbm := h.hbm
  hbp := h.hbp
theorem RefW.keeps {S : Nat → Prop} {w w' : World} {B r t c : Nat} (h : RefW w B r t c) (hk : Keeps S w w') (hr : ¬ S r) (ht : ¬ S t) : RefW w' B r t c where
  at0 := {
    c4 := by rw [hk.cell (p := ⟨r, 4, none⟩) h.at0.lt hr]; exact h.at0.c4
    c5 := by rw [hk.cell (p := ⟨r, 5, none⟩) h.at0.lt hr]; exact h.at0.c5
    k0 := by rw [hk.cell (p := ⟨t, 0, none⟩) h.at0.tlt ht]; exact h.at0.k0
    k2 := by rw [hk.cell (p := ⟨t, 2, none⟩) h.at0.tlt ht]; exact h.at0.k2
    lt := Nat.lt_of_lt_of_le h.at0.lt hk.size
    tlt := Nat.lt_of_lt_of_le h.at0.tlt hk.size }
  c1 := by rw [hk.cell (p := ⟨r, 1, none⟩) h.at0.lt hr]; exact h.c1
  c3 := by rw [hk.cell (p := ⟨r, 3, none⟩) h.at0.lt hr]; exact h.c3
  c6 := by rw [hk.cell (p := ⟨r, 6, none⟩) h.at0.lt hr]; exact h.c6
  fr := fun j => by rw [hk.frozen (p := ⟨r, j, none⟩) h.at0.lt hr]; exact h.fr j
  own := ⟨h.own.1, by
    rcases h.own.2 with ⟨h1, _⟩ | ⟨g, cap, cur, hv, hg, hblk, r1, r2, r3, r4⟩
    · cases h1
    · refine Or.inr ⟨g, cap, cur, hv, hg, ?_, r1, r2, r3, r4⟩
      cases hv
      rw [hk.block t h.at0.tlt ht]; exact hblk⟩
  hB := h.hB
  hrt := h.hrt
theorem RefW.mono {w : World} {B B' r t c : Nat} (h : RefW w B r t c) (hB : B' ≤ B) : RefW w B' r t c :=
  { h with own := Joins.ownsRow_le h.own hB, hB := Nat.le_trans hB h.hB }
set_option maxHeartbeats 2000000 in
set_option maxRecDepth 100000 in
theorem fresh_ok (bb : Nat) (w : World) (hg : ∃ k : Int, w.cell? ⟨0, 0, none⟩ = some (.int .i64 k)) (hpos : 0 < w.heap.size) (hlt : bb < w.heap.size)
    (h0 : (w.cell? ⟨bb, 0, none⟩).isSome = true) (h2 : (w.cell? ⟨bb, 2, none⟩).isSome = true) (fz : ∀ j, w.frozen? ⟨bb, j, none⟩ = false) (hbb : bb ≠ 0) :
    Calls Tryz.prog 6 #[.pointer (some ⟨bb, 0, none⟩), .int .i64 0, .int .i64 0] w fun e w' => e = .returned (.bool true) ∧ ∃ b m n p r t c, OwnW w' b m n p ∧ RefW w' w.heap.size r t c ∧ w'.cell? ⟨bb, 0, none⟩ = some (.pointer (some ⟨b, 0, none⟩)) ∧ w'.cell? ⟨bb, 2, none⟩ = some (.pointer (some ⟨r, 0, none⟩)) ∧
      w.heap.size ≤ b ∧ w.heap.size ≤ m ∧ w.heap.size ≤ p ∧ (∀ k, k < w.heap.size → k ≠ bb → w'.heap[k]? = w.heap[k]?) ∧ w.heap.size ≤ w'.heap.size ∧ w'.os = w.os ∧ w'.tape = w.tape ∧ w'.output = w.output ∧ (r ≠ b ∧ r ≠ m ∧ r ≠ p) ∧ (t ≠ b ∧ t ≠ m ∧ t ≠ p) := by
  have HO := hide (new_ok w hg hpos)
  have f0 := fz 0
  have f2 := fz 2
  clear hg fz
  go_enter Tryz.func6, Tryz.ntmps6
  go_wp2_with fail
  refine Calls.mono HO.out ?_
  rintro e w1 ⟨b, m, n, p, rfl, hO, hb1, hm1, hp1, hp2, hbl1⟩
  go_wp2_with fail
  refine Calls.mono (rnew_ok w1) ?_
  rintro e w2 ⟨r, t, c, rfl, hR, hbl2⟩
  have hbl : Below w.heap.size w w2 := hbl1.trans (hbl2.mono hbl1.size)
  have q0 : (w2.cell? ⟨bb, 0, none⟩).isSome = true := by rw [hbl.cell (p := ⟨bb, 0, none⟩) hlt]; exact h0
  have q2 : (w2.cell? ⟨bb, 2, none⟩).isSome = true := by rw [hbl.cell (p := ⟨bb, 2, none⟩) hlt]; exact h2
  have g0 : w2.frozen? ⟨bb, 0, none⟩ = false := by rw [hbl.frozen (p := ⟨bb, 0, none⟩) hlt]; exact f0
  have g2 : w2.frozen? ⟨bb, 2, none⟩ = false := by rw [hbl.frozen (p := ⟨bb, 2, none⟩) hlt]; exact f2
  obtain ⟨u0, hu0⟩ := Option.isSome_iff_exists.1 q0
  obtain ⟨u2, hu2⟩ := Option.isSome_iff_exists.1 q2
  have hbl9 : b < w1.heap.size := hO.at0.lt
  have hml9 : m < w1.heap.size := by obtain ⟨c, hc⟩ := hO.at0.hm; exact lt_of_map hc
  have HO2 := hide hO
  have HR2 := hide hR
  clear hO hR q0 q2 h0 h2 f0 f2
  go_wp2_with (go_at_call 12; refine Calls.mono (num_any _ _) ?_; rintro e w3 ⟨rfl, rfl⟩)
  have hz1 := hbl1.size
  have hz2 := hbl2.size
  have hrB := HR2.out.hB
  have htB := (HR2.out.own.lt t rfl).1
  have hK : Keeps (fun k => k = bb) w2 ((w2.setCell ⟨bb, 0, none⟩ (.pointer (some ⟨b, 0, none⟩))).setCell ⟨bb, 2, none⟩ (.pointer (some ⟨r, 0, none⟩))) := Keeps.setCellB (S := fun k => k = bb) (Keeps.setCellB (S := fun k => k = bb) (Keeps.refl _ _) rfl _ _) rfl _ _
  go_ret
  refine ⟨rfl, b, m, n, p, r, t, c, (HO2.out.later hbl2).keeps hK (by omega) (by omega) (by omega) (fun e => hbb e.symm), (HR2.out.mono hz1).keeps hK (by omega) (by omega), ?_, ?_, hb1, hm1, hp1, ?_, ?_, ?_, ?_, ?_, by omega, by omega⟩
  · rw [World.cell?_setCell_other _ _ _ _ (by simp)]; exact World.cell?_setCell_same _ _ _ hu0
  · exact World.cell?_setCell_same _ _ _ ((World.cell?_setCell_other _ _ _ _ (by simp)).trans hu2)
  · intro k hk hne
    rw [hK.block k (by omega) hne, hbl.block k hk]
  · exact Nat.le_trans hbl.size hK.size
  · exact hK.os.trans hbl.os
  · exact hK.tape.trans hbl.tape
  · exact hK.output.trans hbl.output
end Go.Proofs.YtgdibjnendjhnaaGreatDoor
