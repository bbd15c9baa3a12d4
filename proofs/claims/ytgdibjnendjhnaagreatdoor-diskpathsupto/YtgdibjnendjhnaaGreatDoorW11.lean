import Derived.Test.YtgdibjnendjhnaaGreatDoorW10
namespace Go.Proofs.YtgdibjnendjhnaaGreatDoor
open Go.RowKit
/-- the document's disk at block r, with the root alone (its things at block t): what the calls that look want -/
structure RefAt (w : World) (r t c : Nat) : Prop where
  c4 : w.cell? ⟨r, 4, none⟩ = some (.bool false)
  c5 : w.cell? ⟨r, 5, none⟩ = some (.slice (some ⟨t, 0, none⟩) 1 c)
  k0 : w.cell? ⟨t, 0, none⟩ = some (.int .i64 1)
  k2 : w.cell? ⟨t, 2, none⟩ = some (.slice none 0 0)
  lt : r < w.heap.size
  tlt : t < w.heap.size
theorem RefAt.later {w w' : World} {r t c : Nat} (h : RefAt w r t c) (hb : Below w.heap.size w w') : RefAt w' r t c where
  c4 := by rw [hb.cell (p := ⟨r, 4, none⟩) h.lt]; exact h.c4
  c5 := by rw [hb.cell (p := ⟨r, 5, none⟩) h.lt]; exact h.c5
  k0 := by rw [hb.cell (p := ⟨t, 0, none⟩) h.tlt]; exact h.k0
  k2 := by rw [hb.cell (p := ⟨t, 2, none⟩) h.tlt]; exact h.k2
  lt := Nat.lt_of_lt_of_le h.lt hb.size
  tlt := Nat.lt_of_lt_of_le h.tlt hb.size

theorem empty_false {s : ByteArray} (h : s.data.toList ≠ []) : s.toList.isEmpty = false := by rw [empty_iff]; simpa using h

set_option maxHeartbeats 400000 in
set_option maxRecDepth 100000 in
theorem names_root (s : ByteArray) (w : World) (h : s.toList.isEmpty = true) :
    Calls Tryz.prog 75 #[.string s] w fun e w' => e = .returned (.tuple #[.slice none 0 0, .bool true]) ∧ w' = w := by
  go_enter Tryz.func75, Tryz.ntmps75
  go_wp2
  go_ret2
  exact ⟨rfl, rfl⟩
set_option maxHeartbeats 400000 in
set_option maxRecDepth 100000 in
theorem dnames_no (r : Nat) (s : ByteArray) (rt : Bool) (w : World) (c4 : w.cell? ⟨r, 4, none⟩ = some (.bool false)) (h62 : s.size ≤ 4611686018427387904) (hp : isPath s.data.toList = false) :
    Calls Tryz.prog 47 #[.pointer (some ⟨r, 0, none⟩), .string s, .bool rt] w fun e w' => e = .returned (.tuple #[.slice none 0 0, .int .i64 11]) ∧ Below w.heap.size w w' := by
  have hne : s.data.toList ≠ [] := by intro h; rw [h] at hp; simp [isPath] at hp
  have HN := hide (names_no s w (empty_false hne) h62 hp)
  clear hp hne h62
  go_enter Tryz.func47, Tryz.ntmps47
  go_wp2_with (go_at_call 75; refine Calls.mono HN.out ?_; rintro e w1 ⟨v, rfl, hb⟩)
  go_ret2
  exact ⟨rfl, hb⟩
set_option maxHeartbeats 400000 in
set_option maxRecDepth 100000 in
theorem dnames_root (r : Nat) (s : ByteArray) (w : World) (c4 : w.cell? ⟨r, 4, none⟩ = some (.bool false)) (h : s.toList.isEmpty = true) :
    Calls Tryz.prog 47 #[.pointer (some ⟨r, 0, none⟩), .string s, .bool true] w fun e w' => e = .returned (.tuple #[.slice none 0 0, .int .i64 0]) ∧ w' = w := by
  have HN := hide (names_root s w h)
  clear h
  go_enter Tryz.func47, Tryz.ntmps47
  go_wp2_with (go_at_call 75; refine Calls.mono HN.out ?_; rintro e w1 ⟨rfl, rfl⟩)
  go_ret2
  exact ⟨rfl, rfl⟩
set_option maxHeartbeats 400000 in
set_option maxRecDepth 100000 in
theorem dnames_rootno (r : Nat) (s : ByteArray) (w : World) (c4 : w.cell? ⟨r, 4, none⟩ = some (.bool false)) (h : s.toList.isEmpty = true) :
    Calls Tryz.prog 47 #[.pointer (some ⟨r, 0, none⟩), .string s, .bool false] w fun e w' => e = .returned (.tuple #[.slice none 0 0, .int .i64 11]) ∧ w' = w := by
  have HN := hide (names_root s w h)
  clear h
  go_enter Tryz.func47, Tryz.ntmps47
  go_wp2_with (go_at_call 75; refine Calls.mono HN.out ?_; rintro e w1 ⟨rfl, rfl⟩)
  go_ret2
  exact ⟨rfl, rfl⟩
theorem namesManyH (s : ByteArray) (k : Nat) (h62 : s.size ≤ 4611686018427387904) (hp : isPath s.data.toList = true) (hn : nNames s.data.toList = k) (hk0 : 0 < k) (w : World) :
    Calls Tryz.prog 75 #[.string s] w fun e w' => ∃ B c, e = .returned (.tuple #[.slice (some ⟨B, 0, none⟩) k c, .bool true]) ∧ k ≤ c ∧ B < w'.heap.size ∧ (∀ j, j < k → ∃ x, w'.cell? ⟨B, j, none⟩ = some (.string x)) ∧ Below w.heap.size w w' := by
  have hne : s.data.toList ≠ [] := by intro h; rw [h] at hn; simp [nNames] at hn; omega
  refine (names_yes s w (empty_false hne) h62 hp).mono ?_
  rintro e w' ⟨v, rfl, ⟨h0, _⟩ | ⟨B, c, _, _, rfl, hc, hB, hx⟩, hb⟩
  · omega
  · rw [hn] at hc hx ⊢
    exact ⟨B, c, rfl, hc, hB, hx, hb⟩
set_option maxHeartbeats 400000 in
set_option maxRecDepth 100000 in
theorem dnames_many (r : Nat) (s : ByteArray) (k : Nat) (rt : Bool) (w : World) (c4 : w.cell? ⟨r, 4, none⟩ = some (.bool false)) (h62 : s.size ≤ 4611686018427387904) (hp : isPath s.data.toList = true) (hn : nNames s.data.toList = k) (hk0 : 0 < k) :
    Calls Tryz.prog 47 #[.pointer (some ⟨r, 0, none⟩), .string s, .bool rt] w fun e w' => ∃ B c, e = .returned (.tuple #[.slice (some ⟨B, 0, none⟩) k c, .int .i64 0]) ∧ k ≤ c ∧ B < w'.heap.size ∧ (∀ j, j < k → ∃ x, w'.cell? ⟨B, j, none⟩ = some (.string x)) ∧ Below w.heap.size w w' := by
  have HN := hide (namesManyH s k h62 hp hn hk0 w)
  have hz : ((k : Int) == 0) = false := by rw [beq_eq_false_iff_ne]; omega
  clear hp hn h62
  go_enter Tryz.func47, Tryz.ntmps47
  go_wp2_with (go_at_call 75; refine Calls.mono HN.out ?_; rintro e w1 ⟨B, c, rfl, hc, hB, hx, hb⟩)
  go_ret2
  exact ⟨B, c, rfl, hc, hB, hx, hb⟩
set_option maxHeartbeats 400000 in
set_option maxRecDepth 100000 in
theorem spot_root (r : Nat) (w : World) :
    Calls Tryz.prog 69 #[.pointer (some ⟨r, 0, none⟩), .slice none 0 0] w fun e w' => e = .returned (.tuple #[.agg #[.int .i64 (-1), .string ⟨#[]⟩, .int .i64 0], .int .i64 0]) ∧ Below w.heap.size w w' := by
  go_enter Tryz.func69, Tryz.ntmps69
  go_wp2
  exact bodyPost_ret (v := .tuple #[.agg #[.int .i64 (-1), .string ⟨#[]⟩, .int .i64 0], .int .i64 0]) (by simp [results, Tryz.results69, go_sem]) rfl ⟨rfl, (Below.refl _ _).alloc (Nat.le_refl _) _⟩
set_option maxHeartbeats 800000 in
set_option maxRecDepth 100000 in
theorem spot_one (r t c B c' : Nat) (x : ByteArray) (w : World) (h : RefAt w r t c) (hB : B < w.heap.size) (hx : w.cell? ⟨B, 0, none⟩ = some (.string x)) :
    Calls Tryz.prog 69 #[.pointer (some ⟨r, 0, none⟩), .slice (some ⟨B, 0, none⟩) 1 c'] w fun e w' => e = .returned (.tuple #[.agg #[.int .i64 0, .string x, .int .i64 (-1)], .int .i64 0]) ∧ Below w.heap.size w w' := by
  have h5 := h.c5
  have k2 := h.k2
  have hr := h.lt
  have ht := h.tlt
  clear h
  go_enter Tryz.func69, Tryz.ntmps69
  go_wp2
  refine wp_loop_rounds 1 ?_
  rw [rounds_succ]
  go_wp2_with (go_at_call 89; refine Calls.mono (find_none none 0 _ _) ?_; rintro e w1 ⟨rfl, rfl⟩)
  exact bodyPost_ret (v := .tuple #[.agg #[.int .i64 0, .string x, .int .i64 (-1)], .int .i64 0]) (by simp [results, Tryz.results69, go_sem]) rfl ⟨rfl, (Below.refl _ _).alloc (Nat.le_refl _) _⟩
set_option maxHeartbeats 800000 in
set_option maxRecDepth 100000 in
theorem spot_deep (r t c B c' k : Nat) (x : ByteArray) (w : World) (h : RefAt w r t c) (hk2 : 2 ≤ k) (hk8 : k ≤ 8) (hB : B < w.heap.size) (hx : w.cell? ⟨B, 0, none⟩ = some (.string x)) :
    Calls Tryz.prog 69 #[.pointer (some ⟨r, 0, none⟩), .slice (some ⟨B, 0, none⟩) k c'] w fun e w' => e = .returned (.tuple #[.agg #[.int .i64 0, .string ⟨#[]⟩, .int .i64 0], .int .i64 12]) ∧ Below w.heap.size w w' := by
  have h5 := h.c5
  have k2 := h.k2
  have hr := h.lt
  have ht := h.tlt
  have hz : ((k : Int) == 0) = false := by rw [beq_eq_false_iff_ne]; omega
  clear h
  go_enter Tryz.func69, Tryz.ntmps69
  go_wp2
  refine wp_loop_rounds 1 ?_
  rw [rounds_succ]
  go_wp2_with fail
  go_region_with (go_at_call 89; refine Calls.mono (find_none none 0 _ _) ?_; rintro e w1 ⟨rfl, rfl⟩)
  all_goals
    go_wp2
    exact bodyPost_ret (v := .tuple #[.agg #[.int .i64 0, .string ⟨#[]⟩, .int .i64 0], .int .i64 12]) (by simp [results, Tryz.results69, go_sem]) rfl ⟨rfl, by repeat (first | exact Below.refl _ _ | refine Below.drew ?_ | refine Below.alloc ?_ (by simp) _)⟩
end Go.Proofs.YtgdibjnendjhnaaGreatDoor
