import Derived.Test.YtgdibjnendjhnaaGreatDoorW11
namespace Go.Proofs.YtgdibjnendjhnaaGreatDoor
open Go.RowKit
theorem drewN_below {B : Nat} {a w : World} (h : Below B a w) (n : Nat) : Below B a (w.drewN n) := below_drewN h n
theorem alloc_below {a w : World} (h : Below a.heap.size a w) (o : Obj) : Below a.heap.size a (w.alloc o) := h.alloc h.size o
theorem cells3 {w w2 : World} {a0 a1 a2 : Value} {t : TypeId} (hb : Below (w.heap.size + 1) (w.alloc (.cells #[a0, a1, a2] t)) w2) :
    (w2.cell? ⟨w.heap.size, 0, none⟩ = some a0 ∧ w2.cell? ⟨w.heap.size, 1, none⟩ = some a1 ∧ w2.cell? ⟨w.heap.size, 2, none⟩ = some a2) ∧
    (w2.frozen? ⟨w.heap.size, 0, none⟩ = false ∧ w2.frozen? ⟨w.heap.size, 1, none⟩ = false ∧ w2.frozen? ⟨w.heap.size, 2, none⟩ = false) := by
  refine ⟨⟨?_, ?_, ?_⟩, ⟨?_, ?_, ?_⟩⟩
  · rw [hb.cell (p := ⟨w.heap.size, 0, none⟩) (by simp)]; simp
  · rw [hb.cell (p := ⟨w.heap.size, 1, none⟩) (by simp)]; simp
  · rw [hb.cell (p := ⟨w.heap.size, 2, none⟩) (by simp)]; simp
  · rw [hb.frozen (p := ⟨w.heap.size, 0, none⟩) (by simp)]; simp [go_sem]
  · rw [hb.frozen (p := ⟨w.heap.size, 1, none⟩) (by simp)]; simp [go_sem]
  · rw [hb.frozen (p := ⟨w.heap.size, 2, none⟩) (by simp)]; simp [go_sem]
set_option maxHeartbeats 800000 in
set_option maxRecDepth 100000 in
theorem at_no (r : Nat) (s : ByteArray) (w : World) (c4 : w.cell? ⟨r, 4, none⟩ = some (.bool false)) (hlt : r < w.heap.size) (h62 : s.size ≤ 4611686018427387904) (hp : isPath s.data.toList = false) :
    Calls Tryz.prog 48 #[.pointer (some ⟨r, 0, none⟩), .string s, .int .i64 0] w fun e w' => e = .returned (.tuple #[.agg #[.int .i64 0, .string ⟨#[]⟩, .int .i64 0], .int .i64 11]) ∧ Below w.heap.size w w' := by
  have HN : Hid (∀ o, Calls Tryz.prog 47 #[.pointer (some ⟨r, 0, none⟩), .string s, .bool true] (w.alloc o) fun e w' => e = .returned (.tuple #[.slice none 0 0, .int .i64 11]) ∧ Below (w.heap.size + 1) (w.alloc o) w') := fun o => by
    have := dnames_no r s true (w.alloc o) ((((Below.refl _ w).alloc (Nat.le_refl _) o).cell (p := ⟨r, 4, none⟩) hlt).trans c4) h62 hp
    rwa [World.size_alloc] at this
  clear hp h62 c4
  go_enter Tryz.func48, Tryz.ntmps48
  go_wp2_with (go_at_call 47; refine Calls.mono (HN.out _) ?_; rintro e w1 ⟨rfl, hb⟩; obtain ⟨⟨q0, q1, q2⟩, r0, r1, r2⟩ := cells3 hb)
  have hB : Below w.heap.size w w1 := ((Below.refl _ _).alloc (Nat.le_refl _) _).trans (hb.mono (Nat.le_succ _))
  refine bodyPost_ret (v := .tuple #[.agg #[.int .i64 0, .string ⟨#[]⟩, .int .i64 0], .int .i64 11]) (by simp [results, Tryz.results48, go_sem, q0, q1, q2]) rfl ⟨rfl, ?_⟩
  repeat (first | exact hB | refine Below.setCell ?_ (by simp) _)
set_option maxHeartbeats 800000 in
set_option maxRecDepth 100000 in
theorem at_root (r : Nat) (s : ByteArray) (w : World) (c4 : w.cell? ⟨r, 4, none⟩ = some (.bool false)) (hlt : r < w.heap.size) (hp : s.toList.isEmpty = true) :
    Calls Tryz.prog 48 #[.pointer (some ⟨r, 0, none⟩), .string s, .int .i64 0] w fun e w' => e = .returned (.tuple #[.agg #[.int .i64 (-1), .string ⟨#[]⟩, .int .i64 0], .int .i64 0]) ∧ Below w.heap.size w w' := by
  have HN : Hid (∀ o, Calls Tryz.prog 47 #[.pointer (some ⟨r, 0, none⟩), .string s, .bool true] (w.alloc o) fun e w' => e = .returned (.tuple #[.slice none 0 0, .int .i64 0]) ∧ w.alloc o = w') := fun o =>
    (dnames_root r s (w.alloc o) ((((Below.refl _ w).alloc (Nat.le_refl _) o).cell (p := ⟨r, 4, none⟩) hlt).trans c4) hp).mono fun _ _ h => ⟨h.1, h.2.symm⟩
  have HS : Hid (∀ o, Calls Tryz.prog 69 #[.pointer (some ⟨r, 0, none⟩), .slice none 0 0] (w.alloc o) fun e w' => e = .returned (.tuple #[.agg #[.int .i64 (-1), .string ⟨#[]⟩, .int .i64 0], .int .i64 0]) ∧ Below (w.heap.size + 1) (w.alloc o) w') := fun o => by
    have := spot_root r (w.alloc o)
    rwa [World.size_alloc] at this
  clear hp c4
  go_enter Tryz.func48, Tryz.ntmps48
  go_wp2_with (first
    | (go_at_call 47; refine Calls.mono (HN.out _) ?_; rintro e w1 ⟨rfl, rfl⟩)
    | (go_at_call 69; refine Calls.mono (HS.out _) ?_; rintro e w1 ⟨rfl, hb⟩; obtain ⟨⟨q0, q1, q2⟩, r0, r1, r2⟩ := cells3 hb; have hz : w.heap.size < w1.heap.size := by have := hb.size; simp at this; omega))
  go_quiet (fail)
  go_wp2
  have hB : Below w.heap.size w w1 := ((Below.refl _ _).alloc (Nat.le_refl _) _).trans (hb.mono (Nat.le_succ _))
  refine bodyPost_ret (v := .tuple #[.agg #[.int .i64 (-1), .string ⟨#[]⟩, .int .i64 0], .int .i64 0]) (by simp [results, Tryz.results48, go_sem, q0, q1, q2, hz]) rfl ⟨rfl, ?_⟩
  repeat (first | exact hB | refine Below.setCell ?_ (by simp) _ | refine drewN_below ?_ _ | refine alloc_below ?_ _)
set_option maxHeartbeats 800000 in
set_option maxRecDepth 100000 in
theorem at_one (r t c : Nat) (s : ByteArray) (w : World) (h : RefAt w r t c) (h62 : s.size ≤ 4611686018427387904) (hp : isPath s.data.toList = true) (hn : nNames s.data.toList = 1) :
    Calls Tryz.prog 48 #[.pointer (some ⟨r, 0, none⟩), .string s, .int .i64 0] w fun e w' => e = .returned (.tuple #[.agg #[.int .i64 0, .string ⟨#[]⟩, .int .i64 0], .int .i64 12]) ∧ Below w.heap.size w w' := by
  have HN : Hid (∀ o, Calls Tryz.prog 47 #[.pointer (some ⟨r, 0, none⟩), .string s, .bool true] (w.alloc o) fun e w' => ∃ B c, e = .returned (.tuple #[.slice (some ⟨B, 0, none⟩) 1 c, .int .i64 0]) ∧ 1 ≤ c ∧ B < w'.heap.size ∧ (∀ j, j < 1 → ∃ x, w'.cell? ⟨B, j, none⟩ = some (.string x)) ∧ Below (w.heap.size + 1) (w.alloc o) w') := fun o => by
    have := dnames_many r s 1 true (w.alloc o) (h.later ((Below.refl _ w).alloc (Nat.le_refl _) o)).c4 h62 hp hn (by omega)
    rwa [World.size_alloc] at this
  have HW := hide h
  clear hp hn h62 h
  go_enter Tryz.func48, Tryz.ntmps48
  go_wp2_with (go_at_call 47; refine Calls.mono (HN.out _) ?_; rintro e w1 ⟨B, cv, rfl, hcv, hB1, hx, hb⟩)
  have hB : Below w.heap.size w w1 := ((Below.refl _ _).alloc (Nat.le_refl _) _).trans (hb.mono (Nat.le_succ _))
  obtain ⟨x0, hx0⟩ := hx 0 (by omega)
  have HS : Hid (Calls Tryz.prog 69 #[.pointer (some ⟨r, 0, none⟩), .slice (some ⟨B, 0, none⟩) 1 cv] w1 fun e w' => e = .returned (.tuple #[.agg #[.int .i64 0, .string x0, .int .i64 (-1)], .int .i64 0]) ∧ Below w1.heap.size w1 w') :=
    spot_one r t c B cv x0 w1 (HW.out.later hB) hB1 hx0
  clear hx hx0
  go_wp2_with (go_at_call 69; refine Calls.mono HS.out ?_; rintro e w2 ⟨rfl, hb2⟩; obtain ⟨⟨q0, q1, q2⟩, r0, r1, r2⟩ := cells3 (hb.trans (hb2.mono (by have := hb.size; simpa using this))); have hz : w.heap.size < w2.heap.size := by have := hb.size; have := hb2.size; simp at *; omega)
  have hB2 : Below w.heap.size w w2 := hB.trans (hb2.mono hB.size)
  refine bodyPost_ret (v := .tuple #[.agg #[.int .i64 0, .string ⟨#[]⟩, .int .i64 0], .int .i64 12]) (by simp [results, Tryz.results48, go_sem, q0, q1, q2, hz]) rfl ⟨rfl, ?_⟩
  repeat (first | exact hB2 | refine Below.setCell ?_ (by simp) _ | refine alloc_below ?_ _)
set_option maxHeartbeats 800000 in
set_option maxRecDepth 100000 in
theorem at_deep (r t c k : Nat) (s : ByteArray) (w : World) (h : RefAt w r t c) (h62 : s.size ≤ 4611686018427387904) (hp : isPath s.data.toList = true) (hn : nNames s.data.toList = k) (hk2 : 2 ≤ k) (hk8 : k ≤ 8) :
    Calls Tryz.prog 48 #[.pointer (some ⟨r, 0, none⟩), .string s, .int .i64 0] w fun e w' => e = .returned (.tuple #[.agg #[.int .i64 0, .string ⟨#[]⟩, .int .i64 0], .int .i64 12]) ∧ Below w.heap.size w w' := by
  have HN : Hid (∀ o, Calls Tryz.prog 47 #[.pointer (some ⟨r, 0, none⟩), .string s, .bool true] (w.alloc o) fun e w' => ∃ B c, e = .returned (.tuple #[.slice (some ⟨B, 0, none⟩) k c, .int .i64 0]) ∧ k ≤ c ∧ B < w'.heap.size ∧ (∀ j, j < k → ∃ x, w'.cell? ⟨B, j, none⟩ = some (.string x)) ∧ Below (w.heap.size + 1) (w.alloc o) w') := fun o => by
    have := dnames_many r s k true (w.alloc o) (h.later ((Below.refl _ w).alloc (Nat.le_refl _) o)).c4 h62 hp hn (by omega)
    rwa [World.size_alloc] at this
  have HW := hide h
  clear hp hn h62 h
  go_enter Tryz.func48, Tryz.ntmps48
  go_wp2_with (go_at_call 47; refine Calls.mono (HN.out _) ?_; rintro e w1 ⟨B, cv, rfl, hcv, hB1, hx, hb⟩)
  have hB : Below w.heap.size w w1 := ((Below.refl _ _).alloc (Nat.le_refl _) _).trans (hb.mono (Nat.le_succ _))
  obtain ⟨x0, hx0⟩ := hx 0 (by omega)
  have HS : Hid (Calls Tryz.prog 69 #[.pointer (some ⟨r, 0, none⟩), .slice (some ⟨B, 0, none⟩) k cv] w1 fun e w' => e = .returned (.tuple #[.agg #[.int .i64 0, .string ⟨#[]⟩, .int .i64 0], .int .i64 12]) ∧ Below w1.heap.size w1 w') :=
    spot_deep r t c B cv k x0 w1 (HW.out.later hB) hk2 hk8 hB1 hx0
  clear hx hx0
  go_wp2_with (go_at_call 69; refine Calls.mono HS.out ?_; rintro e w2 ⟨rfl, hb2⟩; obtain ⟨⟨q0, q1, q2⟩, r0, r1, r2⟩ := cells3 (hb.trans (hb2.mono (by have := hb.size; simpa using this))); have hz : w.heap.size < w2.heap.size := by have := hb.size; have := hb2.size; simp at *; omega)
  have hB2 : Below w.heap.size w w2 := hB.trans (hb2.mono hB.size)
  refine bodyPost_ret (v := .tuple #[.agg #[.int .i64 0, .string ⟨#[]⟩, .int .i64 0], .int .i64 12]) (by simp [results, Tryz.results48, go_sem, q0, q1, q2, hz]) rfl ⟨rfl, ?_⟩
  repeat (first | exact hB2 | refine Below.setCell ?_ (by simp) _ | refine alloc_below ?_ _)
set_option maxHeartbeats 800000 in
set_option maxRecDepth 100000 in
theorem rkind_no (r t c : Nat) (s : ByteArray) (w : World) (h : RefAt w r t c) (h62 : s.size ≤ 4611686018427387904) (hp : isPath s.data.toList = false) :
    Calls Tryz.prog 19 #[.pointer (some ⟨r, 0, none⟩), .string s] w fun e w' => e = .returned (.tuple #[.int .i64 0, .int .i64 11]) ∧ Below w.heap.size w w' := by
  have HA := hide (at_no r s w h.c4 h.lt h62 hp)
  clear h hp h62
  go_enter Tryz.func19, Tryz.ntmps19
  go_wp2_with (go_at_call 48; refine Calls.mono HA.out ?_; rintro e w1 ⟨rfl, hb⟩)
  go_ret2
  exact ⟨rfl, by repeat (first | exact hb | refine Below.setCell ?_ (by simp) _ | refine drewN_below ?_ _ | refine Below.drew ?_ | refine alloc_below ?_ _)⟩
set_option maxHeartbeats 800000 in
set_option maxRecDepth 100000 in
theorem rkind_one (r t c : Nat) (s : ByteArray) (w : World) (h : RefAt w r t c) (h62 : s.size ≤ 4611686018427387904) (hp : isPath s.data.toList = true) (hn : nNames s.data.toList = 1) :
    Calls Tryz.prog 19 #[.pointer (some ⟨r, 0, none⟩), .string s] w fun e w' => e = .returned (.tuple #[.int .i64 0, .int .i64 12]) ∧ Below w.heap.size w w' := by
  have HA := hide (at_one r t c s w h h62 hp hn)
  clear h hp h62 hn
  go_enter Tryz.func19, Tryz.ntmps19
  go_wp2_with (go_at_call 48; refine Calls.mono HA.out ?_; rintro e w1 ⟨rfl, hb⟩)
  go_ret2
  exact ⟨rfl, by repeat (first | exact hb | refine Below.setCell ?_ (by simp) _ | refine drewN_below ?_ _ | refine Below.drew ?_ | refine alloc_below ?_ _)⟩
set_option maxHeartbeats 800000 in
set_option maxRecDepth 100000 in
theorem rkind_deep (r t c : Nat) (s : ByteArray) (w : World) (h : RefAt w r t c) (k : Nat) (h62 : s.size ≤ 4611686018427387904) (hp : isPath s.data.toList = true) (hn : nNames s.data.toList = k) (hk2 : 2 ≤ k) (hk8 : k ≤ 8) :
    Calls Tryz.prog 19 #[.pointer (some ⟨r, 0, none⟩), .string s] w fun e w' => e = .returned (.tuple #[.int .i64 0, .int .i64 12]) ∧ Below w.heap.size w w' := by
  have HA := hide (at_deep r t c k s w h h62 hp hn hk2 hk8)
  clear h hp h62 hn hk2 hk8
  go_enter Tryz.func19, Tryz.ntmps19
  go_wp2_with (go_at_call 48; refine Calls.mono HA.out ?_; rintro e w1 ⟨rfl, hb⟩)
  go_ret2
  exact ⟨rfl, by repeat (first | exact hb | refine Below.setCell ?_ (by simp) _ | refine drewN_below ?_ _ | refine Below.drew ?_ | refine alloc_below ?_ _)⟩
set_option maxHeartbeats 800000 in
set_option maxRecDepth 100000 in
theorem rkind_root (r t c : Nat) (s : ByteArray) (w : World) (h : RefAt w r t c) (hp : s.toList.isEmpty = true) :
    Calls Tryz.prog 19 #[.pointer (some ⟨r, 0, none⟩), .string s] w fun e w' => e = .returned (.tuple #[.int .i64 1, .int .i64 0]) ∧ Below w.heap.size w w' := by
  have HA := hide (at_root r s w h.c4 h.lt hp)
  have HW := hide h
  clear h hp
  go_enter Tryz.func19, Tryz.ntmps19
  go_wp2_with (go_at_call 48; refine Calls.mono HA.out ?_; rintro e w1 ⟨rfl, hb⟩)
  have h5 := (HW.out.later hb).c5
  have k0 := (HW.out.later hb).k0
  have hlt := (HW.out.later hb).lt
  have htl := (HW.out.later hb).tlt
  go_quiet (fail)
  go_wp2
  go_ret2
  exact ⟨rfl, by repeat (first | exact hb | refine Below.setCell ?_ (by simp) _ | refine drewN_below ?_ _ | refine Below.drew ?_ | refine alloc_below ?_ _)⟩
set_option maxHeartbeats 800000 in
set_option maxRecDepth 100000 in
theorem rremove_no (r t c : Nat) (s : ByteArray) (w : World) (h : RefAt w r t c) (h62 : s.size ≤ 4611686018427387904) (hp : isPath s.data.toList = false) :
    Calls Tryz.prog 37 #[.pointer (some ⟨r, 0, none⟩), .string s] w fun e w' => e = .returned (.int .i64 11) ∧ Below w.heap.size w w' := by
  have HN := hide (dnames_no r s false w h.c4 h62 hp)
  clear h hp h62
  go_enter Tryz.func37, Tryz.ntmps37
  go_wp2_with (go_at_call 47; refine Calls.mono HN.out ?_; rintro e w1 ⟨rfl, hb⟩)
  go_ret
  exact ⟨rfl, by repeat (first | exact hb | refine Below.setCell ?_ (by simp) _ | refine drewN_below ?_ _ | refine Below.drew ?_ | refine alloc_below ?_ _)⟩
set_option maxHeartbeats 800000 in
set_option maxRecDepth 100000 in
theorem rremove_root (r t c : Nat) (s : ByteArray) (w : World) (h : RefAt w r t c) (hp : s.toList.isEmpty = true) :
    Calls Tryz.prog 37 #[.pointer (some ⟨r, 0, none⟩), .string s] w fun e w' => e = .returned (.int .i64 11) ∧ Below w.heap.size w w' := by
  have HN : Hid (Calls Tryz.prog 47 #[.pointer (some ⟨r, 0, none⟩), .string s, .bool false] w fun e w' => e = .returned (.tuple #[.slice none 0 0, .int .i64 11]) ∧ Below w.heap.size w w') := (dnames_rootno r s w h.c4 hp).mono fun e w' hh => ⟨hh.1, by rw [hh.2]; exact Below.refl _ _⟩
  clear h hp
  go_enter Tryz.func37, Tryz.ntmps37
  go_wp2_with (go_at_call 47; refine Calls.mono HN.out ?_; rintro e w1 ⟨rfl, hb⟩)
  go_ret
  exact ⟨rfl, by repeat (first | exact hb | refine Below.setCell ?_ (by simp) _ | refine drewN_below ?_ _ | refine Below.drew ?_ | refine alloc_below ?_ _)⟩
set_option maxHeartbeats 800000 in
set_option maxRecDepth 100000 in
theorem rremove_one (r t c : Nat) (s : ByteArray) (w : World) (h : RefAt w r t c) (h62 : s.size ≤ 4611686018427387904) (hp : isPath s.data.toList = true) (hn : nNames s.data.toList = 1) :
    Calls Tryz.prog 37 #[.pointer (some ⟨r, 0, none⟩), .string s] w fun e w' => e = .returned (.int .i64 12) ∧ Below w.heap.size w w' := by
  have HN := hide (dnames_many r s 1 false w h.c4 h62 hp hn (by omega))
  have HA : Hid (∀ w1, Below w.heap.size w w1 → Calls Tryz.prog 48 #[.pointer (some ⟨r, 0, none⟩), .string s, .int .i64 0] w1 fun e w' => e = .returned (.tuple #[.agg #[.int .i64 0, .string ⟨#[]⟩, .int .i64 0], .int .i64 12]) ∧ Below w1.heap.size w1 w') := fun w1 hb => at_one r t c s w1 (h.later hb) h62 hp hn
  clear h hp h62 hn
  go_enter Tryz.func37, Tryz.ntmps37
  go_wp2_with (first
    | (go_at_call 47; refine Calls.mono HN.out ?_; rintro e w1 ⟨B, cv, rfl, _, _, _, hb1⟩)
    | (go_at_call 48; refine Calls.mono (HA.out _ hb1) ?_; rintro e w2 ⟨rfl, hb2⟩))
  have hb : Below w.heap.size w w2 := hb1.trans (hb2.mono hb1.size)
  go_ret
  exact ⟨rfl, by repeat (first | exact hb | refine Below.setCell ?_ (by simp) _ | refine drewN_below ?_ _ | refine Below.drew ?_ | refine alloc_below ?_ _)⟩
set_option maxHeartbeats 800000 in
set_option maxRecDepth 100000 in
theorem rremove_deep (r t c : Nat) (s : ByteArray) (w : World) (h : RefAt w r t c) (k : Nat) (h62 : s.size ≤ 4611686018427387904) (hp : isPath s.data.toList = true) (hn : nNames s.data.toList = k) (hk2 : 2 ≤ k) (hk8 : k ≤ 8) :
    Calls Tryz.prog 37 #[.pointer (some ⟨r, 0, none⟩), .string s] w fun e w' => e = .returned (.int .i64 12) ∧ Below w.heap.size w w' := by
  have HN := hide (dnames_many r s k false w h.c4 h62 hp hn (by omega))
  have HA : Hid (∀ w1, Below w.heap.size w w1 → Calls Tryz.prog 48 #[.pointer (some ⟨r, 0, none⟩), .string s, .int .i64 0] w1 fun e w' => e = .returned (.tuple #[.agg #[.int .i64 0, .string ⟨#[]⟩, .int .i64 0], .int .i64 12]) ∧ Below w1.heap.size w1 w') := fun w1 hb => at_deep r t c k s w1 (h.later hb) h62 hp hn hk2 hk8
  clear h hp h62 hn
  go_enter Tryz.func37, Tryz.ntmps37
  go_wp2_with (first
    | (go_at_call 47; refine Calls.mono HN.out ?_; rintro e w1 ⟨B, cv, rfl, _, _, _, hb1⟩)
    | (go_at_call 48; refine Calls.mono (HA.out _ hb1) ?_; rintro e w2 ⟨rfl, hb2⟩))
  have hb : Below w.heap.size w w2 := hb1.trans (hb2.mono hb1.size)
  go_ret
  exact ⟨rfl, by repeat (first | exact hb | refine Below.setCell ?_ (by simp) _ | refine drewN_below ?_ _ | refine Below.drew ?_ | refine alloc_below ?_ _)⟩
set_option maxHeartbeats 800000 in
set_option maxRecDepth 100000 in
theorem make_no (r t c : Nat) (s : ByteArray) (kd : Int) (w : World) (h : RefAt w r t c) (h62 : s.size ≤ 4611686018427387904) (hp : isPath s.data.toList = false) :
    Calls Tryz.prog 59 #[.pointer (some ⟨r, 0, none⟩), .string s, .int .i64 kd] w fun e w' => e = .returned (.int .i64 11) ∧ Below w.heap.size w w' := by
  have HN := hide (dnames_no r s true w h.c4 h62 hp)
  clear h hp h62
  go_enter Tryz.func59, Tryz.ntmps59
  go_wp2_with (go_at_call 47; refine Calls.mono HN.out ?_; rintro e w1 ⟨rfl, hb⟩)
  go_ret
  exact ⟨rfl, by repeat (first | exact hb | refine Below.setCell ?_ (by simp) _ | refine drewN_below ?_ _ | refine Below.drew ?_ | refine alloc_below ?_ _)⟩
set_option maxHeartbeats 800000 in
set_option maxRecDepth 100000 in
theorem make_root (r t c : Nat) (s : ByteArray) (kd : Int) (w : World) (h : RefAt w r t c) (hp : s.toList.isEmpty = true) :
    Calls Tryz.prog 59 #[.pointer (some ⟨r, 0, none⟩), .string s, .int .i64 kd] w fun e w' => e = .returned (.int .i64 13) ∧ Below w.heap.size w w' := by
  have HN : Hid (Calls Tryz.prog 47 #[.pointer (some ⟨r, 0, none⟩), .string s, .bool true] w fun e w' => e = .returned (.tuple #[.slice none 0 0, .int .i64 0]) ∧ w = w') := (dnames_root r s w h.c4 hp).mono fun _ _ hh => ⟨hh.1, hh.2.symm⟩
  have HS := hide (spot_root r w)
  clear h hp
  go_enter Tryz.func59, Tryz.ntmps59
  go_wp2_with (first
    | (go_at_call 47; refine Calls.mono HN.out ?_; rintro e w1 ⟨rfl, rfl⟩)
    | (go_at_call 69; refine Calls.mono HS.out ?_; rintro e w1 ⟨rfl, hb⟩))
  go_ret
  exact ⟨rfl, by repeat (first | exact hb | refine Below.setCell ?_ (by simp) _ | refine drewN_below ?_ _ | refine Below.drew ?_ | refine alloc_below ?_ _)⟩
set_option maxHeartbeats 800000 in
set_option maxRecDepth 100000 in
theorem make_deep (r t c : Nat) (s : ByteArray) (kd : Int) (w : World) (h : RefAt w r t c) (k : Nat) (h62 : s.size ≤ 4611686018427387904) (hp : isPath s.data.toList = true) (hn : nNames s.data.toList = k) (hk2 : 2 ≤ k) (hk8 : k ≤ 8) :
    Calls Tryz.prog 59 #[.pointer (some ⟨r, 0, none⟩), .string s, .int .i64 kd] w fun e w' => e = .returned (.int .i64 12) ∧ Below w.heap.size w w' := by
  have HN := hide (dnames_many r s k true w h.c4 h62 hp hn (by omega))
  have HW := hide h
  clear h hp h62 hn
  go_enter Tryz.func59, Tryz.ntmps59
  go_wp2_with (go_at_call 47; refine Calls.mono HN.out ?_; rintro e w1 ⟨B, cv, rfl, _, hB1, hx, hb1⟩)
  obtain ⟨x0, hx0⟩ := hx 0 (by omega)
  have HS := hide (spot_deep r t c B cv k x0 w1 (HW.out.later hb1) hk2 hk8 hB1 hx0)
  clear hx hx0
  go_wp2_with (go_at_call 69; refine Calls.mono HS.out ?_; rintro e w2 ⟨rfl, hb2⟩)
  have hb : Below w.heap.size w w2 := hb1.trans (hb2.mono hb1.size)
  go_ret
  exact ⟨rfl, by repeat (first | exact hb | refine Below.setCell ?_ (by simp) _ | refine drewN_below ?_ _ | refine Below.drew ?_ | refine alloc_below ?_ _)⟩
end Go.Proofs.YtgdibjnendjhnaaGreatDoor
