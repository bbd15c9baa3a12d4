import Derived.Test.YtkfiaahgcljljaaTbNew
namespace Go.Proofs.Ytkfiaahgcljljaa
open Go.RowKit
set_option maxHeartbeats 8000000 in
set_option maxRecDepth 100000 in
set_option linter.unusedSimpArgs false in
set_option linter.unusedVariables false in
theorem num10_any (e : Int) (w : World) : Calls Try.prog 11 #[.int .i64 e] w fun v w' => v = .returned (.int .i64 e) ∧ w = w' := by
  go_enter Try.func11, Try.ntmps11
  go_wp2_with fail
  go_ret
  exact ⟨rfl, rfl⟩
/-- a shape of which a bucket may be made -/
def okS (r p c : Int) : Prop := 1 ≤ r ∧ r ≤ 65536 ∧ 1 ≤ p ∧ p ≤ 1024 ∧ 1 ≤ c ∧ c ≤ 65536
theorem okS.fits {r p c : Int} (h : okS r p c) : Fits r p c (c * p) := Fits.full h.1 h.2.1 h.2.2.1 h.2.2.2.1 h.2.2.2.2.1 h.2.2.2.2.2
set_option maxHeartbeats 8000000 in
set_option maxRecDepth 100000 in
set_option linter.unusedSimpArgs false in
set_option linter.unusedVariables false in
theorem good_yes (r p c : Int) (w : World) (h : okS r p c) : Calls Try.prog 15 #[(.agg #[.int .i64 r, .int .i64 p, .int .i64 c])] w fun v w' => v = .returned (.bool true) ∧ Below w.heap.size w w' := by
  obtain ⟨h0, h1, h2, h3, h4, h5⟩ := h
  go_enter Try.func15, Try.ntmps15
  go_wp2_with fail
  go_ret
  exact ⟨by simp <;> omega, (Below.refl _ w).alloc (Nat.le_refl _) _⟩
set_option maxHeartbeats 8000000 in
set_option maxRecDepth 100000 in
set_option linter.unusedSimpArgs false in
set_option linter.unusedVariables false in
theorem good_no0 (r p c : Int) (w : World)  (h0 : ¬ 1 ≤ r) : Calls Try.prog 15 #[(.agg #[.int .i64 r, .int .i64 p, .int .i64 c])] w fun v w' => v = .returned (.bool false) ∧ Below w.heap.size w w' := by
  go_enter Try.func15, Try.ntmps15
  go_wp2_with fail
  go_ret
  exact ⟨by simp <;> omega, (Below.refl _ w).alloc (Nat.le_refl _) _⟩
set_option maxHeartbeats 8000000 in
set_option maxRecDepth 100000 in
set_option linter.unusedSimpArgs false in
set_option linter.unusedVariables false in
theorem good_no1 (r p c : Int) (w : World) (h0 : 1 ≤ r) (h1 : ¬ r ≤ 65536) : Calls Try.prog 15 #[(.agg #[.int .i64 r, .int .i64 p, .int .i64 c])] w fun v w' => v = .returned (.bool false) ∧ Below w.heap.size w w' := by
  go_enter Try.func15, Try.ntmps15
  go_wp2_with fail
  go_ret
  exact ⟨by simp <;> omega, (Below.refl _ w).alloc (Nat.le_refl _) _⟩
set_option maxHeartbeats 8000000 in
set_option maxRecDepth 100000 in
set_option linter.unusedSimpArgs false in
set_option linter.unusedVariables false in
theorem good_no2 (r p c : Int) (w : World) (h0 : 1 ≤ r) (h1 : r ≤ 65536) (h2 : ¬ 1 ≤ p) : Calls Try.prog 15 #[(.agg #[.int .i64 r, .int .i64 p, .int .i64 c])] w fun v w' => v = .returned (.bool false) ∧ Below w.heap.size w w' := by
  go_enter Try.func15, Try.ntmps15
  go_wp2_with fail
  go_ret
  exact ⟨by simp <;> omega, (Below.refl _ w).alloc (Nat.le_refl _) _⟩
set_option maxHeartbeats 8000000 in
set_option maxRecDepth 100000 in
set_option linter.unusedSimpArgs false in
set_option linter.unusedVariables false in
theorem good_no3 (r p c : Int) (w : World) (h0 : 1 ≤ r) (h1 : r ≤ 65536) (h2 : 1 ≤ p) (h3 : ¬ p ≤ 1024) : Calls Try.prog 15 #[(.agg #[.int .i64 r, .int .i64 p, .int .i64 c])] w fun v w' => v = .returned (.bool false) ∧ Below w.heap.size w w' := by
  go_enter Try.func15, Try.ntmps15
  go_wp2_with fail
  go_ret
  exact ⟨by simp <;> omega, (Below.refl _ w).alloc (Nat.le_refl _) _⟩
set_option maxHeartbeats 8000000 in
set_option maxRecDepth 100000 in
set_option linter.unusedSimpArgs false in
set_option linter.unusedVariables false in
theorem good_no4 (r p c : Int) (w : World) (h0 : 1 ≤ r) (h1 : r ≤ 65536) (h2 : 1 ≤ p) (h3 : p ≤ 1024) (h4 : ¬ 1 ≤ c) : Calls Try.prog 15 #[(.agg #[.int .i64 r, .int .i64 p, .int .i64 c])] w fun v w' => v = .returned (.bool false) ∧ Below w.heap.size w w' := by
  go_enter Try.func15, Try.ntmps15
  go_wp2_with fail
  go_ret
  exact ⟨by simp <;> omega, (Below.refl _ w).alloc (Nat.le_refl _) _⟩
set_option maxHeartbeats 8000000 in
set_option maxRecDepth 100000 in
set_option linter.unusedSimpArgs false in
set_option linter.unusedVariables false in
theorem good_no5 (r p c : Int) (w : World) (h0 : 1 ≤ r) (h1 : r ≤ 65536) (h2 : 1 ≤ p) (h3 : p ≤ 1024) (h4 : 1 ≤ c) (h5 : ¬ c ≤ 65536) : Calls Try.prog 15 #[(.agg #[.int .i64 r, .int .i64 p, .int .i64 c])] w fun v w' => v = .returned (.bool false) ∧ Below w.heap.size w w' := by
  go_enter Try.func15, Try.ntmps15
  go_wp2_with fail
  go_ret
  exact ⟨by simp <;> omega, (Below.refl _ w).alloc (Nat.le_refl _) _⟩
theorem good_no (r p c : Int) (w : World) (h : ¬ okS r p c) : Calls Try.prog 15 #[(.agg #[.int .i64 r, .int .i64 p, .int .i64 c])] w fun v w' => v = .returned (.bool false) ∧ Below w.heap.size w w' := by
  by_cases h0 : 1 ≤ r
  case neg => exact good_no0 r p c w h0
  by_cases h1 : r ≤ 65536
  case neg => exact good_no1 r p c w h0 h1
  by_cases h2 : 1 ≤ p
  case neg => exact good_no2 r p c w h0 h1 h2
  by_cases h3 : p ≤ 1024
  case neg => exact good_no3 r p c w h0 h1 h2 h3
  by_cases h4 : 1 ≤ c
  case neg => exact good_no4 r p c w h0 h1 h2 h3 h4
  exact good_no5 r p c w h0 h1 h2 h3 h4 (fun h5 => h ⟨h0, h1, h2, h3, h4, h5⟩)
set_option maxHeartbeats 8000000 in
set_option maxRecDepth 100000 in
set_option linter.unusedSimpArgs false in
set_option linter.unusedVariables false in
theorem refused_any (r p c : Int) (w : World) (h : ¬ okS r p c) : Calls Try.prog 16 #[(.agg #[.int .i64 r, .int .i64 p, .int .i64 c])] w fun v w' => v = .returned (.bool true) ∧ Below w.heap.size w w' := by
  have NB := hide (newBucket_bad r p c (w.alloc (.cells #[.int .i64 r, .int .i64 p, .int .i64 c] 23)) h)
  go_enter Try.func16, Try.ntmps16
  go_wp2_with (first | (go_at_call 17; refine Calls.mono NB.out ?_; rintro e w1 ⟨rfl, rfl⟩) | (go_at_call 11; refine Calls.mono (num10_any _ _) ?_; rintro e wn ⟨rfl, rfl⟩))
  go_ret
  exact ⟨rfl, (Below.refl _ w).alloc (Nat.le_refl _) _⟩
/-- a shape in memory -/
def ShAt (X : World) (P : Nat) (r p c : Int) : Prop := X.heap[P]? = some (.cells #[.int .i64 r, .int .i64 p, .int .i64 c] 23)
theorem ShAt.c0 {w : World} {P : Nat} {r p c : Int} (h : ShAt w P r p c) : w.cell? ⟨P, 0, none⟩ = some (.int .i64 r) := by unfold World.cell?; rw [h]; rfl
theorem ShAt.c1 {w : World} {P : Nat} {r p c : Int} (h : ShAt w P r p c) : w.cell? ⟨P, 1, none⟩ = some (.int .i64 p) := by unfold World.cell?; rw [h]; rfl
theorem ShAt.c2 {w : World} {P : Nat} {r p c : Int} (h : ShAt w P r p c) : w.cell? ⟨P, 2, none⟩ = some (.int .i64 c) := by unfold World.cell?; rw [h]; rfl
theorem ShAt.below {w w' : World} {P : Nat} {r p c : Int} (h : ShAt w P r p c) (hb : Below w.heap.size w w') : ShAt w' P r p c := (hb.block _ (blk_lt h)).trans h
theorem ShAt.other {w w' : World} {P R : Nat} {r p c r' p' c' k' : Int} (h : ShAt w P r p c) (hR : BkAt w R r' p' c' k') (hg : w.grownBy w' (some R)) : ShAt w' P r p c := by
  refine (hg.block _ (blk_lt h) (fun e => ?_)).trans h
  obtain rfl : P = R := by cases e; rfl
  have := (show w.heap[P]? = _ from h).symm.trans hR
  simp at this
/-- two buckets of one shape, and the shape, beside what was there -/
structure Two (w X : World) (P R Q : Nat) (r p c k l : Int) : Prop where
  s : ShAt X P r p c
  a : BkAt X R r p c k
  b : BkAt X Q r p c l
  ne : R ≠ Q
  ra : w.heap.size ≤ R
  qa : w.heap.size ≤ Q
  bel : Below w.heap.size w X
theorem Two.left {w X X' : World} {P R Q : Nat} {r p c k l k' : Int} (h : Two w X P R Q r p c k l) (hb : BkAt X' R r p c k') (hg : X.grownBy X' (some R)) : Two w X' P R Q r p c k' l :=
  ⟨h.s.other h.a hg, hb, h.b.other hg (fun e => h.ne e.symm), h.ne, h.ra, h.qa, h.bel.trans (grown_n0 hg h.ra (blk_lt h.a))⟩
theorem Two.right {w X X' : World} {P R Q : Nat} {r p c k l l' : Int} (h : Two w X P R Q r p c k l) (hb : BkAt X' Q r p c l') (hg : X.grownBy X' (some Q)) : Two w X' P R Q r p c k l' :=
  ⟨h.s.other h.b hg, h.a.other hg h.ne, hb, h.ne, h.ra, h.qa, h.bel.trans (grown_n0 hg h.qa (blk_lt h.b))⟩
theorem Two.below {w X X' : World} {P R Q : Nat} {r p c k l : Int} (h : Two w X P R Q r p c k l) (hb : Below X.heap.size X X') : Two w X' P R Q r p c k l :=
  ⟨h.s.below hb, h.a.below hb, h.b.below hb, h.ne, h.ra, h.qa, h.bel.trans (hb.mono h.bel.size)⟩
/-- one bucket, and its shape, beside what was there -/
structure One (w X : World) (P R : Nat) (r p c k : Int) : Prop where
  s : ShAt X P r p c
  a : BkAt X R r p c k
  ra : w.heap.size ≤ R
  bel : Below w.heap.size w X
theorem One.go {w X X' : World} {P R : Nat} {r p c k k' : Int} (h : One w X P R r p c k) (hb : BkAt X' R r p c k') (hg : X.grownBy X' (some R)) : One w X' P R r p c k' :=
  ⟨h.s.other h.a hg, hb, h.ra, h.bel.trans (grown_n0 hg h.ra (blk_lt h.a))⟩
theorem One.below {w X X' : World} {P R : Nat} {r p c k : Int} (h : One w X P R r p c k) (hb : Below X.heap.size X X') : One w X' P R r p c k :=
  ⟨h.s.below hb, h.a.below hb, h.ra, h.bel.trans (hb.mono h.bel.size)⟩
set_option maxHeartbeats 8000000 in
set_option maxRecDepth 100000 in
set_option linter.unusedSimpArgs false in
set_option linter.unusedVariables false in
theorem twin_any (r p c : Int) (w : World) (h : okS r p c) : Calls Try.prog 22 #[(.agg #[.int .i64 r, .int .i64 p, .int .i64 c])] w fun v w' => ∃ R Q, v = .returned (.tuple #[.pointer (some ⟨R, 0, none⟩), .pointer (some ⟨Q, 0, none⟩), .bool true]) ∧ BkAt w' R r p c (c * p) ∧ BkAt w' Q r p c (c * p) ∧ R ≠ Q ∧ w.heap.size ≤ R ∧ w.heap.size ≤ Q ∧ Below w.heap.size w w' := by
  have hf := h.fits
  obtain ⟨WA, hWA⟩ : ∃ WA, WA = (w.alloc (.cells #[.int .i64 r, .int .i64 p, .int .i64 c] 23)) := ⟨_, rfl⟩
  have SA : Hid (ShAt WA w.heap.size r p c ∧ Below w.heap.size w WA) := by subst hWA; exact ⟨heap_last _ _, (Below.refl _ w).alloc (Nat.le_refl _) _⟩
  go_enter Try.func22, Try.ntmps22
  go_wp2_with fail
  rw [← hWA]
  clear hWA
  refine Calls.mono (newBucket_any r p c WA hf) ?_
  rintro e w1 ⟨rfl, b1, g1⟩
  have B1 := hide b1
  have G1 := hide (SA.out.2.trans (g1.mono SA.out.2.size))
  have s1 := SA.out.1.below g1
  have SB := hide s1
  have d0 := s1.c0
  have d1 := s1.c1
  have d2 := s1.c2
  clear b1 g1 s1
  go_wp2_with fail
  refine Calls.mono (newBucket_any r p c w1 hf) ?_
  rintro e w2 ⟨rfl, b2, g2⟩
  have T2 : Hid (BkAt w2 WA.heap.size r p c (c * p) ∧ BkAt w2 w1.heap.size r p c (c * p) ∧ WA.heap.size ≠ w1.heap.size ∧ w.heap.size ≤ WA.heap.size ∧ w.heap.size ≤ w1.heap.size ∧ Below w.heap.size w w2) := ⟨B1.out.below g2, b2, by have := blk_lt B1.out; omega, SA.out.2.size, G1.out.size, G1.out.trans (g2.mono G1.out.size)⟩
  clear b2 g2 d0 d1 d2
  go_wp2_with (go_at_call 11; refine Calls.mono (num10_any _ _) ?_; rintro e wn ⟨rfl, rfl⟩)
  refine bodyPost_ret (results_tmp3 rfl _ _ _) rfl ?_
  exact ⟨_, _, rfl, T2.out⟩
end Go.Proofs.Ytkfiaahgcljljaa
