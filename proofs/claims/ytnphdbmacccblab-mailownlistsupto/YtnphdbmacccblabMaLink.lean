import Derived.Test.YtnphdbmacccblabMaMap
namespace Go.Proofs.Ytnphdbmacccblab
open Go.RowKit
/-- a mail in memory -/
structure MlX (w : World) (S : Nat → Prop) (R M : Nat) (v : Value) (lim : Int) (s : Nat) (L : List Lt) (n : Nat) (C : Int → Int → Bool) : Prop where
  blk : w.heap[R]? = some (.cells #[.int .i64 lim, .int .i64 (s : Int), v, .map (some M)] 51)
  row : w.ownsRow 0 53 4 v L.length (ltc L)
  map : LkAt w M n C
  sR : S R
  sM : S M
  sv : ∀ k, v.ownBlock = some k → S k
  sb : ∀ k, S k → k < w.heap.size
def MlAt (w : World) (S : Nat → Prop) (R : Nat) (lim : Int) (s : Nat) (L : List Lt) (n : Nat) (C : Int → Int → Bool) : Prop := ∃ M v, MlX w S R M v lim s L n C
section
variable {w w' : World} {S : Nat → Prop} {R M : Nat} {v : Value} {lim : Int} {s : Nat} {L : List Lt} {n : Nat} {C : Int → Int → Bool}
theorem MlX.c0 (h : MlX w S R M v lim s L n C) : w.cell? ⟨R, 0, none⟩ = some (.int .i64 lim) := by unfold World.cell?; rw [h.blk]; rfl
theorem MlX.c1 (h : MlX w S R M v lim s L n C) : w.cell? ⟨R, 1, none⟩ = some (.int .i64 (s : Int)) := by unfold World.cell?; rw [h.blk]; rfl
theorem MlX.c2 (h : MlX w S R M v lim s L n C) : w.cell? ⟨R, 2, none⟩ = some v := by unfold World.cell?; rw [h.blk]; rfl
theorem MlX.c3 (h : MlX w S R M v lim s L n C) : w.cell? ⟨R, 3, none⟩ = some (.map (some M)) := by unfold World.cell?; rw [h.blk]; rfl
theorem MlX.fz (h : MlX w S R M v lim s L n C) (j : Nat) : w.frozen? ⟨R, j, none⟩ = false := by unfold World.frozen?; rw [h.blk]; simp
theorem MlX.kp {T : Nat → Prop} (h : MlX w S R M v lim s L n C) (hk : Kp w w' T) (hd : ∀ k, S k → ¬ T k) : MlX w' S R M v lim s L n C :=
  ⟨(hk.block _ (blk_lt h.blk) (hd _ h.sR)).trans h.blk, own_kp h.row hk (fun k e => hd _ (h.sv k e)), h.map.same (hk.block _ h.map.lt (hd _ h.sM)), h.sR, h.sM, h.sv, fun k e => Nat.lt_of_lt_of_le (h.sb k e) hk.size⟩
theorem MlX.below (h : MlX w S R M v lim s L n C) (hb : Below w.heap.size w w') : MlX w' S R M v lim s L n C := h.kp (Kp.of_below hb non) (fun _ _ f => f)
theorem MlX.drew (h : MlX w S R M v lim s L n C) : MlX w.drew S R M v lim s L n C := h.below ⟨rfl, rfl, rfl, Nat.le_refl _, fun _ _ => rfl⟩
theorem MlX.drewN (h : MlX w S R M v lim s L n C) (k : Nat) : MlX (w.drewN k) S R M v lim s L n C := h.below ⟨rfl, rfl, rfl, Nat.le_refl _, fun _ _ => rfl⟩
theorem MlX.alloc (h : MlX w S R M v lim s L n C) (o : Obj) : MlX (w.alloc o) S R M v lim s L n C := h.below ((Below.refl _ w).alloc (Nat.le_refl _) o)
theorem MlX.nRM (h : MlX w S R M v lim s L n C) : R ≠ M := by
  rintro rfl
  exact h.map.kind h.blk
theorem MlX.nvR (h : MlX w S R M v lim s L n C) : v.ownBlock ≠ some R := by
  intro e
  rcases h.row.2 with ⟨rfl, _⟩ | ⟨g, cap, cur, rfl, _, hg, _⟩
  · simp [Value.ownBlock] at e
  · simp only [Value.ownBlock, Option.some.injEq] at e
    subst e
    rw [h.blk] at hg
    simp at hg
theorem MlX.nvM (h : MlX w S R M v lim s L n C) : v.ownBlock ≠ some M := by
  intro e
  rcases h.row.2 with ⟨rfl, _⟩ | ⟨g, cap, cur, rfl, _, hg, _⟩
  · simp [Value.ownBlock] at e
  · simp only [Value.ownBlock, Option.some.injEq] at e
    subst e
    exact h.map.kind hg
end
def adr (n : Int) : Bool := decide (0 ≤ n) && decide (n ≤ 67)
theorem adr_t {n : Int} : adr n = true ↔ 0 ≤ n ∧ n ≤ 67 := by simp [adr]
theorem wf_adr {n : Int} (h0 : 0 ≤ n) (h1 : n ≤ 67) : (Lit.int .i64 n).wf = true := by
  have e1 : IntKind.i64.min = -9223372036854775808 := by decide
  have e2 : IntKind.i64.max = 9223372036854775807 := by decide
  simp [Lit.wf, e1, e2]
  omega
set_option maxHeartbeats 4000000 in
set_option maxRecDepth 100000 in
theorem none_nil (w : World) : Calls Try.prog 15 #[.pointer none] w fun e w' => e = .returned (.bool true) ∧ w = w' := by
  go_enter Try.func15, Try.ntmps15
  go_wp2_with fail
  go_ret
  exact ⟨rfl, rfl⟩
set_option maxHeartbeats 4000000 in
set_option maxRecDepth 100000 in
theorem none_any {w : World} {S : Nat → Prop} {R M : Nat} {v : Value} {lim : Int} {s : Nat} {L : List Lt} {n : Nat} {C : Int → Int → Bool} (h : MlX w S R M v lim s L n C) (hl : 1 ≤ lim) : Calls Try.prog 15 #[.pointer (some ⟨R, 0, none⟩)] w fun e w' => e = .returned (.bool false) ∧ w = w' := by
  have c0 := h.c0
  have hr0 : (lim == 0) = false := by simp; omega
  clear h
  go_enter Try.func15, Try.ntmps15
  go_wp2_with fail
  go_ret
  exact ⟨rfl, rfl⟩
set_option maxHeartbeats 4000000 in
set_option maxRecDepth 100000 in
theorem isAddress_any (n : Int) (w : World) : Calls Try.prog 36 #[.int .i64 n] w fun e w' => e = .returned (.bool (adr n)) ∧ w = w' := by
  unfold adr
  by_cases h1 : 0 ≤ n
  · go_enter Try.func36, Try.ntmps36
    go_wp2_with fail
    go_ret
    exact ⟨by simp [h1], rfl⟩
  · go_enter Try.func36, Try.ntmps36
    go_wp2_with fail
    go_ret
    exact ⟨by simp; omega, rfl⟩
set_option maxHeartbeats 4000000 in
set_option maxRecDepth 100000 in
theorem mbetween_any (a b : Int) (w : World) : Calls Try.prog 48 #[.int .i64 a, .int .i64 b] w fun e w' => e = .returned (lkV (min a b) (max a b)) ∧ Below w.heap.size w w' := by
  go_enter Try.func48, Try.ntmps48
  go_wp2_with fail
  refine bodyPost_ret (v := lkV (min a b) (max a b)) (results_cell_row rfl _ _ w.heap.size 84 _ (0, 0) _ rfl (heap_last w _) Try.underlying84 rfl (by kernel_rfl)) rfl ⟨rfl, (Below.refl _ w).alloc (Nat.le_refl _) _⟩
end Go.Proofs.Ytnphdbmacccblab
