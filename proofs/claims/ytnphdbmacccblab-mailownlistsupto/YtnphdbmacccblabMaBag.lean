import Derived.Test.YtnphdbmacccblabMaCut
import Derived.Laws.Rows
import Derived.Laws.ResultCell
namespace Go.Proofs.Ytnphdbmacccblab
open Go.RowKit
theorem info_lt : (Try.prog.info? 53).map (·.size) = some 4 := by kernel_rfl
def LtAt (w : World) (b : Nat) (x : Lt) : Prop := w.heap[b]? = some (.cells #[.int .i64 x.id, .int .i64 x.fr, .int .i64 x.td, .string x.tx] 53)
theorem LtAt.c0 {w : World} {b : Nat} {x : Lt} (h : LtAt w b x) : w.cell? ⟨b, 0, none⟩ = some (.int .i64 x.id) := by unfold World.cell?; rw [h]; rfl
theorem LtAt.c1 {w : World} {b : Nat} {x : Lt} (h : LtAt w b x) : w.cell? ⟨b, 1, none⟩ = some (.int .i64 x.fr) := by unfold World.cell?; rw [h]; rfl
theorem LtAt.c2 {w : World} {b : Nat} {x : Lt} (h : LtAt w b x) : w.cell? ⟨b, 2, none⟩ = some (.int .i64 x.td) := by unfold World.cell?; rw [h]; rfl
theorem LtAt.c3 {w : World} {b : Nat} {x : Lt} (h : LtAt w b x) : w.cell? ⟨b, 3, none⟩ = some (.string x.tx) := by unfold World.cell?; rw [h]; rfl
theorem LtAt.fz {w : World} {b : Nat} {x : Lt} (h : LtAt w b x) (j : Nat) : w.frozen? ⟨b, j, none⟩ = false := by unfold World.frozen?; rw [h]; simp
theorem res_lt {fn : Func} {p q : Tmp} (h : fn.results = #[.cell p 53, .tmp q]) (tmps : Array Value) (x : Lt) (w : World) (b : Nat) (ht : tmps.getD p undef = .pointer (some ⟨b, 0, none⟩)) (hO : LtAt w b x) (v : Value) (hv : tmps.getD q undef = v) : (results fn tmps).run Try.prog w = .ok (.tuple #[x.v, v]) w := by
  have hl : (loadVar 53 ⟨b, 0, none⟩).run Try.prog w = .ok x.v w := run_loadVar_row _ _ 53 53 _ (0, 0) _ hO Try.underlying53 rfl info_lt
  have ht' : tmps[p]?.getD undef = .pointer (some ⟨b, 0, none⟩) := by simpa using ht
  have hv' : tmps[q]?.getD undef = v := by simpa using hv
  unfold results
  rw [h]
  simp [ht', hv', asAddr, hl]
set_option maxHeartbeats 4000000 in
set_option maxRecDepth 100000 in
set_option linter.unusedSimpArgs false in
set_option linter.unusedVariables false in
theorem count_any {w : World} {S : Nat → Prop} {R M : Nat} {v : Value} {lim : Int} {s : Nat} {L : List Lt} {n : Nat} {C : Int → Int → Bool} (h : MlX w S R M v lim s L n C) : Calls Try.prog 50 #[.pointer (some ⟨R, 2, none⟩)] w fun e w' => e = .returned (.int .i64 (L.length : Int)) ∧ w = w' := by
  have c2 := h.c2
  obtain ⟨ba, cap, rfl⟩ := own_sl h.row
  clear h
  go_enter Try.func50, Try.ntmps50
  go_wp2_with fail
  go_ret
  exact ⟨rfl, rfl⟩
set_option maxHeartbeats 4000000 in
set_option maxRecDepth 100000 in
set_option linter.unusedSimpArgs false in
set_option linter.unusedVariables false in
theorem isFull_any {w : World} {S : Nat → Prop} {R M : Nat} {v : Value} {lim : Int} {s : Nat} {L : List Lt} {n : Nat} {C : Int → Int → Bool} (h : MlX w S R M v lim s L n C) : Calls Try.prog 38 #[.pointer (some ⟨R, 0, none⟩)] w fun e w' => e = .returned (.bool (decide (lim ≤ (L.length : Int)))) ∧ Below w.heap.size w w' := by
  have c0 := h.drew.c0
  have CO := hide (count_any h.drew)
  have D0 : Hid (Below w.heap.size w w.drew) := ⟨rfl, rfl, rfl, Nat.le_refl _, fun _ _ => rfl⟩
  clear h
  go_enter Try.func38, Try.ntmps38
  go_wp2_with fail
  refine wp_region_held_drew (S := fun X => X = w.drew) (by kernel_rfl) rfl (fun hHeld => ?_)
  refine wpAnyH_take (i := 0) (v := (.pointer (some ⟨R, 0, none⟩))) rfl (by kernel_rfl) (by kernel_rfl) (by kernel_rfl) (fun _ _ _ h => h) (Or.inl ⟨by rfl, ?_⟩) (by assumption) ?_
  · intro w' hSw
    (try dsimp only at hSw)
    go_simp
  (try simp only [Act.put, List.setIfInBounds_toArray, List.set_cons_zero, List.set_cons_succ])
  refine wpAnyH_take (i := 1) (v := (.pointer (some ⟨R, 0, none⟩))) rfl (by kernel_rfl) (by kernel_rfl) (by kernel_rfl) (fun _ _ _ h => h) (Or.inl ⟨by rfl, ?_⟩) (by assumption) ?_
  · intro w' hSw
    (try dsimp only at hSw)
    go_simp
  (try simp only [Act.put, List.setIfInBounds_toArray, List.set_cons_zero, List.set_cons_succ])
  refine wpAnyH_take (i := 2) (v := (.pointer (some ⟨R, 2, none⟩))) rfl (by kernel_rfl) (by kernel_rfl) (by kernel_rfl) (fun _ _ _ h => h) (Or.inl ⟨by rfl, ?_⟩) (by assumption) ?_
  · intro w' hSw
    (try dsimp only at hSw)
    go_simp
  (try simp only [Act.put, List.setIfInBounds_toArray, List.set_cons_zero, List.set_cons_succ])
  refine wpAnyH_take (i := 4) (v := (.pointer (some ⟨R, 0, none⟩))) rfl (by kernel_rfl) (by kernel_rfl) (by kernel_rfl) (fun _ _ _ h => h) (Or.inl ⟨by rfl, ?_⟩) (by assumption) ?_
  · intro w' hSw
    (try dsimp only at hSw)
    go_simp
  (try simp only [Act.put, List.setIfInBounds_toArray, List.set_cons_zero, List.set_cons_succ])
  refine wpAnyH_take (i := 5) (v := (.pointer (some ⟨R, 0, none⟩))) rfl (by kernel_rfl) (by kernel_rfl) (by kernel_rfl) (fun _ _ _ h => h) (Or.inl ⟨by rfl, ?_⟩) (by assumption) ?_
  · intro w' hSw
    (try dsimp only at hSw)
    go_simp
  (try simp only [Act.put, List.setIfInBounds_toArray, List.set_cons_zero, List.set_cons_succ])
  refine wpAnyH_take (i := 6) (v := (.pointer (some ⟨R, 0, none⟩))) rfl (by kernel_rfl) (by kernel_rfl) (by kernel_rfl) (fun _ _ _ h => h) (Or.inl ⟨by rfl, ?_⟩) (by assumption) ?_
  · intro w' hSw
    (try dsimp only at hSw)
    go_simp
  (try simp only [Act.put, List.setIfInBounds_toArray, List.set_cons_zero, List.set_cons_succ])
  refine wpAnyH_take (i := 7) (v := (.int .i64 lim)) rfl (by kernel_rfl) (by kernel_rfl) (by kernel_rfl) (fun _ _ _ h => h) (Or.inl ⟨by rfl, ?_⟩) (by assumption) ?_
  · intro w' hSw
    (try dsimp only at hSw)
    (subst hSw; go_simp)
  (try simp only [Act.put, List.setIfInBounds_toArray, List.set_cons_zero, List.set_cons_succ])
  refine wpAnyH_ready (rs := [3]) (by kernel_rfl) (by simp) ?_
  refine AllReadyH.cons rfl (fun K hK => ?_) AllReadyH.nil
  go_simp
  refine Calls.mono CO.out ?_
  rintro e w1 ⟨rfl, rfl⟩
  refine hK.out _ _ (rfl) (fun hHeld => ?_)
  clear hK
  (try simp only [Act.put, List.setIfInBounds_toArray, List.set_cons_zero, List.set_cons_succ])
  refine wpAnyH_take (i := 8) (v := (.bool (decide (lim ≤ (L.length : Int))))) rfl (by kernel_rfl) (by kernel_rfl) (by kernel_rfl) (fun _ _ _ h => h) (Or.inl ⟨by rfl, ?_⟩) (by assumption) ?_
  · intro w' hSw
    (try dsimp only at hSw)
    go_simp
  (try simp only [Act.put, List.setIfInBounds_toArray, List.set_cons_zero, List.set_cons_succ])
  refine wpAnyH_ready (rs := [9]) (by kernel_rfl) (by simp) ?_
  refine AllReadyH.cons rfl (fun K hK => ?_) AllReadyH.nil
  go_simp
  refine hK.out _ _ (rfl) (fun hHeld => ?_)
  clear hK
  (try simp only [Act.put, List.setIfInBounds_toArray, List.set_cons_zero, List.set_cons_succ])
  refine wpAnyH_done (by kernel_rfl) ?_ _
  go_wp2_with fail
  go_ret
  exact ⟨rfl, D0.out⟩
def okI (L : List Lt) (i : Int) : Prop := 0 ≤ i ∧ i < (L.length : Int)
def ltI (L : List Lt) (i : Int) : Lt := L[i.toNat]?.getD noL
theorem MlX.at {w : World} {S : Nat → Prop} {R M : Nat} {g cap : Nat} {lim : Int} {s : Nat} {L : List Lt} {n : Nat} {C : Int → Int → Bool} (h : MlX w S R M (.slice (some ⟨g, 0, none⟩) L.length cap) lim s L n C) (q : Nat) (hq : q < L.length) : w.cell? ⟨g, q * 4, none⟩ = some (.int .i64 L[q].id) ∧ w.cell? ⟨g, q * 4 + 1, none⟩ = some (.int .i64 L[q].fr) ∧ w.cell? ⟨g, q * 4 + 2, none⟩ = some (.int .i64 L[q].td) ∧ w.cell? ⟨g, q * 4 + 3, none⟩ = some (.string L[q].tx) := by
  obtain ⟨e1, e2, e3, e4⟩ := ltc_at L q hq
  exact ⟨(h.row.cellAt (q * 4) (by omega)).trans e1, (h.row.cellAt (q * 4 + 1) (by omega)).trans e2, (h.row.cellAt (q * 4 + 2) (by omega)).trans e3, (h.row.cellAt (q * 4 + 3) (by omega)).trans e4⟩
set_option maxHeartbeats 4000000 in
set_option maxRecDepth 100000 in
set_option linter.unusedSimpArgs false in
set_option linter.unusedVariables false in
theorem bat_no {w : World} {S : Nat → Prop} {R M : Nat} {v : Value} {lim : Int} {s : Nat} {L : List Lt} {n : Nat} {C : Int → Int → Bool} (h : MlX w S R M v lim s L n C) (i : Int) (hi : ¬ okI L i) : Calls Try.prog 44 #[.pointer (some ⟨R, 2, none⟩), .int .i64 i] w fun e w' => e = .returned (.tuple #[noL.v, .bool false]) ∧ Below w.heap.size w w' := by
  have c2 := h.c2
  obtain ⟨ba, cap, rfl⟩ := own_sl h.row
  have hR := blk_lt h.blk
  clear h
  unfold okI at hi
  by_cases h0 : i < 0
  · clear hi
    go_enter Try.func44, Try.ntmps44
    go_wp2_with fail
    refine bodyPost_ret (v := .tuple #[noL.v, .bool false]) (res_lt Try.results44 _ noL _ w.heap.size rfl ?_ _ rfl) rfl ⟨rfl, ((Below.refl _ w).alloc (Nat.le_refl _) _).alloc (by simp) _⟩
    exact (((Below.refl _ _).alloc (Nat.le_refl _) _).block _ (by simp)).trans (heap_last w _)
  · have h1 : (L.length : Int) ≤ i := by omega
    have h2 : 0 ≤ i := by omega
    clear hi h0
    go_enter Try.func44, Try.ntmps44
    go_wp2_with fail
    refine bodyPost_ret (v := .tuple #[noL.v, .bool false]) (res_lt Try.results44 _ noL _ w.heap.size rfl ?_ _ rfl) rfl ⟨rfl, ((Below.refl _ w).alloc (Nat.le_refl _) _).alloc (by simp) _⟩
    exact (((Below.refl _ _).alloc (Nat.le_refl _) _).block _ (by simp)).trans (heap_last w _)
set_option maxHeartbeats 4000000 in
set_option maxRecDepth 100000 in
set_option linter.unusedSimpArgs false in
set_option linter.unusedVariables false in
theorem bat_ok {w : World} {S : Nat → Prop} {R M : Nat} {v : Value} {lim : Int} {s : Nat} {L : List Lt} {n : Nat} {C : Int → Int → Bool} (h : MlX w S R M v lim s L n C) (i : Int) (hi : okI L i) : Calls Try.prog 44 #[.pointer (some ⟨R, 2, none⟩), .int .i64 i] w fun e w' => e = .returned (.tuple #[(ltI L i).v, .bool true]) ∧ Below w.heap.size w w' := by
  unfold okI at hi
  obtain ⟨q, rfl⟩ : ∃ q : Nat, i = (q : Int) := ⟨i.toNat, by omega⟩
  have hq : q < L.length := by omega
  obtain ⟨g, cap, rfl⟩ := own_g h.row (by omega)
  have c2 := h.c2
  have hR := blk_lt h.blk
  obtain ⟨x0, x1, x2, x3⟩ := h.at q hq
  have hlt : ltI L (q : Int) = L[q] := by unfold ltI; simp [hq]
  rw [hlt]
  have hg : g < w.heap.size := by
    rcases h.row.2 with ⟨e, _⟩ | ⟨g', _, _, e, _, hb, _⟩
    · simp at e
    · simp only [Value.slice.injEq, Option.some.injEq, Addr.mk.injEq] at e
      rw [e.1.1]
      exact blk_lt hb
  clear h hlt
  generalize L[q] = xx at *
  have hqi : (q : Int) < (L.length : Int) := by omega
  go_enter Try.func44, Try.ntmps44
  go_wp2_with fail
  refine bodyPost_ret (v := .tuple #[xx.v, .bool true]) (res_lt Try.results44 _ xx _ w.heap.size rfl (heap_last w _) _ rfl) rfl ⟨rfl, (Below.refl _ w).alloc (Nat.le_refl _) _⟩
end Go.Proofs.Ytnphdbmacccblab
