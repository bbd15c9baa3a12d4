import Derived.Test.YtpleakkhbfhdkaaGCbCalls
import Derived.Lib.SliceRun
namespace Go.Proofs.Ytpleakkhbfhdkaa.Cn
open Go.RowKit
def isV (v : Int) : Bool := decide (1 ≤ v) && decide (v ≤ 999999)
def fitV (k v : Int) : Bool := if k = 3 then decide (v = 0) else isV v
set_option maxHeartbeats 8000000 in
set_option maxRecDepth 100000 in
set_option linter.unusedSimpArgs false in
set_option linter.unusedVariables false in
theorem isVersion_any (v : Int) (w : World) : Calls Try.prog 48 #[.int .i64 v] w fun e w' => e = .returned (.bool (isV v)) ∧ w = w' := by
  unfold isV
  by_cases h1 : 1 ≤ v
  · have q1 : decide (1 ≤ v) = true := decide_eq_true h1
    by_cases h2 : v ≤ 999999
    · have q2 : decide (v ≤ 999999) = true := decide_eq_true h2
      rw [q1, q2]
      go_enter Try.func48, Try.ntmps48
      go_wp2_with fail
      go_ret
      exact ⟨rfl, rfl⟩
    · have q2 : decide (v ≤ 999999) = false := decide_eq_false h2
      rw [q1, q2]
      go_enter Try.func48, Try.ntmps48
      go_wp2_with fail
      go_ret
      exact ⟨rfl, rfl⟩
  · have q1 : decide (1 ≤ v) = false := decide_eq_false h1
    rw [q1]
    go_enter Try.func48, Try.ntmps48
    go_wp2_with fail
    go_ret
    exact ⟨rfl, rfl⟩
set_option maxHeartbeats 8000000 in
set_option maxRecDepth 100000 in
set_option linter.unusedSimpArgs false in
set_option linter.unusedVariables false in
theorem fits_any (k v : Int) (w : World) : Calls Try.prog 52 #[.int .i64 k, .int .i64 v] w fun e w' => e = .returned (.bool (fitV k v)) ∧ w = w' := by
  unfold fitV
  by_cases h1 : k = 3
  · subst h1
    rw [if_pos rfl]
    by_cases h2 : v = 0
    · subst h2
      go_enter Try.func52, Try.ntmps52
      go_wp2_with fail
      go_ret
      exact ⟨rfl, rfl⟩
    · have q2 : (v == 0) = false := by simpa using h2
      rw [decide_eq_false h2]
      clear h2
      go_enter Try.func52, Try.ntmps52
      go_wp2_with fail
      go_ret
      exact ⟨rfl, rfl⟩
  · have q1 : (k == 3) = false := by simpa using h1
    rw [if_neg h1]
    have IV := hide (isVersion_any v w)
    clear h1
    go_enter Try.func52, Try.ntmps52
    go_wp2_with fail
    refine Calls.mono IV.out ?_
    rintro e w1 ⟨rfl, rfl⟩
    go_wp2_with fail
    go_ret
    exact ⟨rfl, rfl⟩
def mayB (c : Ct) (k v : Int) : Int := if c.ph.isSome = true then 150 else if 1 ≤ k ∧ k ≤ 3 then (if fitV k v = true then (if c.num = 9007199254740992 then 3 else 0) else 80) else 152
set_option maxHeartbeats 8000000 in
set_option maxRecDepth 100000 in
set_option linter.unusedSimpArgs false in
set_option linter.unusedVariables false in
theorem mayBegin_any {w : World} {S : Nat → Prop} {C : Nat} {c : Ct} (h : CtAt w S C c) (hn : 1 ≤ c.ru.n) (k v : Int) :
    Calls Try.prog 37 #[.pointer (some ⟨C, 0, none⟩), .int .i64 k, .int .i64 v] w fun e w' => e = .returned (.int .i64 (mayB c k v)) ∧ w = w' := by
  have NO := hide (none_any h hn)
  obtain ⟨P, A, hv, mv, h⟩ := h
  have c5 := h.cells.2.2.2.2.2.1
  have c4 := h.cells.2.2.2.2.1
  have FI := hide (fits_any k v w)
  clear h
  unfold mayB
  cases hp : c.ph with
  | some x =>
    obtain ⟨p, r⟩ := x
    rw [hp] at c5
    change w.cell? ⟨C, 5, none⟩ = some (.iface p.pt (.pointer (some ⟨P, 0, none⟩))) at c5
    have q := neqN p P
    generalize p.pt = pt at *
    clear hp
    go_enter Try.func37, Try.ntmps37
    go_wp2_with fail
    refine Calls.mono NO.out ?_
    rintro e W1 ⟨rfl, rfl⟩
    go_wp2_with fail
    go_ret
    exact ⟨rfl, rfl⟩
  | none =>
    rw [hp] at c5
    change w.cell? ⟨C, 5, none⟩ = some .nilIface at c5
    have q := neq0
    clear hp
    rw [if_neg (by decide)]
    generalize c.num = nu at *
    by_cases h1 : 1 ≤ k
    case neg =>
      have q1 : decide (k < 1) = true := decide_eq_true (by omega)
      rw [if_neg (by omega)]
      go_enter Try.func37, Try.ntmps37
      go_wp2_with fail
      refine Calls.mono NO.out ?_
      rintro e W1 ⟨rfl, rfl⟩
      go_wp2_with fail
      go_ret
      exact ⟨rfl, rfl⟩
    case pos =>
    have q1 : decide (k < 1) = false := decide_eq_false (by omega)
    by_cases h2 : k ≤ 3
    case neg =>
      have q2 : decide (3 < k) = true := decide_eq_true (by omega)
      rw [if_neg (by omega)]
      go_enter Try.func37, Try.ntmps37
      go_wp2_with fail
      refine Calls.mono NO.out ?_
      rintro e W1 ⟨rfl, rfl⟩
      go_wp2_with fail
      go_ret
      exact ⟨rfl, rfl⟩
    case pos =>
    have q2 : decide (3 < k) = false := decide_eq_false (by omega)
    rw [if_pos ⟨h1, h2⟩]
    clear h1 h2
    generalize fitV k v = ft at *
    cases ft with
    | false =>
      rw [if_neg (by decide)]
      go_enter Try.func37, Try.ntmps37
      go_wp2_with fail
      refine Calls.mono NO.out ?_
      rintro e W1 ⟨rfl, rfl⟩
      go_wp2_with fail
      refine Calls.mono FI.out ?_
      rintro e W1 ⟨rfl, rfl⟩
      go_wp2_with fail
      go_ret
      exact ⟨rfl, rfl⟩
    | true =>
      rw [if_pos rfl]
      by_cases h3 : nu = 9007199254740992
      · subst h3
        rw [if_pos rfl]
        go_enter Try.func37, Try.ntmps37
        go_wp2_with fail
        refine Calls.mono NO.out ?_
        rintro e W1 ⟨rfl, rfl⟩
        go_wp2_with fail
        refine Calls.mono FI.out ?_
        rintro e W1 ⟨rfl, rfl⟩
        go_wp2_with fail
        go_ret
        exact ⟨rfl, rfl⟩
      · have q3 : (nu == 9007199254740992) = false := by simpa using h3
        rw [if_neg h3]
        clear h3
        go_enter Try.func37, Try.ntmps37
        go_wp2_with fail
        refine Calls.mono NO.out ?_
        rintro e W1 ⟨rfl, rfl⟩
        go_wp2_with fail
        refine Calls.mono FI.out ?_
        rintro e W1 ⟨rfl, rfl⟩
        go_wp2_with fail
        go_ret
        exact ⟨rfl, rfl⟩
set_option maxHeartbeats 8000000 in
set_option maxRecDepth 100000 in
set_option linter.unusedSimpArgs false in
set_option linter.unusedVariables false in
theorem round_any {w : World} {S : Nat → Prop} {C : Nat} {c : Ct} (h : CtAt w S C c) (h1 : 1 ≤ c.ru.n) (h16 : c.ru.n ≤ 16) (k v : Int) :
    Calls Try.prog 32 #[.pointer (some ⟨C, 0, none⟩), .int .i64 k, .int .i64 v] w fun e w' => ∃ A', e = .returned (.agg (rdA c.ru (rd0 c.ru c.num k v) A')) ∧ w'.heap[A']? = some (.cells (anc (rd0 c.ru c.num k v).al).toArray 134) ∧ w.heap.size ≤ A' ∧ Below w.heap.size w w' := by
  obtain ⟨B, hB⟩ : ∃ B, B = w.heap.size := ⟨_, rfl⟩
  obtain ⟨W0, hW0⟩ : ∃ W0, W0 = w.alloc (.cells rdZ 86) := ⟨_, rfl⟩
  have b0 : Hid (Below w.heap.size w W0) := by rw [hW0]; exact (Below.refl _ w).alloc (Nat.le_refl _) _
  have m0 : Hid (W0.heap[B]? = some (.cells rdZ 86)) := by rw [hW0, hB]; exact heap_last w _
  have HB := hide hB
  have hne : C ≠ B := by have := h.lt C h.here; omega
  have h0 := h.below b0.out
  obtain ⟨P, A, hv, mv, h0⟩ := h0
  have r0 := hide h0
  have F : Hid (∀ X : World, X.heap[C]? = W0.heap[C]? → (X.cell? ⟨C, 0, none⟩ = some (.int .i64 (c.ru.n : Int)) ∧ X.cell? ⟨C, 1, none⟩ = some (.int .i64 c.ru.rs) ∧ X.cell? ⟨C, 2, none⟩ = some (.int .i64 c.ru.lm) ∧ X.cell? ⟨C, 3, none⟩ = some (.int .i64 c.ru.pt)) ∧ X.cell? ⟨C, 4, none⟩ = some (.int .i64 c.num)) := fun X hX => by
    obtain ⟨x0, x1, x2, x3, x4, _⟩ := r0.out.cells
    unfold World.cell? at *
    rw [hX]
    exact ⟨⟨x0, x1, x2, x3⟩, x4⟩
  clear h h0
  go_enter Try.func32, Try.ntmps32
  go_upto_region 1 with fail
  rw [show (#[.int .i64 0, .int .i64 0, .int .i64 0, .int .i64 0, .int .i64 0, .int .i64 0, .int .i64 0, .slice none 0 0, .int .i64 0, .int .i64 0] : Array Value) = rdZ from rfl]
  rw [← hW0, ← HB.out]
  clear hW0 hB
  refine wp_region_held_drew (S := fun X => X.heap[C]? = W0.heap[C]?) (by kernel_rfl) rfl (fun hHeld => ?_)
  refine wpAnyH_take (i := 0) (v := (.pointer (some ⟨C, 0, none⟩))) rfl (by kernel_rfl) (by kernel_rfl) (by kernel_rfl) (fun _ _ _ h => h) (Or.inl ⟨by kernel_rfl, ?_⟩) (by assumption) ?_
  · intro w' hSw
    (try dsimp only at hSw)
    go_simp
  (try simp only [Act.put, List.getElem_toArray, List.getElem_cons_zero, List.getElem_cons_succ, List.setIfInBounds_toArray, List.set_cons_zero, List.set_cons_succ])
  refine wpAnyH_take (i := 1) (v := (.pointer (some ⟨C, 0, none⟩))) rfl (by kernel_rfl) (by kernel_rfl) (by kernel_rfl) (fun _ _ _ h => h) (Or.inl ⟨by kernel_rfl, ?_⟩) (by assumption) ?_
  · intro w' hSw
    (try dsimp only at hSw)
    go_simp
  (try simp only [Act.put, List.getElem_toArray, List.getElem_cons_zero, List.getElem_cons_succ, List.setIfInBounds_toArray, List.set_cons_zero, List.set_cons_succ])
  refine wpAnyH_take (i := 2) (v := (.pointer (some ⟨C, 0, none⟩))) rfl (by kernel_rfl) (by kernel_rfl) (by kernel_rfl) (fun _ _ _ h => h) (Or.inl ⟨by kernel_rfl, ?_⟩) (by assumption) ?_
  · intro w' hSw
    (try dsimp only at hSw)
    go_simp
  (try simp only [Act.put, List.getElem_toArray, List.getElem_cons_zero, List.getElem_cons_succ, List.setIfInBounds_toArray, List.set_cons_zero, List.set_cons_succ])
  refine wpAnyH_take (i := 3) (v := (.agg (ruA c.ru))) rfl (by kernel_rfl) (by kernel_rfl) (by kernel_rfl) (fun _ _ _ h => h) (Or.inl ⟨by kernel_rfl, ?_⟩) (by assumption) ?_
  · intro w' hSw
    (try dsimp only at hSw)
    (obtain ⟨z0, z1, z2, z3⟩ := (F.out _ hSw).1; unfold ruA; go_simp)
  (try simp only [Act.put, List.getElem_toArray, List.getElem_cons_zero, List.getElem_cons_succ, List.setIfInBounds_toArray, List.set_cons_zero, List.set_cons_succ])
  refine wpAnyH_take (i := 4) (v := (.pointer (some ⟨C, 0, none⟩))) rfl (by kernel_rfl) (by kernel_rfl) (by kernel_rfl) (fun _ _ _ h => h) (Or.inl ⟨by kernel_rfl, ?_⟩) (by assumption) ?_
  · intro w' hSw
    (try dsimp only at hSw)
    go_simp
  (try simp only [Act.put, List.getElem_toArray, List.getElem_cons_zero, List.getElem_cons_succ, List.setIfInBounds_toArray, List.set_cons_zero, List.set_cons_succ])
  refine wpAnyH_take (i := 5) (v := (.pointer (some ⟨C, 0, none⟩))) rfl (by kernel_rfl) (by kernel_rfl) (by kernel_rfl) (fun _ _ _ h => h) (Or.inl ⟨by kernel_rfl, ?_⟩) (by assumption) ?_
  · intro w' hSw
    (try dsimp only at hSw)
    go_simp
  (try simp only [Act.put, List.getElem_toArray, List.getElem_cons_zero, List.getElem_cons_succ, List.setIfInBounds_toArray, List.set_cons_zero, List.set_cons_succ])
  refine wpAnyH_take (i := 6) (v := (.pointer (some ⟨C, 4, none⟩))) rfl (by kernel_rfl) (by kernel_rfl) (by kernel_rfl) (fun _ _ _ h => h) (Or.inl ⟨by kernel_rfl, ?_⟩) (by assumption) ?_
  · intro w' hSw
    (try dsimp only at hSw)
    go_simp
  (try simp only [Act.put, List.getElem_toArray, List.getElem_cons_zero, List.getElem_cons_succ, List.setIfInBounds_toArray, List.set_cons_zero, List.set_cons_succ])
  refine wpAnyH_take (i := 7) (v := (.int .i64 c.num)) rfl (by kernel_rfl) (by kernel_rfl) (by kernel_rfl) (fun _ _ _ h => h) (Or.inl ⟨by kernel_rfl, ?_⟩) (by assumption) ?_
  · intro w' hSw
    (try dsimp only at hSw)
    (have z := (F.out _ hSw).2; go_simp)
  (try simp only [Act.put, List.getElem_toArray, List.getElem_cons_zero, List.getElem_cons_succ, List.setIfInBounds_toArray, List.set_cons_zero, List.set_cons_succ])
  refine wpAnyH_take (i := 8) (v := (.int .i64 k)) rfl (by kernel_rfl) (by kernel_rfl) (by kernel_rfl) (fun _ _ _ h => h) (Or.inl ⟨by kernel_rfl, ?_⟩) (by assumption) ?_
  · intro w' hSw
    (try dsimp only at hSw)
    go_simp
  (try simp only [Act.put, List.getElem_toArray, List.getElem_cons_zero, List.getElem_cons_succ, List.setIfInBounds_toArray, List.set_cons_zero, List.set_cons_succ])
  refine wpAnyH_take (i := 9) (v := (.int .i64 v)) rfl (by kernel_rfl) (by kernel_rfl) (by kernel_rfl) (fun _ _ _ h => h) (Or.inl ⟨by kernel_rfl, ?_⟩) (by assumption) ?_
  · intro w' hSw
    (try dsimp only at hSw)
    go_simp
  (try simp only [Act.put, List.getElem_toArray, List.getElem_cons_zero, List.getElem_cons_succ, List.setIfInBounds_toArray, List.set_cons_zero, List.set_cons_succ])
  refine wpAnyH_take (i := 10) (v := (.agg (jbA c.num k v))) rfl (by kernel_rfl) (by kernel_rfl) (by kernel_rfl) (fun _ _ _ h => h) (Or.inl ⟨by kernel_rfl, ?_⟩) (by assumption) ?_
  · intro w' hSw
    (try dsimp only at hSw)
    (exact exec_bl 83 #[(0, .tmp 14), (1, .tmp 15), (2, .tmp 16)] rfl _ (by kernel_rfl))
  (try simp only [Act.put, List.getElem_toArray, List.getElem_cons_zero, List.getElem_cons_succ, List.setIfInBounds_toArray, List.set_cons_zero, List.set_cons_succ])
  have NR := hide (newRound_any c.ru c.num k v W0.drew h1 h16)
  refine wpAnyH_ready (rs := [11]) (by kernel_rfl) (by simp) ?_
  refine AllReadyH.cons rfl (fun K hK => ?_) AllReadyH.nil
  go_simp
  refine Calls.mono NR.out ?_
  rintro e W1 ⟨A', rfl, hA, hle, hb⟩
  have b1 : Below W0.heap.size W0 W1 := (show Below W0.heap.size W0 W0.drew from ⟨rfl, rfl, rfl, Nat.le_refl _, fun _ _ => rfl⟩).trans hb
  have B1 := hide b1
  have m1 : Hid (W1.heap[B]? = some (.cells rdZ 86)) := (b1.block _ (blk_lt m0.out)).trans m0.out
  have hAB : Hid (A' ≠ B) := fun e => by have := blk_lt m0.out; have : W0.heap.size ≤ A' := hle; omega
  have hAl : Hid (w.heap.size ≤ A') := Nat.le_trans b0.out.size hle
  have HA := hide hA
  clear hb hA hle b1 NR hHeld
  refine hK.out _ _ ((B1.out.block _ (blk_lt r0.out.ob))) (fun hHeld => ?_)
  clear hK
  (try simp only [Act.put, List.setIfInBounds_toArray, List.set_cons_zero, List.set_cons_succ])
  refine wpAnyH_ready (rs := [12]) (by kernel_rfl) (by simp) ?_
  refine AllReadyH.cons rfl (fun K hK => ?_) AllReadyH.nil
  refine wp_store_row 86 (.tmp 6) (.tmp 18) rfl B (rdA c.ru (rd0 c.ru c.num k v) A') rfl rfl 86 rdZ m1.out rd_info rfl (rd_one _ _ _) ?_
  refine hK.out _ _ (((setRow_other _ _ _ _ hne).trans (B1.out.block _ (blk_lt r0.out.ob)))) (fun hHeld => ?_)
  clear hK
  (try simp only [Act.put, List.setIfInBounds_toArray, List.set_cons_zero, List.set_cons_succ])
  refine wpAnyH_done (by kernel_rfl) ?_ _
  go_wp2_with fail
  refine bodyPost_ret (v := .agg (rdA c.ru (rd0 c.ru c.num k v) A')) (res_row1 Try.results32 _ _ _ B rfl _ (setRow_heap _ _ _ _ _ _ m1.out) Try.underlying86 rd_info) rfl ⟨A', rfl, (setRow_other _ _ _ _ hAB.out).trans HA.out, hAl.out, ?_⟩
  exact (((Kp.of_below b0.out non).trans (Kp.of_below B1.out non) (fun _ f => f.elim)).row (Or.inr (by rw [HB.out]; exact Nat.le_refl _)) _).below
def fstP (k : Int) : Ph := if k = 1 then .fetch else if k = 2 then .swap else .look
set_option maxHeartbeats 8000000 in
set_option maxRecDepth 100000 in
set_option linter.unusedSimpArgs false in
set_option linter.unusedVariables false in
theorem first_any (u : Ru) (r : Rd) (A : Nat) (w : World) :
    Calls Try.prog 38 #[.agg (rdA u r A)] w fun e w' => ∃ P, e = .returned (.iface (fstP r.kind).pt (.pointer (some ⟨P, 0, none⟩))) ∧ w.heap.size ≤ P ∧ w'.heap[P]? = some (.cells (rdA u r A) (fstP r.kind).ty) ∧ Below w.heap.size w w' := by
  obtain ⟨W0, hW0⟩ : ∃ W0, W0 = w.alloc (.cells (rdA u r A) 86) := ⟨_, rfl⟩
  have b0 : Hid (Below w.heap.size w W0) := by rw [hW0]; exact (Below.refl _ w).alloc (Nat.le_refl _) _
  have m0 : Hid (W0.heap[w.heap.size]? = some (.cells (rdA u r A) 86)) := by rw [hW0]; exact heap_last w _
  have hle0 : Hid (w.heap.size ≤ W0.heap.size) := b0.out.size
  have y5 : W0.cell? ⟨w.heap.size, 5, none⟩ = some (.int .i64 r.kind) := by rw [cell_row m0.out]; rfl
  unfold fstP
  by_cases h1 : r.kind = 1
  · have q1 : (r.kind == 1) = true := by simp [h1]
    rw [if_pos h1]
    clear h1
    go_enter Try.func38, Try.ntmps38
    go_upto_region 1 with fail
    rw [← hW0]
    clear hW0
    go_wp2_with (first | refine wpList_ldR rfl 86 (.tmp 1) rfl w.heap.size rfl _ _ m0.out Try.underlying86 rd_info ?_ | refine wpList_blR rfl 122 #[(0, .tmp 8)] rfl (rdA u r A) (by kernel_rfl) ?_)
    go_ret
    exact ⟨W0.heap.size, rfl, hle0.out, heap_last _ _, b0.out.alloc hle0.out _⟩
  · have q1 : (r.kind == 1) = false := by simpa using h1
    rw [if_neg h1]
    clear h1
    by_cases h2 : r.kind = 2
    · have q2 : (r.kind == 2) = true := by simp [h2]
      rw [if_pos h2]
      clear h2
      go_enter Try.func38, Try.ntmps38
      go_upto_region 1 with fail
      rw [← hW0]
      clear hW0
      go_wp2_with (first | refine wpList_ldR rfl 86 (.tmp 1) rfl w.heap.size rfl _ _ m0.out Try.underlying86 rd_info ?_ | refine wpList_blR rfl 124 #[(0, .tmp 14)] rfl (rdA u r A) (by kernel_rfl) ?_)
      go_ret
      exact ⟨W0.heap.size, rfl, hle0.out, heap_last _ _, b0.out.alloc hle0.out _⟩
    · have q2 : (r.kind == 2) = false := by simpa using h2
      rw [if_neg h2]
      clear h2
      go_enter Try.func38, Try.ntmps38
      go_upto_region 1 with fail
      rw [← hW0]
      clear hW0
      go_wp2_with (first | refine wpList_ldR rfl 86 (.tmp 1) rfl w.heap.size rfl _ _ m0.out Try.underlying86 rd_info ?_ | refine wpList_blR rfl 126 #[(0, .tmp 18)] rfl (rdA u r A) (by kernel_rfl) ?_)
      go_ret
      exact ⟨W0.heap.size, rfl, hle0.out, heap_last _ _, b0.out.alloc hle0.out _⟩
def begC (c : Ct) (k v : Int) : Ct := entP { c with num := c.num + 1 } (fstP k) (rd0 c.ru (c.num + 1) k v)
def begL (c : Ct) (k v : Int) : List Mg := entL (fstP k) (rd0 c.ru (c.num + 1) k v)
theorem CtAt.setNum {w : World} {S : Nat → Prop} {C : Nat} {c : Ct} (h : CtAt w S C c) (x : Int) : CtAt (w.setCell ⟨C, 4, none⟩ (.int .i64 x)) S C { c with num := x } := by
  obtain ⟨P, A, hv, mv, h⟩ := h
  have hk : Kp w (w.setCell ⟨C, 4, none⟩ (.int .i64 x)) (fun k => k = C) := (Kp.refl w (fun k => k = C)).set (Or.inl rfl) _ _
  refine ⟨P, A, hv, mv, set_row h.ob 4 _, fun p r e => ?_, own_kp h.hs hk (fun k hk' e => row_type h.hs h.ob (by decide) k hk' e), own_kp h.ms hk (fun k hk' e => row_type h.ms h.ob (by decide) k hk' e), h.sC, h.sP, h.sH, h.sM, fun k e => by rw [World.size_setCell]; exact h.lt k e⟩
  have rd := h.rd p r e
  refine rd.keep hk (fun e2 => h.ne_P e e2.symm) (fun e2 => ?_)
  have := h.ob.symm.trans (e2.symm ▸ rd.an)
  simp only [Option.some.injEq, Obj.cells.injEq] at this
  simp at this
set_option maxHeartbeats 8000000 in
set_option maxRecDepth 100000 in
set_option linter.unusedSimpArgs false in
set_option linter.unusedVariables false in
theorem Begin_no {w : World} {S : Nat → Prop} {C : Nat} {c : Ct} (h : CtAt w S C c) (hn : 1 ≤ c.ru.n) (k v : Int) (hm : mayB c k v ≠ 0) :
    Calls Try.prog 17 #[.pointer (some ⟨C, 0, none⟩), .int .i64 k, .int .i64 v] w fun e w' => e = .returned (.tuple #[.slice none 0 0, .int .i64 (mayB c k v)]) ∧ w = w' := by
  have MB := hide (mayBegin_any h hn k v)
  generalize mayB c k v = e at *
  have q0 : (e != 0) = true := by simpa using hm
  clear h hm
  go_enter Try.func17, Try.ntmps17
  go_wp2_with fail
  refine Calls.mono MB.out ?_
  rintro e W1 ⟨rfl, rfl⟩
  go_wp2_with fail
  go_ret2
  exact ⟨rfl, rfl⟩
set_option maxHeartbeats 8000000 in
set_option maxRecDepth 100000 in
set_option linter.unusedSimpArgs false in
set_option linter.unusedVariables false in
theorem Begin_yes {w : World} {S : Nat → Prop} {C : Nat} {c : Ct} (h : CtAt w S C c) (h1 : 1 ≤ c.ru.n) (h16 : c.ru.n ≤ 16) (k v : Int) (hm : mayB c k v = 0) (n0 : 0 ≤ c.num) (n1 : c.num ≤ 9007199254740992) :
    Calls Try.prog 17 #[.pointer (some ⟨C, 0, none⟩), .int .i64 k, .int .i64 v] w fun e w' => ∃ lv, e = .returned (.tuple #[lv, .int .i64 0]) ∧ Did w w' S C (begC c k v) lv (begL c k v) := by
  have MB := mayBegin_any h h1 k v
  rw [hm] at MB
  have MB := hide MB
  have LT := hide h.lt
  have SC := hide h.here
  obtain ⟨W1, hW1⟩ : ∃ W1, W1 = w.setCell ⟨C, 4, none⟩ (.int .i64 (c.num + 1)) := ⟨_, rfl⟩
  have X1 : Hid (CtAt W1 S C { c with num := c.num + 1 }) := by rw [hW1]; exact h.setNum _
  have K1 : Hid (Kp w W1 S) := by rw [hW1]; exact (Kp.refl w S).set (Or.inl SC.out) _ _
  obtain ⟨c2, hc2⟩ : ∃ c2, c2 = { c with num := c.num + 1 } := ⟨_, rfl⟩
  rw [← hc2] at X1
  have BC : Hid (begC c k v = entP c2 (fstP k) (rd0 c2.ru c2.num k v)) := by rw [hc2]; rfl
  have BL : Hid (begL c k v = entL (fstP k) (rd0 c2.ru c2.num k v)) := by rw [hc2]; rfl
  have N1 : Hid (1 ≤ c2.ru.n ∧ c2.ru.n ≤ 16) := by rw [hc2]; exact ⟨h1, h16⟩
  have RO := hide (round_any X1.out N1.out.1 N1.out.2 k v)
  obtain ⟨P, A, hv, mv, h⟩ := h
  have c4 := h.cells.2.2.2.2.1
  have z4 := h.setNo 4
  generalize c.num = nu at *
  replace hW1 := hide hW1
  generalize begC c k v = bc at *
  generalize begL c k v = bl at *
  clear h hm hc2 h1 h16
  go_enter Try.func17, Try.ntmps17
  go_wp2_with fail
  refine Calls.mono MB.out ?_
  rintro e W0 ⟨rfl, rfl⟩
  go_upto_region 5 with fail
  rw [← hW1.out]
  clear hW1 c4 z4 MB
  go_wp2_with fail
  refine Calls.mono RO.out ?_
  rintro e W2 ⟨A', rfl, hA, hle, hb2⟩
  have FI := hide (first_any c2.ru (rd0 c2.ru c2.num k v) A' W2)
  have X2 := hide (X1.out.below hb2)
  have B2 := hide hb2
  have HA := hide hA
  have HL := hide hle
  clear hA hle hb2 RO X1
  go_wp2_with fail
  refine Calls.mono FI.out ?_
  rintro e W3 ⟨P', rfl, hP, ho, hb3⟩
  have ek : (rd0 c2.ru c2.num k v).kind = k := rfl
  rw [ek] at ho ⊢
  have R3 : RdAt W3 P' A' (fstP k).ty c2.ru (rd0 c2.ru c2.num k v) := by
    have hlt : A' < W2.heap.size := blk_lt HA.out
    exact ⟨ho, (hb3.block _ hlt).trans HA.out, by simp [rd0], by omega⟩
  have EN := hide (enter_any (X2.out.below hb3) R3 N1.out.2 (Int.le_refl _) (by show (0 : Int) ≤ _; omega))
  have SZ : Hid (P' < W3.heap.size ∧ A' < W3.heap.size ∧ w.heap.size ≤ P' ∧ w.heap.size ≤ A' ∧ W1.heap.size ≤ W3.heap.size) := by
    have := K1.out.size
    have := B2.out.size
    have := hb3.size
    have : W1.heap.size ≤ A' := HL.out
    exact ⟨blk_lt R3.ob, blk_lt R3.an, by omega, by omega, by omega⟩
  have K3 : Hid (Kp w W3 S) := (K1.out.trans (Kp.of_below B2.out non) (fun _ f => f.elim)).trans (Kp.of_below hb3 non) (fun _ f => f.elim)
  generalize (fstP k).pt = pt at *
  clear hP ho hb3 R3 FI X2 B2 HA HL ek
  go_wp2_with fail
  refine Calls.mono EN.out ?_
  rintro e W4 ⟨lv, rfl, x4, k4, o4⟩
  have DI : Hid (Did w W4 S C bc lv bl) := by
    rw [BC.out, BL.out]
    have z := SZ.out
    refine ⟨_, x4, fun q e => ?_, K3.out.trans k4 (fun q e => ?_), own_mono o4 (K3.out.size), fun q hq e => ?_⟩
    · rcases e with e | e | e
      · exact Or.inl e
      · exact Or.inr (by omega)
      · exact Or.inr (by omega)
    · rcases e with e | e | e
      · exact Or.inl e
      · exact Or.inr (by omega)
      · exact Or.inr (by omega)
    · have g := own_ge o4 hq
      rcases e with e | e | e
      · have := LT.out q e
        have := K3.out.size
        omega
      · omega
      · omega
  clear x4 k4 o4 EN
  go_wp2_with fail
  go_ret2
  exact ⟨lv, rfl, DI.out⟩
end Go.Proofs.Ytpleakkhbfhdkaa.Cn
namespace Go.Proofs.Ytpleakkhbfhdkaa.Cn
open Go.RowKit
set_option maxHeartbeats 8000000 in
set_option maxRecDepth 100000 in
set_option linter.unusedSimpArgs false in
set_option linter.unusedVariables false in
theorem clone_any {w : World} {base : Nat} {v : Value} {L : List Int} (h : w.ownsRow base 3 1 v L.length (ints L)) (hl : L.length ≤ 1000000) :
    Calls Try.prog 35 #[v] w fun e w' => ∃ v', e = .returned v' ∧ w'.ownsRow w.heap.size 3 1 v' L.length (ints L) ∧ Below w.heap.size w w' := by
  have qT : ∀ (w : World) (a : Option Addr) (n c n' c' : Nat), (binOp .eql 37 (.slice a n c) (.slice none n' c')).run Try.prog w = .ok (.bool a.isNone) w := fun w a n c n' c' => Lib.run_eql_slice_nil w _ _ a n c n' c' Try.underlying37
  rcases h.2 with ⟨rfl, hz⟩ | ⟨g, cap, cur, rfl, hb, hg, hr⟩
  · have hL : L = [] := List.length_eq_zero_iff.1 hz
    subst hL
    clear h hz
    go_enter Try.func35, Try.ntmps35
    go_wp2_with fail
    go_ret
    exact ⟨_, rfl, World.ownsRow_nil _ _ _ _, Below.refl _ _⟩
  · have H := hide h
    obtain ⟨n, hn⟩ : ∃ n, n = L.length := ⟨_, rfl⟩
    rw [← hn] at hl H
    have HN := hide hn
    rw [← hn]
    obtain ⟨i0, hi, hz0, hz1, hz2⟩ := mg_parts int_infos
    obtain ⟨W1, hW1⟩ : ∃ W1, W1 = w.alloc (.cells #[] 3) := ⟨_, rfl⟩
    have b1 : Hid (Below w.heap.size w W1) := by rw [hW1]; exact (Below.refl _ w).alloc (Nat.le_refl _) _
    have o1 : Hid (W1.ownsRow w.heap.size 3 1 (.slice (some ⟨w.heap.size, 0, none⟩) 0 0) 0 []) := by
      rw [hW1]
      exact World.ownsRow_lit w #[] 0 (Nat.le_refl _) (Nat.zero_le _) rfl
    have H1 : Hid (W1.ownsRow base 3 1 (.slice (some ⟨g, 0, none⟩) n cap) n (ints L)) := own_below H.out b1.out
    clear h hr hn hg
    go_enter Try.func35, Try.ntmps35
    go_upto_region 3 with fail
    replace hW1 := hide hW1
    have CC : Hid (∀ j u, (ints L)[j]? = some u → W1.cell? ((⟨g, 0, none⟩ : Addr).add j) = some u) := fun j u hj => by
      have h1 := (List.getElem?_eq_some_iff.1 hj).1
      rw [ints_len] at h1
      rw [Addr.add_mid, Nat.zero_add, H1.out.cellAt j (by have := HN.out; omega)]
      exact hj
    have LL : Hid ((ints L).length = n * 1) := by rw [ints_len, Nat.mul_one]; exact HN.out.symm
    go_wp2_with (at_builtin; rw [← hW1.out]; refine wpList_append_own_at _ rfl _ _ 37 rfl w.heap.size 3 i0 _ 1 8 Try.underlying37 hi hz0 hz1 hz2 rfl (by decide) _ _ _ rfl o1.out ⟨g, 0, none⟩ n cap (ints L) rfl LL.out CC.out (ints_one _) (by unfold maxLen; omega) (by omega) b1.out.size ?_; intro v' w' o2 g2 _ _; clear hi hz0 hz1 hz2)
    go_ret
    refine ⟨v', rfl, ?_, ?_⟩
    · rw [Nat.zero_add, List.nil_append] at o2
      exact o2
    · have k : Kp w w' non := (Kp.of_below b1.out non).trans (Kp.of_grown g2) (fun k hk => Or.inr (Nat.le_of_eq (Option.some.inj (show some k = some w.heap.size from hk)).symm))
      exact k.below
end Go.Proofs.Ytpleakkhbfhdkaa.Cn
