import Derived.Test.YtanlnelfbfjelaaDoorGGcTwin2
namespace Go.Proofs.YtanlnelfbfjelaaDoor
open Go.RowKit
set_option maxHeartbeats 8000000 in
set_option maxRecDepth 100000 in
set_option linter.unusedSimpArgs false in
set_option linter.unusedVariables false in
theorem sameInts_eq (N : Nat) (w : World) (va vb : Value) (L : List Int) (ha : Pv N w va L) (hb : Pv N w vb L) (hN : N ≤ w.heap.size) :
    Calls Tryd.prog 22 #[va, vb] w fun e w' => e = .returned (.bool true) ∧ Below w.heap.size w w' := by
  obtain ⟨aa, ba, oa, ca, rfl, pa⟩ := ha
  obtain ⟨ab, bb, ob, cb, rfl, pb⟩ := hb
  have hl := pa.len
  have PA := hide pa
  have PB := hide pb
  clear pa pb
  go_enter Tryd.func22, Tryd.ntmps22
  go_wp2_with fail
  go_loopw [5] (fun vi wr => ∃ (q : Nat), q ≤ L.length ∧ vi = .int .i64 (q : Int) ∧ Below w.heap.size w wr) (fun vi _ => L.length - (intOf vi).toNat)
  case atStart => exact ⟨0, Nat.zero_le _, rfl, Below.refl _ _⟩
  case round =>
    obtain ⟨q, hq, rfl, hB⟩ := hrel
    have HB := hide hB
    clear hB
    by_cases hql : q < L.length
    case neg =>
      obtain rfl : q = L.length := by omega
      go_wp2_with fail
      go_ret
      exact ⟨rfl, HB.out⟩
    case pos =>
      have h1 := PA.out.at0 (by omega)
      have h2 := PB.out.at0 (by omega)
      subst h1
      subst h2
      have hqi : (q : Int) < (L.length : Int) := by omega
      have c1 := (PA.out.below (HB.out.mono hN)).c q hql
      have c2 := (PB.out.below (HB.out.mono hN)).c q hql
      generalize L[q] = v at *
      go_wp2_with fail
      go_quiet (fail)
      replace HB := hide (HB.out.trans (c := wr.drewN nq) ⟨rfl, rfl, rfl, Nat.le_refl _, fun _ _ => rfl⟩)
      generalize wr.drewN nq = W3 at *
      clear c1 c2
      go_wp2_with fail
      go_roundw
      case rel => exact ⟨q + 1, by omega, by go_num, HB.out⟩
      case measure => simp [intOf]; omega
set_option maxRecDepth 100000 in
theorem partV (x : Nat → Int) (i : Nat) (h : i < 21) (w : World) : (part 3 (vA x) (i * 1)).run Tryd.prog w = .ok (.int .i64 (x i)) w := by
  have : i = 0 ∨ i = 1 ∨ i = 2 ∨ i = 3 ∨ i = 4 ∨ i = 5 ∨ i = 6 ∨ i = 7 ∨ i = 8 ∨ i = 9 ∨ i = 10 ∨ i = 11 ∨ i = 12 ∨ i = 13 ∨ i = 14 ∨ i = 15 ∨ i = 16 ∨ i = 17 ∨ i = 18 ∨ i = 19 ∨ i = 20 := by omega
  clear h
  rcases this with h | h | h | h | h | h | h | h | h | h | h | h | h | h | h | h | h | h | h | h | h <;> rw [h] <;> rfl
theorem loopV (x : Nat → Int) (w : World) : ∀ (l : List Nat), (∀ i ∈ l, i < 21) → (forIn l ((none, ()) : Option Bool × Unit) fun i __s => do
            let __do_lift ← part 3 (vA x) (i * 1)
            let __do_lift_1 ← part 3 (vA x) (i * 1)
            let __do_lift ← Op.equalIn 9999 3 __do_lift __do_lift_1
            if (!__do_lift) = true then pure (ForInStep.done (some false, ())) else pure (ForInStep.yield (none, ())) : Sem (Option Bool × Unit)).run Tryd.prog w = .ok (none, ()) w
  | [], _ => by simp
  | i :: l, h => by
    have ih := loopV x w l (fun j hj => h j (by simp [hj]))
    have hp := partV x i (h i (by simp)) w
    rw [List.forIn_cons]
    simp only [Sem.run_bind, hp, Result.andThen_ok, run_equalIn_int w 9998 3 .i64 .i64 (x i) (x i) Tryd.underlying3, beq_self_eq_true, Bool.not_true, Bool.false_eq_true, if_false, Sem.run_pure]
    exact ih
set_option maxHeartbeats 2000000 in
set_option maxRecDepth 100000 in
theorem eqV (x : Nat → Int) (w : World) : (Op.equalIn 10000 52 (.agg (vA x)) (.agg (vA x))).run Tryd.prog w = .ok true w := by
  rw [show (10000 : Nat) = 9999 + 1 from rfl]
  unfold Op.equalIn
  simp only [run_underlying Tryd.underlying52, Sem.run_bind, Result.andThen_ok]
  have hs : (sizeOf 3).run Tryd.prog w = .ok 1 w := by kernel_rfl
  simp only [hs, Result.andThen_ok]
  rw [Std.Legacy.Range.forIn_eq_forIn_range']
  rw [loopV x w _ (fun i hi => by simp [List.mem_range'] at hi; omega)]
  simp
theorem exec_neqV {ρ : Operand → Value} {op : Oper} {w : World} {xx : Nat → Int} (x y : Operand) (t2 : TypeId) (ho : op.op = .binOp .neq 52 x y t2) (hx : ρ x = .agg (vA xx)) (hy : ρ y = .agg (vA xx)) : (execOp ρ op).run Tryd.prog w = .ok (.value (.bool false)) w := by
  have hg : Tryd.prog.eqGuardType Tryd.prog.depth 52 = false := by kernel_rfl
  have hn : (binOp .neq 52 (.agg (vA xx)) (.agg (vA xx))).run Tryd.prog w = .ok (.bool false) w := by
    rw [run_neq_struct, eqV]
    rfl
  unfold execOp
  simp only [ho, Sem.run_bind, Sem.run_pure, Result.andThen_ok, hx, hy, hn, run_eqGuard_agg w .neq 52 x y (vA xx) (vA xx) hg]
set_option maxHeartbeats 8000000 in
set_option maxRecDepth 100000 in
set_option linter.unusedSimpArgs false in
set_option linter.unusedVariables false in
theorem sameCluster_eq (N : Nat) (w : World) (st : ByteArray) (x : Nat → Int) (ns : List ND) (aa : Option Addr) (ba oa ca : Nat) (pva : Nat → Value) (ha : NsAt N w aa ba oa pva ns) (ab : Option Addr) (bb ob cb : Nat) (pvb : Nat → Value) (hb : NsAt N w ab bb ob pvb ns) (hN : N ≤ w.heap.size) :
    Calls Tryd.prog 7 #[.agg (clA st x (.slice aa ns.length ca)), .agg (clA st x (.slice ab ns.length cb))] w fun e w' => e = .returned (.bool true) ∧ Below w.heap.size w w' := by
  obtain ⟨W0, hW0⟩ : ∃ W0, W0 = (w.alloc (.cells (clA st x (.slice aa ns.length ca)) 24)).alloc (.cells (clA st x (.slice ab ns.length cb)) 24) := ⟨_, rfl⟩
  have B0 : Hid (Below w.heap.size w W0) := by rw [hW0]; exact ((Below.refl _ _).alloc (Nat.le_refl _) _).alloc (by simp) _
  have CA : Hid (ClAt W0 w.heap.size st x (.slice aa ns.length ca)) := by rw [hW0]; exact (new_cl _ _ _ _).below ((Below.refl _ _).alloc (Nat.le_refl _) _)
  have CB : Hid (ClAt W0 (w.heap.size + 1) st x (.slice ab ns.length cb)) := by
    rw [hW0]
    have := new_cl (w.alloc (.cells (clA st x (.slice aa ns.length ca)) 24)) st x (.slice ab ns.length cb)
    simp only [World.size_alloc] at this
    exact this
  have NA := hide ha
  have NB := hide hb
  have hlen := ha.len
  clear ha hb
  have CC : Hid (∀ Y, Below W0.heap.size W0 Y → ClAt Y w.heap.size st x (.slice aa ns.length ca) ∧ ClAt Y (w.heap.size + 1) st x (.slice ab ns.length cb)) := fun Y hY => ⟨CA.out.below hY, CB.out.below hY⟩
  have VA := hide (values_any W0.drew st x (.slice aa ns.length ca))
  have VB := hide (fun Y => values_any Y st x (.slice ab ns.length cb))
  go_enter Tryd.func7, Tryd.ntmps7
  go_upto_region 1 with fail
  rw [← hW0]
  clear hW0
  refine wp_region_held_drew (S := fun Y => Below W0.heap.size W0 Y) (by kernel_rfl) ((Below.refl _ _).drew) (fun hHeld => ?_)
  refine wpAnyH_take (i := 0) (v := (.pointer (some ⟨w.heap.size, 0, none⟩))) rfl (by kernel_rfl) (by kernel_rfl) (by kernel_rfl) (fun _ _ _ h => h) (Or.inl ⟨by rfl, ?_⟩) (by assumption) ?_
  · intro w' hSw
    (try dsimp only at hSw)
    go_simp
  (try simp only [Act.put, List.setIfInBounds_toArray, List.set_cons_zero, List.set_cons_succ])
  refine wpAnyH_take (i := 1) (v := (.string st)) rfl (by kernel_rfl) (by kernel_rfl) (by kernel_rfl) (fun _ _ _ h => h) (Or.inl ⟨by rfl, ?_⟩) (by assumption) ?_
  · intro w' hSw
    (try dsimp only at hSw)
    (have y := (CC.out _ hSw).1.st; go_simp)
  (try simp only [Act.put, List.setIfInBounds_toArray, List.set_cons_zero, List.set_cons_succ])
  refine wpAnyH_take (i := 2) (v := (.pointer (some ⟨w.heap.size + 1, 0, none⟩))) rfl (by kernel_rfl) (by kernel_rfl) (by kernel_rfl) (fun _ _ _ h => h) (Or.inl ⟨by rfl, ?_⟩) (by assumption) ?_
  · intro w' hSw
    (try dsimp only at hSw)
    go_simp
  (try simp only [Act.put, List.setIfInBounds_toArray, List.set_cons_zero, List.set_cons_succ])
  refine wpAnyH_take (i := 3) (v := (.string st)) rfl (by kernel_rfl) (by kernel_rfl) (by kernel_rfl) (fun _ _ _ h => h) (Or.inl ⟨by rfl, ?_⟩) (by assumption) ?_
  · intro w' hSw
    (try dsimp only at hSw)
    (have y := (CC.out _ hSw).2.st; go_simp)
  (try simp only [Act.put, List.setIfInBounds_toArray, List.set_cons_zero, List.set_cons_succ])
  refine wpAnyH_take (i := 4) (v := (.bool false)) rfl (by kernel_rfl) (by kernel_rfl) (by kernel_rfl) (fun _ _ _ h => h) (Or.inl ⟨by rfl, ?_⟩) (by assumption) ?_
  · intro w' hSw
    (try dsimp only at hSw)
    go_simp
  (try simp only [Act.put, List.setIfInBounds_toArray, List.set_cons_zero, List.set_cons_succ])
  refine wpAnyH_take (i := 5) (v := (.bool false)) rfl (by kernel_rfl) (by kernel_rfl) (by kernel_rfl) (fun _ _ _ h => h) (Or.inl ⟨by rfl, ?_⟩) (by assumption) ?_
  · intro w' hSw
    (try dsimp only at hSw)
    go_simp
  (try simp only [Act.put, List.setIfInBounds_toArray, List.set_cons_zero, List.set_cons_succ])
  refine wpAnyH_take (i := 6) (v := (.agg (clA st x (.slice aa ns.length ca)))) rfl (by kernel_rfl) (by kernel_rfl) (by kernel_rfl) (fun _ _ _ h => h) (Or.inl ⟨by kernel_rfl, ?_⟩) (by assumption) ?_
  · intro w' hSw
    (try dsimp only at hSw)
    exact exec_loadCl (.tmp 2) rfl (by kernel_rfl) (CC.out _ hSw).1
  (try simp only [Act.put, List.setIfInBounds_toArray, List.set_cons_zero, List.set_cons_succ])
  refine wpAnyH_take (i := 8) (v := (.agg (clA st x (.slice ab ns.length cb)))) rfl (by kernel_rfl) (by kernel_rfl) (by kernel_rfl) (fun _ _ _ h => h) (Or.inl ⟨by kernel_rfl, ?_⟩) (by assumption) ?_
  · intro w' hSw
    (try dsimp only at hSw)
    exact exec_loadCl (.tmp 3) rfl (by kernel_rfl) (CC.out _ hSw).2
  (try simp only [Act.put, List.setIfInBounds_toArray, List.set_cons_zero, List.set_cons_succ])
  refine wpAnyH_ready (rs := [7]) (by kernel_rfl) (by simp) ?_
  refine AllReadyH.cons rfl (fun K hK => ?_) AllReadyH.nil
  go_simp
  refine Calls.mono VA.out ?_
  rintro e W1 ⟨rfl, hb⟩
  have B1 : Hid (Below W0.heap.size W0 W1) := ⟨hb.os, hb.tape, hb.output, hb.size, hb.block⟩
  clear hb VA
  refine hK.out _ _ (B1.out) (fun hHeld => ?_)
  clear hK
  (try simp only [Act.put, List.setIfInBounds_toArray, List.set_cons_zero, List.set_cons_succ])
  refine wpAnyH_ready (rs := [9]) (by kernel_rfl) (by simp) ?_
  refine AllReadyH.cons rfl (fun K hK => ?_) AllReadyH.nil
  go_simp
  refine Calls.mono (VB.out W1) ?_
  rintro e W2 ⟨rfl, hb⟩
  have B2 : Hid (Below W0.heap.size W0 W2) := B1.out.trans (hb.mono B1.out.size)
  clear hb VB
  refine hK.out _ _ (B2.out) (fun hHeld => ?_)
  clear hK
  (try simp only [Act.put, List.setIfInBounds_toArray, List.set_cons_zero, List.set_cons_succ])
  refine wpAnyH_take (i := 10) (v := (.bool false)) rfl (by kernel_rfl) (by kernel_rfl) (by kernel_rfl) (fun _ _ _ h => h) (Or.inl ⟨by kernel_rfl, ?_⟩) (by assumption) ?_
  · intro w' hSw
    (try dsimp only at hSw)
    exact exec_neqV (xx := x) (.tmp 13) (.tmp 15) _ rfl (by kernel_rfl) (by kernel_rfl)
  (try simp only [Act.put, List.setIfInBounds_toArray, List.set_cons_zero, List.set_cons_succ])
  refine wpAnyH_take (i := 11) (v := (.bool false)) rfl (by kernel_rfl) (by kernel_rfl) (by kernel_rfl) (fun _ _ _ h => h) (Or.inl ⟨by rfl, ?_⟩) (by assumption) ?_
  · intro w' hSw
    (try dsimp only at hSw)
    go_simp
  (try simp only [Act.put, List.setIfInBounds_toArray, List.set_cons_zero, List.set_cons_succ])
  refine wpAnyH_take (i := 12) (v := (.bool false)) rfl (by kernel_rfl) (by kernel_rfl) (by kernel_rfl) (fun _ _ _ h => h) (Or.inl ⟨by rfl, ?_⟩) (by assumption) ?_
  · intro w' hSw
    (try dsimp only at hSw)
    go_simp
  (try simp only [Act.put, List.setIfInBounds_toArray, List.set_cons_zero, List.set_cons_succ])
  refine wpAnyH_take (i := 13) (v := (.pointer (some ⟨w.heap.size, 22, none⟩))) rfl (by kernel_rfl) (by kernel_rfl) (by kernel_rfl) (fun _ _ _ h => h) (Or.inl ⟨by kernel_rfl, ?_⟩) (by assumption) ?_
  · intro w' hSw
    (try dsimp only at hSw)
    go_simp
  (try simp only [Act.put, List.setIfInBounds_toArray, List.set_cons_zero, List.set_cons_succ])
  refine wpAnyH_take (i := 14) (v := (.slice aa ns.length ca)) rfl (by kernel_rfl) (by kernel_rfl) (by kernel_rfl) (fun _ _ _ h => h) (Or.inl ⟨by kernel_rfl, ?_⟩) (by assumption) ?_
  · intro w' hSw
    (try dsimp only at hSw)
    (have y := (CC.out _ hSw).1.nv; clear CC; go_simp)
  (try simp only [Act.put, List.setIfInBounds_toArray, List.set_cons_zero, List.set_cons_succ])
  refine wpAnyH_take (i := 15) (v := (.int .i64 (ns.length : Int))) rfl (by kernel_rfl) (by kernel_rfl) (by kernel_rfl) (fun _ _ _ h => h) (Or.inl ⟨by kernel_rfl, ?_⟩) (by assumption) ?_
  · intro w' hSw
    (try dsimp only at hSw)
    go_simp
  (try simp only [Act.put, List.setIfInBounds_toArray, List.set_cons_zero, List.set_cons_succ])
  refine wpAnyH_take (i := 16) (v := (.pointer (some ⟨w.heap.size + 1, 22, none⟩))) rfl (by kernel_rfl) (by kernel_rfl) (by kernel_rfl) (fun _ _ _ h => h) (Or.inl ⟨by kernel_rfl, ?_⟩) (by assumption) ?_
  · intro w' hSw
    (try dsimp only at hSw)
    go_simp
  (try simp only [Act.put, List.setIfInBounds_toArray, List.set_cons_zero, List.set_cons_succ])
  refine wpAnyH_take (i := 17) (v := (.slice ab ns.length cb)) rfl (by kernel_rfl) (by kernel_rfl) (by kernel_rfl) (fun _ _ _ h => h) (Or.inl ⟨by kernel_rfl, ?_⟩) (by assumption) ?_
  · intro w' hSw
    (try dsimp only at hSw)
    (have y := (CC.out _ hSw).2.nv; clear CC; go_simp)
  (try simp only [Act.put, List.setIfInBounds_toArray, List.set_cons_zero, List.set_cons_succ])
  refine wpAnyH_take (i := 18) (v := (.int .i64 (ns.length : Int))) rfl (by kernel_rfl) (by kernel_rfl) (by kernel_rfl) (fun _ _ _ h => h) (Or.inl ⟨by kernel_rfl, ?_⟩) (by assumption) ?_
  · intro w' hSw
    (try dsimp only at hSw)
    go_simp
  (try simp only [Act.put, List.setIfInBounds_toArray, List.set_cons_zero, List.set_cons_succ])
  refine wpAnyH_take (i := 19) (v := (.bool false)) rfl (by kernel_rfl) (by kernel_rfl) (by kernel_rfl) (fun _ _ _ h => h) (Or.inl ⟨by kernel_rfl, ?_⟩) (by assumption) ?_
  · intro w' hSw
    (try dsimp only at hSw)
    go_simp
  (try simp only [Act.put, List.setIfInBounds_toArray, List.set_cons_zero, List.set_cons_succ])
  refine wpAnyH_ready (rs := [20]) (by kernel_rfl) (by simp) ?_
  refine AllReadyH.cons rfl (fun K hK => ?_) AllReadyH.nil
  go_simp
  refine hK.out _ _ (B2.out) (fun hHeld => ?_)
  clear hK
  (try simp only [Act.put, List.setIfInBounds_toArray, List.set_cons_zero, List.set_cons_succ])
  refine wpAnyH_done (by kernel_rfl) ?_ _
  clear hHeld B1
  go_wp2_with fail
  go_loopw [5] (fun vi wr => ∃ (q : Nat), q ≤ ns.length ∧ vi = .int .i64 (q : Int) ∧ Below W0.heap.size W0 wr) (fun vi _ => ns.length - (intOf vi).toNat)
  case atStart => exact ⟨0, Nat.zero_le _, rfl, B2.out⟩
  case round =>
    clear B2
    obtain ⟨q, hq, rfl, hB⟩ := hrel
    have HB := hide hB
    clear hB
    have nva := (CC.out _ HB.out).1.nv
    by_cases hql : q < ns.length
    case neg =>
      obtain rfl : q = ns.length := by omega
      go_wp2_with fail
      go_ret
      exact ⟨rfl, B0.out.trans (HB.out.mono B0.out.size)⟩
    case pos =>
      have h1 := NA.out.at0 (by omega)
      have h2 := NB.out.at0 (by omega)
      subst h1
      subst h2
      have hqi : (q : Int) < (ns.length : Int) := by omega
      go_wp2_with fail
      clear nva
      have KA : Hid (∀ Y, Below W0.heap.size W0 Y → Y.cell? ⟨ba, oa + q * 2, none⟩ = some (.int .i64 ns[q].z) ∧ Y.cell? ⟨ba, oa + q * 2 + 1, none⟩ = some (pva q)) := fun Y hY => by
        have k := NA.out.below ((B0.out.trans (hY.mono B0.out.size)).mono hN)
        exact ⟨k.cz q hql, k.cp q hql⟩
      have KB : Hid (∀ Y, Below W0.heap.size W0 Y → Y.cell? ⟨bb, ob + q * 2, none⟩ = some (.int .i64 ns[q].z) ∧ Y.cell? ⟨bb, ob + q * 2 + 1, none⟩ = some (pvb q)) := fun Y hY => by
        have k := NB.out.below ((B0.out.trans (hY.mono B0.out.size)).mono hN)
        exact ⟨k.cz q hql, k.cp q hql⟩
      have NAY := NA.out.below ((B0.out.trans (HB.out.drew.mono B0.out.size)).mono hN)
      have NBY := NB.out.below ((B0.out.trans (HB.out.drew.mono B0.out.size)).mono hN)
      have SI := hide (sameInts_eq N wr.drew (pva q) (pvb q) ns[q].ps (NAY.ps q hql) (NBY.ps q hql) (Nat.le_trans hN (Nat.le_trans B0.out.size HB.out.size)))
      clear NAY NBY
      generalize ns[q].z = z at *
      generalize pva q = va at *
      generalize pvb q = vb at *
      refine wp_region_held_drew (S := fun Y => Below W0.heap.size W0 Y) (by kernel_rfl) (HB.out.drew) (fun hHeld => ?_)
      refine wpAnyH_take (i := 0) (v := (.pointer (some ⟨w.heap.size, 22, none⟩))) rfl (by kernel_rfl) (by kernel_rfl) (by kernel_rfl) (fun _ _ _ h => h) (Or.inl ⟨by rfl, ?_⟩) (by assumption) ?_
      · intro w' hSw
        (try dsimp only at hSw)
        go_simp
      (try simp only [Act.put, List.setIfInBounds_toArray, List.set_cons_zero, List.set_cons_succ])
      refine wpAnyH_take (i := 1) (v := (.slice (some ⟨ba, oa, none⟩) ns.length ca)) rfl (by kernel_rfl) (by kernel_rfl) (by kernel_rfl) (fun _ _ _ h => h) (Or.inl ⟨by rfl, ?_⟩) (by assumption) ?_
      · intro w' hSw
        (try dsimp only at hSw)
        (have y := (CC.out _ hSw).1.nv; clear CC; go_simp)
      (try simp only [Act.put, List.setIfInBounds_toArray, List.set_cons_zero, List.set_cons_succ])
      refine wpAnyH_take (i := 2) (v := (.int .i64 (q : Int))) rfl (by kernel_rfl) (by kernel_rfl) (by kernel_rfl) (fun _ _ _ h => h) (Or.inl ⟨by rfl, ?_⟩) (by assumption) ?_
      · intro w' hSw
        (try dsimp only at hSw)
        go_simp
      (try simp only [Act.put, List.setIfInBounds_toArray, List.set_cons_zero, List.set_cons_succ])
      refine wpAnyH_take (i := 3) (v := (.pointer (some ⟨ba, oa + q * 2, none⟩))) rfl (by kernel_rfl) (by kernel_rfl) (by kernel_rfl) (fun _ _ _ h => h) (Or.inl ⟨by rfl, ?_⟩) (by assumption) ?_
      · intro w' hSw
        (try dsimp only at hSw)
        go_simp
      (try simp only [Act.put, List.setIfInBounds_toArray, List.set_cons_zero, List.set_cons_succ])
      refine wpAnyH_take (i := 4) (v := (.pointer (some ⟨ba, oa + q * 2, none⟩))) rfl (by kernel_rfl) (by kernel_rfl) (by kernel_rfl) (fun _ _ _ h => h) (Or.inl ⟨by rfl, ?_⟩) (by assumption) ?_
      · intro w' hSw
        (try dsimp only at hSw)
        go_simp
      (try simp only [Act.put, List.setIfInBounds_toArray, List.set_cons_zero, List.set_cons_succ])
      refine wpAnyH_take (i := 5) (v := (.int .i64 z)) rfl (by kernel_rfl) (by kernel_rfl) (by kernel_rfl) (fun _ _ _ h => h) (Or.inl ⟨by rfl, ?_⟩) (by assumption) ?_
      · intro w' hSw
        (try dsimp only at hSw)
        (have y := (KA.out _ hSw).1; clear CC; go_simp)
      (try simp only [Act.put, List.setIfInBounds_toArray, List.set_cons_zero, List.set_cons_succ])
      refine wpAnyH_take (i := 6) (v := (.pointer (some ⟨w.heap.size + 1, 22, none⟩))) rfl (by kernel_rfl) (by kernel_rfl) (by kernel_rfl) (fun _ _ _ h => h) (Or.inl ⟨by rfl, ?_⟩) (by assumption) ?_
      · intro w' hSw
        (try dsimp only at hSw)
        go_simp
      (try simp only [Act.put, List.setIfInBounds_toArray, List.set_cons_zero, List.set_cons_succ])
      refine wpAnyH_take (i := 7) (v := (.slice (some ⟨bb, ob, none⟩) ns.length cb)) rfl (by kernel_rfl) (by kernel_rfl) (by kernel_rfl) (fun _ _ _ h => h) (Or.inl ⟨by rfl, ?_⟩) (by assumption) ?_
      · intro w' hSw
        (try dsimp only at hSw)
        (have y := (CC.out _ hSw).2.nv; clear CC; go_simp)
      (try simp only [Act.put, List.setIfInBounds_toArray, List.set_cons_zero, List.set_cons_succ])
      refine wpAnyH_take (i := 8) (v := (.int .i64 (q : Int))) rfl (by kernel_rfl) (by kernel_rfl) (by kernel_rfl) (fun _ _ _ h => h) (Or.inl ⟨by rfl, ?_⟩) (by assumption) ?_
      · intro w' hSw
        (try dsimp only at hSw)
        go_simp
      (try simp only [Act.put, List.setIfInBounds_toArray, List.set_cons_zero, List.set_cons_succ])
      refine wpAnyH_take (i := 9) (v := (.pointer (some ⟨bb, ob + q * 2, none⟩))) rfl (by kernel_rfl) (by kernel_rfl) (by kernel_rfl) (fun _ _ _ h => h) (Or.inl ⟨by rfl, ?_⟩) (by assumption) ?_
      · intro w' hSw
        (try dsimp only at hSw)
        go_simp
      (try simp only [Act.put, List.setIfInBounds_toArray, List.set_cons_zero, List.set_cons_succ])
      refine wpAnyH_take (i := 10) (v := (.pointer (some ⟨bb, ob + q * 2, none⟩))) rfl (by kernel_rfl) (by kernel_rfl) (by kernel_rfl) (fun _ _ _ h => h) (Or.inl ⟨by rfl, ?_⟩) (by assumption) ?_
      · intro w' hSw
        (try dsimp only at hSw)
        go_simp
      (try simp only [Act.put, List.setIfInBounds_toArray, List.set_cons_zero, List.set_cons_succ])
      refine wpAnyH_take (i := 11) (v := (.int .i64 z)) rfl (by kernel_rfl) (by kernel_rfl) (by kernel_rfl) (fun _ _ _ h => h) (Or.inl ⟨by rfl, ?_⟩) (by assumption) ?_
      · intro w' hSw
        (try dsimp only at hSw)
        (have y := (KB.out _ hSw).1; clear CC; go_simp)
      (try simp only [Act.put, List.setIfInBounds_toArray, List.set_cons_zero, List.set_cons_succ])
      refine wpAnyH_take (i := 12) (v := (.bool false)) rfl (by kernel_rfl) (by kernel_rfl) (by kernel_rfl) (fun _ _ _ h => h) (Or.inl ⟨by rfl, ?_⟩) (by assumption) ?_
      · intro w' hSw
        (try dsimp only at hSw)
        go_simp
      (try simp only [Act.put, List.setIfInBounds_toArray, List.set_cons_zero, List.set_cons_succ])
      refine wpAnyH_take (i := 13) (v := (.bool false)) rfl (by kernel_rfl) (by kernel_rfl) (by kernel_rfl) (fun _ _ _ h => h) (Or.inl ⟨by rfl, ?_⟩) (by assumption) ?_
      · intro w' hSw
        (try dsimp only at hSw)
        go_simp
      (try simp only [Act.put, List.setIfInBounds_toArray, List.set_cons_zero, List.set_cons_succ])
      refine wpAnyH_take (i := 14) (v := (.pointer (some ⟨w.heap.size, 22, none⟩))) rfl (by kernel_rfl) (by kernel_rfl) (by kernel_rfl) (fun _ _ _ h => h) (Or.inl ⟨by kernel_rfl, ?_⟩) (by assumption) ?_
      · intro w' hSw
        (try dsimp only at hSw)
        go_simp
      (try simp only [Act.put, List.setIfInBounds_toArray, List.set_cons_zero, List.set_cons_succ])
      refine wpAnyH_take (i := 15) (v := (.slice (some ⟨ba, oa, none⟩) ns.length ca)) rfl (by kernel_rfl) (by kernel_rfl) (by kernel_rfl) (fun _ _ _ h => h) (Or.inl ⟨by kernel_rfl, ?_⟩) (by assumption) ?_
      · intro w' hSw
        (try dsimp only at hSw)
        (have y := (CC.out _ hSw).1.nv; clear CC; go_simp)
      (try simp only [Act.put, List.setIfInBounds_toArray, List.set_cons_zero, List.set_cons_succ])
      refine wpAnyH_take (i := 16) (v := (.int .i64 (q : Int))) rfl (by kernel_rfl) (by kernel_rfl) (by kernel_rfl) (fun _ _ _ h => h) (Or.inl ⟨by kernel_rfl, ?_⟩) (by assumption) ?_
      · intro w' hSw
        (try dsimp only at hSw)
        go_simp
      (try simp only [Act.put, List.setIfInBounds_toArray, List.set_cons_zero, List.set_cons_succ])
      refine wpAnyH_take (i := 17) (v := (.pointer (some ⟨ba, oa + q * 2, none⟩))) rfl (by kernel_rfl) (by kernel_rfl) (by kernel_rfl) (fun _ _ _ h => h) (Or.inl ⟨by kernel_rfl, ?_⟩) (by assumption) ?_
      · intro w' hSw
        (try dsimp only at hSw)
        go_simp
      (try simp only [Act.put, List.setIfInBounds_toArray, List.set_cons_zero, List.set_cons_succ])
      refine wpAnyH_take (i := 18) (v := (.pointer (some ⟨ba, oa + q * 2 + 1, none⟩))) rfl (by kernel_rfl) (by kernel_rfl) (by kernel_rfl) (fun _ _ _ h => h) (Or.inl ⟨by kernel_rfl, ?_⟩) (by assumption) ?_
      · intro w' hSw
        (try dsimp only at hSw)
        go_simp
      (try simp only [Act.put, List.setIfInBounds_toArray, List.set_cons_zero, List.set_cons_succ])
      refine wpAnyH_take (i := 19) (v := va) rfl (by kernel_rfl) (by kernel_rfl) (by kernel_rfl) (fun _ _ _ h => h) (Or.inl ⟨by kernel_rfl, ?_⟩) (by assumption) ?_
      · intro w' hSw
        (try dsimp only at hSw)
        (have y := (KA.out _ hSw).2; clear CC; go_simp)
      (try simp only [Act.put, List.setIfInBounds_toArray, List.set_cons_zero, List.set_cons_succ])
      refine wpAnyH_take (i := 20) (v := (.pointer (some ⟨w.heap.size + 1, 22, none⟩))) rfl (by kernel_rfl) (by kernel_rfl) (by kernel_rfl) (fun _ _ _ h => h) (Or.inl ⟨by kernel_rfl, ?_⟩) (by assumption) ?_
      · intro w' hSw
        (try dsimp only at hSw)
        go_simp
      (try simp only [Act.put, List.setIfInBounds_toArray, List.set_cons_zero, List.set_cons_succ])
      refine wpAnyH_take (i := 21) (v := (.slice (some ⟨bb, ob, none⟩) ns.length cb)) rfl (by kernel_rfl) (by kernel_rfl) (by kernel_rfl) (fun _ _ _ h => h) (Or.inl ⟨by kernel_rfl, ?_⟩) (by assumption) ?_
      · intro w' hSw
        (try dsimp only at hSw)
        (have y := (CC.out _ hSw).2.nv; clear CC; go_simp)
      (try simp only [Act.put, List.setIfInBounds_toArray, List.set_cons_zero, List.set_cons_succ])
      refine wpAnyH_take (i := 22) (v := (.int .i64 (q : Int))) rfl (by kernel_rfl) (by kernel_rfl) (by kernel_rfl) (fun _ _ _ h => h) (Or.inl ⟨by kernel_rfl, ?_⟩) (by assumption) ?_
      · intro w' hSw
        (try dsimp only at hSw)
        go_simp
      (try simp only [Act.put, List.setIfInBounds_toArray, List.set_cons_zero, List.set_cons_succ])
      refine wpAnyH_take (i := 23) (v := (.pointer (some ⟨bb, ob + q * 2, none⟩))) rfl (by kernel_rfl) (by kernel_rfl) (by kernel_rfl) (fun _ _ _ h => h) (Or.inl ⟨by kernel_rfl, ?_⟩) (by assumption) ?_
      · intro w' hSw
        (try dsimp only at hSw)
        go_simp
      (try simp only [Act.put, List.setIfInBounds_toArray, List.set_cons_zero, List.set_cons_succ])
      refine wpAnyH_take (i := 24) (v := (.pointer (some ⟨bb, ob + q * 2 + 1, none⟩))) rfl (by kernel_rfl) (by kernel_rfl) (by kernel_rfl) (fun _ _ _ h => h) (Or.inl ⟨by kernel_rfl, ?_⟩) (by assumption) ?_
      · intro w' hSw
        (try dsimp only at hSw)
        go_simp
      (try simp only [Act.put, List.setIfInBounds_toArray, List.set_cons_zero, List.set_cons_succ])
      refine wpAnyH_take (i := 25) (v := vb) rfl (by kernel_rfl) (by kernel_rfl) (by kernel_rfl) (fun _ _ _ h => h) (Or.inl ⟨by kernel_rfl, ?_⟩) (by assumption) ?_
      · intro w' hSw
        (try dsimp only at hSw)
        (have y := (KB.out _ hSw).2; clear CC; go_simp)
      (try simp only [Act.put, List.setIfInBounds_toArray, List.set_cons_zero, List.set_cons_succ])
      refine wpAnyH_ready (rs := [26]) (by kernel_rfl) (by simp) ?_
      refine AllReadyH.cons rfl (fun K hK => ?_) AllReadyH.nil
      go_simp
      refine Calls.mono SI.out ?_
      rintro e W5 ⟨rfl, hb⟩
      have hb' : Below wr.heap.size wr W5 := ⟨hb.os, hb.tape, hb.output, hb.size, hb.block⟩
      have B5 : Hid (Below W0.heap.size W0 W5) := HB.out.trans (hb'.mono HB.out.size)
      clear hb'
      clear hb SI
      refine hK.out _ _ (B5.out) (fun hHeld => ?_)
      clear hK
      (try simp only [Act.put, List.setIfInBounds_toArray, List.set_cons_zero, List.set_cons_succ])
      refine wpAnyH_take (i := 27) (v := (.bool false)) rfl (by kernel_rfl) (by kernel_rfl) (by kernel_rfl) (fun _ _ _ h => h) (Or.inl ⟨by kernel_rfl, ?_⟩) (by assumption) ?_
      · intro w' hSw
        (try dsimp only at hSw)
        go_simp
      (try simp only [Act.put, List.setIfInBounds_toArray, List.set_cons_zero, List.set_cons_succ])
      refine wpAnyH_ready (rs := [28]) (by kernel_rfl) (by simp) ?_
      refine AllReadyH.cons rfl (fun K hK => ?_) AllReadyH.nil
      go_simp
      refine hK.out _ _ (B5.out) (fun hHeld => ?_)
      clear hK
      (try simp only [Act.put, List.setIfInBounds_toArray, List.set_cons_zero, List.set_cons_succ])
      refine wpAnyH_done (by kernel_rfl) ?_ _
      clear hHeld CC KA KB
      go_wp2_with fail
      go_roundw
      case rel => exact ⟨q + 1, by omega, by go_num, B5.out⟩
      case measure => simp [intOf]; omega
end Go.Proofs.YtanlnelfbfjelaaDoor
namespace Go.Proofs.YtanlnelfbfjelaaDoor
open Go.RowKit
theorem exec_move {ρ : Operand → Value} {op : Oper} {w : World} {v : Value} (x : Operand) (ho : op.op = .move x) (hx : ρ x = v) : (execOp ρ op).run Tryd.prog w = .ok (.value v) w := by
  unfold execOp
  simp only [ho, hx, Sem.run_pure]
theorem exec_nil {ρ : Operand → Value} {op : Oper} {w : World} {a : Addr} (x : Operand) (ho : op.op = .nilCheck x) (hx : ρ x = .pointer (some a)) : (execOp ρ op).run Tryd.prog w = .ok (.value (.pointer (some a))) w := by
  unfold execOp
  simp only [ho, hx, Sem.run_pure]
theorem exec_fa {ρ : Operand → Value} {op : Oper} {w : World} {a a' : Addr} {s : TypeId} {f : Nat} (x : Operand) (ho : op.op = .fieldAddr s x f) (hx : ρ x = .pointer (some a)) (hf : (Instr.fieldAt s (.pointer (some a)) f).run Tryd.prog w = .ok (.pointer (some a')) w) : (execOp ρ op).run Tryd.prog w = .ok (.value (.pointer (some a'))) w := by
  unfold execOp
  simp only [ho, hx, hf, Sem.run_bind, Result.andThen_ok, Sem.run_pure]
theorem exec_len {ρ : Operand → Value} {op : Oper} {w : World} {ba : Option Addr} {n c : Nat} {t : TypeId} (x : Operand) (ho : op.op = .call { callee := .builtin .len, args := #[x], argTypes := #[t] }) (ht : t = 22 ∨ t = 33) (hx : ρ x = .slice ba n c) : (execOp ρ op).run Tryd.prog w = .ok (.value (.int .i64 (n : Int))) w := by
  unfold execOp
  rcases ht with rfl | rfl
  · simp only [ho, resolve, invoke, builtin, Sem.run_bind, Sem.run_pure, Result.andThen_ok, List.map_toArray, List.map_cons, List.map_nil, hx]
    go_simp
  · simp only [ho, resolve, invoke, builtin, Sem.run_bind, Sem.run_pure, Result.andThen_ok, List.map_toArray, List.map_cons, List.map_nil, hx]
    go_simp
theorem exec_addi {ρ : Operand → Value} {op : Oper} {w : World} {n : Int} {k : Int} {t2 : TypeId} (x : Operand) (ho : op.op = .binOp .add 3 x (.const (.int .i64 k)) t2) (hx : ρ x = .int .i64 n) (hk : ρ (.const (.int .i64 k)) = .int .i64 k) (h0 : -9223372036854775808 ≤ n + k) (h1 : n + k < 9223372036854775808) : (execOp ρ op).run Tryd.prog w = .ok (.value (.int .i64 (n + k))) w := by
  unfold execOp
  simp only [ho, hx, hk]
  go_simp
  exact i64_in h0 h1
theorem exec_neqi {ρ : Operand → Value} {op : Oper} {w : World} {n : Int} {t2 : TypeId} (x y : Operand) (ho : op.op = .binOp .neq 3 x y t2) (hx : ρ x = .int .i64 n) (hy : ρ y = .int .i64 n) : (execOp ρ op).run Tryd.prog w = .ok (.value (.bool false)) w := by
  unfold execOp
  simp only [ho, hx, hy]
  go_simp
theorem exec_pickf {ρ : Operand → Value} {op : Oper} {w : World} (x y z : Operand) (ho : op.op = .pick x y z) (hx : ρ x = .bool false) (hz : ρ z = .bool false) : (execOp ρ op).run Tryd.prog w = .ok (.value (.bool false)) w := by
  unfold execOp
  simp only [ho, hx, hz]
  go_simp
theorem exec_not {ρ : Operand → Value} {op : Oper} {w : World} (x : Operand) (t : TypeId) (ho : op.op = .unOp .not t x) (hx : ρ x = .bool true) : (execOp ρ op).run Tryd.prog w = .ok (.value (.bool false)) w := by
  unfold execOp
  simp only [ho, hx]
  go_simp
theorem exec_ixN {ρ : Operand → Value} {op : Oper} {w : World} {b o n c q : Nat} (x y : Operand) (ho : op.op = .indexAddr 22 x y) (hx : ρ x = .slice (some ⟨b, o, none⟩) n c) (hy : ρ y = .int .i64 (q : Int)) (hq : q < n) : (execOp ρ op).run Tryd.prog w = .ok (.value (.pointer (some ⟨b, o + q * 2, none⟩))) w := by
  have hqi : (q : Int) < (n : Int) := by omega
  unfold execOp
  simp only [ho, hx, hy]
  go_simp
theorem exec_ixI {ρ : Operand → Value} {op : Oper} {w : World} {b o n c q : Nat} (x y : Operand) (ho : op.op = .indexAddr 33 x y) (hx : ρ x = .slice (some ⟨b, o, none⟩) n c) (hy : ρ y = .int .i64 (q : Int)) (hq : q < n) : (execOp ρ op).run Tryd.prog w = .ok (.value (.pointer (some ⟨b, o + q, none⟩))) w := by
  have hqi : (q : Int) < (n : Int) := by omega
  unfold execOp
  simp only [ho, hx, hy]
  go_simp
/-- a definition out of the middle of a block -/
theorem exec_mid {ρ : Operand → Value} {op : Oper} {w : World} {b o : Nat} {st : ByteArray} {x : Nat → Int} {nv : Value} (p : Operand) (ho : op.op = .load 24 p) (hx : ρ p = .pointer (some ⟨b, o, none⟩)) (hc : w.rangeAt b o (clA st x nv).toList) : (execOp ρ op).run Tryd.prog w = .ok (.value (.agg (clA st x nv))) w := by
  unfold execOp
  have h := run_loadVar_mid (P := Tryd.prog) w b o 24 (clA st x nv).toList _ hc Tryd.underlying24 rfl (by rw [infoCl]; rfl)
  simp only [ho, hx, Instr.loadAt, Instr.sureAddr, Sem.run_bind, Sem.run_pure, Result.andThen_ok, h]
end Go.Proofs.YtanlnelfbfjelaaDoor
