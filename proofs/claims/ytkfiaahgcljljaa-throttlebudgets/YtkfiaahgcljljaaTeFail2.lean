import Derived.Test.YtkfiaahgcljljaaTeFail
namespace Go.Proofs.Ytkfiaahgcljljaa
open Go.RowKit
theorem itYT {p : Prop} [Decidable p] {A B : Prop} (hp : p) (h : A) : if p then A else B := by rw [if_pos hp]; exact h
theorem infoIt : (Try.prog.info? 25).map (fun i => (i.zero, i.size, i.bytes)) = some (some (.agg #[.int .i64 0, .int .i64 0]), 2, 16) := by kernel_rfl
theorem info_partsT {P : Program} {t : TypeId} {z : Option Value} {n b : Nat} (h : (P.info? t).map (fun i => (i.zero, i.size, i.bytes)) = some (z, n, b)) : ∃ i, P.info? t = some i ∧ i.zero = z ∧ i.size = n ∧ i.bytes = b := by
  obtain ⟨i, hi, hx⟩ := Option.map_eq_some_iff.1 h
  simp only [Prod.mk.injEq] at hx
  exact ⟨i, hi, hx.1, hx.2.1, hx.2.2⟩
theorem it_cells (w : World) (a b : Int) : ∀ j u, (itc [(a, b)])[j]? = some u → (w.alloc (.cells #[.int .i64 a, .int .i64 b] 25)).cell? ((⟨w.heap.size, 0, none⟩ : Addr).add j) = some u := by
  intro j u hj
  have e := heap_last w (.cells #[.int .i64 a, .int .i64 b] 25)
  match j, hj with
  | 0, hj => simp [itc] at hj; subst hj; rw [Addr.add_mid]; unfold World.cell?; rw [e]; rfl
  | 1, hj => simp [itc] at hj; subst hj; rw [Addr.add_mid]; unfold World.cell?; rw [e]; rfl
  | (j + 2), hj => simp [itc] at hj
theorem it_one (a b : Int) : ∀ u ∈ itc [(a, b)], u.oneCell' = true := by
  intro u hu
  simp [itc] at hu
  rcases hu with rfl | rfl <;> rfl
/-- where a new list may lie -/
def Near (X : World) (v v' : Value) : Prop := ∀ g, v'.ownBlock = some g → v.ownBlock = some g ∨ X.heap.size ≤ g
theorem near_of {X : World} {v v' : Value} {N : Nat} (h : v'.ownBlock = v.ownBlock ∨ v'.ownBlock = some N) (hN : X.heap.size ≤ N) : Near X v v' := by
  intro g hg
  rcases h with h | h
  · exact Or.inl (h.symm.trans hg)
  · rw [h] at hg
    cases hg
    exact Or.inr hN
theorem wp_append_ownT {P : Program} (w : World) {o : Oper} {a : Act} {K : Act → World → Prop} {Q : Exit → Act → World → Prop} (s x : Operand) (t : TypeId)
    (ho : o.op = .call { callee := .builtin .append, args := #[s, x], argTypes := #[t, t] })
    (base : Nat) (e : TypeId) (i : TypeInfo) (z : Value) (size bytes : Nat) (ht : P.underlying t = some (.slice e)) (hi : P.info? e = some i) (hz : i.zero = some z)
    (hsize : i.size = size) (hby : i.bytes = bytes) (hzs : z.cells.size = size) (hsz : 0 < size)
    (v : Value) (n : Nat) (xs : List Value) (hs : a.eval s = v) (hown : w.ownsRow base e size v n xs)
    (ad : Addr) (m c : Nat) (news : List Value) (hx : a.eval x = .slice (some ad) m c) (hl : news.length = m * size) (hnews : ∀ j u, news[j]? = some u → w.cell? (ad.add j) = some u) (h1 : ∀ u ∈ news, u.oneCell' = true)
    (h63 : n + m ≤ maxLen) (hbytes : (n + m) * bytes ≤ 140737488355328) (hbase : base ≤ w.heap.size)
    (h : ∀ v' w', w'.ownsRow base e size v' (n + m) (xs ++ news) → w.grownBy w' v.ownBlock → (v'.ownBlock = v.ownBlock ∨ v'.ownBlock = some w.heap.size) → K (a.put o.dst v') w') : o.wp P a w K Q := by
  obtain ⟨v', w', hr, h2, h3, _, h5⟩ := run_append_own_at (P := P) w base t o.type e i z size bytes ht hi hz hsize hby hzs hsz v n xs hown ad m c news hl hnews h1 h63 hbytes hbase
  unfold Oper.wp execOp
  simp only [ho, resolve, invoke, builtin, Sem.run_bind, Sem.run_pure, Result.andThen_ok, List.map_toArray, List.map_cons, List.map_nil, hs, hx, hr]
  exact h v' w' h2 h3 h5
theorem own_ne {w : World} {base n Q : Nat} {v : Value} {xs : List Value} {u : Array Value} {t : TypeId} (h : w.ownsRow base 25 2 v n xs) (hQ : w.heap[Q]? = some (.cells u t)) (ht : t ≠ 25) : some Q ≠ v.ownBlock := by
  rcases h.2 with ⟨rfl, _⟩ | ⟨g, cap, cur, rfl, _, hg, _⟩
  · simp [Value.ownBlock]
  · intro e
    obtain rfl : Q = g := by simpa [Value.ownBlock] using e
    have := hQ.symm.trans hg
    simp only [Option.some.injEq, Obj.cells.injEq] at this
    exact ht this.2.1
/-- the list is grown, and laid back into the budget -/
theorem RbAt.grown {X X1 : World} {base Q : Nat} {t s m a b : Int} {v v' : Value} {L : List (Int × Int)} (h : RbAt X base Q t s m v L) (o : X1.ownsRow base 25 2 v' (L.length + 1) (itc L ++ itc [(a, b)])) (g : X.grownBy X1 v.ownBlock) :
    X1.heap[Q]? = some (.cells #[.int .i64 t, .int .i64 s, .int .i64 m, v] 88) ∧ RbAt (X1.setCell ⟨Q, 3, none⟩ v') base Q t s m v' (L ++ [(a, b)]) := by
  have hQ := (g.block Q (blk_lt h.blk) (own_ne h.row h.blk (by decide))).trans h.blk
  refine ⟨hQ, ⟨heap_setCell _ _ _ _ _ _ _ hQ, ?_⟩⟩
  rw [itc_append, List.length_append]
  exact o.kept (row := some Q) ⟨rfl, rfl, rfl, by rw [World.size_setCell]; exact Nat.le_refl _, fun i _ hn => Below.heap_setCell _ _ _ i (fun e => hn (by rw [e]))⟩ (Or.inr (fun e => own_ne o hQ (by decide) e.symm))
set_option maxHeartbeats 8000000 in
set_option maxRecDepth 100000 in
set_option linter.unusedSimpArgs false in
set_option linter.unusedVariables false in
theorem rbfail_last (X : World) (base Q : Nat) (t s m a b now : Int) (v : Value) (L : List (Int × Int)) (h : RbAt X base Q t s m v L) (hf : BFits t s m) (hL : L.length + 1 ≤ 8000000000000) (hbase : base ≤ X.heap.size) (hIn : base ≤ X.heap.size) (hw0 : 0 ≤ now) (hw1 : now ≤ 9007199254740992) (c : Nat) (hc : cnt a b L = c) (hc2 : (c : Int) + 1 = t) :
    Calls Try.prog 35 #[.pointer (some ⟨Q, 0, none⟩), .agg #[.int .i64 a, .int .i64 b], .int .i64 now] X fun e X' => ∃ v', e = .returned (.tuple #[.int .i64 0, .int .i64 100]) ∧ RbAt X' base Q t s m v' (L ++ [(a, b)]) ∧ Gr2 X X' Q v ∧ Near X v v' := by
  obtain ⟨WI, hWI⟩ : ∃ WI, WI = X.alloc (.cells #[.int .i64 a, .int .i64 b] 25) := ⟨_, rfl⟩
  obtain ⟨I, hI⟩ : ∃ I, I = X.heap.size := ⟨_, rfl⟩
  have II : Hid (ItAt WI I a b) := by subst hWI; subst hI; exact heap_last _ _
  have bI : Below X.heap.size X WI := by subst hWI; exact (Below.refl _ _).alloc (Nat.le_refl _) _
  have HR := hide (h.below bI)
  have BI := hide bI
  clear bI h
  obtain ⟨ba, cap, hv⟩ := own_slT HR.out.row
  subst hv
  have TI := times_any WI base Q t s m a b _ L HR.out (by unfold maxLen; omega)
  rw [hc] at TI
  have TI := hide TI
  have t2 := hf.t2
  have i0 := II.out.c0
  have i1 := II.out.c1
  have n0 : ¬ now < 0 := by omega
  have n1 : ¬ 9007199254740992 < now := by omega
  have hq : ((c : Int) == t) = false := by simp; omega
  have hq2 : ((c : Int) + 1 == t) = true := by simp; omega
  have x1 := wrap_in (x := (c : Int) + 1) (by omega) (by omega)
  go_enter Try.func35, Try.ntmps35
  go_wp2_with fail
  rw [← hWI, ← hI]
  clear hWI hI
  refine Calls.mono TI.out ?_
  rintro e W1 ⟨rfl, b1⟩
  have HS : Hid (base ≤ W1.heap.size) := Nat.le_trans hbase (Nat.le_trans BI.out.size b1.size)
  have HRD : Hid (RbAt W1.drew base Q t s m (.slice ba L.length cap) L) := (HR.out.below b1).below ⟨rfl, rfl, rfl, Nat.le_refl _, fun _ _ => rfl⟩
  have IID : Hid (ItAt W1.drew I a b) := (b1.block _ (blk_lt II.out)).trans II.out
  have GD : Hid (Gr2 X W1.drew Q (.slice ba L.length cap)) := Gr2.of_below _ _ ((BI.out.trans (b1.mono BI.out.size)).trans ⟨rfl, rfl, rfl, Nat.le_refl _, fun _ _ => rfl⟩)
  have c0 : W1.cell? ⟨Q, 0, none⟩ = some (.int .i64 t) := HRD.out.c0
  obtain ⟨i0, hi0, hz0, hz1, hz2⟩ := info_partsT infoIt
  clear TI b1 HR BI II
  go_wp2_with fail
  refine wp_region_held_drew (S := fun _ => True) (by kernel_rfl) trivial (fun hHeld => ?_)
  have i0c := IID.out.c0
  have i1c := IID.out.c1
  have k3c := HRD.out.c3
  refine wpAnyH_take (i := 0) (v := (.pointer (some ⟨Q, 0, none⟩))) rfl (by kernel_rfl) (by kernel_rfl) (by kernel_rfl) (fun _ _ _ h => h) (Or.inl ⟨by rfl, ?_⟩) (by assumption) ?_
  · intro w' hSw
    (try dsimp only at hSw)
    go_simp
  (try simp only [Act.put, List.setIfInBounds_toArray, List.set_cons_zero, List.set_cons_succ])
  refine wpAnyH_take (i := 1) (v := (.pointer (some ⟨Q, 0, none⟩))) rfl (by kernel_rfl) (by kernel_rfl) (by kernel_rfl) (fun _ _ _ h => h) (Or.inl ⟨by rfl, ?_⟩) (by assumption) ?_
  · intro w' hSw
    (try dsimp only at hSw)
    go_simp
  (try simp only [Act.put, List.setIfInBounds_toArray, List.set_cons_zero, List.set_cons_succ])
  refine wpAnyH_take (i := 2) (v := (.pointer (some ⟨Q, 0, none⟩))) rfl (by kernel_rfl) (by kernel_rfl) (by kernel_rfl) (fun _ _ _ h => h) (Or.inl ⟨by rfl, ?_⟩) (by assumption) ?_
  · intro w' hSw
    (try dsimp only at hSw)
    go_simp
  (try simp only [Act.put, List.setIfInBounds_toArray, List.set_cons_zero, List.set_cons_succ])
  refine wpAnyH_take (i := 3) (v := (.pointer (some ⟨Q, 3, none⟩))) rfl (by kernel_rfl) (by kernel_rfl) (by kernel_rfl) (fun _ _ _ h => h) (Or.inl ⟨by rfl, ?_⟩) (by assumption) ?_
  · intro w' hSw
    (try dsimp only at hSw)
    go_simp
  (try simp only [Act.put, List.setIfInBounds_toArray, List.set_cons_zero, List.set_cons_succ])
  refine wpAnyH_ready (rs := [4, 5]) (by kernel_rfl) (by simp) ?_
  refine AllReadyH.cons rfl (fun K hK => ?_) (AllReadyH.cons rfl (fun K hK => ?_) AllReadyH.nil)
  · skip
    go_simp
    refine hK.out _ _ (trivial) (fun hHeld => ?_)
    clear hK
    (try simp only [Act.put, List.setIfInBounds_toArray, List.set_cons_zero, List.set_cons_succ])
    refine wpAnyH_ready (rs := [5]) (by kernel_rfl) (by simp) ?_
    refine AllReadyH.cons rfl (fun K hK => ?_) AllReadyH.nil
    go_simp
    refine hK.out _ _ (trivial) (fun hHeld => ?_)
    clear hK
    (try simp only [Act.put, List.setIfInBounds_toArray, List.set_cons_zero, List.set_cons_succ])
    refine wpAnyH_ready (rs := [6]) (by kernel_rfl) (by simp) ?_
    refine AllReadyH.cons rfl (fun K hK => ?_) AllReadyH.nil
    go_simp
    refine hK.out _ _ (trivial) (fun hHeld => ?_)
    clear hK
    (try simp only [Act.put, List.setIfInBounds_toArray, List.set_cons_zero, List.set_cons_succ])
    refine wpAnyH_ready (rs := [7]) (by kernel_rfl) (by simp) ?_
    refine AllReadyH.cons rfl (fun K hK => ?_) AllReadyH.nil
    refine itYT (by rfl) ?_
    refine wp_append_ownT (W1.drew.alloc (.cells #[.int .i64 a, .int .i64 b] 25)) (.tmp 30) (.tmp 32) 26 ?hAo base 25 i0 _ 2 16 Try.underlying26 hi0 hz0 hz1 hz2 ?hAzs (by decide) (.slice ba L.length cap) L.length (itc L) ?hAs (HRD.out.row.alloc _) ⟨W1.drew.heap.size, 0, none⟩ 1 1 (itc [(a, b)]) ?hAx rfl (it_cells W1.drew a b) (it_one _ _) (by unfold maxLen; omega) (by omega) (by have := HS.out; simp; omega) ?hAk
    case hAo => rfl
    case hAzs => rfl
    case hAs => kernel_rfl
    case hAx => kernel_rfl
    intro v2 w4 o4 g4 at4
    have NR : Hid (Near X (.slice ba L.length cap) v2) := near_of at4 (Nat.le_trans GD.out.size (by simp only [World.size_alloc]; omega))
    clear at4
    obtain ⟨g2, cap2, hv2⟩ := own_gT o4 (by omega)
    subst hv2
    have hRA : RbAt (W1.drew.alloc (.cells #[.int .i64 a, .int .i64 b] 25)) base Q t s m (.slice ba L.length cap) L := HRD.out.below ((Below.refl _ _).alloc (Nat.le_refl _) _)
    obtain ⟨hQ4, hR4⟩ := hRA.grown o4 g4
    have GA := hide ((GD.out.below ((Below.refl _ _).alloc (Nat.le_refl _) (.cells #[.int .i64 a, .int .i64 b] 25))).own g4)
    have k3 : w4.cell? ⟨Q, 3, none⟩ = some (.slice ba L.length cap) := by unfold World.cell?; rw [hQ4]; rfl
    have z3 : w4.frozen? ⟨Q, 3, none⟩ = false := by unfold World.frozen?; rw [hQ4]; simp
    have HZ := hide hR4
    have GZ := hide (GA.out.set (j := 3) (.slice (some ⟨g2, 0, none⟩) (L.length + 1) cap2))
    clear hR4 hQ4 o4 g4 hRA
    refine hK.out _ _ (trivial) (fun hHeld => ?_)
    clear hK
    (try simp only [Act.put, List.setIfInBounds_toArray, List.set_cons_zero, List.set_cons_succ])
    refine wpAnyH_take (i := 8) (v := (.pointer (some ⟨Q, 0, none⟩))) rfl (by kernel_rfl) (by kernel_rfl) (by kernel_rfl) (fun _ _ _ h => h) (Or.inl ⟨by rfl, ?_⟩) (by assumption) ?_
    · intro w' hSw
      (try dsimp only at hSw)
      go_simp
    (try simp only [Act.put, List.setIfInBounds_toArray, List.set_cons_zero, List.set_cons_succ])
    refine wpAnyH_take (i := 9) (v := (.pointer (some ⟨Q, 3, none⟩))) rfl (by kernel_rfl) (by kernel_rfl) (by kernel_rfl) (fun _ _ _ h => h) (Or.inl ⟨by rfl, ?_⟩) (by assumption) ?_
    · intro w' hSw
      (try dsimp only at hSw)
      go_simp
    (try simp only [Act.put, List.setIfInBounds_toArray, List.set_cons_zero, List.set_cons_succ])
    refine wpAnyH_ready (rs := [10]) (by kernel_rfl) (by simp) ?_
    refine AllReadyH.cons rfl (fun K hK => ?_) AllReadyH.nil
    go_simp
    refine hK.out _ _ (trivial) (fun hHeld => ?_)
    clear hK
    (try simp only [Act.put, List.setIfInBounds_toArray, List.set_cons_zero, List.set_cons_succ])
    refine wpAnyH_done (by kernel_rfl) ?_ _
    clear hHeld k3 z3
    generalize w4.setCell ⟨Q, 3, none⟩ (.slice (some ⟨g2, 0, none⟩) (L.length + 1) cap2) = W9 at *
    have c0 := HZ.out.c0
    go_wp2_with fail
    go_ret2
    exact ⟨_, rfl, HZ.out, GZ.out, NR.out⟩
  · skip
    go_simp
    refine hK.out _ _ (trivial) (fun hHeld => ?_)
    clear hK
    (try simp only [Act.put, List.setIfInBounds_toArray, List.set_cons_zero, List.set_cons_succ])
    refine wpAnyH_ready (rs := [4, 6]) (by kernel_rfl) (by simp) ?_
    refine AllReadyH.cons rfl (fun K hK => ?_) (AllReadyH.cons rfl (fun K hK => ?_) AllReadyH.nil)
    · skip
      go_simp
      refine hK.out _ _ (trivial) (fun hHeld => ?_)
      clear hK
      (try simp only [Act.put, List.setIfInBounds_toArray, List.set_cons_zero, List.set_cons_succ])
      refine wpAnyH_ready (rs := [6]) (by kernel_rfl) (by simp) ?_
      refine AllReadyH.cons rfl (fun K hK => ?_) AllReadyH.nil
      go_simp
      refine hK.out _ _ (trivial) (fun hHeld => ?_)
      clear hK
      (try simp only [Act.put, List.setIfInBounds_toArray, List.set_cons_zero, List.set_cons_succ])
      refine wpAnyH_ready (rs := [7]) (by kernel_rfl) (by simp) ?_
      refine AllReadyH.cons rfl (fun K hK => ?_) AllReadyH.nil
      refine itYT (by rfl) ?_
      refine wp_append_ownT (W1.drew.alloc (.cells #[.int .i64 a, .int .i64 b] 25)) (.tmp 30) (.tmp 32) 26 ?hBo base 25 i0 _ 2 16 Try.underlying26 hi0 hz0 hz1 hz2 ?hBzs (by decide) (.slice ba L.length cap) L.length (itc L) ?hBs (HRD.out.row.alloc _) ⟨W1.drew.heap.size, 0, none⟩ 1 1 (itc [(a, b)]) ?hBx rfl (it_cells W1.drew a b) (it_one _ _) (by unfold maxLen; omega) (by omega) (by have := HS.out; simp; omega) ?hBk
      case hBo => rfl
      case hBzs => rfl
      case hBs => kernel_rfl
      case hBx => kernel_rfl
      intro v2 w4 o4 g4 at4
      have NR : Hid (Near X (.slice ba L.length cap) v2) := near_of at4 (Nat.le_trans GD.out.size (by simp only [World.size_alloc]; omega))
      clear at4
      obtain ⟨g2, cap2, hv2⟩ := own_gT o4 (by omega)
      subst hv2
      have hRA : RbAt (W1.drew.alloc (.cells #[.int .i64 a, .int .i64 b] 25)) base Q t s m (.slice ba L.length cap) L := HRD.out.below ((Below.refl _ _).alloc (Nat.le_refl _) _)
      obtain ⟨hQ4, hR4⟩ := hRA.grown o4 g4
      have GA := hide ((GD.out.below ((Below.refl _ _).alloc (Nat.le_refl _) (.cells #[.int .i64 a, .int .i64 b] 25))).own g4)
      have k3 : w4.cell? ⟨Q, 3, none⟩ = some (.slice ba L.length cap) := by unfold World.cell?; rw [hQ4]; rfl
      have z3 : w4.frozen? ⟨Q, 3, none⟩ = false := by unfold World.frozen?; rw [hQ4]; simp
      have HZ := hide hR4
      have GZ := hide (GA.out.set (j := 3) (.slice (some ⟨g2, 0, none⟩) (L.length + 1) cap2))
      clear hR4 hQ4 o4 g4 hRA
      refine hK.out _ _ (trivial) (fun hHeld => ?_)
      clear hK
      (try simp only [Act.put, List.setIfInBounds_toArray, List.set_cons_zero, List.set_cons_succ])
      refine wpAnyH_take (i := 8) (v := (.pointer (some ⟨Q, 0, none⟩))) rfl (by kernel_rfl) (by kernel_rfl) (by kernel_rfl) (fun _ _ _ h => h) (Or.inl ⟨by rfl, ?_⟩) (by assumption) ?_
      · intro w' hSw
        (try dsimp only at hSw)
        go_simp
      (try simp only [Act.put, List.setIfInBounds_toArray, List.set_cons_zero, List.set_cons_succ])
      refine wpAnyH_take (i := 9) (v := (.pointer (some ⟨Q, 3, none⟩))) rfl (by kernel_rfl) (by kernel_rfl) (by kernel_rfl) (fun _ _ _ h => h) (Or.inl ⟨by rfl, ?_⟩) (by assumption) ?_
      · intro w' hSw
        (try dsimp only at hSw)
        go_simp
      (try simp only [Act.put, List.setIfInBounds_toArray, List.set_cons_zero, List.set_cons_succ])
      refine wpAnyH_ready (rs := [10]) (by kernel_rfl) (by simp) ?_
      refine AllReadyH.cons rfl (fun K hK => ?_) AllReadyH.nil
      go_simp
      refine hK.out _ _ (trivial) (fun hHeld => ?_)
      clear hK
      (try simp only [Act.put, List.setIfInBounds_toArray, List.set_cons_zero, List.set_cons_succ])
      refine wpAnyH_done (by kernel_rfl) ?_ _
      clear hHeld k3 z3
      generalize w4.setCell ⟨Q, 3, none⟩ (.slice (some ⟨g2, 0, none⟩) (L.length + 1) cap2) = W9 at *
      have c0 := HZ.out.c0
      go_wp2_with fail
      go_ret2
      exact ⟨_, rfl, HZ.out, GZ.out, NR.out⟩
    · skip
      go_simp
      refine hK.out _ _ (trivial) (fun hHeld => ?_)
      clear hK
      (try simp only [Act.put, List.setIfInBounds_toArray, List.set_cons_zero, List.set_cons_succ])
      refine wpAnyH_ready (rs := [4]) (by kernel_rfl) (by simp) ?_
      refine AllReadyH.cons rfl (fun K hK => ?_) AllReadyH.nil
      have k3 : (W1.alloc (.cells #[.int .i64 a, .int .i64 b] 25)).cell? ⟨Q, 3, none⟩ = some (.slice ba L.length cap) := (HRD.out.below ((Below.refl _ _).alloc (Nat.le_refl _) _)).c3
      go_simp
      clear k3
      refine hK.out _ _ (trivial) (fun hHeld => ?_)
      clear hK
      (try simp only [Act.put, List.setIfInBounds_toArray, List.set_cons_zero, List.set_cons_succ])
      refine wpAnyH_ready (rs := [7]) (by kernel_rfl) (by simp) ?_
      refine AllReadyH.cons rfl (fun K hK => ?_) AllReadyH.nil
      refine itYT (by rfl) ?_
      refine wp_append_ownT (W1.drew.alloc (.cells #[.int .i64 a, .int .i64 b] 25)) (.tmp 30) (.tmp 32) 26 ?hCo base 25 i0 _ 2 16 Try.underlying26 hi0 hz0 hz1 hz2 ?hCzs (by decide) (.slice ba L.length cap) L.length (itc L) ?hCs (HRD.out.row.alloc _) ⟨W1.drew.heap.size, 0, none⟩ 1 1 (itc [(a, b)]) ?hCx rfl (it_cells W1.drew a b) (it_one _ _) (by unfold maxLen; omega) (by omega) (by have := HS.out; simp; omega) ?hCk
      case hCo => rfl
      case hCzs => rfl
      case hCs => kernel_rfl
      case hCx => kernel_rfl
      intro v2 w4 o4 g4 at4
      have NR : Hid (Near X (.slice ba L.length cap) v2) := near_of at4 (Nat.le_trans GD.out.size (by simp only [World.size_alloc]; omega))
      clear at4
      obtain ⟨g2, cap2, hv2⟩ := own_gT o4 (by omega)
      subst hv2
      have hRA : RbAt (W1.drew.alloc (.cells #[.int .i64 a, .int .i64 b] 25)) base Q t s m (.slice ba L.length cap) L := HRD.out.below ((Below.refl _ _).alloc (Nat.le_refl _) _)
      obtain ⟨hQ4, hR4⟩ := hRA.grown o4 g4
      have GA := hide ((GD.out.below ((Below.refl _ _).alloc (Nat.le_refl _) (.cells #[.int .i64 a, .int .i64 b] 25))).own g4)
      have k3 : w4.cell? ⟨Q, 3, none⟩ = some (.slice ba L.length cap) := by unfold World.cell?; rw [hQ4]; rfl
      have z3 : w4.frozen? ⟨Q, 3, none⟩ = false := by unfold World.frozen?; rw [hQ4]; simp
      have HZ := hide hR4
      have GZ := hide (GA.out.set (j := 3) (.slice (some ⟨g2, 0, none⟩) (L.length + 1) cap2))
      clear hR4 hQ4 o4 g4 hRA
      refine hK.out _ _ (trivial) (fun hHeld => ?_)
      clear hK
      (try simp only [Act.put, List.setIfInBounds_toArray, List.set_cons_zero, List.set_cons_succ])
      refine wpAnyH_take (i := 8) (v := (.pointer (some ⟨Q, 0, none⟩))) rfl (by kernel_rfl) (by kernel_rfl) (by kernel_rfl) (fun _ _ _ h => h) (Or.inl ⟨by rfl, ?_⟩) (by assumption) ?_
      · intro w' hSw
        (try dsimp only at hSw)
        go_simp
      (try simp only [Act.put, List.setIfInBounds_toArray, List.set_cons_zero, List.set_cons_succ])
      refine wpAnyH_take (i := 9) (v := (.pointer (some ⟨Q, 3, none⟩))) rfl (by kernel_rfl) (by kernel_rfl) (by kernel_rfl) (fun _ _ _ h => h) (Or.inl ⟨by rfl, ?_⟩) (by assumption) ?_
      · intro w' hSw
        (try dsimp only at hSw)
        go_simp
      (try simp only [Act.put, List.setIfInBounds_toArray, List.set_cons_zero, List.set_cons_succ])
      refine wpAnyH_ready (rs := [10]) (by kernel_rfl) (by simp) ?_
      refine AllReadyH.cons rfl (fun K hK => ?_) AllReadyH.nil
      go_simp
      refine hK.out _ _ (trivial) (fun hHeld => ?_)
      clear hK
      (try simp only [Act.put, List.setIfInBounds_toArray, List.set_cons_zero, List.set_cons_succ])
      refine wpAnyH_done (by kernel_rfl) ?_ _
      clear hHeld k3 z3
      generalize w4.setCell ⟨Q, 3, none⟩ (.slice (some ⟨g2, 0, none⟩) (L.length + 1) cap2) = W9 at *
      have c0 := HZ.out.c0
      go_wp2_with fail
      go_ret2
      exact ⟨_, rfl, HZ.out, GZ.out, NR.out⟩
set_option maxHeartbeats 8000000 in
set_option maxRecDepth 100000 in
set_option linter.unusedSimpArgs false in
set_option linter.unusedVariables false in
theorem rbfail_wait (X : World) (base Q : Nat) (t s m a b now : Int) (v : Value) (L : List (Int × Int)) (h : RbAt X base Q t s m v L) (hf : BFits t s m) (hL : L.length + 1 ≤ 8000000000000) (hbase : base ≤ X.heap.size) (hIn : base ≤ X.heap.size) (hw0 : 0 ≤ now) (hw1 : now ≤ 9007199254740992) (c : Nat) (hc : cnt a b L = c) (hc2 : (c : Int) + 1 < t) :
    Calls Try.prog 35 #[.pointer (some ⟨Q, 0, none⟩), .agg #[.int .i64 a, .int .i64 b], .int .i64 now] X fun e X' => ∃ v', e = .returned (.tuple #[.int .i64 (now + wtN s m c), .int .i64 0]) ∧ RbAt X' base Q t s m v' (L ++ [(a, b)]) ∧ Gr2 X X' Q v ∧ Near X v v' := by
  obtain ⟨WI, hWI⟩ : ∃ WI, WI = X.alloc (.cells #[.int .i64 a, .int .i64 b] 25) := ⟨_, rfl⟩
  obtain ⟨I, hI⟩ : ∃ I, I = X.heap.size := ⟨_, rfl⟩
  have II : Hid (ItAt WI I a b) := by subst hWI; subst hI; exact heap_last _ _
  have bI : Below X.heap.size X WI := by subst hWI; exact (Below.refl _ _).alloc (Nat.le_refl _) _
  have HR := hide (h.below bI)
  have BI := hide bI
  clear bI h
  obtain ⟨ba, cap, hv⟩ := own_slT HR.out.row
  subst hv
  have TI := times_any WI base Q t s m a b _ L HR.out (by unfold maxLen; omega)
  rw [hc] at TI
  have TI := hide TI
  have t2 := hf.t2
  have i0 := II.out.c0
  have i1 := II.out.c1
  have n0 : ¬ now < 0 := by omega
  have n1 : ¬ 9007199254740992 < now := by omega
  have hq : ((c : Int) == t) = false := by simp; omega
  have hq2 : ((c : Int) + 1 == t) = false := by simp; omega
  have x1 := wrap_in (x := (c : Int) + 1) (by omega) (by omega)
  go_enter Try.func35, Try.ntmps35
  go_wp2_with fail
  rw [← hWI, ← hI]
  clear hWI hI
  refine Calls.mono TI.out ?_
  rintro e W1 ⟨rfl, b1⟩
  have HS : Hid (base ≤ W1.heap.size) := Nat.le_trans hbase (Nat.le_trans BI.out.size b1.size)
  have HRD : Hid (RbAt W1.drew base Q t s m (.slice ba L.length cap) L) := (HR.out.below b1).below ⟨rfl, rfl, rfl, Nat.le_refl _, fun _ _ => rfl⟩
  have IID : Hid (ItAt W1.drew I a b) := (b1.block _ (blk_lt II.out)).trans II.out
  have GD : Hid (Gr2 X W1.drew Q (.slice ba L.length cap)) := Gr2.of_below _ _ ((BI.out.trans (b1.mono BI.out.size)).trans ⟨rfl, rfl, rfl, Nat.le_refl _, fun _ _ => rfl⟩)
  have c0 : W1.cell? ⟨Q, 0, none⟩ = some (.int .i64 t) := HRD.out.c0
  obtain ⟨i0, hi0, hz0, hz1, hz2⟩ := info_partsT infoIt
  clear TI b1 HR BI II
  go_wp2_with fail
  refine wp_region_held_drew (S := fun _ => True) (by kernel_rfl) trivial (fun hHeld => ?_)
  have i0c := IID.out.c0
  have i1c := IID.out.c1
  have k3c := HRD.out.c3
  refine wpAnyH_take (i := 0) (v := (.pointer (some ⟨Q, 0, none⟩))) rfl (by kernel_rfl) (by kernel_rfl) (by kernel_rfl) (fun _ _ _ h => h) (Or.inl ⟨by rfl, ?_⟩) (by assumption) ?_
  · intro w' hSw
    (try dsimp only at hSw)
    go_simp
  (try simp only [Act.put, List.setIfInBounds_toArray, List.set_cons_zero, List.set_cons_succ])
  refine wpAnyH_take (i := 1) (v := (.pointer (some ⟨Q, 0, none⟩))) rfl (by kernel_rfl) (by kernel_rfl) (by kernel_rfl) (fun _ _ _ h => h) (Or.inl ⟨by rfl, ?_⟩) (by assumption) ?_
  · intro w' hSw
    (try dsimp only at hSw)
    go_simp
  (try simp only [Act.put, List.setIfInBounds_toArray, List.set_cons_zero, List.set_cons_succ])
  refine wpAnyH_take (i := 2) (v := (.pointer (some ⟨Q, 0, none⟩))) rfl (by kernel_rfl) (by kernel_rfl) (by kernel_rfl) (fun _ _ _ h => h) (Or.inl ⟨by rfl, ?_⟩) (by assumption) ?_
  · intro w' hSw
    (try dsimp only at hSw)
    go_simp
  (try simp only [Act.put, List.setIfInBounds_toArray, List.set_cons_zero, List.set_cons_succ])
  refine wpAnyH_take (i := 3) (v := (.pointer (some ⟨Q, 3, none⟩))) rfl (by kernel_rfl) (by kernel_rfl) (by kernel_rfl) (fun _ _ _ h => h) (Or.inl ⟨by rfl, ?_⟩) (by assumption) ?_
  · intro w' hSw
    (try dsimp only at hSw)
    go_simp
  (try simp only [Act.put, List.setIfInBounds_toArray, List.set_cons_zero, List.set_cons_succ])
  refine wpAnyH_ready (rs := [4, 5]) (by kernel_rfl) (by simp) ?_
  refine AllReadyH.cons rfl (fun K hK => ?_) (AllReadyH.cons rfl (fun K hK => ?_) AllReadyH.nil)
  · skip
    go_simp
    refine hK.out _ _ (trivial) (fun hHeld => ?_)
    clear hK
    (try simp only [Act.put, List.setIfInBounds_toArray, List.set_cons_zero, List.set_cons_succ])
    refine wpAnyH_ready (rs := [5]) (by kernel_rfl) (by simp) ?_
    refine AllReadyH.cons rfl (fun K hK => ?_) AllReadyH.nil
    go_simp
    refine hK.out _ _ (trivial) (fun hHeld => ?_)
    clear hK
    (try simp only [Act.put, List.setIfInBounds_toArray, List.set_cons_zero, List.set_cons_succ])
    refine wpAnyH_ready (rs := [6]) (by kernel_rfl) (by simp) ?_
    refine AllReadyH.cons rfl (fun K hK => ?_) AllReadyH.nil
    go_simp
    refine hK.out _ _ (trivial) (fun hHeld => ?_)
    clear hK
    (try simp only [Act.put, List.setIfInBounds_toArray, List.set_cons_zero, List.set_cons_succ])
    refine wpAnyH_ready (rs := [7]) (by kernel_rfl) (by simp) ?_
    refine AllReadyH.cons rfl (fun K hK => ?_) AllReadyH.nil
    refine itYT (by rfl) ?_
    refine wp_append_ownT (W1.drew.alloc (.cells #[.int .i64 a, .int .i64 b] 25)) (.tmp 30) (.tmp 32) 26 ?hAo base 25 i0 _ 2 16 Try.underlying26 hi0 hz0 hz1 hz2 ?hAzs (by decide) (.slice ba L.length cap) L.length (itc L) ?hAs (HRD.out.row.alloc _) ⟨W1.drew.heap.size, 0, none⟩ 1 1 (itc [(a, b)]) ?hAx rfl (it_cells W1.drew a b) (it_one _ _) (by unfold maxLen; omega) (by omega) (by have := HS.out; simp; omega) ?hAk
    case hAo => rfl
    case hAzs => rfl
    case hAs => kernel_rfl
    case hAx => kernel_rfl
    intro v2 w4 o4 g4 at4
    have NR : Hid (Near X (.slice ba L.length cap) v2) := near_of at4 (Nat.le_trans GD.out.size (by simp only [World.size_alloc]; omega))
    clear at4
    obtain ⟨g2, cap2, hv2⟩ := own_gT o4 (by omega)
    subst hv2
    have hRA : RbAt (W1.drew.alloc (.cells #[.int .i64 a, .int .i64 b] 25)) base Q t s m (.slice ba L.length cap) L := HRD.out.below ((Below.refl _ _).alloc (Nat.le_refl _) _)
    obtain ⟨hQ4, hR4⟩ := hRA.grown o4 g4
    have GA := hide ((GD.out.below ((Below.refl _ _).alloc (Nat.le_refl _) (.cells #[.int .i64 a, .int .i64 b] 25))).own g4)
    have k3 : w4.cell? ⟨Q, 3, none⟩ = some (.slice ba L.length cap) := by unfold World.cell?; rw [hQ4]; rfl
    have z3 : w4.frozen? ⟨Q, 3, none⟩ = false := by unfold World.frozen?; rw [hQ4]; simp
    have HZ := hide hR4
    have GZ := hide (GA.out.set (j := 3) (.slice (some ⟨g2, 0, none⟩) (L.length + 1) cap2))
    clear hR4 hQ4 o4 g4 hRA
    refine hK.out _ _ (trivial) (fun hHeld => ?_)
    clear hK
    (try simp only [Act.put, List.setIfInBounds_toArray, List.set_cons_zero, List.set_cons_succ])
    refine wpAnyH_take (i := 8) (v := (.pointer (some ⟨Q, 0, none⟩))) rfl (by kernel_rfl) (by kernel_rfl) (by kernel_rfl) (fun _ _ _ h => h) (Or.inl ⟨by rfl, ?_⟩) (by assumption) ?_
    · intro w' hSw
      (try dsimp only at hSw)
      go_simp
    (try simp only [Act.put, List.setIfInBounds_toArray, List.set_cons_zero, List.set_cons_succ])
    refine wpAnyH_take (i := 9) (v := (.pointer (some ⟨Q, 3, none⟩))) rfl (by kernel_rfl) (by kernel_rfl) (by kernel_rfl) (fun _ _ _ h => h) (Or.inl ⟨by rfl, ?_⟩) (by assumption) ?_
    · intro w' hSw
      (try dsimp only at hSw)
      go_simp
    (try simp only [Act.put, List.setIfInBounds_toArray, List.set_cons_zero, List.set_cons_succ])
    refine wpAnyH_ready (rs := [10]) (by kernel_rfl) (by simp) ?_
    refine AllReadyH.cons rfl (fun K hK => ?_) AllReadyH.nil
    go_simp
    refine hK.out _ _ (trivial) (fun hHeld => ?_)
    clear hK
    (try simp only [Act.put, List.setIfInBounds_toArray, List.set_cons_zero, List.set_cons_succ])
    refine wpAnyH_done (by kernel_rfl) ?_ _
    clear hHeld k3 z3
    generalize w4.setCell ⟨Q, 3, none⟩ (.slice (some ⟨g2, 0, none⟩) (L.length + 1) cap2) = W9 at *
    have c0 := HZ.out.c0
    have PA := pause_any W9 base Q t s m _ _ (c + 1) HZ.out hf (by omega) (by omega)
    rw [Nat.add_sub_cancel] at PA
    have wi := wtN_in hf c
    have m2 := hf.m2
    have s1 := hf.s1
    have ew := wrap_in (x := now + wtN s m c) (by omega) (by omega)
    generalize hwv : wtN s m c = wv at *
    rw [show ((c + 1 : Nat) : Int) = (c : Int) + 1 by omega] at PA
    have PA := hide PA
    go_wp2_with fail
    refine Calls.mono PA.out ?_
    rintro e w6 ⟨rfl, rfl⟩
    clear PA
    go_wp2_with fail
    go_ret2
    exact ⟨_, by subst hwv; first | rfl | exact congrArg (fun z => Ending.returned (.tuple #[.int .i64 z, .int .i64 0])) ew, HZ.out, GZ.out, NR.out⟩
  · skip
    go_simp
    refine hK.out _ _ (trivial) (fun hHeld => ?_)
    clear hK
    (try simp only [Act.put, List.setIfInBounds_toArray, List.set_cons_zero, List.set_cons_succ])
    refine wpAnyH_ready (rs := [4, 6]) (by kernel_rfl) (by simp) ?_
    refine AllReadyH.cons rfl (fun K hK => ?_) (AllReadyH.cons rfl (fun K hK => ?_) AllReadyH.nil)
    · skip
      go_simp
      refine hK.out _ _ (trivial) (fun hHeld => ?_)
      clear hK
      (try simp only [Act.put, List.setIfInBounds_toArray, List.set_cons_zero, List.set_cons_succ])
      refine wpAnyH_ready (rs := [6]) (by kernel_rfl) (by simp) ?_
      refine AllReadyH.cons rfl (fun K hK => ?_) AllReadyH.nil
      go_simp
      refine hK.out _ _ (trivial) (fun hHeld => ?_)
      clear hK
      (try simp only [Act.put, List.setIfInBounds_toArray, List.set_cons_zero, List.set_cons_succ])
      refine wpAnyH_ready (rs := [7]) (by kernel_rfl) (by simp) ?_
      refine AllReadyH.cons rfl (fun K hK => ?_) AllReadyH.nil
      refine itYT (by rfl) ?_
      refine wp_append_ownT (W1.drew.alloc (.cells #[.int .i64 a, .int .i64 b] 25)) (.tmp 30) (.tmp 32) 26 ?hBo base 25 i0 _ 2 16 Try.underlying26 hi0 hz0 hz1 hz2 ?hBzs (by decide) (.slice ba L.length cap) L.length (itc L) ?hBs (HRD.out.row.alloc _) ⟨W1.drew.heap.size, 0, none⟩ 1 1 (itc [(a, b)]) ?hBx rfl (it_cells W1.drew a b) (it_one _ _) (by unfold maxLen; omega) (by omega) (by have := HS.out; simp; omega) ?hBk
      case hBo => rfl
      case hBzs => rfl
      case hBs => kernel_rfl
      case hBx => kernel_rfl
      intro v2 w4 o4 g4 at4
      have NR : Hid (Near X (.slice ba L.length cap) v2) := near_of at4 (Nat.le_trans GD.out.size (by simp only [World.size_alloc]; omega))
      clear at4
      obtain ⟨g2, cap2, hv2⟩ := own_gT o4 (by omega)
      subst hv2
      have hRA : RbAt (W1.drew.alloc (.cells #[.int .i64 a, .int .i64 b] 25)) base Q t s m (.slice ba L.length cap) L := HRD.out.below ((Below.refl _ _).alloc (Nat.le_refl _) _)
      obtain ⟨hQ4, hR4⟩ := hRA.grown o4 g4
      have GA := hide ((GD.out.below ((Below.refl _ _).alloc (Nat.le_refl _) (.cells #[.int .i64 a, .int .i64 b] 25))).own g4)
      have k3 : w4.cell? ⟨Q, 3, none⟩ = some (.slice ba L.length cap) := by unfold World.cell?; rw [hQ4]; rfl
      have z3 : w4.frozen? ⟨Q, 3, none⟩ = false := by unfold World.frozen?; rw [hQ4]; simp
      have HZ := hide hR4
      have GZ := hide (GA.out.set (j := 3) (.slice (some ⟨g2, 0, none⟩) (L.length + 1) cap2))
      clear hR4 hQ4 o4 g4 hRA
      refine hK.out _ _ (trivial) (fun hHeld => ?_)
      clear hK
      (try simp only [Act.put, List.setIfInBounds_toArray, List.set_cons_zero, List.set_cons_succ])
      refine wpAnyH_take (i := 8) (v := (.pointer (some ⟨Q, 0, none⟩))) rfl (by kernel_rfl) (by kernel_rfl) (by kernel_rfl) (fun _ _ _ h => h) (Or.inl ⟨by rfl, ?_⟩) (by assumption) ?_
      · intro w' hSw
        (try dsimp only at hSw)
        go_simp
      (try simp only [Act.put, List.setIfInBounds_toArray, List.set_cons_zero, List.set_cons_succ])
      refine wpAnyH_take (i := 9) (v := (.pointer (some ⟨Q, 3, none⟩))) rfl (by kernel_rfl) (by kernel_rfl) (by kernel_rfl) (fun _ _ _ h => h) (Or.inl ⟨by rfl, ?_⟩) (by assumption) ?_
      · intro w' hSw
        (try dsimp only at hSw)
        go_simp
      (try simp only [Act.put, List.setIfInBounds_toArray, List.set_cons_zero, List.set_cons_succ])
      refine wpAnyH_ready (rs := [10]) (by kernel_rfl) (by simp) ?_
      refine AllReadyH.cons rfl (fun K hK => ?_) AllReadyH.nil
      go_simp
      refine hK.out _ _ (trivial) (fun hHeld => ?_)
      clear hK
      (try simp only [Act.put, List.setIfInBounds_toArray, List.set_cons_zero, List.set_cons_succ])
      refine wpAnyH_done (by kernel_rfl) ?_ _
      clear hHeld k3 z3
      generalize w4.setCell ⟨Q, 3, none⟩ (.slice (some ⟨g2, 0, none⟩) (L.length + 1) cap2) = W9 at *
      have c0 := HZ.out.c0
      have PA := pause_any W9 base Q t s m _ _ (c + 1) HZ.out hf (by omega) (by omega)
      rw [Nat.add_sub_cancel] at PA
      have wi := wtN_in hf c
      have m2 := hf.m2
      have s1 := hf.s1
      have ew := wrap_in (x := now + wtN s m c) (by omega) (by omega)
      generalize hwv : wtN s m c = wv at *
      rw [show ((c + 1 : Nat) : Int) = (c : Int) + 1 by omega] at PA
      have PA := hide PA
      go_wp2_with fail
      refine Calls.mono PA.out ?_
      rintro e w6 ⟨rfl, rfl⟩
      clear PA
      go_wp2_with fail
      go_ret2
      exact ⟨_, by subst hwv; first | rfl | exact congrArg (fun z => Ending.returned (.tuple #[.int .i64 z, .int .i64 0])) ew, HZ.out, GZ.out, NR.out⟩
    · skip
      go_simp
      refine hK.out _ _ (trivial) (fun hHeld => ?_)
      clear hK
      (try simp only [Act.put, List.setIfInBounds_toArray, List.set_cons_zero, List.set_cons_succ])
      refine wpAnyH_ready (rs := [4]) (by kernel_rfl) (by simp) ?_
      refine AllReadyH.cons rfl (fun K hK => ?_) AllReadyH.nil
      have k3 : (W1.alloc (.cells #[.int .i64 a, .int .i64 b] 25)).cell? ⟨Q, 3, none⟩ = some (.slice ba L.length cap) := (HRD.out.below ((Below.refl _ _).alloc (Nat.le_refl _) _)).c3
      go_simp
      clear k3
      refine hK.out _ _ (trivial) (fun hHeld => ?_)
      clear hK
      (try simp only [Act.put, List.setIfInBounds_toArray, List.set_cons_zero, List.set_cons_succ])
      refine wpAnyH_ready (rs := [7]) (by kernel_rfl) (by simp) ?_
      refine AllReadyH.cons rfl (fun K hK => ?_) AllReadyH.nil
      refine itYT (by rfl) ?_
      refine wp_append_ownT (W1.drew.alloc (.cells #[.int .i64 a, .int .i64 b] 25)) (.tmp 30) (.tmp 32) 26 ?hCo base 25 i0 _ 2 16 Try.underlying26 hi0 hz0 hz1 hz2 ?hCzs (by decide) (.slice ba L.length cap) L.length (itc L) ?hCs (HRD.out.row.alloc _) ⟨W1.drew.heap.size, 0, none⟩ 1 1 (itc [(a, b)]) ?hCx rfl (it_cells W1.drew a b) (it_one _ _) (by unfold maxLen; omega) (by omega) (by have := HS.out; simp; omega) ?hCk
      case hCo => rfl
      case hCzs => rfl
      case hCs => kernel_rfl
      case hCx => kernel_rfl
      intro v2 w4 o4 g4 at4
      have NR : Hid (Near X (.slice ba L.length cap) v2) := near_of at4 (Nat.le_trans GD.out.size (by simp only [World.size_alloc]; omega))
      clear at4
      obtain ⟨g2, cap2, hv2⟩ := own_gT o4 (by omega)
      subst hv2
      have hRA : RbAt (W1.drew.alloc (.cells #[.int .i64 a, .int .i64 b] 25)) base Q t s m (.slice ba L.length cap) L := HRD.out.below ((Below.refl _ _).alloc (Nat.le_refl _) _)
      obtain ⟨hQ4, hR4⟩ := hRA.grown o4 g4
      have GA := hide ((GD.out.below ((Below.refl _ _).alloc (Nat.le_refl _) (.cells #[.int .i64 a, .int .i64 b] 25))).own g4)
      have k3 : w4.cell? ⟨Q, 3, none⟩ = some (.slice ba L.length cap) := by unfold World.cell?; rw [hQ4]; rfl
      have z3 : w4.frozen? ⟨Q, 3, none⟩ = false := by unfold World.frozen?; rw [hQ4]; simp
      have HZ := hide hR4
      have GZ := hide (GA.out.set (j := 3) (.slice (some ⟨g2, 0, none⟩) (L.length + 1) cap2))
      clear hR4 hQ4 o4 g4 hRA
      refine hK.out _ _ (trivial) (fun hHeld => ?_)
      clear hK
      (try simp only [Act.put, List.setIfInBounds_toArray, List.set_cons_zero, List.set_cons_succ])
      refine wpAnyH_take (i := 8) (v := (.pointer (some ⟨Q, 0, none⟩))) rfl (by kernel_rfl) (by kernel_rfl) (by kernel_rfl) (fun _ _ _ h => h) (Or.inl ⟨by rfl, ?_⟩) (by assumption) ?_
      · intro w' hSw
        (try dsimp only at hSw)
        go_simp
      (try simp only [Act.put, List.setIfInBounds_toArray, List.set_cons_zero, List.set_cons_succ])
      refine wpAnyH_take (i := 9) (v := (.pointer (some ⟨Q, 3, none⟩))) rfl (by kernel_rfl) (by kernel_rfl) (by kernel_rfl) (fun _ _ _ h => h) (Or.inl ⟨by rfl, ?_⟩) (by assumption) ?_
      · intro w' hSw
        (try dsimp only at hSw)
        go_simp
      (try simp only [Act.put, List.setIfInBounds_toArray, List.set_cons_zero, List.set_cons_succ])
      refine wpAnyH_ready (rs := [10]) (by kernel_rfl) (by simp) ?_
      refine AllReadyH.cons rfl (fun K hK => ?_) AllReadyH.nil
      go_simp
      refine hK.out _ _ (trivial) (fun hHeld => ?_)
      clear hK
      (try simp only [Act.put, List.setIfInBounds_toArray, List.set_cons_zero, List.set_cons_succ])
      refine wpAnyH_done (by kernel_rfl) ?_ _
      clear hHeld k3 z3
      generalize w4.setCell ⟨Q, 3, none⟩ (.slice (some ⟨g2, 0, none⟩) (L.length + 1) cap2) = W9 at *
      have c0 := HZ.out.c0
      have PA := pause_any W9 base Q t s m _ _ (c + 1) HZ.out hf (by omega) (by omega)
      rw [Nat.add_sub_cancel] at PA
      have wi := wtN_in hf c
      have m2 := hf.m2
      have s1 := hf.s1
      have ew := wrap_in (x := now + wtN s m c) (by omega) (by omega)
      generalize hwv : wtN s m c = wv at *
      rw [show ((c + 1 : Nat) : Int) = (c : Int) + 1 by omega] at PA
      have PA := hide PA
      go_wp2_with fail
      refine Calls.mono PA.out ?_
      rintro e w6 ⟨rfl, rfl⟩
      clear PA
      go_wp2_with fail
      go_ret2
      exact ⟨_, by subst hwv; first | rfl | exact congrArg (fun z => Ending.returned (.tuple #[.int .i64 z, .int .i64 0])) ew, HZ.out, GZ.out, NR.out⟩
end Go.Proofs.Ytkfiaahgcljljaa
