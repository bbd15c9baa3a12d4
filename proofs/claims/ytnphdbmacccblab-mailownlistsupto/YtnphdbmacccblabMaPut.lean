import Derived.Test.YtnphdbmacccblabMaBag
import Derived.Laws.AppendOwn
namespace Go.Proofs.Ytnphdbmacccblab
open Go.RowKit
theorem ite_yes {p : Prop} [Decidable p] {A B : Prop} (hp : p) (h : A) : if p then A else B := by rw [if_pos hp]; exact h
theorem info_parts4 {P : Program} {t : TypeId} {z : Option Value} {n b : Nat} (h : (P.info? t).map (fun i => (i.zero, i.size, i.bytes)) = some (z, n, b)) : ∃ i, P.info? t = some i ∧ i.zero = z ∧ i.size = n ∧ i.bytes = b := by
  obtain ⟨i, hi, hx⟩ := Option.map_eq_some_iff.1 h
  simp only [Prod.mk.injEq] at hx
  exact ⟨i, hi, hx.1, hx.2.1, hx.2.2⟩
theorem infoLt : (Try.prog.info? 53).map (fun i => (i.zero, i.size, i.bytes)) = some (some (.agg #[.int .i64 0, .int .i64 0, .int .i64 0, .string ⟨#[]⟩]), 4, 40) := by kernel_rfl
def Lt.a (x : Lt) : Array Value := #[.int .i64 x.id, .int .i64 x.fr, .int .i64 x.td, .string x.tx]
theorem lt_cells {w : World} {b : Nat} {x : Lt} (h : LtAt w b x) : ∀ j u, (ltc [x])[j]? = some u → w.cell? ((⟨b, 0, none⟩ : Addr).add j) = some u := by
  intro j u hj
  match j, hj with
  | 0, hj => simp [ltc, Lt.cs] at hj; subst hj; rw [Addr.add_mid]; exact h.c0
  | 1, hj => simp [ltc, Lt.cs] at hj; subst hj; rw [Addr.add_mid]; exact h.c1
  | 2, hj => simp [ltc, Lt.cs] at hj; subst hj; rw [Addr.add_mid]; exact h.c2
  | 3, hj => simp [ltc, Lt.cs] at hj; subst hj; rw [Addr.add_mid]; exact h.c3
  | (j + 4), hj => simp [ltc, Lt.cs] at hj
theorem ltc_one (L : List Lt) : ∀ u ∈ ltc L, u.oneCell' = true := by
  intro u hu
  simp only [ltc, List.mem_flatMap, Lt.cs] at hu
  obtain ⟨x, _, hu⟩ := hu
  simp at hu
  rcases hu with rfl | rfl | rfl | rfl <;> rfl
theorem wp_appendA {P : Program} (w : World) {o : Oper} {a : Act} {K : Act → World → Prop} {Q : Exit → Act → World → Prop} (s x : Operand) (t : TypeId)
    (ho : o.op = .call { callee := .builtin .append, args := #[s, x], argTypes := #[t, t] })
    (base : Nat) (e : TypeId) (i : TypeInfo) (z : Value) (size bytes : Nat) (ht : P.underlying t = some (.slice e)) (hi : P.info? e = some i) (hz : i.zero = some z)
    (hsize : i.size = size) (hby : i.bytes = bytes) (hzs : z.cells.size = size) (hsz : 0 < size)
    (v : Value) (n : Nat) (xs : List Value) (hs : a.eval s = v) (hown : w.ownsRow base e size v n xs)
    (ad : Addr) (m c : Nat) (news : List Value) (hx : a.eval x = .slice (some ad) m c) (hl : news.length = m * size) (hnews : ∀ j u, news[j]? = some u → w.cell? (ad.add j) = some u) (h1 : ∀ u ∈ news, u.oneCell' = true)
    (h63 : n + m ≤ maxLen) (hbytes : (n + m) * bytes ≤ 140737488355328) (hbase : base ≤ w.heap.size)
    (h : ∀ v' w', w'.ownsRow base e size v' (n + m) (xs ++ news) → w.grownBy w' v.ownBlock → (v'.ownBlock = v.ownBlock ∨ v'.ownBlock = some w.heap.size) → K (a.put o.dst v') w') : o.wp P a w K Q := by
  obtain ⟨v', w', hr, h2, h3, _, h5⟩ := run_append_own_at (P := P) w base t o.type e i z size bytes ht hi hz hsize hby hzs hsz v n xs hown ad m c news hl hnews h1 h63 hbytes hbase
  unfold Oper.wp execOp
  simp only [ho, resolve, invoke, builtin, Sem.run_bind, Sem.run_pure, Result.andThen_ok, List.map_toArray, List.map_cons, List.map_nil, hs, hx, hr]
  exact h v' w' h2 h3 h5
/-- the list has grown and is laid back -/
theorem MlX.grown {X X1 : World} {S : Nat → Prop} {R M : Nat} {v v' : Value} {lim : Int} {s : Nat} {L : List Lt} {n : Nat} {C : Int → Int → Bool} {x : Lt} (h : MlX X S R M v lim s L n C) (o : X1.ownsRow 0 53 4 v' (L.length + 1) (ltc L ++ ltc [x])) (g : X.grownBy X1 v.ownBlock) (hn : v'.ownBlock = v.ownBlock ∨ v'.ownBlock = some X.heap.size) :
    X1.heap[R]? = some (.cells #[.int .i64 lim, .int .i64 (s : Int), v, .map (some M)] 51) ∧ MlX (X1.setCell ⟨R, 2, none⟩ v') (fun k => S k ∨ v'.ownBlock = some k) R M v' lim s (L ++ [x]) n C ∧ Kp X (X1.setCell ⟨R, 2, none⟩ v') S ∧ (∀ k, (S k ∨ v'.ownBlock = some k) → S k ∨ X.heap.size ≤ k) := by
  have hQ := (g.block R (blk_lt h.blk) (fun e => h.nvR e.symm)).trans h.blk
  have hM := g.block M h.map.lt (fun e => h.nvM e.symm)
  have nR : v'.ownBlock ≠ some R := by
    rcases hn with e | e
    · rw [e]; exact h.nvR
    · rw [e]; intro e2; cases e2; have := blk_lt h.blk; omega
  have hnew : ∀ k, (S k ∨ v'.ownBlock = some k) → S k ∨ X.heap.size ≤ k := by
    rintro k (a | a)
    · exact Or.inl a
    · rcases hn with e | e
      · exact Or.inl (h.sv k (e.symm.trans a))
      · rw [e] at a; cases a; exact Or.inr (Nat.le_refl _)
  have hlt : ∀ k, v'.ownBlock = some k → k < X1.heap.size := by
    intro k hk
    rcases o.2 with ⟨rfl, _⟩ | ⟨g', cap, cur, rfl, _, hg, _⟩
    · simp [Value.ownBlock] at hk
    · simp only [Value.ownBlock, Option.some.injEq] at hk
      subst hk
      exact blk_lt hg
  refine ⟨hQ, ⟨heap_setCell _ _ _ _ _ _ _ hQ, ?_, h.map.same ((Below.heap_setCell _ _ _ M (fun e => h.nRM e.symm)).trans hM), Or.inl h.sR, Or.inl h.sM, fun k e => Or.inr e, ?_⟩, ?_, hnew⟩
  · rw [ltc_append, List.length_append]
    exact o.kept (row := some R) ⟨rfl, rfl, rfl, by rw [World.size_setCell]; exact Nat.le_refl _, fun i _ hn => Below.heap_setCell _ _ _ i (fun e => hn (by rw [e]))⟩ (Or.inr nR)
  · rintro k (e | e)
    · rw [World.size_setCell]; exact Nat.lt_of_lt_of_le (h.sb k e) g.size
    · rw [World.size_setCell]; exact hlt k e
  · exact ((Kp.of_grown g).mono (fun k e => h.sv k e.symm)).set (Or.inl h.sR) 2 v'
set_option maxHeartbeats 4000000 in
set_option maxRecDepth 100000 in
set_option linter.unusedSimpArgs false in
set_option linter.unusedVariables false in
theorem put_any {w : World} {S : Nat → Prop} {R M : Nat} {v : Value} {lim : Int} {s : Nat} {L : List Lt} {n : Nat} {C : Int → Int → Bool} (h : MlX w S R M v lim s L n C) (x : Lt) (hL : L.length ≤ 1048576) :
    Calls Try.prog 51 #[.pointer (some ⟨R, 2, none⟩), x.v] w fun e w' => e = .returned (.tuple #[]) ∧ ∃ v' S', MlX w' S' R M v' lim s (L ++ [x]) n C ∧ Kp w w' S ∧ (∀ k, S' k → S k ∨ w.heap.size ≤ k) := by
  obtain ⟨i0, hi0, hz0, hz1, hz2⟩ := info_parts4 infoLt
  obtain ⟨W0, hW0⟩ : ∃ W0, W0 = w.alloc (.cells #[.int .i64 x.id, .int .i64 x.fr, .int .i64 x.td, .string x.tx] 53) := ⟨_, rfl⟩
  obtain ⟨I, hI⟩ : ∃ I, I = w.heap.size := ⟨_, rfl⟩
  have HX : Hid (MlX W0.drew S R M v lim s L n C) := by subst hW0; exact (h.alloc _).drew
  have II : Hid (LtAt W0.drew I x) := by subst hW0; subst hI; exact heap_last w _
  have K0 : Hid (Kp w W0.drew non) := by subst hW0; exact ((Kp.refl w non).alloc _).drew
  have k2 := HX.out.c2
  have l0 := II.out.c0
  have l1 := II.out.c1
  have l2 := II.out.c2
  have l3 := II.out.c3
  obtain ⟨ba, cap, rfl⟩ := own_sl h.row
  have NI0 : Hid (some I ≠ (Value.slice ba L.length cap).ownBlock ∧ I ≠ R) := by
    refine ⟨fun e => ?_, fun e => ?_⟩
    · have := h.sb I (h.sv I e.symm)
      omega
    · have := h.sb R h.sR
      omega
  clear h
  go_enter Try.func51, Try.ntmps51
  unfold Lt.v
  go_wp2_with fail
  rw [← hW0, ← hI]
  clear hW0 hI
  refine wp_region_held_drew (S := fun X => LtAt X I x) (by kernel_rfl) II.out (fun hHeld => ?_)
  refine wpAnyH_take (i := 0) (v := (.pointer (some ⟨R, 2, none⟩))) rfl (by kernel_rfl) (by kernel_rfl) (by kernel_rfl) (fun _ _ _ h => h) (Or.inl ⟨by rfl, ?_⟩) (by assumption) ?_
  · intro w' hSw
    (try dsimp only at hSw)
    go_simp
  (try simp only [Act.put, List.setIfInBounds_toArray, List.set_cons_zero, List.set_cons_succ])
  refine wpAnyH_take (i := 1) (v := (.pointer (some ⟨R, 2, none⟩))) rfl (by kernel_rfl) (by kernel_rfl) (by kernel_rfl) (fun _ _ _ h => h) (Or.inl ⟨by rfl, ?_⟩) (by assumption) ?_
  · intro w' hSw
    (try dsimp only at hSw)
    go_simp
  (try simp only [Act.put, List.setIfInBounds_toArray, List.set_cons_zero, List.set_cons_succ])
  refine wpAnyH_take (i := 2) (v := (.pointer (some ⟨R, 2, none⟩))) rfl (by kernel_rfl) (by kernel_rfl) (by kernel_rfl) (fun _ _ _ h => h) (Or.inl ⟨by rfl, ?_⟩) (by assumption) ?_
  · intro w' hSw
    (try dsimp only at hSw)
    go_simp
  (try simp only [Act.put, List.setIfInBounds_toArray, List.set_cons_zero, List.set_cons_succ])
  refine wpAnyH_take (i := 3) (v := (.pointer (some ⟨R, 2, none⟩))) rfl (by kernel_rfl) (by kernel_rfl) (by kernel_rfl) (fun _ _ _ h => h) (Or.inl ⟨by rfl, ?_⟩) (by assumption) ?_
  · intro w' hSw
    (try dsimp only at hSw)
    go_simp
  (try simp only [Act.put, List.setIfInBounds_toArray, List.set_cons_zero, List.set_cons_succ])
  refine wpAnyH_take (i := 5) (v := (.agg #[.int .i64 x.id, .int .i64 x.fr, .int .i64 x.td, .string x.tx])) rfl (by kernel_rfl) (by kernel_rfl) (by kernel_rfl) (fun _ _ _ h => h) (Or.inl ⟨by rfl, ?_⟩) (by assumption) ?_
  · intro w' hSw
    (try dsimp only at hSw)
    (have y0 := hSw.c0; have y1 := hSw.c1; have y2 := hSw.c2; have y3 := hSw.c3; clear hHeld k2 l0 l1 l2 l3; go_simp)
  (try simp only [Act.put, List.setIfInBounds_toArray, List.set_cons_zero, List.set_cons_succ])
  obtain ⟨W2, hW2⟩ : ∃ W2, W2 = (W0.alloc (.cells #[.int .i64 x.id, .int .i64 x.fr, .int .i64 x.td, .string x.tx] 53)).drew := ⟨_, rfl⟩
  obtain ⟨J, hJ⟩ : ∃ J, J = W0.heap.size := ⟨_, rfl⟩
  have HJ : Hid (LtAt W2 J x) := by subst hW2; subst hJ; exact heap_last W0.drew _
  have HI2 : Hid (LtAt W2 I x) := by subst hW2; exact (((Below.refl _ _).alloc (Nat.le_refl _) _).block _ (blk_lt II.out)).trans II.out
  have HX2 : Hid (MlX W2 S R M (.slice ba L.length cap) lim s L n C) := by subst hW2; exact HX.out.alloc _
  have K2 : Hid (Kp w W2 non) := by subst hW2; exact K0.out.alloc _
  have NI : Hid (some I ≠ (Value.slice ba L.length cap).ownBlock ∧ I ≠ R) := NI0.out
  clear NI0
  refine wpAnyH_ready (rs := [4, 6]) (by kernel_rfl) (by simp) ?_
  refine AllReadyH.cons rfl (fun K hK => ?_) (AllReadyH.cons rfl (fun K hK => ?_) AllReadyH.nil)
  · skip
    go_simp
    refine hK.out _ _ (II.out) (fun hHeld => ?_)
    clear hK
    (try simp only [Act.put, List.setIfInBounds_toArray, List.set_cons_zero, List.set_cons_succ])
    refine wpAnyH_ready (rs := [6]) (by kernel_rfl) (by simp) ?_
    refine AllReadyH.cons rfl (fun K hK => ?_) AllReadyH.nil
    go_simp
    rw [← hW2, ← hJ]
    clear hW2 hJ
    refine hK.out _ _ (HI2.out) (fun hHeld => ?_)
    clear hK
    (try simp only [Act.put, List.setIfInBounds_toArray, List.set_cons_zero, List.set_cons_succ])
    refine wpAnyH_ready (rs := [7]) (by kernel_rfl) (by simp) ?_
    refine AllReadyH.cons rfl (fun K hK => ?_) AllReadyH.nil
    refine ite_yes (by rfl) ?_
    refine wp_appendA W2 (.tmp 8) (.tmp 10) 36 ?hAo 0 53 i0 _ 4 40 Try.underlying36 hi0 hz0 hz1 hz2 ?hAzs (by decide) (.slice ba L.length cap) L.length (ltc L) ?hAs HX2.out.row ⟨J, 0, none⟩ 1 1 (ltc [x]) ?hAx rfl (lt_cells HJ.out) (ltc_one _) (by unfold maxLen; omega) (by omega) (Nat.zero_le _) ?hAk
    case hAo => rfl
    case hAzs => rfl
    case hAs => kernel_rfl
    case hAx => kernel_rfl
    intro v2 w4 o4 g4 at4
    obtain ⟨hQ4, hR4, hK4, hN4⟩ := HX2.out.grown o4 g4 at4
    have HI4 : Hid (LtAt w4 I x) := (g4.block _ (blk_lt HI2.out) NI.out.1).trans HI2.out
    obtain ⟨g2, cap2, hv2⟩ := own_g o4 (by omega)
    subst hv2
    have k3 : w4.cell? ⟨R, 2, none⟩ = some (.slice ba L.length cap) := by unfold World.cell?; rw [hQ4]; rfl
    have z3 : w4.frozen? ⟨R, 2, none⟩ = false := by unfold World.frozen?; rw [hQ4]; simp
    have HZ := hide hR4
    have KZ : Hid (Kp w (w4.setCell ⟨R, 2, none⟩ (.slice (some ⟨g2, 0, none⟩) (L.length + 1) cap2)) S ∧ ∀ k, (S k ∨ (Value.slice (some ⟨g2, 0, none⟩) (L.length + 1) cap2).ownBlock = some k) → S k ∨ w.heap.size ≤ k) := ⟨(K2.out.mono (fun _ f => f.elim)).trans hK4 (fun k e => Or.inl e), fun k e => by rcases hN4 k e with a | a; exact Or.inl a; exact Or.inr (Nat.le_trans K2.out.size a)⟩
    have HI5 : Hid (LtAt (w4.setCell ⟨R, 2, none⟩ (.slice (some ⟨g2, 0, none⟩) (L.length + 1) cap2)) I x) := (Below.heap_setCell _ _ _ I NI.out.2).trans HI4.out
    clear hR4 hQ4 o4 g4 hK4 hN4 at4
    refine hK.out _ _ (HI4.out) (fun hHeld => ?_)
    clear hK
    (try simp only [Act.put, List.setIfInBounds_toArray, List.set_cons_zero, List.set_cons_succ])
    refine wpAnyH_take (i := 8) (v := (.pointer (some ⟨R, 2, none⟩))) rfl (by kernel_rfl) (by kernel_rfl) (by kernel_rfl) (fun _ _ _ h => h) (Or.inl ⟨by rfl, ?_⟩) (by assumption) ?_
    · intro w' hSw
      (try dsimp only at hSw)
      go_simp
    (try simp only [Act.put, List.setIfInBounds_toArray, List.set_cons_zero, List.set_cons_succ])
    refine wpAnyH_take (i := 9) (v := (.pointer (some ⟨R, 2, none⟩))) rfl (by kernel_rfl) (by kernel_rfl) (by kernel_rfl) (fun _ _ _ h => h) (Or.inl ⟨by rfl, ?_⟩) (by assumption) ?_
    · intro w' hSw
      (try dsimp only at hSw)
      go_simp
    (try simp only [Act.put, List.setIfInBounds_toArray, List.set_cons_zero, List.set_cons_succ])
    refine wpAnyH_ready (rs := [10]) (by kernel_rfl) (by simp) ?_
    refine AllReadyH.cons rfl (fun K hK => ?_) AllReadyH.nil
    go_simp
    refine hK.out _ _ (HI5.out) (fun hHeld => ?_)
    clear hK
    (try simp only [Act.put, List.setIfInBounds_toArray, List.set_cons_zero, List.set_cons_succ])
    refine wpAnyH_done (by kernel_rfl) ?_ _
    clear hHeld k3 z3
    generalize w4.setCell ⟨R, 2, none⟩ (.slice (some ⟨g2, 0, none⟩) (L.length + 1) cap2) = W9 at *
    go_wp2_with fail
    go_end0
    exact ⟨rfl, _, _, HZ.out, KZ.out.1, KZ.out.2⟩
  · skip
    go_simp
    rw [← hW2, ← hJ]
    clear hW2 hJ
    have k22 := HX2.out.c2
    refine hK.out _ _ (HI2.out) (fun hHeld => ?_)
    clear hK
    (try simp only [Act.put, List.setIfInBounds_toArray, List.set_cons_zero, List.set_cons_succ])
    refine wpAnyH_ready (rs := [4]) (by kernel_rfl) (by simp) ?_
    refine AllReadyH.cons rfl (fun K hK => ?_) AllReadyH.nil
    go_simp
    refine hK.out _ _ (HI2.out) (fun hHeld => ?_)
    clear hK
    (try simp only [Act.put, List.setIfInBounds_toArray, List.set_cons_zero, List.set_cons_succ])
    clear k22
    refine wpAnyH_ready (rs := [7]) (by kernel_rfl) (by simp) ?_
    refine AllReadyH.cons rfl (fun K hK => ?_) AllReadyH.nil
    refine ite_yes (by rfl) ?_
    refine wp_appendA W2 (.tmp 8) (.tmp 10) 36 ?hBo 0 53 i0 _ 4 40 Try.underlying36 hi0 hz0 hz1 hz2 ?hBzs (by decide) (.slice ba L.length cap) L.length (ltc L) ?hBs HX2.out.row ⟨J, 0, none⟩ 1 1 (ltc [x]) ?hBx rfl (lt_cells HJ.out) (ltc_one _) (by unfold maxLen; omega) (by omega) (Nat.zero_le _) ?hBk
    case hBo => rfl
    case hBzs => rfl
    case hBs => kernel_rfl
    case hBx => kernel_rfl
    intro v2 w4 o4 g4 at4
    obtain ⟨hQ4, hR4, hK4, hN4⟩ := HX2.out.grown o4 g4 at4
    have HI4 : Hid (LtAt w4 I x) := (g4.block _ (blk_lt HI2.out) NI.out.1).trans HI2.out
    obtain ⟨g2, cap2, hv2⟩ := own_g o4 (by omega)
    subst hv2
    have k3 : w4.cell? ⟨R, 2, none⟩ = some (.slice ba L.length cap) := by unfold World.cell?; rw [hQ4]; rfl
    have z3 : w4.frozen? ⟨R, 2, none⟩ = false := by unfold World.frozen?; rw [hQ4]; simp
    have HZ := hide hR4
    have KZ : Hid (Kp w (w4.setCell ⟨R, 2, none⟩ (.slice (some ⟨g2, 0, none⟩) (L.length + 1) cap2)) S ∧ ∀ k, (S k ∨ (Value.slice (some ⟨g2, 0, none⟩) (L.length + 1) cap2).ownBlock = some k) → S k ∨ w.heap.size ≤ k) := ⟨(K2.out.mono (fun _ f => f.elim)).trans hK4 (fun k e => Or.inl e), fun k e => by rcases hN4 k e with a | a; exact Or.inl a; exact Or.inr (Nat.le_trans K2.out.size a)⟩
    have HI5 : Hid (LtAt (w4.setCell ⟨R, 2, none⟩ (.slice (some ⟨g2, 0, none⟩) (L.length + 1) cap2)) I x) := (Below.heap_setCell _ _ _ I NI.out.2).trans HI4.out
    clear hR4 hQ4 o4 g4 hK4 hN4 at4
    refine hK.out _ _ (HI4.out) (fun hHeld => ?_)
    clear hK
    (try simp only [Act.put, List.setIfInBounds_toArray, List.set_cons_zero, List.set_cons_succ])
    refine wpAnyH_take (i := 8) (v := (.pointer (some ⟨R, 2, none⟩))) rfl (by kernel_rfl) (by kernel_rfl) (by kernel_rfl) (fun _ _ _ h => h) (Or.inl ⟨by rfl, ?_⟩) (by assumption) ?_
    · intro w' hSw
      (try dsimp only at hSw)
      go_simp
    (try simp only [Act.put, List.setIfInBounds_toArray, List.set_cons_zero, List.set_cons_succ])
    refine wpAnyH_take (i := 9) (v := (.pointer (some ⟨R, 2, none⟩))) rfl (by kernel_rfl) (by kernel_rfl) (by kernel_rfl) (fun _ _ _ h => h) (Or.inl ⟨by rfl, ?_⟩) (by assumption) ?_
    · intro w' hSw
      (try dsimp only at hSw)
      go_simp
    (try simp only [Act.put, List.setIfInBounds_toArray, List.set_cons_zero, List.set_cons_succ])
    refine wpAnyH_ready (rs := [10]) (by kernel_rfl) (by simp) ?_
    refine AllReadyH.cons rfl (fun K hK => ?_) AllReadyH.nil
    go_simp
    refine hK.out _ _ (HI5.out) (fun hHeld => ?_)
    clear hK
    (try simp only [Act.put, List.setIfInBounds_toArray, List.set_cons_zero, List.set_cons_succ])
    refine wpAnyH_done (by kernel_rfl) ?_ _
    clear hHeld k3 z3
    generalize w4.setCell ⟨R, 2, none⟩ (.slice (some ⟨g2, 0, none⟩) (L.length + 1) cap2) = W9 at *
    go_wp2_with fail
    go_end0
    exact ⟨rfl, _, _, HZ.out, KZ.out.1, KZ.out.2⟩
end Go.Proofs.Ytnphdbmacccblab
