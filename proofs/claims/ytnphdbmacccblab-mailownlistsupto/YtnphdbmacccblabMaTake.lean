import Derived.Test.YtnphdbmacccblabMaDel
namespace Go.Proofs.Ytnphdbmacccblab
open Go.RowKit
theorem LtAt.kp {w w' : World} {S : Nat → Prop} {b : Nat} {x : Lt} (h : LtAt w b x) (k : Kp w w' S) (hs : ¬ S b) : LtAt w' b x := (k.block _ (blk_lt h) hs).trans h
def st4 (w : World) (b : Nat) (y : Lt) : World := (((w.setCell ⟨b, 0, none⟩ (.int .i64 y.id)).setCell ⟨b, 1, none⟩ (.int .i64 y.fr)).setCell ⟨b, 2, none⟩ (.int .i64 y.td)).setCell ⟨b, 3, none⟩ (.string y.tx)
theorem LtAt.st {w : World} {b : Nat} {x : Lt} (h : LtAt w b x) (y : Lt) : LtAt (st4 w b y) b y := heap_setCell _ _ _ _ _ _ _ (heap_setCell _ _ _ _ _ _ _ (heap_setCell _ _ _ _ _ _ _ (heap_setCell _ _ _ _ _ _ _ h)))
theorem Kp.st {w w' : World} {S : Nat → Prop} {b : Nat} (h : Kp w w' S) (hb : S b ∨ w.heap.size ≤ b) (y : Lt) : Kp w (st4 w' b y) S := (((h.set hb 0 _).set hb 1 _).set hb 2 _).set hb 3 _
/-- the list has lost a letter and is laid back -/
theorem MlX.lost {X X1 : World} {S : Nat → Prop} {R M g cap cap' : Nat} {lim : Int} {s : Nat} {L L' : List Lt} {n : Nat} {C : Int → Int → Bool} (h : MlX X S R M (.slice (some ⟨g, 0, none⟩) L.length cap) lim s L n C) (o : X1.ownsRow 0 53 4 (.slice (some ⟨g, 0, none⟩) L'.length cap') L'.length (ltc L')) (gr : X.grownBy X1 (some g)) :
    X1.heap[R]? = some (.cells #[.int .i64 lim, .int .i64 (s : Int), .slice (some ⟨g, 0, none⟩) L.length cap, .map (some M)] 51) ∧ MlX (X1.setCell ⟨R, 2, none⟩ (.slice (some ⟨g, 0, none⟩) L'.length cap')) S R M (.slice (some ⟨g, 0, none⟩) L'.length cap') lim s L' n C ∧ Kp X (X1.setCell ⟨R, 2, none⟩ (.slice (some ⟨g, 0, none⟩) L'.length cap')) (fun k => k = R ∨ k = g) := by
  have nR : R ≠ g := fun e => h.nvR (by rw [e]; rfl)
  have nM : M ≠ g := fun e => h.nvM (by rw [e]; rfl)
  have hQ := (gr.block R (blk_lt h.blk) (fun e => nR (by cases e; rfl))).trans h.blk
  have hM := gr.block M h.map.lt (fun e => nM (by cases e; rfl))
  refine ⟨hQ, ⟨heap_setCell _ _ _ _ _ _ _ hQ, ?_, h.map.same ((Below.heap_setCell _ _ _ M (fun e => h.nRM e.symm)).trans hM), h.sR, h.sM, fun k e => by simp only [Value.ownBlock, Option.some.injEq] at e; subst e; exact h.sv _ rfl, fun k e => ?_⟩, ?_⟩
  · exact o.kept (row := some R) ⟨rfl, rfl, rfl, by rw [World.size_setCell]; exact Nat.le_refl _, fun i _ hn => Below.heap_setCell _ _ _ i (fun e => hn (by rw [e]))⟩ (Or.inr (fun e => nR (by simp only [Value.ownBlock, Option.some.injEq] at e; exact e.symm)))
  · rw [World.size_setCell]; exact Nat.lt_of_lt_of_le (h.sb k e) gr.size
  · exact Kp.set (S := fun k => k = R ∨ k = g) ((Kp.of_grown gr).mono (fun k e => Or.inr (by cases e; rfl))) (Or.inl (Or.inl rfl)) 2 _
set_option maxHeartbeats 4000000 in
set_option maxRecDepth 100000 in
set_option linter.unusedSimpArgs false in
set_option linter.unusedVariables false in
theorem take_no {w : World} {S : Nat → Prop} {R M : Nat} {v : Value} {lim : Int} {s : Nat} {L : List Lt} {n : Nat} {C : Int → Int → Bool} (h : MlX w S R M v lim s L n C) (i : Int) (hi : ¬ okI L i) : Calls Try.prog 45 #[.pointer (some ⟨R, 2, none⟩), .int .i64 i] w fun e w' => e = .returned (.tuple #[noL.v, .bool false]) ∧ Below w.heap.size w w' := by
  obtain ⟨W0, hW0⟩ : ∃ W0, W0 = w.alloc (.cells #[.int .i64 0, .int .i64 0, .int .i64 0, .string ⟨#[]⟩] 53) := ⟨_, rfl⟩
  have AT : Hid (Calls Try.prog 44 #[.pointer (some ⟨R, 2, none⟩), .int .i64 i] W0 fun e w' => e = .returned (.tuple #[noL.v, .bool false]) ∧ Below W0.heap.size W0 w') := by subst hW0; exact bat_no (h.alloc _) i hi
  have B0 : Hid (Below w.heap.size w W0) := by subst hW0; exact (Below.refl _ w).alloc (Nat.le_refl _) _
  have R0 : Hid (LtAt W0 w.heap.size noL) := by subst hW0; exact heap_last w _
  have bs : w.heap.size + 1 = W0.heap.size := by subst hW0; simp
  have BS := hide bs
  clear bs
  obtain ⟨I, hI⟩ : ∃ I, I = w.heap.size := ⟨_, rfl⟩
  rw [← hI] at R0 BS
  have HI := hide hI
  go_enter Try.func45, Try.ntmps45
  go_wp2_with fail
  rw [← hW0, ← hI]
  clear hW0 hI
  refine Calls.mono AT.out ?_
  rintro e w1 ⟨rfl, hb1⟩
  have R1 : Hid (LtAt w1 I noL) := (hb1.block _ (blk_lt R0.out)).trans R0.out
  have B1 : Hid (Below w.heap.size w w1) := B0.out.trans (hb1.mono B0.out.size)
  have S1 : Hid (W0.heap.size ≤ w1.heap.size) := hb1.size
  clear hb1 AT B0
  obtain ⟨W2, hW2⟩ : ∃ W2, W2 = w1.alloc (.cells #[.int .i64 0, .int .i64 0, .int .i64 0, .string ⟨#[]⟩] 53) := ⟨_, rfl⟩
  have R2 : Hid (LtAt W2 I noL) := by subst hW2; exact (((Below.refl _ w1).alloc (Nat.le_refl _) _).block _ (blk_lt R1.out)).trans R1.out
  have B2 : Hid (Below w.heap.size w W2) := by subst hW2; exact B1.out.alloc B1.out.size _
  have J2 : Hid (LtAt W2 w1.heap.size noL) := by subst hW2; exact heap_last w1 _
  have r0 := R2.out.c0
  have r1 := R2.out.c1
  have r2 := R2.out.c2
  have r3 := R2.out.c3
  have z0 := R2.out.fz 0
  have z1 := R2.out.fz 1
  have z2 := R2.out.fz 2
  have z3 := R2.out.fz 3
  have j0 := J2.out.c0
  have j1 := J2.out.c1
  have j2 := J2.out.c2
  have j3 := J2.out.c3
  have E2 : Hid (LtAt (st4 W2 I noL) I noL ∧ Below w.heap.size w (st4 W2 I noL)) := ⟨R2.out.st noL, ((Kp.of_below B2.out non).st (Or.inr (by rw [HI.out]; exact Nat.le_refl _)) noL).below⟩
  unfold st4 at E2
  unfold Lt.v
  simp only [noL] at *
  go_upto_region 4 with fail
  rw [← hW2]
  clear hW2
  go_wp2_with fail
  exact bodyPost_ret (v := .tuple #[noL.v, .bool false]) (res_lt Try.results45 _ noL _ I rfl E2.out.1 _ rfl) rfl ⟨rfl, E2.out.2⟩
set_option maxHeartbeats 4000000 in
set_option maxRecDepth 100000 in
set_option linter.unusedSimpArgs false in
set_option linter.unusedVariables false in
theorem take_ok {w : World} {S : Nat → Prop} {R M : Nat} {v : Value} {lim : Int} {s : Nat} {L : List Lt} {n : Nat} {C : Int → Int → Bool} (h : MlX w S R M v lim s L n C) (i : Int) (hi : okI L i) (hL : L.length ≤ 1048576) : Calls Try.prog 45 #[.pointer (some ⟨R, 2, none⟩), .int .i64 i] w fun e w' => e = .returned (.tuple #[(ltI L i).v, .bool true]) ∧ ∃ v', MlX w' S R M v' lim s (L.eraseIdx i.toNat) n C ∧ Kp w w' S := by
  have hi2 := hi
  unfold okI at hi2
  obtain ⟨q, rfl⟩ : ∃ q : Nat, i = (q : Int) := ⟨i.toNat, by omega⟩
  have hq : q < L.length := by omega
  obtain ⟨g, cap, rfl⟩ := own_g h.row (by omega)
  obtain ⟨W0, hW0⟩ : ∃ W0, W0 = w.alloc (.cells #[.int .i64 0, .int .i64 0, .int .i64 0, .string ⟨#[]⟩] 53) := ⟨_, rfl⟩
  have AT : Hid (Calls Try.prog 44 #[.pointer (some ⟨R, 2, none⟩), .int .i64 (q : Int)] W0 fun e w' => e = .returned (.tuple #[(ltI L (q : Int)).v, .bool true]) ∧ Below W0.heap.size W0 w') := by subst hW0; exact bat_ok (h.alloc _) _ hi
  have H0 : Hid (MlX W0 S R M (.slice (some ⟨g, 0, none⟩) L.length cap) lim s L n C) := by subst hW0; exact h.alloc _
  have B0 : Hid (Below w.heap.size w W0) := by subst hW0; exact (Below.refl _ w).alloc (Nat.le_refl _) _
  have R0 : Hid (LtAt W0 w.heap.size noL) := by subst hW0; exact heap_last w _
  have NS : Hid (∀ k, S k → k < w.heap.size) := h.sb
  have hgS : Hid (S R ∧ S g) := ⟨h.sR, h.sv g rfl⟩
  obtain ⟨I, hI⟩ : ∃ I, I = w.heap.size := ⟨_, rfl⟩
  rw [← hI] at R0
  have HI := hide hI
  have HL := hide hL
  have hx1 : wrap64 ((q : Int) + 1) = (q : Int) + 1 := wrap_in (by omega) (by omega)
  clear h hi hi2
  generalize ltI L (q : Int) = xx at *
  go_enter Try.func45, Try.ntmps45
  go_wp2_with fail
  rw [← hW0, ← hI]
  clear hW0 hI
  refine Calls.mono AT.out ?_
  rintro e w1 ⟨rfl, hb1⟩
  have R1 : Hid (LtAt w1 I noL) := (hb1.block _ (blk_lt R0.out)).trans R0.out
  have H1 := hide (H0.out.below hb1)
  have B1 : Hid (Below w.heap.size w w1) := B0.out.trans (hb1.mono B0.out.size)
  clear hb1 AT B0 H0 R0
  obtain ⟨W2, hW2⟩ : ∃ W2, W2 = w1.alloc (.cells #[.int .i64 xx.id, .int .i64 xx.fr, .int .i64 xx.td, .string xx.tx] 53) := ⟨_, rfl⟩
  obtain ⟨J, hJ⟩ : ∃ J, J = w1.heap.size := ⟨_, rfl⟩
  have R2 : Hid (LtAt W2 I noL) := by subst hW2; exact (((Below.refl _ w1).alloc (Nat.le_refl _) _).block _ (blk_lt R1.out)).trans R1.out
  have B2 : Hid (Below w.heap.size w W2) := by subst hW2; exact B1.out.alloc B1.out.size _
  have J2 : Hid (LtAt W2 J xx) := by subst hW2; subst hJ; exact heap_last w1 _
  have JI : Hid (I ≠ J ∧ w.heap.size ≤ J) := ⟨fun e => by have := blk_lt R1.out; omega, by rw [hJ]; exact B1.out.size⟩
  have H2 : Hid (MlX W2 S R M (.slice (some ⟨g, 0, none⟩) L.length cap) lim s L n C) := by subst hW2; exact H1.out.alloc _
  have DE := hide (delete_any W2 g cap q L H2.out.row hq hL)
  have k2 := H2.out.c2
  clear R1 B1 H1
  unfold Lt.v
  go_upto_region 3 with fail
  rw [← hW2, ← hJ]
  clear hW2 hJ
  go_wp2_with fail
  refine Calls.mono DE.out ?_
  rintro e w3 ⟨rfl, o3, g3⟩
  have hel : (L.eraseIdx q).length = L.length - 1 := by rw [List.length_eraseIdx, if_pos hq]
  rw [← hel] at o3
  rw [← hel]
  obtain ⟨hR3, H4, K4⟩ := H2.out.lost o3 g3
  have nIs : ∀ k, (k = R ∨ k = g) → k < w.heap.size := by
    rintro k (e | e) <;> subst e
    · exact NS.out _ hgS.out.1
    · exact NS.out _ hgS.out.2
  have R4 := hide (R2.out.kp K4 (fun e => by have := nIs _ e; have := HI.out; omega))
  have J4 := hide (J2.out.kp K4 (fun e => by have := nIs _ e; have := JI.out.2; omega))
  have KK : Hid (Kp w (w3.setCell ⟨R, 2, none⟩ (.slice (some ⟨g, 0, none⟩) (L.eraseIdx q).length cap)) S) := (Kp.of_below B2.out S).trans K4 (fun k e => by rcases e with e | e <;> subst e; exact Or.inl hgS.out.1; exact Or.inl hgS.out.2)
  have HZ := hide H4
  have c3 : w3.cell? ⟨R, 2, none⟩ = some (.slice (some ⟨g, 0, none⟩) L.length cap) := by unfold World.cell?; rw [hR3]; rfl
  have z3 : w3.frozen? ⟨R, 2, none⟩ = false := by unfold World.frozen?; rw [hR3]; simp
  clear o3 g3 hR3 H4 K4 nIs hel DE k2 R2 B2 J2 H2
  obtain ⟨W4, hW4⟩ : ∃ W4, W4 = w3.setCell ⟨R, 2, none⟩ (.slice (some ⟨g, 0, none⟩) (L.eraseIdx q).length cap) := ⟨_, rfl⟩
  rw [← hW4] at R4 J4 KK HZ
  go_upto_region 4 with fail
  rw [← hW4]
  clear hW4 c3 z3
  have r0 := R4.out.c0
  have r1 := R4.out.c1
  have r2 := R4.out.c2
  have r3 := R4.out.c3
  have y0 := R4.out.fz 0
  have y1 := R4.out.fz 1
  have y2 := R4.out.fz 2
  have y3 := R4.out.fz 3
  have j0 := J4.out.c0
  have j1 := J4.out.c1
  have j2 := J4.out.c2
  have j3 := J4.out.c3
  have E2 : Hid (LtAt (st4 W4 I xx) I xx ∧ Kp w (st4 W4 I xx) S ∧ MlX (st4 W4 I xx) S R M (.slice (some ⟨g, 0, none⟩) (L.eraseIdx q).length cap) lim s (L.eraseIdx q) n C) := ⟨R4.out.st xx, KK.out.st (Or.inr (by rw [HI.out]; exact Nat.le_refl _)) xx, HZ.out.kp ((Kp.refl W4 (fun k => k = I)).st (Or.inl rfl) xx) (fun k e ek => by have := NS.out k e; have := HI.out; omega)⟩
  unfold st4 at E2
  go_wp2_with fail
  exact bodyPost_ret (v := .tuple #[xx.v, .bool true]) (res_lt Try.results45 _ xx _ I rfl E2.out.1 _ rfl) rfl ⟨rfl, _, E2.out.2.2, E2.out.2.1⟩
end Go.Proofs.Ytnphdbmacccblab
