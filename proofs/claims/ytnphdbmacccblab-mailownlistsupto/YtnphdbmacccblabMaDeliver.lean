import Derived.Test.YtnphdbmacccblabMaTake
namespace Go.Proofs.Ytnphdbmacccblab
open Go.RowKit
theorem ltI_in {L : List Lt} {i : Int} (h : okI L i) : ltI L i ∈ L := by
  unfold okI at h
  unfold ltI
  have hq : i.toNat < L.length := by omega
  rw [List.getElem?_eq_getElem hq]
  exact List.getElem_mem hq
set_option maxHeartbeats 4000000 in
set_option maxRecDepth 100000 in
set_option linter.unusedSimpArgs false in
set_option linter.unusedVariables false in
theorem deliver_nil (i : Int) (w : World) : Calls Try.prog 20 #[.pointer none, .int .i64 i] w fun e w' => e = .returned (.tuple #[noL.v, .int .i64 2]) ∧ Below w.heap.size w w' := by
  obtain ⟨W0, hW0⟩ : ∃ W0, W0 = w.alloc (.cells #[.int .i64 0, .int .i64 0, .int .i64 0, .string ⟨#[]⟩] 53) := ⟨_, rfl⟩
  have NO := hide (none_nil W0)
  have B0 : Hid (Below w.heap.size w W0) := by subst hW0; exact (Below.refl _ w).alloc (Nat.le_refl _) _
  have R0 : Hid (LtAt W0 w.heap.size noL) := by subst hW0; exact heap_last w _
  go_enter Try.func20, Try.ntmps20
  go_wp2_with fail
  rw [← hW0]
  refine Calls.mono NO.out ?_
  rintro e w9 ⟨rfl, rfl⟩
  clear hW0
  have r0 := R0.out.c0
  have r1 := R0.out.c1
  have r2 := R0.out.c2
  have r3 := R0.out.c3
  have y0 := R0.out.fz 0
  have y1 := R0.out.fz 1
  have y2 := R0.out.fz 2
  have y3 := R0.out.fz 3
  have E9 : Hid (LtAt (st4 W0 w.heap.size noL) w.heap.size noL ∧ Below w.heap.size w (st4 W0 w.heap.size noL)) := ⟨R0.out.st noL, ((Kp.of_below B0.out non).st (Or.inr (Nat.le_refl _)) noL).below⟩
  unfold st4 at E9
  simp only [noL] at *
  go_wp2_with fail
  exact bodyPost_ret (v := .tuple #[noL.v, .int .i64 2]) (res_lt Try.results20 _ noL _ w.heap.size rfl E9.out.1 _ rfl) rfl ⟨rfl, E9.out.2⟩
set_option maxHeartbeats 4000000 in
set_option maxRecDepth 100000 in
set_option linter.unusedSimpArgs false in
set_option linter.unusedVariables false in
theorem deliver_no {w : World} {S : Nat → Prop} {R M : Nat} {v : Value} {lim : Int} {s : Nat} {L : List Lt} {n : Nat} {C : Int → Int → Bool} (h : MlX w S R M v lim s L n C) (hl : 1 ≤ lim) (i : Int) (hi : ¬ okI L i) : Calls Try.prog 20 #[.pointer (some ⟨R, 0, none⟩), .int .i64 i] w fun e w' => e = .returned (.tuple #[noL.v, .int .i64 131]) ∧ Below w.heap.size w w' := by
  obtain ⟨W0, hW0⟩ : ∃ W0, W0 = w.alloc (.cells #[.int .i64 0, .int .i64 0, .int .i64 0, .string ⟨#[]⟩] 53) := ⟨_, rfl⟩
  have H0 : Hid (MlX W0 S R M v lim s L n C) := by subst hW0; exact h.alloc _
  have B0 : Hid (Below w.heap.size w W0) := by subst hW0; exact (Below.refl _ w).alloc (Nat.le_refl _) _
  have R0 : Hid (LtAt W0 w.heap.size noL) := by subst hW0; exact heap_last w _
  have NS : Hid (∀ k, S k → k < w.heap.size) := h.sb
  obtain ⟨I, hI⟩ : ∃ I, I = w.heap.size := ⟨_, rfl⟩
  rw [← hI] at R0
  have HI := hide hI
  have NO := hide (none_any H0.out hl)
  have AT := hide (bat_no H0.out i hi)
  clear h
  go_enter Try.func20, Try.ntmps20
  go_wp2_with fail
  rw [← hW0, ← hI]
  clear hW0 hI
  refine Calls.mono NO.out ?_
  rintro e w9 ⟨rfl, rfl⟩
  go_wp2_with fail
  refine Calls.mono AT.out ?_
  rintro e w1 ⟨rfl, hb1⟩
  have R1 : Hid (LtAt w1 I noL) := (hb1.block _ (blk_lt R0.out)).trans R0.out
  have B1 : Hid (Below w.heap.size w w1) := B0.out.trans (hb1.mono B0.out.size)
  clear hb1 AT B0
  obtain ⟨W2, hW2⟩ : ∃ W2, W2 = w1.alloc (.cells #[.int .i64 0, .int .i64 0, .int .i64 0, .string ⟨#[]⟩] 53) := ⟨_, rfl⟩
  have R2 : Hid (LtAt W2 I noL) := by subst hW2; exact (((Below.refl _ w1).alloc (Nat.le_refl _) _).block _ (blk_lt R1.out)).trans R1.out
  have B2 : Hid (Below w.heap.size w W2) := by subst hW2; exact B1.out.alloc B1.out.size _
  have r0 := R2.out.c0
  have r1 := R2.out.c1
  have r2 := R2.out.c2
  have r3 := R2.out.c3
  have y0 := R2.out.fz 0
  have y1 := R2.out.fz 1
  have y2 := R2.out.fz 2
  have y3 := R2.out.fz 3
  have E9 : Hid (LtAt (st4 W2 I noL) I noL ∧ Below w.heap.size w (st4 W2 I noL)) := ⟨R2.out.st noL, ((Kp.of_below B2.out non).st (Or.inr (by rw [HI.out]; exact Nat.le_refl _)) noL).below⟩
  unfold st4 at E9
  unfold Lt.v
  simp only [noL] at *
  go_upto_region 5 with fail
  rw [← hW2]
  clear hW2
  go_wp2_with fail
  exact bodyPost_ret (v := .tuple #[noL.v, .int .i64 131]) (res_lt Try.results20 _ noL _ I rfl E9.out.1 _ rfl) rfl ⟨rfl, E9.out.2⟩
set_option maxHeartbeats 4000000 in
set_option maxRecDepth 100000 in
set_option linter.unusedSimpArgs false in
set_option linter.unusedVariables false in
theorem deliver_cut {w : World} {S : Nat → Prop} {R M : Nat} {v : Value} {lim : Int} {s : Nat} {L : List Lt} {n : Nat} {C : Int → Int → Bool} (h : MlX w S R M v lim s L n C) (hl : 1 ≤ lim) (i : Int) (hi : okI L i) (ha : ∀ x ∈ L, adr x.fr = true ∧ adr x.td = true) (hc : C (min (ltI L i).fr (ltI L i).td) (max (ltI L i).fr (ltI L i).td) = true) : Calls Try.prog 20 #[.pointer (some ⟨R, 0, none⟩), .int .i64 i] w fun e w' => e = .returned (.tuple #[noL.v, .int .i64 132]) ∧ Below w.heap.size w w' := by
  obtain ⟨W0, hW0⟩ : ∃ W0, W0 = w.alloc (.cells #[.int .i64 0, .int .i64 0, .int .i64 0, .string ⟨#[]⟩] 53) := ⟨_, rfl⟩
  have H0 : Hid (MlX W0 S R M v lim s L n C) := by subst hW0; exact h.alloc _
  have B0 : Hid (Below w.heap.size w W0) := by subst hW0; exact (Below.refl _ w).alloc (Nat.le_refl _) _
  have R0 : Hid (LtAt W0 w.heap.size noL) := by subst hW0; exact heap_last w _
  have NS : Hid (∀ k, S k → k < w.heap.size) := h.sb
  obtain ⟨I, hI⟩ : ∃ I, I = w.heap.size := ⟨_, rfl⟩
  rw [← hI] at R0
  have HI := hide hI
  have NO := hide (none_any H0.out hl)
  have AT := bat_ok H0.out i hi
  have AD : adr (ltI L i).fr = true ∧ adr (ltI L i).td = true := ha _ (ltI_in hi)
  obtain ⟨xx, hxx⟩ : ∃ xx, ltI L i = xx := ⟨_, rfl⟩
  rw [hxx] at AT AD hc
  have AT := hide AT
  have AD := hide AD
  have HXX := hide hxx
  have CC := hide hc
  clear h ha hc hxx
  go_enter Try.func20, Try.ntmps20
  go_wp2_with fail
  rw [← hW0, ← hI]
  clear hW0 hI
  refine Calls.mono NO.out ?_
  rintro e w9 ⟨rfl, rfl⟩
  go_wp2_with fail
  refine Calls.mono AT.out ?_
  rintro e w1 ⟨rfl, hb1⟩
  have R1 : Hid (LtAt w1 I noL) := (hb1.block _ (blk_lt R0.out)).trans R0.out
  have H1 := hide (H0.out.below hb1)
  have B1 : Hid (Below w.heap.size w w1) := B0.out.trans (hb1.mono B0.out.size)
  clear hb1 AT B0 H0 R0 NO
  obtain ⟨W2, hW2⟩ : ∃ W2, W2 = w1.alloc (.cells #[.int .i64 xx.id, .int .i64 xx.fr, .int .i64 xx.td, .string xx.tx] 53) := ⟨_, rfl⟩
  obtain ⟨J, hJ⟩ : ∃ J, J = w1.heap.size := ⟨_, rfl⟩
  have R2 : Hid (LtAt W2 I noL) := by subst hW2; exact (((Below.refl _ w1).alloc (Nat.le_refl _) _).block _ (blk_lt R1.out)).trans R1.out
  have B2 : Hid (Below w.heap.size w W2) := by subst hW2; exact B1.out.alloc B1.out.size _
  have J2 : Hid (LtAt W2 J xx) := by subst hW2; subst hJ; exact heap_last w1 _
  have JI : Hid (I ≠ J ∧ w.heap.size ≤ J) := ⟨fun e => by have := blk_lt R1.out; omega, by rw [hJ]; exact B1.out.size⟩
  have H2 : Hid (MlX W2 S R M v lim s L n C) := by subst hW2; exact H1.out.alloc _
  have IC := isCut_any H2.out xx.fr xx.td AD.out.1 AD.out.2
  rw [CC.out] at IC
  have IC := hide IC
  clear R1 B1 H1
  have j0 := J2.out.c0
  have j1 := J2.out.c1
  have j2 := J2.out.c2
  have j3 := J2.out.c3
  unfold Lt.v
  go_upto_region 6 with fail
  rw [← hW2, ← hJ]
  clear hW2 hJ
  go_wp2_with fail
  refine Calls.mono IC.out ?_
  rintro e w3 ⟨rfl, hb3⟩
  have R3 : Hid (LtAt w3 I noL) := (hb3.block _ (blk_lt R2.out)).trans R2.out
  have J3 : Hid (LtAt w3 J xx) := (hb3.block _ (blk_lt J2.out)).trans J2.out
  have B3 : Hid (Below w.heap.size w w3) := B2.out.trans (hb3.mono B2.out.size)
  have H3 := hide (H2.out.below hb3)
  clear hb3 IC j0 j1 j2 j3 R2 J2 B2 H2
  have r0 := R3.out.c0
  have r1 := R3.out.c1
  have r2 := R3.out.c2
  have r3 := R3.out.c3
  have y0 := R3.out.fz 0
  have y1 := R3.out.fz 1
  have y2 := R3.out.fz 2
  have y3 := R3.out.fz 3
  have E9 : Hid (LtAt (st4 w3 I noL) I noL ∧ Below w.heap.size w (st4 w3 I noL)) := ⟨R3.out.st noL, ((Kp.of_below B3.out non).st (Or.inr (by rw [HI.out]; exact Nat.le_refl _)) noL).below⟩
  unfold st4 at E9
  simp only [noL] at *
  go_wp2_with fail
  exact bodyPost_ret (v := .tuple #[noL.v, .int .i64 132]) (res_lt Try.results20 _ noL _ I rfl E9.out.1 _ rfl) rfl ⟨rfl, E9.out.2⟩
set_option maxHeartbeats 4000000 in
set_option maxRecDepth 100000 in
set_option linter.unusedSimpArgs false in
set_option linter.unusedVariables false in
theorem deliver_ok {w : World} {S : Nat → Prop} {R M : Nat} {v : Value} {lim : Int} {s : Nat} {L : List Lt} {n : Nat} {C : Int → Int → Bool} (h : MlX w S R M v lim s L n C) (hl : 1 ≤ lim) (hL : L.length ≤ 1048576) (i : Int) (hi : okI L i) (ha : ∀ x ∈ L, adr x.fr = true ∧ adr x.td = true) (hc : C (min (ltI L i).fr (ltI L i).td) (max (ltI L i).fr (ltI L i).td) = false) : Calls Try.prog 20 #[.pointer (some ⟨R, 0, none⟩), .int .i64 i] w fun e w' => e = .returned (.tuple #[(ltI L i).v, .int .i64 0]) ∧ ∃ v', MlX w' S R M v' lim s (L.eraseIdx i.toNat) n C ∧ Kp w w' S := by
  have HO := hide hi
  obtain ⟨W0, hW0⟩ : ∃ W0, W0 = w.alloc (.cells #[.int .i64 0, .int .i64 0, .int .i64 0, .string ⟨#[]⟩] 53) := ⟨_, rfl⟩
  have H0 : Hid (MlX W0 S R M v lim s L n C) := by subst hW0; exact h.alloc _
  have B0 : Hid (Below w.heap.size w W0) := by subst hW0; exact (Below.refl _ w).alloc (Nat.le_refl _) _
  have R0 : Hid (LtAt W0 w.heap.size noL) := by subst hW0; exact heap_last w _
  have NS : Hid (∀ k, S k → k < w.heap.size) := h.sb
  obtain ⟨I, hI⟩ : ∃ I, I = w.heap.size := ⟨_, rfl⟩
  rw [← hI] at R0
  have HI := hide hI
  have NO := hide (none_any H0.out hl)
  have AT := bat_ok H0.out i hi
  have AD : adr (ltI L i).fr = true ∧ adr (ltI L i).td = true := ha _ (ltI_in hi)
  obtain ⟨xx, hxx⟩ : ∃ xx, ltI L i = xx := ⟨_, rfl⟩
  rw [hxx] at AT AD hc ⊢
  have AT := hide AT
  have AD := hide AD
  have HXX := hide hxx
  have CC := hide hc
  clear h ha hc hxx
  go_enter Try.func20, Try.ntmps20
  go_wp2_with fail
  rw [← hW0, ← hI]
  clear hW0 hI
  refine Calls.mono NO.out ?_
  rintro e w9 ⟨rfl, rfl⟩
  go_wp2_with fail
  refine Calls.mono AT.out ?_
  rintro e w1 ⟨rfl, hb1⟩
  have R1 : Hid (LtAt w1 I noL) := (hb1.block _ (blk_lt R0.out)).trans R0.out
  have H1 := hide (H0.out.below hb1)
  have B1 : Hid (Below w.heap.size w w1) := B0.out.trans (hb1.mono B0.out.size)
  clear hb1 AT B0 H0 R0 NO
  obtain ⟨W2, hW2⟩ : ∃ W2, W2 = w1.alloc (.cells #[.int .i64 xx.id, .int .i64 xx.fr, .int .i64 xx.td, .string xx.tx] 53) := ⟨_, rfl⟩
  obtain ⟨J, hJ⟩ : ∃ J, J = w1.heap.size := ⟨_, rfl⟩
  have R2 : Hid (LtAt W2 I noL) := by subst hW2; exact (((Below.refl _ w1).alloc (Nat.le_refl _) _).block _ (blk_lt R1.out)).trans R1.out
  have B2 : Hid (Below w.heap.size w W2) := by subst hW2; exact B1.out.alloc B1.out.size _
  have J2 : Hid (LtAt W2 J xx) := by subst hW2; subst hJ; exact heap_last w1 _
  have JI : Hid (I ≠ J ∧ w.heap.size ≤ J) := ⟨fun e => by have := blk_lt R1.out; omega, by rw [hJ]; exact B1.out.size⟩
  have H2 : Hid (MlX W2 S R M v lim s L n C) := by subst hW2; exact H1.out.alloc _
  have IC := isCut_any H2.out xx.fr xx.td AD.out.1 AD.out.2
  rw [CC.out] at IC
  have IC := hide IC
  clear R1 B1 H1
  have j0 := J2.out.c0
  have j1 := J2.out.c1
  have j2 := J2.out.c2
  have j3 := J2.out.c3
  unfold Lt.v
  go_upto_region 6 with fail
  rw [← hW2, ← hJ]
  clear hW2 hJ
  go_wp2_with fail
  refine Calls.mono IC.out ?_
  rintro e w3 ⟨rfl, hb3⟩
  have R3 : Hid (LtAt w3 I noL) := (hb3.block _ (blk_lt R2.out)).trans R2.out
  have J3 : Hid (LtAt w3 J xx) := (hb3.block _ (blk_lt J2.out)).trans J2.out
  have B3 : Hid (Below w.heap.size w w3) := B2.out.trans (hb3.mono B2.out.size)
  have H3 := hide (H2.out.below hb3)
  clear hb3 IC j0 j1 j2 j3 R2 J2 B2 H2
  have TK := take_ok H3.out i HO.out hL
  rw [HXX.out] at TK
  have TK := hide TK
  go_wp2_with fail
  refine Calls.mono TK.out ?_
  rintro e w4 ⟨rfl, v', H4, K4⟩
  have R4 := hide (R3.out.kp K4 (fun e => by have := NS.out _ e; have := HI.out; omega))
  have J4 := hide (J3.out.kp K4 (fun e => by have := NS.out _ e; have := JI.out.2; omega))
  have KK : Hid (Kp w w4 S) := (Kp.of_below B3.out S).trans K4 (fun k e => Or.inl e)
  have HZ := hide H4
  clear H4 K4 TK R3 J3 B3 H3
  have r0 := R4.out.c0
  have r1 := R4.out.c1
  have r2 := R4.out.c2
  have r3 := R4.out.c3
  have y0 := R4.out.fz 0
  have y1 := R4.out.fz 1
  have y2 := R4.out.fz 2
  have y3 := R4.out.fz 3
  have j0 := J4.out.c0
  have j1 := J4.out.c1
  have j2 := J4.out.c2
  have j3 := J4.out.c3
  have E9 : Hid (LtAt (st4 w4 I xx) I xx ∧ Kp w (st4 w4 I xx) S ∧ MlX (st4 w4 I xx) S R M v' lim s (L.eraseIdx i.toNat) n C) := ⟨R4.out.st xx, KK.out.st (Or.inr (by rw [HI.out]; exact Nat.le_refl _)) xx, HZ.out.kp ((Kp.refl w4 (fun k => k = I)).st (Or.inl rfl) xx) (fun k e ek => by have := NS.out k e; have := HI.out; omega)⟩
  unfold st4 at E9
  go_wp2_with fail
  exact bodyPost_ret (v := .tuple #[xx.v, .int .i64 0]) (res_lt Try.results20 _ xx _ I rfl E9.out.1 _ rfl) rfl ⟨rfl, _, E9.out.2.2, E9.out.2.1⟩
end Go.Proofs.Ytnphdbmacccblab
