import Derived.Test.YtnphdbmacccblaaMhTb
import Derived.Test.YtnphdbmacccblaaMbPlays
namespace Go.Proofs.Ytnphdbmacccblaa
open Go.RowKit
set_option maxHeartbeats 8000000 in
set_option maxRecDepth 100000 in
set_option linter.unusedSimpArgs false in
set_option linter.unusedVariables false in
theorem step_deliver {w : World} {S : Nat → Prop} {R Q : Nat} {d : DS} (h : Tb w S R Q d d.A) (g : DGood d) (f : DFit d) (ids : IdsOk d.A) (a n mm : Int) (s : ByteArray) (hf : OpFit a n s) :
    Calls Try.prog 19 #[.pointer (some ⟨Q, 0, none⟩), .pointer (some ⟨R, 0, none⟩), opV 2 a n mm s] w (StB w S R Q (stpD d 2 n mm s)) := by
  have SD : stpD d 2 n mm s = dlvD d n := by simp [stpD]
  rw [SD]
  clear SD
  obtain ⟨W0, hW0⟩ : ∃ W0, W0 = w.alloc (.cells #[.int .i64 2, .int .i64 a, .int .i64 n, .int .i64 mm, .string s] 41) := ⟨_, rfl⟩
  obtain ⟨I, hI⟩ : ∃ I, I = w.heap.size := ⟨_, rfl⟩
  have O0 : Hid (OpAt W0 I 2 a n mm s) := by subst hW0; subst hI; exact heap_last w _
  have B0 : Hid (Below w.heap.size w W0) := by subst hW0; exact (Below.refl _ w).alloc (Nat.le_refl _) _
  have T0 := hide (h.below B0.out)
  have SB : Hid (∀ k, S k → k < w.heap.size) := h.sb
  have NI : Hid (¬ S I) := fun e => by have := h.sb I e; omega
  have LF := hide (left_all T0.out f.a)
  have G := hide g
  have FT := hide f
  have ID := hide ids
  clear h g f ids
  go_enter Try.func19, Try.ntmps19
  unfold opV
  go_wp2_with fail
  rw [← hW0, ← hI]
  clear hW0 hI
  refine Calls.mono LF.out ?_
  rintro e w1 ⟨v, rfl, ho, hb⟩
  have O1 : Hid (OpAt w1 I 2 a n mm s) := (hb.block _ (blk_lt O0.out)).trans O0.out
  have T1 := hide (T0.out.below hb)
  have B1 : Hid (Below w.heap.size w w1) := B0.out.trans (hb.mono B0.out.size)
  have OW := hide ho
  have NV : Hid (∀ k, v.ownBlock = some k → ¬ S k) := fun k e e2 => by have := (OW.out.lt k e).1; have := SB.out k e2; have := B0.out.size; omega
  have lle := live_le d.A
  have fa := FT.out.a
  clear ho hb LF O0 T0 B0
  obtain ⟨ba, cap, hv⟩ := own_sl OW.out
  subst hv
  have q0 := O1.out.c0
  have q2 := O1.out.c2
  have PS := b_deliver T1.out G.out n
  by_cases he : dlvE (d.st 0) n = 0
  case neg =>
    have e1 : dlvD d n = d := by unfold dlvD; rw [if_neg he]
    have hor : (n < 0 ∨ (0 ≤ n ∧ ((live d.A).length : Int) ≤ n)) ∨ (0 ≤ n ∧ n < ((live d.A).length : Int) ∧ dlvE (d.st 0) n = 132) := by
      unfold dlvE at he ⊢
      by_cases hi : okI (d.st 0).L n
      · rw [if_pos hi] at he ⊢
        split at he
        · rename_i hc
          have h0 := hi
          unfold okI at h0
          exact Or.inr ⟨h0.1, h0.2, by rw [if_pos hc]⟩
        · simp at he
      · unfold okI at hi
        change ¬ (0 ≤ n ∧ n < ((live d.A).length : Int)) at hi
        omega
    rw [e1] at PS
    have PS := hide PS
    have hb : (dlvE (d.st 0) n != 0) = true := by simp [he]
    have HD := hide e1
    generalize dlvE (d.st 0) n = E at *
    generalize dlvV (d.st 0) n = xx at *
    clear e1 he
    go_wp2_with fail
    refine Calls.mono PS.out ?_
    rintro e w3 ⟨rfl, S3, T3, K3, N3⟩
    have O3 := hide (O1.out.kp K3 NI.out)
    have T3H := hide T3
    have W3 := hide (own_kp OW.out K3 NV.out)
    have KN3 : Hid (Kp w w3 S ∧ Nr w S S3) := ⟨(Kp.of_below B1.out S).trans K3 (fun _ e => Or.inl e), fun k e => by rcases N3 k e with a | a; exact Or.inl a; exact Or.inr (Nat.le_trans B1.out.size a)⟩
    have NI3 : Hid (¬ S3 I) := fun e => by
      rcases N3 I e with a | a
      · exact NI.out a
      · have := blk_lt O1.out; omega
    have NV3 : Hid (∀ k, (Value.slice ba (live d.A).length cap).ownBlock = some k → ¬ S3 k) := fun k e e2 => by
      rcases N3 k e2 with a | a
      · exact NV.out k e a
      · have := (OW.out.lt k e).2; omega
    clear T3 K3 N3 PS q0 q2
    obtain ⟨W4, hW4⟩ : ∃ W4, W4 = w3.alloc (.cells #[.int .i64 xx.id, .int .i64 xx.fr, .int .i64 xx.td, .string xx.tx] 33) := ⟨_, rfl⟩
    have B4 : Hid (Below w3.heap.size w3 W4) := by subst hW4; exact (Below.refl _ w3).alloc (Nat.le_refl _) _
    have O4 : Hid (OpAt W4 I 2 a n mm s) := (B4.out.block _ (blk_lt O3.out)).trans O3.out
    have Z : Hid (Tb W4 S3 R Q (dlvD d n) (dlvD d n).A ∧ Kp w W4 S ∧ Nr w S S3) := ⟨by rw [HD.out]; exact T3H.out.below B4.out, KN3.out.1.trans (Kp.of_below B4.out non) (fun _ f => f.elim), KN3.out.2⟩
    unfold Lt.v
    go_upto_region 8 with fail
    rw [← hW4]
    clear hW4
    have r2 := O4.out.c2
    rcases hor with (h1 | ⟨h1, h2⟩) | ⟨h1, h2, h3⟩
    · go_wp2_with (first | (go_at_call 10; refine Calls.mono (num_any _ _) ?_; rintro e w8 ⟨rfl, rfl⟩))
      go_ret
      exact ⟨by simp, S3, Z.out⟩
    · go_wp2_with (first | (go_at_call 10; refine Calls.mono (num_any _ _) ?_; rintro e w8 ⟨rfl, rfl⟩))
      go_ret
      exact ⟨by simp, S3, Z.out⟩
    · subst h3
      go_wp2_with (first | (go_at_call 10; refine Calls.mono (num_any _ _) ?_; rintro e w8 ⟨rfl, rfl⟩))
      go_ret
      exact ⟨by simp, S3, Z.out⟩
  case pos =>
    have hi : okI (live d.A) n := dlvE_ok he
    have e2 : dlvV (d.st 0) n = ltI (live d.A) n := by unfold dlvV; rw [if_pos he]; rfl
    have e3 : (dlvD d n).A = killI d.A n := by unfold dlvD; rw [if_pos he]
    obtain ⟨kk, hk, k1, k2, k3, k4⟩ := at_ok hi
    have hid : (ltI (live d.A) n).id = (kk : Int) + 1 := by
      have := ID.out kk hk
      rw [k2] at this
      exact this
    rw [k3] at e3
    rw [he, e2] at PS
    have PS := hide PS
    have E3 := hide e3
    have K2H := hide k2
    have HID := hide hid
    have hi2 := hi
    unfold okI at hi2
    obtain ⟨qn, rfl⟩ : ∃ qn : Nat, n = (qn : Int) := ⟨n.toNat, by omega⟩
    have hq : qn < (live d.A).length := by omega
    have hlt : ltI (live d.A) (qn : Int) = (live d.A)[qn] := by unfold ltI; simp [hq]
    have HLT := hide hlt
    generalize ltI (live d.A) (qn : Int) = xx at *
    clear he e2 e3 k1 k2 k3 k4 hid hi hi2 hlt
    go_wp2_with fail
    refine Calls.mono PS.out ?_
    rintro e w3 ⟨rfl, S3, T3, K3, N3⟩
    have O3 := hide (O1.out.kp K3 NI.out)
    have T3H := hide T3
    have W3 := hide (own_kp OW.out K3 NV.out)
    have KN3 : Hid (Kp w w3 S ∧ Nr w S S3) := ⟨(Kp.of_below B1.out S).trans K3 (fun _ e => Or.inl e), fun k e => by rcases N3 k e with a | a; exact Or.inl a; exact Or.inr (Nat.le_trans B1.out.size a)⟩
    have NI3 : Hid (¬ S3 I) := fun e => by
      rcases N3 I e with a | a
      · exact NI.out a
      · have := blk_lt O1.out; omega
    have NV3 : Hid (∀ k, (Value.slice ba (live d.A).length cap).ownBlock = some k → ¬ S3 k) := fun k e e2 => by
      rcases N3 k e2 with a | a
      · exact NV.out k e a
      · have := (OW.out.lt k e).2; omega
    clear T3 K3 N3 PS q0 q2
    obtain ⟨W4, hW4⟩ : ∃ W4, W4 = w3.alloc (.cells #[.int .i64 xx.id, .int .i64 xx.fr, .int .i64 xx.td, .string xx.tx] 33) := ⟨_, rfl⟩
    obtain ⟨J, hJ⟩ : ∃ J, J = w3.heap.size := ⟨_, rfl⟩
    have B4 : Hid (Below w3.heap.size w3 W4) := by subst hW4; exact (Below.refl _ w3).alloc (Nat.le_refl _) _
    have J4 : Hid (LtAt W4 J xx) := by subst hW4; subst hJ; exact heap_last w3 _
    have NJ : Hid (¬ S3 J) := fun e => by have := T3H.out.sb J e; omega
    have O4 : Hid (OpAt W4 I 2 a (qn : Int) mm s) := (B4.out.block _ (blk_lt O3.out)).trans O3.out
    have T4 := hide (T3H.out.below B4.out)
    have R4 := hide (own_kp W3.out (Kp.of_below B4.out non) (fun _ _ f => f))
    have Z4 : Hid (Kp w W4 S) := KN3.out.1.trans (Kp.of_below B4.out non) (fun _ f => f.elim)
    obtain ⟨gl, capl, hgl⟩ := own_g R4.out (by omega)
    have hgl2 : ba = some ⟨gl, 0, none⟩ ∧ cap = capl := by
      simp only [Value.slice.injEq, true_and] at hgl
      exact hgl
    obtain ⟨rfl, rfl⟩ := hgl2
    clear hgl
    obtain ⟨l0, l1, l2, l3⟩ : W4.cell? ⟨gl, qn * 4, none⟩ = some (.int .i64 xx.id) ∧ W4.cell? ⟨gl, qn * 4 + 1, none⟩ = some (.int .i64 xx.fr) ∧ W4.cell? ⟨gl, qn * 4 + 2, none⟩ = some (.int .i64 xx.td) ∧ W4.cell? ⟨gl, qn * 4 + 3, none⟩ = some (.string xx.tx) := by
      obtain ⟨e1, e2, e3, e4⟩ := ltc_at (live d.A) qn hq
      rw [← HLT.out] at e1 e2 e3 e4
      exact ⟨(R4.out.cellAt (qn * 4) (by omega)).trans e1, (R4.out.cellAt (qn * 4 + 1) (by omega)).trans e2, (R4.out.cellAt (qn * 4 + 2) (by omega)).trans e3, (R4.out.cellAt (qn * 4 + 3) (by omega)).trans e4⟩
    unfold Lt.v
    go_upto_region 8 with fail
    rw [← hW4, ← hJ]
    clear hW4 hJ
    go_upto_region 10 with (first | (go_at_call 10; refine Calls.mono (num_any _ _) ?_; rintro e w8 ⟨rfl, rfl⟩))
    have hqi : (qn : Int) < ((live d.A).length : Int) := by omega
    have SH : Hid (W4.drew.cell? ⟨I, 2, none⟩ = some (.int .i64 (qn : Int)) ∧ LtAt W4.drew J xx ∧ W4.drew.cell? ⟨gl, qn * 4, none⟩ = some (.int .i64 xx.id) ∧ W4.drew.cell? ⟨gl, qn * 4 + 1, none⟩ = some (.int .i64 xx.fr) ∧ W4.drew.cell? ⟨gl, qn * 4 + 2, none⟩ = some (.int .i64 xx.td) ∧ W4.drew.cell? ⟨gl, qn * 4 + 3, none⟩ = some (.string xx.tx)) := ⟨O4.out.c2, J4.out, l0, l1, l2, l3⟩
    clear l0 l1 l2 l3
    have OA := hide (out_all (T4.out.below (show Below W4.heap.size W4 W4.drew from ⟨rfl, rfl, rfl, Nat.le_refl _, fun _ _ => rfl⟩)) xx kk hk K2H.out HID.out FT.out.a)
    have XV : Hid (xx.v = .agg #[.int .i64 xx.id, .int .i64 xx.fr, .int .i64 xx.td, .string xx.tx]) := rfl
    have SB3 : Hid (∀ k, S3 k → k < w3.heap.size) := T3H.out.sb
    refine wp_region_held_drew (S := fun X => X.cell? ⟨I, 2, none⟩ = some (.int .i64 (qn : Int)) ∧ LtAt X J xx ∧ X.cell? ⟨gl, qn * 4, none⟩ = some (.int .i64 xx.id) ∧ X.cell? ⟨gl, qn * 4 + 1, none⟩ = some (.int .i64 xx.fr) ∧ X.cell? ⟨gl, qn * 4 + 2, none⟩ = some (.int .i64 xx.td) ∧ X.cell? ⟨gl, qn * 4 + 3, none⟩ = some (.string xx.tx)) (by kernel_rfl) SH.out (fun hHeld => ?_)
    refine wpAnyH_take (i := 0) (v := (.pointer (some ⟨I, 2, none⟩))) rfl (by kernel_rfl) (by kernel_rfl) (by kernel_rfl) (fun _ _ _ h => h) (Or.inl ⟨by kernel_rfl, ?_⟩) (by assumption) ?_
    · intro w' hSw
      (try dsimp only at hSw)
      go_simp
    (try simp only [Act.put, List.setIfInBounds_toArray, List.set_cons_zero, List.set_cons_succ])
    refine wpAnyH_take (i := 1) (v := (.int .i64 (qn : Int))) rfl (by kernel_rfl) (by kernel_rfl) (by kernel_rfl) (fun _ _ _ h => h) (Or.inl ⟨by kernel_rfl, ?_⟩) (by assumption) ?_
    · intro w' hSw
      (try dsimp only at hSw)
      (have y := hSw.1; clear hSw hHeld; go_simp)
    (try simp only [Act.put, List.setIfInBounds_toArray, List.set_cons_zero, List.set_cons_succ])
    refine wpAnyH_take (i := 2) (v := (.bool true)) rfl (by kernel_rfl) (by kernel_rfl) (by kernel_rfl) (fun _ _ _ h => h) (Or.inl ⟨by kernel_rfl, ?_⟩) (by assumption) ?_
    · intro w' hSw
      (try dsimp only at hSw)
      go_simp
    (try simp only [Act.put, List.setIfInBounds_toArray, List.set_cons_zero, List.set_cons_succ])
    refine wpAnyH_take (i := 3) (v := (.bool true)) rfl (by kernel_rfl) (by kernel_rfl) (by kernel_rfl) (fun _ _ _ h => h) (Or.inl ⟨by kernel_rfl, ?_⟩) (by assumption) ?_
    · intro w' hSw
      (try dsimp only at hSw)
      go_simp
    (try simp only [Act.put, List.setIfInBounds_toArray, List.set_cons_zero, List.set_cons_succ])
    refine wpAnyH_take (i := 4) (v := (.pointer (some ⟨I, 2, none⟩))) rfl (by kernel_rfl) (by kernel_rfl) (by kernel_rfl) (fun _ _ _ h => h) (Or.inl ⟨by kernel_rfl, ?_⟩) (by assumption) ?_
    · intro w' hSw
      (try dsimp only at hSw)
      go_simp
    (try simp only [Act.put, List.setIfInBounds_toArray, List.set_cons_zero, List.set_cons_succ])
    refine wpAnyH_take (i := 5) (v := (.int .i64 (qn : Int))) rfl (by kernel_rfl) (by kernel_rfl) (by kernel_rfl) (fun _ _ _ h => h) (Or.inl ⟨by kernel_rfl, ?_⟩) (by assumption) ?_
    · intro w' hSw
      (try dsimp only at hSw)
      (have y := hSw.1; clear hSw hHeld; go_simp)
    (try simp only [Act.put, List.setIfInBounds_toArray, List.set_cons_zero, List.set_cons_succ])
    refine wpAnyH_take (i := 6) (v := (.slice (some ⟨gl, 0, none⟩) (live d.A).length cap)) rfl (by kernel_rfl) (by kernel_rfl) (by kernel_rfl) (fun _ _ _ h => h) (Or.inl ⟨by kernel_rfl, ?_⟩) (by assumption) ?_
    · intro w' hSw
      (try dsimp only at hSw)
      go_simp
    (try simp only [Act.put, List.setIfInBounds_toArray, List.set_cons_zero, List.set_cons_succ])
    refine wpAnyH_take (i := 7) (v := (.int .i64 ((live d.A).length : Int))) rfl (by kernel_rfl) (by kernel_rfl) (by kernel_rfl) (fun _ _ _ h => h) (Or.inl ⟨by kernel_rfl, ?_⟩) (by assumption) ?_
    · intro w' hSw
      (try dsimp only at hSw)
      go_simp
    (try simp only [Act.put, List.setIfInBounds_toArray, List.set_cons_zero, List.set_cons_succ])
    refine wpAnyH_take (i := 8) (v := (.bool true)) rfl (by kernel_rfl) (by kernel_rfl) (by kernel_rfl) (fun _ _ _ h => h) (Or.inl ⟨by kernel_rfl, ?_⟩) (by assumption) ?_
    · intro w' hSw
      (try dsimp only at hSw)
      (go_simp)
    (try simp only [Act.put, List.setIfInBounds_toArray, List.set_cons_zero, List.set_cons_succ])
    refine wpAnyH_take (i := 9) (v := (.bool true)) rfl (by kernel_rfl) (by kernel_rfl) (by kernel_rfl) (fun _ _ _ h => h) (Or.inl ⟨by kernel_rfl, ?_⟩) (by assumption) ?_
    · intro w' hSw
      (try dsimp only at hSw)
      go_simp
    (try simp only [Act.put, List.setIfInBounds_toArray, List.set_cons_zero, List.set_cons_succ])
    refine wpAnyH_take (i := 10) (v := (.bool true)) rfl (by kernel_rfl) (by kernel_rfl) (by kernel_rfl) (fun _ _ _ h => h) (Or.inl ⟨by kernel_rfl, ?_⟩) (by assumption) ?_
    · intro w' hSw
      (try dsimp only at hSw)
      go_simp
    (try simp only [Act.put, List.setIfInBounds_toArray, List.set_cons_zero, List.set_cons_succ])
    refine wpAnyH_take (i := 11) (v := (.slice (some ⟨gl, 0, none⟩) (live d.A).length cap)) rfl (by kernel_rfl) (by kernel_rfl) (by kernel_rfl) (fun _ _ _ h => h) (Or.inl ⟨by kernel_rfl, ?_⟩) (by assumption) ?_
    · intro w' hSw
      (try dsimp only at hSw)
      go_simp
    (try simp only [Act.put, List.setIfInBounds_toArray, List.set_cons_zero, List.set_cons_succ])
    refine wpAnyH_take (i := 12) (v := (.pointer (some ⟨I, 2, none⟩))) rfl (by kernel_rfl) (by kernel_rfl) (by kernel_rfl) (fun _ _ _ h => h) (Or.inl ⟨by kernel_rfl, ?_⟩) (by assumption) ?_
    · intro w' hSw
      (try dsimp only at hSw)
      go_simp
    (try simp only [Act.put, List.setIfInBounds_toArray, List.set_cons_zero, List.set_cons_succ])
    refine wpAnyH_take (i := 13) (v := (.int .i64 (qn : Int))) rfl (by kernel_rfl) (by kernel_rfl) (by kernel_rfl) (fun _ _ _ h => h) (Or.inl ⟨by kernel_rfl, ?_⟩) (by assumption) ?_
    · intro w' hSw
      (try dsimp only at hSw)
      (have y := hSw.1; clear hSw hHeld; go_simp)
    (try simp only [Act.put, List.setIfInBounds_toArray, List.set_cons_zero, List.set_cons_succ])
    refine wpAnyH_take (i := 14) (v := (.pointer (some ⟨gl, qn * 4, none⟩))) rfl (by kernel_rfl) (by kernel_rfl) (by kernel_rfl) (fun _ _ _ h => h) (Or.inl ⟨by kernel_rfl, ?_⟩) (by assumption) ?_
    · intro w' hSw
      (try dsimp only at hSw)
      go_simp
    (try simp only [Act.put, List.setIfInBounds_toArray, List.set_cons_zero, List.set_cons_succ])
    refine wpAnyH_take (i := 15) (v := (.agg #[.int .i64 xx.id, .int .i64 xx.fr, .int .i64 xx.td, .string xx.tx])) rfl (by kernel_rfl) (by kernel_rfl) (by kernel_rfl) (fun _ _ _ h => h) (Or.inl ⟨by kernel_rfl, ?_⟩) (by assumption) ?_
    · intro w' hSw
      (try dsimp only at hSw)
      (have y0 := hSw.2.2.1; have y1 := hSw.2.2.2.1; have y2 := hSw.2.2.2.2.1; have y3 := hSw.2.2.2.2.2; clear hSw hHeld; go_simp)
    (try simp only [Act.put, List.setIfInBounds_toArray, List.set_cons_zero, List.set_cons_succ])
    refine wpAnyH_take (i := 16) (v := (.agg #[.int .i64 xx.id, .int .i64 xx.fr, .int .i64 xx.td, .string xx.tx])) rfl (by kernel_rfl) (by kernel_rfl) (by kernel_rfl) (fun _ _ _ h => h) (Or.inl ⟨by kernel_rfl, ?_⟩) (by assumption) ?_
    · intro w' hSw
      (try dsimp only at hSw)
      (have y0 := hSw.2.1.c0; have y1 := hSw.2.1.c1; have y2 := hSw.2.1.c2; have y3 := hSw.2.1.c3; clear hSw hHeld; go_simp)
    (try simp only [Act.put, List.setIfInBounds_toArray, List.set_cons_zero, List.set_cons_succ])
    refine wpAnyH_take (i := 17) (v := (.bool true)) rfl (by kernel_rfl) (by kernel_rfl) (by kernel_rfl) (fun _ _ _ h => h) (Or.inl ⟨by kernel_rfl, ?_⟩) (by assumption) ?_
    · intro w' hSw
      (try dsimp only at hSw)
      go_simp
    (try simp only [Act.put, List.setIfInBounds_toArray, List.set_cons_zero, List.set_cons_succ])
    refine wpAnyH_take (i := 18) (v := (.bool true)) rfl (by kernel_rfl) (by kernel_rfl) (by kernel_rfl) (fun _ _ _ h => h) (Or.inl ⟨by kernel_rfl, ?_⟩) (by assumption) ?_
    · intro w' hSw
      (try dsimp only at hSw)
      go_simp
    (try simp only [Act.put, List.setIfInBounds_toArray, List.set_cons_zero, List.set_cons_succ])
    refine wpAnyH_take (i := 19) (v := (.bool true)) rfl (by kernel_rfl) (by kernel_rfl) (by kernel_rfl) (fun _ _ _ h => h) (Or.inl ⟨by kernel_rfl, ?_⟩) (by assumption) ?_
    · intro w' hSw
      (try dsimp only at hSw)
      go_simp
    (try simp only [Act.put, List.setIfInBounds_toArray, List.set_cons_zero, List.set_cons_succ])
    refine wpAnyH_take (i := 20) (v := (.pointer (some ⟨Q, 0, none⟩))) rfl (by kernel_rfl) (by kernel_rfl) (by kernel_rfl) (fun _ _ _ h => h) (Or.inl ⟨by kernel_rfl, ?_⟩) (by assumption) ?_
    · intro w' hSw
      (try dsimp only at hSw)
      go_simp
    (try simp only [Act.put, List.setIfInBounds_toArray, List.set_cons_zero, List.set_cons_succ])
    refine wpAnyH_take (i := 21) (v := (.agg #[.int .i64 xx.id, .int .i64 xx.fr, .int .i64 xx.td, .string xx.tx])) rfl (by kernel_rfl) (by kernel_rfl) (by kernel_rfl) (fun _ _ _ h => h) (Or.inl ⟨by kernel_rfl, ?_⟩) (by assumption) ?_
    · intro w' hSw
      (try dsimp only at hSw)
      (have y0 := hSw.2.1.c0; have y1 := hSw.2.1.c1; have y2 := hSw.2.1.c2; have y3 := hSw.2.1.c3; clear hSw hHeld; go_simp)
    (try simp only [Act.put, List.setIfInBounds_toArray, List.set_cons_zero, List.set_cons_succ])
    refine wpAnyH_ready (rs := [22]) (by kernel_rfl) (by simp) ?_
    refine AllReadyH.cons rfl (fun K hK => ?_) AllReadyH.nil
    go_simp
    refine Calls.mono OA.out ?_
    rintro e w5 ⟨rfl, S5, T5, K5, N5⟩
    have O5 : Hid (OpAt w5 I 2 a (qn : Int) mm s) := OpAt.kp (show OpAt W4.drew I 2 a (qn : Int) mm s from O4.out) K5 NI3.out
    have J5 : Hid (LtAt w5 J xx) := LtAt.kp (show LtAt W4.drew J xx from J4.out) K5 NJ.out
    have R5 := own_kp (show W4.drew.ownsRow _ _ _ _ _ _ from R4.out) K5 NV3.out
    have S5H : Hid (w5.cell? ⟨I, 2, none⟩ = some (.int .i64 (qn : Int)) ∧ LtAt w5 J xx ∧ w5.cell? ⟨gl, qn * 4, none⟩ = some (.int .i64 xx.id) ∧ w5.cell? ⟨gl, qn * 4 + 1, none⟩ = some (.int .i64 xx.fr) ∧ w5.cell? ⟨gl, qn * 4 + 2, none⟩ = some (.int .i64 xx.td) ∧ w5.cell? ⟨gl, qn * 4 + 3, none⟩ = some (.string xx.tx)) := by
      obtain ⟨e1, e2, e3, e4⟩ := ltc_at (live d.A) qn hq
      rw [← HLT.out] at e1 e2 e3 e4
      exact ⟨O5.out.c2, J5.out, (R5.cellAt (qn * 4) (by omega)).trans e1, (R5.cellAt (qn * 4 + 1) (by omega)).trans e2, (R5.cellAt (qn * 4 + 2) (by omega)).trans e3, (R5.cellAt (qn * 4 + 3) (by omega)).trans e4⟩
    have Z : Hid (Tb w5 S5 R Q (dlvD d (qn : Int)) (dlvD d (qn : Int)).A ∧ Kp w w5 S ∧ Nr w S S5) := by
      have kk := (Kp.of_below B4.out S3).drew.trans K5 (fun _ e => Or.inl e)
      have nn : Nr w3 S3 S5 := fun k e => by
        rcases N5 k e with a | a
        · exact Or.inl a
        · exact Or.inr (Nat.le_trans B4.out.size a)
      obtain ⟨k4, n4⟩ := kp3 (Kp.refl w S) KN3.out.1 KN3.out.2 kk nn
      exact ⟨by rw [E3.out]; exact T5, k4, n4⟩
    clear T5 K5 N5 R5 O5 J5 OA
    refine hK.out _ _ (S5H.out) (fun hHeld => ?_)
    clear hK
    (try simp only [Act.put, List.setIfInBounds_toArray, List.set_cons_zero, List.set_cons_succ])
    refine wpAnyH_take (i := 23) (v := (.bool true)) rfl (by kernel_rfl) (by kernel_rfl) (by kernel_rfl) (fun _ _ _ h => h) (Or.inl ⟨by kernel_rfl, ?_⟩) (by assumption) ?_
    · intro w' hSw
      (try dsimp only at hSw)
      go_simp
    (try simp only [Act.put, List.setIfInBounds_toArray, List.set_cons_zero, List.set_cons_succ])
    refine wpAnyH_ready (rs := [24]) (by kernel_rfl) (by simp) ?_
    refine AllReadyH.cons rfl (fun K hK => ?_) AllReadyH.nil
    go_simp
    refine hK.out _ _ (S5H.out) (fun hHeld => ?_)
    clear hK
    (try simp only [Act.put, List.setIfInBounds_toArray, List.set_cons_zero, List.set_cons_succ])
    refine wpAnyH_done (by kernel_rfl) ?_ _
    clear hHeld
    go_wp2_with fail
    go_ret
    exact ⟨rfl, S5, Z.out⟩
end Go.Proofs.Ytnphdbmacccblaa
