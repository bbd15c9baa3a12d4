import Derived.Test.YtnphdbmacccblaaMhTb
import Derived.Test.YtnphdbmacccblaaMbPlays
namespace Go.Proofs.Ytnphdbmacccblaa
open Go.RowKit
set_option maxHeartbeats 8000000 in
set_option maxRecDepth 100000 in
set_option linter.unusedSimpArgs false in
set_option linter.unusedVariables false in
theorem step_drop {w : World} {S : Nat → Prop} {R Q : Nat} {d : DS} (h : Tb w S R Q d d.A) (g : DGood d) (f : DFit d) (ids : IdsOk d.A) (a n mm : Int) (s : ByteArray) (hf : OpFit a n s) :
    Calls Try.prog 19 #[.pointer (some ⟨Q, 0, none⟩), .pointer (some ⟨R, 0, none⟩), opV 3 a n mm s] w (StB w S R Q (stpD d 3 n mm s)) := by
  have SD : stpD d 3 n mm s = drpD d n := by simp [stpD]
  rw [SD]
  clear SD
  obtain ⟨W0, hW0⟩ : ∃ W0, W0 = w.alloc (.cells #[.int .i64 3, .int .i64 a, .int .i64 n, .int .i64 mm, .string s] 41) := ⟨_, rfl⟩
  obtain ⟨I, hI⟩ : ∃ I, I = w.heap.size := ⟨_, rfl⟩
  have O0 : Hid (OpAt W0 I 3 a n mm s) := by subst hW0; subst hI; exact heap_last w _
  have B0 : Hid (Below w.heap.size w W0) := by subst hW0; exact (Below.refl _ w).alloc (Nat.le_refl _) _
  have T0 := hide (h.below B0.out)
  have SB : Hid (∀ k, S k → k < w.heap.size) := h.sb
  have NI : Hid (¬ S I) := fun e => by have := h.sb I e; omega
  have LF := hide (left_all T0.out f.a)
  have G := hide g
  have FT := hide f
  have ID := hide ids
  clear h g f ids
  go_enter Try.func19, Try.ntmps19
  unfold opV
  go_wp2_with fail
  rw [← hW0, ← hI]
  clear hW0 hI
  refine Calls.mono LF.out ?_
  rintro e w1 ⟨v, rfl, ho, hb⟩
  have O1 : Hid (OpAt w1 I 3 a n mm s) := (hb.block _ (blk_lt O0.out)).trans O0.out
  have T1 := hide (T0.out.below hb)
  have B1 : Hid (Below w.heap.size w w1) := B0.out.trans (hb.mono B0.out.size)
  have OW := hide ho
  have NV : Hid (∀ k, v.ownBlock = some k → ¬ S k) := fun k e e2 => by have := (OW.out.lt k e).1; have := SB.out k e2; have := B0.out.size; omega
  have lle := live_le d.A
  have fa := FT.out.a
  clear ho hb LF O0 T0 B0
  obtain ⟨ba, cap, hv⟩ := own_sl OW.out
  subst hv
  have q0 := O1.out.c0
  have q2 := O1.out.c2
  have PS := b_drop T1.out G.out n
  by_cases hi : okI (live d.A) n
  case neg =>
    have e1 : drpD d n = d := by unfold drpD; rw [if_neg hi]
    have e2 : drpE (d.st 0) n = 131 := by unfold drpE; rw [if_neg (show ¬ okI (d.st 0).L n from hi)]
    have hor : n < 0 ∨ (0 ≤ n ∧ ((live d.A).length : Int) ≤ n) := by unfold okI at hi; omega
    rw [e1, e2] at PS
    have PS := hide PS
    have HD := hide e1
    clear e1 e2 hi
    go_wp2_with fail
    refine Calls.mono PS.out ?_
    rintro e w3 ⟨rfl, S3, T3, K3, N3⟩
    have O3 := hide (O1.out.kp K3 NI.out)
    have T3H := hide T3
    have W3 := hide (own_kp OW.out K3 NV.out)
    have KN3 : Hid (Kp w w3 S ∧ Nr w S S3) := ⟨(Kp.of_below B1.out S).trans K3 (fun _ e => Or.inl e), fun k e => by rcases N3 k e with a | a; exact Or.inl a; exact Or.inr (Nat.le_trans B1.out.size a)⟩
    have NI3 : Hid (¬ S3 I) := fun e => by
      rcases N3 I e with a | a
      · exact NI.out a
      · have := blk_lt O1.out; omega
    have NV3 : Hid (∀ k, (Value.slice ba (live d.A).length cap).ownBlock = some k → ¬ S3 k) := fun k e e2 => by
      rcases N3 k e2 with a | a
      · exact NV.out k e a
      · have := (OW.out.lt k e).2; omega
    clear T3 K3 N3 PS q0 q2
    have Z : Hid (Tb w3 S3 R Q (drpD d n) (drpD d n).A ∧ Kp w w3 S ∧ Nr w S S3) := ⟨by rw [HD.out]; exact T3H.out, KN3.out⟩
    have r2 := O3.out.c2
    rcases hor with h1 | ⟨h1, h2⟩
    · go_wp2_with (first | (go_at_call 10; refine Calls.mono (num_any _ _) ?_; rintro e w8 ⟨rfl, rfl⟩))
      go_ret
      exact ⟨by simp, S3, Z.out⟩
    · go_wp2_with (first | (go_at_call 10; refine Calls.mono (num_any _ _) ?_; rintro e w8 ⟨rfl, rfl⟩))
      go_ret
      exact ⟨by simp, S3, Z.out⟩
  case pos =>
    have e2 : drpE (d.st 0) n = 0 := by unfold drpE; rw [if_pos (show okI (d.st 0).L n from hi)]
    have e3 : (drpD d n).A = killI d.A n := by unfold drpD; rw [if_pos hi]
    obtain ⟨kk, hk, k1, k2, k3, k4⟩ := at_ok hi
    have hid : (ltI (live d.A) n).id = (kk : Int) + 1 := by
      have := ID.out kk hk
      rw [k2] at this
      exact this
    have K2H := hide k2
    have HID := hide hid
    have K3H := hide k3
    have hi2 := hi
    unfold okI at hi2
    obtain ⟨qn, rfl⟩ : ∃ qn : Nat, n = (qn : Int) := ⟨n.toNat, by omega⟩
    have hq : qn < (live d.A).length := by omega
    have hlt : ltI (live d.A) (qn : Int) = (live d.A)[qn] := by unfold ltI; simp [hq]
    have HLT := hide hlt
    rw [k3] at e3
    rw [e2] at PS
    have PS := hide PS
    have E3 := hide e3
    generalize ltI (live d.A) (qn : Int) = xx at *
    clear e2 e3 k1 k2 k3 k4 hid hi hi2 hlt
    go_wp2_with fail
    refine Calls.mono PS.out ?_
    rintro e w3 ⟨rfl, S3, T3, K3, N3⟩
    have O3 := hide (O1.out.kp K3 NI.out)
    have T3H := hide T3
    have W3 := hide (own_kp OW.out K3 NV.out)
    have KN3 : Hid (Kp w w3 S ∧ Nr w S S3) := ⟨(Kp.of_below B1.out S).trans K3 (fun _ e => Or.inl e), fun k e => by rcases N3 k e with a | a; exact Or.inl a; exact Or.inr (Nat.le_trans B1.out.size a)⟩
    have NI3 : Hid (¬ S3 I) := fun e => by
      rcases N3 I e with a | a
      · exact NI.out a
      · have := blk_lt O1.out; omega
    have NV3 : Hid (∀ k, (Value.slice ba (live d.A).length cap).ownBlock = some k → ¬ S3 k) := fun k e e2 => by
      rcases N3 k e2 with a | a
      · exact NV.out k e a
      · have := (OW.out.lt k e).2; omega
    clear T3 K3 N3 PS q0 q2
    obtain ⟨gl, capl, hgl⟩ := own_g W3.out (by omega)
    have hgl2 : ba = some ⟨gl, 0, none⟩ ∧ cap = capl := by
      simp only [Value.slice.injEq, true_and] at hgl
      exact hgl
    obtain ⟨rfl, rfl⟩ := hgl2
    clear hgl
    obtain ⟨l0, l1, l2, l3⟩ : w3.cell? ⟨gl, qn * 4, none⟩ = some (.int .i64 xx.id) ∧ w3.cell? ⟨gl, qn * 4 + 1, none⟩ = some (.int .i64 xx.fr) ∧ w3.cell? ⟨gl, qn * 4 + 2, none⟩ = some (.int .i64 xx.td) ∧ w3.cell? ⟨gl, qn * 4 + 3, none⟩ = some (.string xx.tx) := by
      obtain ⟨e1, e2, e3, e4⟩ := ltc_at (live d.A) qn hq
      rw [← HLT.out] at e1 e2 e3 e4
      exact ⟨(W3.out.cellAt (qn * 4) (by omega)).trans e1, (W3.out.cellAt (qn * 4 + 1) (by omega)).trans e2, (W3.out.cellAt (qn * 4 + 2) (by omega)).trans e3, (W3.out.cellAt (qn * 4 + 3) (by omega)).trans e4⟩
    have hqi : (qn : Int) < ((live d.A).length : Int) := by omega
    have OA := hide (out_all T3H.out xx kk hk K2H.out HID.out FT.out.a)
    unfold Lt.v at OA
    have r2 := O3.out.c2
    go_wp2_with (first | (go_at_call 10; refine Calls.mono (num_any _ _) ?_; rintro e w8 ⟨rfl, rfl⟩) | (go_at_call 39; refine Calls.mono OA.out ?_; rintro e w5 ⟨rfl, S5, T5, K5, N5⟩))
    go_ret
    obtain ⟨k4, n4⟩ := kp3 (Kp.refl w S) KN3.out.1 KN3.out.2 K5 N5
    refine ⟨by simp, S5, ?_, k4, n4⟩
    rw [E3.out]
    exact T5
set_option maxHeartbeats 8000000 in
set_option maxRecDepth 100000 in
set_option linter.unusedSimpArgs false in
set_option linter.unusedVariables false in
theorem step_copy {w : World} {S : Nat → Prop} {R Q : Nat} {d : DS} (h : Tb w S R Q d d.A) (g : DGood d) (f : DFit d) (ids : IdsOk d.A) (a n mm : Int) (s : ByteArray) (hf : OpFit a n s) :
    Calls Try.prog 19 #[.pointer (some ⟨Q, 0, none⟩), .pointer (some ⟨R, 0, none⟩), opV 4 a n mm s] w (StB w S R Q (stpD d 4 n mm s)) := by
  have SD : stpD d 4 n mm s = cpyD d n := by simp [stpD]
  rw [SD]
  clear SD
  obtain ⟨W0, hW0⟩ : ∃ W0, W0 = w.alloc (.cells #[.int .i64 4, .int .i64 a, .int .i64 n, .int .i64 mm, .string s] 41) := ⟨_, rfl⟩
  obtain ⟨I, hI⟩ : ∃ I, I = w.heap.size := ⟨_, rfl⟩
  have O0 : Hid (OpAt W0 I 4 a n mm s) := by subst hW0; subst hI; exact heap_last w _
  have B0 : Hid (Below w.heap.size w W0) := by subst hW0; exact (Below.refl _ w).alloc (Nat.le_refl _) _
  have T0 := hide (h.below B0.out)
  have SB : Hid (∀ k, S k → k < w.heap.size) := h.sb
  have NI : Hid (¬ S I) := fun e => by have := h.sb I e; omega
  have LF := hide (left_all T0.out f.a)
  have G := hide g
  have FT := hide f
  have ID := hide ids
  clear h g f ids
  go_enter Try.func19, Try.ntmps19
  unfold opV
  go_wp2_with fail
  rw [← hW0, ← hI]
  clear hW0 hI
  refine Calls.mono LF.out ?_
  rintro e w1 ⟨v, rfl, ho, hb⟩
  have O1 : Hid (OpAt w1 I 4 a n mm s) := (hb.block _ (blk_lt O0.out)).trans O0.out
  have T1 := hide (T0.out.below hb)
  have B1 : Hid (Below w.heap.size w w1) := B0.out.trans (hb.mono B0.out.size)
  have OW := hide ho
  have NV : Hid (∀ k, v.ownBlock = some k → ¬ S k) := fun k e e2 => by have := (OW.out.lt k e).1; have := SB.out k e2; have := B0.out.size; omega
  have lle := live_le d.A
  have fa := FT.out.a
  clear ho hb LF O0 T0 B0
  obtain ⟨ba, cap, hv⟩ := own_sl OW.out
  subst hv
  have q0 := O1.out.c0
  have q2 := O1.out.c2
  have PS := b_copy T1.out G.out FT.out n
  by_cases he : cpyE (d.st 0) n = 0
  case neg =>
    have e1 : cpyD d n = d := by unfold cpyD; rw [if_neg he]
    rw [e1] at PS
    have PS := hide PS
    have hb : (cpyE (d.st 0) n != 0) = true := by simp [he]
    have HD := hide e1
    generalize cpyE (d.st 0) n = E at *
    clear e1 he
    go_wp2_with (first | (go_at_call 17; refine Calls.mono PS.out ?_; rintro e w3 ⟨rfl, S3, T3, K3, N3⟩) | (go_at_call 10; refine Calls.mono (num_any _ _) ?_; rintro e w8 ⟨rfl, rfl⟩))
    go_ret
    refine ⟨rfl, S3, ?_, (Kp.of_below B1.out S).trans K3 (fun _ e => Or.inl e), fun k e => by rcases N3 k e with a | a; exact Or.inl a; exact Or.inr (Nat.le_trans B1.out.size a)⟩
    rw [HD.out]
    exact T3
  case pos =>
    have hi : okI (live d.A) n := by
      unfold cpyE at he
      split at he
      · assumption
      · simp at he
    have e3 : (cpyD d n).A = d.A ++ [(⟨(d.A.length : Int) + 1, (ltI (live d.A) n).fr, (ltI (live d.A) n).td, (ltI (live d.A) n).tx⟩, false)] := by unfold cpyD; rw [if_pos he]
    obtain ⟨kk, hk, k1, k2, k3, k4⟩ := at_ok hi
    have hid : (ltI (live d.A) n).id = (kk : Int) + 1 := by
      have := ID.out kk hk
      rw [k2] at this
      exact this
    have K2H := hide k2
    have HID := hide hid
    have K3H := hide k3
    have hi2 := hi
    unfold okI at hi2
    obtain ⟨qn, rfl⟩ : ∃ qn : Nat, n = (qn : Int) := ⟨n.toNat, by omega⟩
    have hq : qn < (live d.A).length := by omega
    have hlt : ltI (live d.A) (qn : Int) = (live d.A)[qn] := by unfold ltI; simp [hq]
    have HLT := hide hlt
    rw [he] at PS
    have PS := hide PS
    generalize ltI (live d.A) (qn : Int) = xx at *
    have E3 := hide e3
    clear he e3 k1 k2 k3 k4 hid hi hi2 hlt
    go_wp2_with fail
    refine Calls.mono PS.out ?_
    rintro e w3 ⟨rfl, S3, T3, K3, N3⟩
    have O3 := hide (O1.out.kp K3 NI.out)
    have T3H := hide T3
    have W3 := hide (own_kp OW.out K3 NV.out)
    have KN3 : Hid (Kp w w3 S ∧ Nr w S S3) := ⟨(Kp.of_below B1.out S).trans K3 (fun _ e => Or.inl e), fun k e => by rcases N3 k e with a | a; exact Or.inl a; exact Or.inr (Nat.le_trans B1.out.size a)⟩
    have NI3 : Hid (¬ S3 I) := fun e => by
      rcases N3 I e with a | a
      · exact NI.out a
      · have := blk_lt O1.out; omega
    have NV3 : Hid (∀ k, (Value.slice ba (live d.A).length cap).ownBlock = some k → ¬ S3 k) := fun k e e2 => by
      rcases N3 k e2 with a | a
      · exact NV.out k e a
      · have := (OW.out.lt k e).2; omega
    clear T3 K3 N3 PS q0 q2
    obtain ⟨gl, capl, hgl⟩ := own_g W3.out (by omega)
    have hgl2 : ba = some ⟨gl, 0, none⟩ ∧ cap = capl := by
      simp only [Value.slice.injEq, true_and] at hgl
      exact hgl
    obtain ⟨rfl, rfl⟩ := hgl2
    clear hgl
    obtain ⟨l0, l1, l2, l3⟩ : w3.cell? ⟨gl, qn * 4, none⟩ = some (.int .i64 xx.id) ∧ w3.cell? ⟨gl, qn * 4 + 1, none⟩ = some (.int .i64 xx.fr) ∧ w3.cell? ⟨gl, qn * 4 + 2, none⟩ = some (.int .i64 xx.td) ∧ w3.cell? ⟨gl, qn * 4 + 3, none⟩ = some (.string xx.tx) := by
      obtain ⟨e1, e2, e3, e4⟩ := ltc_at (live d.A) qn hq
      rw [← HLT.out] at e1 e2 e3 e4
      exact ⟨(W3.out.cellAt (qn * 4) (by omega)).trans e1, (W3.out.cellAt (qn * 4 + 1) (by omega)).trans e2, (W3.out.cellAt (qn * 4 + 2) (by omega)).trans e3, (W3.out.cellAt (qn * 4 + 3) (by omega)).trans e4⟩
    have hqi : (qn : Int) < ((live d.A).length : Int) := by omega
    have r2 := O3.out.c2
    obtain ⟨W4, hW4⟩ : ∃ W4, W4 = w3.alloc (.cells #[.int .i64 xx.id, .int .i64 xx.fr, .int .i64 xx.td, .string xx.tx] 33) := ⟨_, rfl⟩
    obtain ⟨J, hJ⟩ : ∃ J, J = w3.heap.size := ⟨_, rfl⟩
    have B4 : Hid (Below w3.heap.size w3 W4) := by subst hW4; exact (Below.refl _ w3).alloc (Nat.le_refl _) _
    have J4 : Hid (LtAt W4 J xx) := by subst hW4; subst hJ; exact heap_last w3 _
    have NJ : Hid (¬ S3 J) := fun e => by have := T3H.out.sb J e; omega
    have HJ := hide hJ
    have T4 := hide (T3H.out.below B4.out)
    go_upto_region 23 with (first | (go_at_call 10; refine Calls.mono (num_any _ _) ?_; rintro e w8 ⟨rfl, rfl⟩))
    rw [← hW4, ← hJ]
    clear hW4 hJ l0 l1 l2 l3 r2
    obtain ⟨S1, S2, nn, tm1, tm2, ⟨vA, vG, tb⟩, tm3, tm4⟩ := T4.out
    obtain ⟨bA, capA, hvA⟩ := own_sl tb.rA
    rw [List.length_map] at hvA
    have c0 := tb.c0
    rw [hvA] at c0
    clear tm1 tm2 tb tm3 tm4 hvA
    have j0 := J4.out.c0
    have z0 := J4.out.fz 0
    have x1 : wrap64 ((d.A.length : Int) + 1) = (d.A.length : Int) + 1 := wrap_in (by omega) (by omega)
    have J5 : Hid (LtAt (W4.setCell ⟨J, 0, none⟩ (.int .i64 ((d.A.length : Int) + 1))) J ⟨(d.A.length : Int) + 1, xx.fr, xx.td, xx.tx⟩) := heap_setCell _ _ _ _ _ _ _ J4.out
    have KJ : Hid (Kp W4 (W4.setCell ⟨J, 0, none⟩ (.int .i64 ((d.A.length : Int) + 1))) (fun k => k = J)) := Kp.set (S := fun k => k = J) (Kp.refl W4 _) (Or.inl rfl) 0 _
    have T5 := hide (T4.out.kp KJ.out (fun k e e2 => NJ.out (by rw [← e2]; exact e)))
    obtain ⟨W5, hW5⟩ : ∃ W5, W5 = W4.setCell ⟨J, 0, none⟩ (.int .i64 ((d.A.length : Int) + 1)) := ⟨_, rfl⟩
    rw [← hW5] at J5 KJ T5
    have NO := hide (note_all T5.out ⟨(d.A.length : Int) + 1, xx.fr, xx.td, xx.tx⟩ rfl FT.out.a)
    unfold Lt.v at NO
    go_upto_region 24 with fail
    rw [← hW5]
    clear hW5 j0 z0 c0
    have f0 := J5.out.c0
    have f1 := J5.out.c1
    have f2 := J5.out.c2
    have f3 := J5.out.c3
    go_wp2_with (first | (go_at_call 38; refine Calls.mono NO.out ?_; rintro e w6 ⟨rfl, S6, T6, K6, N6⟩))
    go_ret
    have kk2 := ((Kp.of_below B4.out S3).trans KJ.out (fun k e => by subst e; exact Or.inr (by rw [HJ.out]; exact Nat.le_refl _))).trans K6 (fun _ e => Or.inl e)
    have nn2 : Nr w3 S3 S6 := fun k e => by
      rcases N6 k e with a | a
      · exact Or.inl a
      · exact Or.inr (Nat.le_trans (Nat.le_trans B4.out.size KJ.out.size) a)
    obtain ⟨k4, n4⟩ := kp3 (Kp.refl w S) KN3.out.1 KN3.out.2 kk2 nn2
    refine ⟨rfl, S6, ?_, k4, n4⟩
    rw [E3.out]
    exact T6
end Go.Proofs.Ytnphdbmacccblaa
