import Derived.Test.YtpoegknmkbnjlaaDoorGEtMv3
import Derived.Test.YtpoegknmkbnjlaaDoorGErTake
import Derived.Test.YtpoegknmkbnjlaaDoorGErNil
import Derived.Test.YtpoegknmkbnjlaaDoorGEpAsk
import Derived.Test.YtpoegknmkbnjlaaDoorGGcApp
import Derived.Test.YtpoegknmkbnjlaaDoorGGcDoc
namespace Go.Proofs.YtpoegknmkbnjlaaDoor.Cn
open Go.RowKit
set_option maxHeartbeats 16000000 in
set_option maxRecDepth 100000 in
set_option linter.unusedSimpArgs false in
set_option linter.unusedVariables false in
theorem plays_rep {w : World} {D o : Nat} {A : Array Value} {own ref sv : Value} {SL : List Mg} {B : Nat → Prop} {n : Nat} (h : Dk w D o A own ref sv SL B n) (hn : n ≤ 99999999999) (s : Sp) (hk : s.k = 5) :
    Calls Tryd.prog 9 #[.pointer (some ⟨D, o, none⟩), .agg (spV s)] w fun e w' => e = .returned (.bool true) ∧ Played w w' D o A own ref sv B (n + 3) := by
  obtain ⟨Bo, hBo⟩ : ∃ Bo, Bo = w.heap.size := ⟨_, rfl⟩
  obtain ⟨W0, hW0⟩ : ∃ W0, W0 = w.alloc (.cells (spV s) 38) := ⟨_, rfl⟩
  have k0 : Kp w W0 non := by rw [hW0]; exact (Kp.refl w non).alloc _
  have ob0 : W0.heap[Bo]? = some (.cells (spV s) 38) := by rw [hW0, hBo]; exact heap_last w _
  have h0 := h.kp0 k0
  have x3 : ∃ x3v, W0.cell? ⟨D, o + 3, none⟩ = some x3v := by rw [cell_row h0.blk]; exact ⟨_, Array.getElem?_eq_getElem (by rw [h0.sz]; rcases h0.oo with e | e <;> omega)⟩
  obtain ⟨x3v, x3⟩ := x3
  have f3 := fz_row h0.blk (o + 3)
  obtain ⟨d1, e1⟩ := h0.out (.slice none 0 0)
  obtain ⟨W1, hW1⟩ : ∃ W1, W1 = W0.setCell ⟨D, o + 3, none⟩ (.slice none 0 0) := ⟨_, rfl⟩
  rw [← hW1] at d1 e1
  obtain ⟨A1, hA1⟩ : ∃ A1, A1 = A.setIfInBounds (o + 3) (.slice none 0 0) := ⟨_, rfl⟩
  rw [← hA1] at d1 e1
  have ob1 : W1.heap[Bo]? = some (.cells (spV s) 38) := by
    rw [hW1]
    exact (((Kp.refl W0 (fun k => k = D)).set (Or.inl rfl) _ _ : Kp W0 (W0.setCell ⟨D, o + 3, none⟩ (.slice none 0 0)) (fun k => k = D)).block _ (blk_lt ob0) (fun e => by have := blk_lt h.blk; omega)).trans ob0
  have D1 := hide d1
  have E1 : Hid (Dn w W1 D o A A1 B B sv sv) := (Dn.same k0).trans e1
  have OB1 := hide ob1
  have c0 : W1.cell? ⟨Bo, 0, none⟩ = some (.int .i64 5) := by rw [cell_row ob1, ← hk]; rfl
  have LT : Hid (Bo < W1.heap.size) := blk_lt ob1
  have NBo : Hid (¬ B Bo ∧ Bo ≠ D) := ⟨fun e => by have := h.pa.lt e; omega, fun e => by have := blk_lt h.blk; omega⟩
  have HW1 := hide hW1
  clear h k0 ob0 h0 d1 e1 hA1 ob1 hW1 hk
  go_enter Tryd.func9, Tryd.ntmps9
  go_upto_region 1 with fail
  rw [← hW0, ← hBo]
  clear hW0 hBo
  go_upto_region 2 with fail
  rw [← HW1.out]
  clear x3 f3 HW1
  obtain ⟨rp, c, hp1, hp2, rq1, rq2⟩ := both_report D1.out.pa
  have CX : Hid (∀ X : World, Kp W1 X non → X.cell? ⟨D, o, none⟩ = some own ∧ X.cell? ⟨D, o + 1, none⟩ = some ref) := fun X hX => by
    have z := D1.out.kp0 hX
    rw [cell_row z.blk, cell_row z.blk]
    exact ⟨z.c0, z.c1⟩
  have RQ1 := hide (rq1 W1 (Kp.refl _ _))
  have RQ2 : Hid (∀ X, Kp W1 X non → Calls Tryd.prog 19 #[ref] X fun e w' => ∃ u1 u2, e = .returned (.tuple #[.agg (toA rp u1 u2), .int .i64 c]) ∧ RpAt X w' rp u1 u2 ∧ Kp X w' non) := rq2
  have HP := hide (And.intro hp1 hp2)
  have TI := hide to_info
  obtain ⟨z0, -⟩ := CX.out W1 (Kp.refl _ _)
  clear rq1 rq2 hp1 hp2
  go_upto_region 13 with fail
  clear c0
  go_wp2_with fail
  refine Calls.mono RQ1.out ?_
  rintro e w2 ⟨u1, u2, rfl, r2, k2⟩
  have ON2 : Hid ((toA rp u1 u2).all (·.oneCell') = true) := to_one rp (sls r2.ps) (sls r2.ms)
  obtain ⟨W3, hW3⟩ : ∃ W3, W3 = w2.alloc (.cells (toA rp u1 u2) 57) := ⟨_, rfl⟩
  obtain ⟨G3, hG3⟩ : ∃ G3, G3 = w2.heap.size := ⟨_, rfl⟩
  have k3 : Kp w2 W3 non := by rw [hW3]; exact (Kp.refl w2 non).alloc _
  have HS3 : Hid ((w2.alloc (.cells #[.int .i64 0, .int .i64 0, .slice none 0 0, .slice none 0 0] 57)).setRow G3 (toA rp u1 u2) = W3) := by rw [hW3, hG3]; exact World.setRow_alloc_new _ _ _ _
  have HL3 : Hid ((w2.alloc (.cells #[.int .i64 0, .int .i64 0, .slice none 0 0, .slice none 0 0] 57)).heap[G3]? = some (.cells #[.int .i64 0, .int .i64 0, .slice none 0 0, .slice none 0 0] 57)) := by rw [hG3]; exact heap_last _ _
  have M3 : Hid (W3.heap[G3]? = some (.cells (toA rp u1 u2) 57)) := by rw [hW3, hG3]; exact heap_last _ _
  have K13 : Hid (Kp W1 W3 non) := k2.trans k3 (fun _ f => f.elim)
  have P3 : Hid (W3.ownsRow W1.heap.size 89 2 u1 rp.ps.length (prs rp.ps) ∧ W3.ownsRow W1.heap.size 3 1 u2 rp.ms.length (ints rp.ms)) := ⟨own_kp r2.ps k3 (fun _ _ f => f), own_kp r2.ms k3 (fun _ _ f => f)⟩
  have HG3 := hide hG3
  obtain ⟨-, z1⟩ := CX.out W3 K13.out
  have RR := hide (RQ2.out W3 K13.out)
  clear r2 k2 k3 hW3 hG3 z0 RQ1 RQ2
  go_upto_region 14 with (rw [← HG3.out]; refine wpList_stR rfl 57 (.tmp 7) (.tmp 63) rfl G3 rfl (toA rp u1 u2) #[.int .i64 0, .int .i64 0, .slice none 0 0, .slice none 0 0] rfl _ HL3.out TI.out rfl ON2.out ?_; rw [HS3.out])
  clear HS3 HL3 ON2 HG3
  go_wp2_with fail
  refine Calls.mono RR.out ?_
  rintro e w4 ⟨v1, v2, rfl, r4, k4⟩
  have ON4 : Hid ((toA rp v1 v2).all (·.oneCell') = true) := to_one rp (sls r4.ps) (sls r4.ms)
  obtain ⟨W5, hW5⟩ : ∃ W5, W5 = w4.alloc (.cells (toA rp v1 v2) 57) := ⟨_, rfl⟩
  obtain ⟨G5, hG5⟩ : ∃ G5, G5 = w4.heap.size := ⟨_, rfl⟩
  have k5 : Kp w4 W5 non := by rw [hW5]; exact (Kp.refl w4 non).alloc _
  have HS5 : Hid ((w4.alloc (.cells #[.int .i64 0, .int .i64 0, .slice none 0 0, .slice none 0 0] 57)).setRow G5 (toA rp v1 v2) = W5) := by rw [hW5, hG5]; exact World.setRow_alloc_new _ _ _ _
  have HL5 : Hid ((w4.alloc (.cells #[.int .i64 0, .int .i64 0, .slice none 0 0, .slice none 0 0] 57)).heap[G5]? = some (.cells #[.int .i64 0, .int .i64 0, .slice none 0 0, .slice none 0 0] 57)) := by rw [hG5]; exact heap_last _ _
  have M5 : Hid (W5.heap[G5]? = some (.cells (toA rp v1 v2) 57)) := by rw [hW5, hG5]; exact heap_last _ _
  have K35 : Hid (Kp W3 W5 non) := k4.trans k5 (fun _ f => f.elim)
  have K15 : Hid (Kp W1 W5 non) := K13.out.trans K35.out (fun _ f => f.elim)
  have M35 : Hid (W5.heap[G3]? = some (.cells (toA rp u1 u2) 57)) := K35.out.blk0 M3.out
  have SR := hide (sameRep_x (w := W5) rp (own_kp P3.out.1 K35.out (fun _ _ f => f)) (own_kp r4.ps k5 (fun _ _ f => f)) (own_kp P3.out.2 K35.out (fun _ _ f => f)) (own_kp r4.ms k5 (fun _ _ f => f)) (by have := HP.out; omega) (by have := HP.out; omega))
  have HG5 := hide hG5
  have NU := hide num21
  clear r4 k4 k5 hW5 hG5 z1 RR M3 P3
  go_upto_region 15 with (rw [← HG5.out]; refine wpList_stR rfl 57 (.tmp 9) (.tmp 71) rfl G5 rfl (toA rp v1 v2) #[.int .i64 0, .int .i64 0, .slice none 0 0, .slice none 0 0] rfl _ HL5.out TI.out rfl ON4.out ?_; rw [HS5.out])
  clear HS5 HL5 ON4 HG5
  go_wp2_with (first | refine wpList_ldR rfl 57 (.tmp 7) rfl G3 rfl _ (toA rp u1 u2) M35.out Tryd.underlying57 TI.out ?_ | refine wpList_ldR rfl 57 (.tmp 9) rfl G5 rfl _ (toA rp v1 v2) M5.out Tryd.underlying57 TI.out ?_)
  refine Calls.mono SR.out ?_
  rintro e w6 ⟨rfl, k6⟩
  have K16 : Hid (Kp W1 w6 non) := K15.out.trans k6 (fun _ f => f.elim)
  have qc : (c == c) = true := by simp
  clear k6 SR
  go_wp2_with (go_at_call 13; refine Calls.mono (NU.out _ _) ?_; rintro e w7 ⟨rfl, rfl⟩)
  go_ret
  exact ⟨rfl, A1, sv, SL, B, (D1.out.kp0 K16.out).more (Nat.le_add_right _ _), E1.out.kp0 K16.out⟩
end Go.Proofs.YtpoegknmkbnjlaaDoor.Cn
namespace Go.Proofs.YtpoegknmkbnjlaaDoor.Cn
open Go.RowKit
theorem answer_fit {w : World} {base : Nat} {u : Value} {L : List Mg} (s : Sp) (hm : MgFit s.m) (h : w.ownsRow base 36 11 u L.length (mgs L)) (hl : L.length ≤ 1000000000000) :
    ∃ (m : Mg) (ok : Bool), MgFit m ∧ Calls Tryd.prog 15 #[u, .agg (spV s)] w fun e w' => e = .returned (.tuple #[.agg (mgV m), .bool ok]) ∧ Kp w w' non := by
  obtain ⟨a, c, rfl⟩ := own_sl h
  by_cases hc : 0 ≤ atW L.length s.v ∧ atW L.length s.v < (L.length : Int)
  · obtain ⟨g, c', e⟩ := own_g h (by omega)
    injection e with e1 _ e3
    subst e1 e3
    obtain ⟨q, hq⟩ := answer_yes s h hl (atW L.length s.v).toNat (by omega) (by omega)
    exact ⟨ansT q s.m, true, hm, hq⟩
  · exact ⟨mg0, false, ⟨by decide, by decide⟩, answer_no s a L.length c hl (by omega)⟩
set_option maxHeartbeats 16000000 in
set_option maxRecDepth 100000 in
set_option linter.unusedSimpArgs false in
set_option linter.unusedVariables false in
theorem plays_reply {w : World} {D o : Nat} {A : Array Value} {own ref sv : Value} {SL : List Mg} {B : Nat → Prop} {n : Nat} (h : Dk w D o A own ref sv SL B n) (hn : n ≤ 99999999999) (s : Sp) (hk : s.k = 6) (hm : MgFit s.m) :
    Calls Tryd.prog 9 #[.pointer (some ⟨D, o, none⟩), .agg (spV s)] w fun e w' => e = .returned (.bool true) ∧ Played w w' D o A own ref sv B (n + 3) := by
  obtain ⟨Bo, hBo⟩ : ∃ Bo, Bo = w.heap.size := ⟨_, rfl⟩
  obtain ⟨W0, hW0⟩ : ∃ W0, W0 = w.alloc (.cells (spV s) 38) := ⟨_, rfl⟩
  have k0 : Kp w W0 non := by rw [hW0]; exact (Kp.refl w non).alloc _
  have ob0 : W0.heap[Bo]? = some (.cells (spV s) 38) := by rw [hW0, hBo]; exact heap_last w _
  have h0 := h.kp0 k0
  have x3 : ∃ x3v, W0.cell? ⟨D, o + 3, none⟩ = some x3v := by rw [cell_row h0.blk]; exact ⟨_, Array.getElem?_eq_getElem (by rw [h0.sz]; rcases h0.oo with e | e <;> omega)⟩
  obtain ⟨x3v, x3⟩ := x3
  have f3 := fz_row h0.blk (o + 3)
  obtain ⟨d1, e1⟩ := h0.out (.slice none 0 0)
  obtain ⟨W1, hW1⟩ : ∃ W1, W1 = W0.setCell ⟨D, o + 3, none⟩ (.slice none 0 0) := ⟨_, rfl⟩
  rw [← hW1] at d1 e1
  obtain ⟨A1, hA1⟩ : ∃ A1, A1 = A.setIfInBounds (o + 3) (.slice none 0 0) := ⟨_, rfl⟩
  rw [← hA1] at d1 e1
  have ob1 : W1.heap[Bo]? = some (.cells (spV s) 38) := by
    rw [hW1]
    exact (((Kp.refl W0 (fun k => k = D)).set (Or.inl rfl) _ _ : Kp W0 (W0.setCell ⟨D, o + 3, none⟩ (.slice none 0 0)) (fun k => k = D)).block _ (blk_lt ob0) (fun e => by have := blk_lt h.blk; omega)).trans ob0
  have D1 := hide d1
  have E1 : Hid (Dn w W1 D o A A1 B B sv sv) := (Dn.same k0).trans e1
  have OB1 := hide ob1
  have c0 : W1.cell? ⟨Bo, 0, none⟩ = some (.int .i64 6) := by rw [cell_row ob1, ← hk]; rfl
  have LT : Hid (Bo < W1.heap.size) := blk_lt ob1
  have NBo : Hid (¬ B Bo ∧ Bo ≠ D) := ⟨fun e => by have := h.pa.lt e; omega, fun e => by have := blk_lt h.blk; omega⟩
  have HW1 := hide hW1
  have hs1 : True := trivial
  clear h k0 ob0 h0 d1 e1 hA1 ob1 hW1 hk
  go_enter Tryd.func9, Tryd.ntmps9
  go_upto_region 1 with fail
  rw [← hW0, ← hBo]
  clear hW0 hBo
  go_upto_region 2 with fail
  rw [← HW1.out]
  clear x3 f3 HW1
  obtain ⟨sva, svc, rfl⟩ := own_sl D1.out.sn
  have SLB : Hid (SL.length ≤ 1000000000000) := by have := D1.out.sl; show _ ≤ _; omega
  have CX : Hid (∀ X : World, Kp W1 X non → X.cell? ⟨D, o + 2, none⟩ = some (.slice sva SL.length svc) ∧ X.heap[Bo]? = some (.cells (spV s) 38)) := fun X hX => by
    have z := D1.out.kp0 hX
    rw [cell_row z.blk]
    exact ⟨z.c2, hX.blk0 OB1.out⟩
  have AN : ∀ X, Kp W1 X non → ∃ (m : Mg) (ok : Bool), MgFit m ∧ Calls Tryd.prog 15 #[.slice sva SL.length svc, .agg (spV s)] X fun e w' => e = .returned (.tuple #[.agg (mgV m), .bool ok]) ∧ Kp X w' non := fun X hX => answer_fit s hm (own_kp D1.out.sn hX (fun _ _ f => f)) SLB.out
  have HS1 := hide hs1
  clear hm hs1
  go_upto_region 8 with fail
  clear c0
  refine wp_region_held_drew (S := fun X => Kp W1 X non) (by kernel_rfl) ((Kp.refl W1 non).drew) (fun hHeld => ?_)
  refine wTk (i := 0) (v := (.pointer (some ⟨D, o, none⟩))) rfl ?_ ?_
  · intro w' hSw
    (try dsimp only at hSw)
    go_simp
  (try simp only [Act.put, List.getElem_toArray, List.getElem_cons_zero, List.getElem_cons_succ, List.setIfInBounds_toArray, List.set_cons_zero, List.set_cons_succ])
  refine wTk (i := 1) (v := (.pointer (some ⟨D, o, none⟩))) rfl ?_ ?_
  · intro w' hSw
    (try dsimp only at hSw)
    go_simp
  (try simp only [Act.put, List.getElem_toArray, List.getElem_cons_zero, List.getElem_cons_succ, List.setIfInBounds_toArray, List.set_cons_zero, List.set_cons_succ])
  refine wTk (i := 2) (v := (.pointer (some ⟨D, o + 2, none⟩))) rfl ?_ ?_
  · intro w' hSw
    (try dsimp only at hSw)
    go_simp
  (try simp only [Act.put, List.getElem_toArray, List.getElem_cons_zero, List.getElem_cons_succ, List.setIfInBounds_toArray, List.set_cons_zero, List.set_cons_succ])
  refine wTk (i := 3) (v := (.slice sva SL.length svc)) rfl ?_ ?_
  · intro w' hSw
    (try dsimp only at hSw)
    (have z := (CX.out _ hSw).1; go_simp)
  (try simp only [Act.put, List.getElem_toArray, List.getElem_cons_zero, List.getElem_cons_succ, List.setIfInBounds_toArray, List.set_cons_zero, List.set_cons_succ])
  refine wTk (i := 4) (v := (.agg (spV s))) rfl ?_ ?_
  · intro w' hSw
    (try dsimp only at hSw)
    (exact exec_ldSp (.tmp 3) rfl rfl (CX.out _ hSw).2)
  (try simp only [Act.put, List.getElem_toArray, List.getElem_cons_zero, List.getElem_cons_succ, List.setIfInBounds_toArray, List.set_cons_zero, List.set_cons_succ])
  refine wpAnyH_ready (rs := [5, 9]) (by kernel_rfl) (by simp) ?_
  refine AllReadyH.cons rfl (fun K hK => ?_) (AllReadyH.cons rfl (fun K hK => ?_) AllReadyH.nil)
  · skip
    obtain ⟨m, ok, hmf, an⟩ := AN _ ((Kp.refl W1 non).drew)
    have HMF := hide hmf
    go_simp
    refine Calls.mono an ?_
    rintro e w2 ⟨rfl, k2⟩
    have K2 : Hid (Kp W1 w2 non) := ((Kp.refl W1 non).drew).trans k2 (fun _ f => f.elim)
    clear k2 an AN hmf
    refine hK.out _ _ (K2.out) (fun hHeld => ?_)
    clear hK
    (try simp only [Act.put, List.setIfInBounds_toArray, List.set_cons_zero, List.set_cons_succ])
    refine wTk (i := 6) (v := (.tuple #[.agg (mgV m), .bool ok])) rfl ?_ ?_
    · intro w' hSw
      (try dsimp only at hSw)
      go_simp
    (try simp only [Act.put, List.getElem_toArray, List.getElem_cons_zero, List.getElem_cons_succ, List.setIfInBounds_toArray, List.set_cons_zero, List.set_cons_succ])
    refine wTk (i := 7) (v := (.agg (mgV m))) rfl ?_ ?_
    · intro w' hSw
      (try dsimp only at hSw)
      go_simp
    (try simp only [Act.put, List.getElem_toArray, List.getElem_cons_zero, List.getElem_cons_succ, List.setIfInBounds_toArray, List.set_cons_zero, List.set_cons_succ])
    refine wTk (i := 8) (v := (.bool ok)) rfl ?_ ?_
    · intro w' hSw
      (try dsimp only at hSw)
      go_simp
    (try simp only [Act.put, List.getElem_toArray, List.getElem_cons_zero, List.getElem_cons_succ, List.setIfInBounds_toArray, List.set_cons_zero, List.set_cons_succ])
    obtain ⟨G3, hG3⟩ : ∃ G3, G3 = w2.heap.size := ⟨_, rfl⟩
    obtain ⟨W3, hW3⟩ : ∃ W3, W3 = w2.alloc (.cells #[.int .i64 0, .int .i64 0, .int .i64 0, .int .i64 0, .int .i64 0, .int .i64 0, .int .i64 0, .int .i64 0, .int .i64 0, .string ⟨#[]⟩, .string ⟨#[]⟩] 36) := ⟨_, rfl⟩
    have HL3 : Hid (W3.heap[G3]? = some (.cells (mgV mg0) 36)) := by rw [hW3, hG3]; exact heap_last _ _
    have K3 : Hid (Kp W1 W3 non) := by rw [hW3]; exact K2.out.alloc _
    obtain ⟨W4, hW4⟩ : ∃ W4, W4 = W3.setRow G3 (mgV m) := ⟨_, rfl⟩
    have M4 : Hid (MgAt W4 G3 m) := by rw [hW4]; exact setRow_heap _ _ _ _ _ _ HL3.out
    have K4 : Hid (Kp W1 W4 non) := K3.out.trans (by rw [hW4]; exact (Kp.refl W3 (fun k => k = G3)).row (Or.inl rfl) _) (fun k e => Or.inr (by rw [e, hG3]; exact K2.out.size))
    have HW4 := hide hW4
    clear hW4
    refine wpAnyH_ready (rs := [9]) (by kernel_rfl) (by simp) ?_
    refine AllReadyH.cons rfl (fun K hK => ?_) AllReadyH.nil
    go_simp
    rw [← hW3, ← hG3]
    clear hW3 hG3
    refine hK.out _ _ (K3.out) (fun hHeld => ?_)
    clear hK
    (try simp only [Act.put, List.setIfInBounds_toArray, List.set_cons_zero, List.set_cons_succ])
    refine wpAnyH_ready (rs := [10]) (by kernel_rfl) (by simp) ?_
    refine AllReadyH.cons rfl (fun K hK => ?_) AllReadyH.nil
    refine wp_store_row 36 (.tmp 5) (.tmp 32) rfl G3 (mgV m) rfl rfl _ (mgV mg0) HL3.out mg_info rfl (mg_one _) ?_
    rw [← HW4.out]
    refine hK.out _ _ (K4.out) (fun hHeld => ?_)
    clear hK
    (try simp only [Act.put, List.setIfInBounds_toArray, List.set_cons_zero, List.set_cons_succ])
    clear HW4 HL3
    refine wpAnyH_ready (rs := [11]) (by kernel_rfl) (by simp) ?_
    refine AllReadyH.cons rfl (fun K hK => ?_) AllReadyH.nil
    go_simp
    refine hK.out _ _ (K4.out) (fun hHeld => ?_)
    clear hK
    (try simp only [Act.put, List.setIfInBounds_toArray, List.set_cons_zero, List.set_cons_succ])
    refine wpAnyH_done (by kernel_rfl) ?_ _
    clear hHeld CX
    have D4 := hide (D1.out.kp0 K4.out)
    have E4 := hide (E1.out.kp0 K4.out)
    have NU := hide num21
    cases ok
    · go_wp2_with fail
      go_ret
      exact ⟨rfl, A1, .slice sva SL.length svc, SL, B, D4.out.more (Nat.le_add_right _ _), E4.out⟩
    · have MV := hide (moves_take D4.out hn ⟨2, 0, 0, m⟩ rfl HMF.out)
      go_wp2_with (first | refine wpList_ldMGt (.tmp 5) rfl rfl m G3 rfl M4.out ?_ | refine wpList_blRGt 38 _ rfl rfl (spV ⟨2, 0, 0, m⟩) (by kernel_rfl) ?_)
      refine Calls.mono MV.out ?_
      rintro e w7 ⟨rfl, A', sv', SL', B', d7, e7⟩
      have D7 := hide d7
      have E7 := hide (E4.out.trans e7)
      clear d7 e7 MV
      go_wp2_with fail
      go_ret
      exact ⟨rfl, A', sv', SL', B', D7.out, E7.out⟩
  · skip
    obtain ⟨G3, hG3⟩ : ∃ G3, G3 = W1.heap.size := ⟨_, rfl⟩
    obtain ⟨W3, hW3⟩ : ∃ W3, W3 = (W1.alloc (.cells #[.int .i64 0, .int .i64 0, .int .i64 0, .int .i64 0, .int .i64 0, .int .i64 0, .int .i64 0, .int .i64 0, .int .i64 0, .string ⟨#[]⟩, .string ⟨#[]⟩] 36)).drew := ⟨_, rfl⟩
    have hl3 : W3.heap[G3]? = some (.cells (mgV mg0) 36) := by rw [hW3, hG3]; exact (heap_last W1 _ : (W1.alloc _).heap[W1.heap.size]? = _)
    have K3 : Hid (Kp W1 W3 non) := by rw [hW3]; exact ((Kp.refl W1 non).alloc _).drew
    obtain ⟨m, ok, hmf, an⟩ := AN _ K3.out
    have HMF := hide hmf
    have ANH := hide an
    have HG3L : Hid (W1.heap.size ≤ G3) := Nat.le_of_eq hG3.symm
    have HG3S : Hid (G3 < W3.heap.size) := blk_lt hl3
    have HLL := hide hl3
    go_simp
    rw [← hW3, ← hG3]
    clear hW3 hG3 hl3 an hmf AN
    refine hK.out _ _ (K3.out) (fun hHeld => ?_)
    clear hK
    (try simp only [Act.put, List.setIfInBounds_toArray, List.set_cons_zero, List.set_cons_succ])
    refine wpAnyH_ready (rs := [5]) (by kernel_rfl) (by simp) ?_
    refine AllReadyH.cons rfl (fun K hK => ?_) AllReadyH.nil
    go_simp
    refine Calls.mono ANH.out ?_
    rintro e w2 ⟨rfl, k2⟩
    have K2 : Hid (Kp W1 w2 non) := K3.out.trans k2 (fun _ f => f.elim)
    have HL3 : Hid (w2.heap[G3]? = some (.cells (mgV mg0) 36)) := k2.blk0 HLL.out
    clear k2 ANH
    obtain ⟨W4, hW4⟩ : ∃ W4, W4 = w2.setRow G3 (mgV m) := ⟨_, rfl⟩
    have M4 : Hid (MgAt W4 G3 m) := by rw [hW4]; exact setRow_heap _ _ _ _ _ _ HL3.out
    have K4 : Hid (Kp W1 W4 non) := K2.out.trans (by rw [hW4]; exact (Kp.refl w2 (fun k => k = G3)).row (Or.inl rfl) _) (fun k e => Or.inr (by rw [e]; exact HG3L.out))
    have HW4 := hide hW4
    clear hW4
    refine hK.out _ _ (K2.out) (fun hHeld => ?_)
    clear hK
    (try simp only [Act.put, List.setIfInBounds_toArray, List.set_cons_zero, List.set_cons_succ])
    refine wTk (i := 6) (v := (.tuple #[.agg (mgV m), .bool ok])) rfl ?_ ?_
    · intro w' hSw
      (try dsimp only at hSw)
      go_simp
    (try simp only [Act.put, List.getElem_toArray, List.getElem_cons_zero, List.getElem_cons_succ, List.setIfInBounds_toArray, List.set_cons_zero, List.set_cons_succ])
    refine wTk (i := 7) (v := (.agg (mgV m))) rfl ?_ ?_
    · intro w' hSw
      (try dsimp only at hSw)
      go_simp
    (try simp only [Act.put, List.getElem_toArray, List.getElem_cons_zero, List.getElem_cons_succ, List.setIfInBounds_toArray, List.set_cons_zero, List.set_cons_succ])
    refine wTk (i := 8) (v := (.bool ok)) rfl ?_ ?_
    · intro w' hSw
      (try dsimp only at hSw)
      go_simp
    (try simp only [Act.put, List.getElem_toArray, List.getElem_cons_zero, List.getElem_cons_succ, List.setIfInBounds_toArray, List.set_cons_zero, List.set_cons_succ])
    refine wpAnyH_ready (rs := [10]) (by kernel_rfl) (by simp) ?_
    refine AllReadyH.cons rfl (fun K hK => ?_) AllReadyH.nil
    refine wp_store_row 36 (.tmp 5) (.tmp 32) rfl G3 (mgV m) rfl rfl _ (mgV mg0) HL3.out mg_info rfl (mg_one _) ?_
    rw [← HW4.out]
    refine hK.out _ _ (K4.out) (fun hHeld => ?_)
    clear hK
    (try simp only [Act.put, List.setIfInBounds_toArray, List.set_cons_zero, List.set_cons_succ])
    clear HW4 HL3
    refine wpAnyH_ready (rs := [11]) (by kernel_rfl) (by simp) ?_
    refine AllReadyH.cons rfl (fun K hK => ?_) AllReadyH.nil
    go_simp
    refine hK.out _ _ (K4.out) (fun hHeld => ?_)
    clear hK
    (try simp only [Act.put, List.setIfInBounds_toArray, List.set_cons_zero, List.set_cons_succ])
    refine wpAnyH_done (by kernel_rfl) ?_ _
    clear hHeld CX
    have D4 := hide (D1.out.kp0 K4.out)
    have E4 := hide (E1.out.kp0 K4.out)
    have NU := hide num21
    cases ok
    · go_wp2_with fail
      go_ret
      exact ⟨rfl, A1, .slice sva SL.length svc, SL, B, D4.out.more (Nat.le_add_right _ _), E4.out⟩
    · have MV := hide (moves_take D4.out hn ⟨2, 0, 0, m⟩ rfl HMF.out)
      go_wp2_with (first | refine wpList_ldMGt (.tmp 5) rfl rfl m G3 rfl M4.out ?_ | refine wpList_blRGt 38 _ rfl rfl (spV ⟨2, 0, 0, m⟩) (by kernel_rfl) ?_)
      refine Calls.mono MV.out ?_
      rintro e w7 ⟨rfl, A', sv', SL', B', d7, e7⟩
      have D7 := hide d7
      have E7 := hide (E4.out.trans e7)
      clear d7 e7 MV
      go_wp2_with fail
      go_ret
      exact ⟨rfl, A', sv', SL', B', D7.out, E7.out⟩
end Go.Proofs.YtpoegknmkbnjlaaDoor.Cn
namespace Go.Proofs.YtpoegknmkbnjlaaDoor.Cn
open Go.RowKit
theorem plays_t {w : World} {D o : Nat} {A : Array Value} {own ref sv : Value} {SL : List Mg} {B : Nat → Prop} {n : Nat} (h : Dk w D o A own ref sv SL B n) (hn : n ≤ 99999999999) (s : Sp) (hm : MgFit s.m) :
    Calls Tryd.prog 9 #[.pointer (some ⟨D, o, none⟩), .agg (spV s)] w fun e w' => e = .returned (.bool true) ∧ Played w w' D o A own ref sv B (n + 3) := by
  by_cases h1 : s.k = 1
  · exact plays_mv1 h hn s h1 hm
  by_cases h2 : s.k = 2
  · exact plays_mv2 h hn s h2 hm
  by_cases h3 : s.k = 3
  · exact plays_mv3 h hn s h3 hm
  by_cases h4 : s.k = 4
  · exact plays_busy h hn s h4
  by_cases h5 : s.k = 5
  · exact plays_rep h hn s h5
  by_cases h6 : s.k = 6
  · exact plays_reply h hn s h6 hm
  exact plays_no h hn s h1 h2 h3 h4 h5 h6
/-- both desks, in one row; all their blocks lie behind N -/
structure De (w : World) (D N n : Nat) : Prop where
  h : ∃ (A : Array Value) (p q s : Value) (SL : List Mg) (B : Nat → Prop) (p' q' s' : Value) (SL' : List Mg) (B' : Nat → Prop), Dk w D 0 A p q s SL B n ∧ Dk w D 4 A p' q' s' SL' B' n ∧ (∀ k, B k → ¬ B' k) ∧ (∀ k, s.ownBlock = some k → s'.ownBlock ≠ some k) ∧ ∀ k, (k = D ∨ (B k ∨ s.ownBlock = some k) ∨ (B' k ∨ s'.ownBlock = some k)) → N ≤ k
/-- a desk of which another one's call has not touched -/
theorem Dk.beside {w w' : World} {D o o' : Nat} {A A' : Array Value} {own ref sv own' ref' sv' svn : Value} {SL SL' : List Mg} {B B' Bn : Nat → Prop} {n m : Nat} (h : Dk w D o A own ref sv SL B n) (h' : Dk w D o' A own' ref' sv' SL' B' m) (ho : o ≠ o') (hb : ∀ k, B k → ¬ B' k) (hs : ∀ k, sv.ownBlock = some k → sv'.ownBlock ≠ some k) (hd : Dn w w' D o A A' B Bn sv svn) (hblk : w'.heap[D]? = some (.cells A' 32)) (hsz : A'.size = 8) :
    Dk w' D o' A' own' ref' sv' SL' B' m ∧ (∀ k, Bn k → ¬ B' k) ∧ ∀ k, svn.ownBlock = some k → sv'.ownBlock ≠ some k := by
  have oo := h.oo
  have oo' := h'.oo
  have g : ∀ j, j < 4 → A'[o' + j]? = A[o' + j]? := fun j hj => hd.oth _ (by omega)
  have nS : ∀ k, (k = D ∨ B k ∨ sv.ownBlock = some k) → ¬ B' k ∧ (sv'.ownBlock ≠ some k) := fun k e => by
    rcases e with e | e | e
    · refine ⟨fun q => h'.dB (e ▸ q), fun q => (h'.sB q).2.1 e⟩
    · exact ⟨hb k e, fun q => by
        obtain ⟨c, hc⟩ := own_typ h'.sn q
        exact h.pa.not hc ms_not e⟩
    · exact ⟨fun q => by
        obtain ⟨c, hc⟩ := own_typ h.sn e
        exact h'.pa.not hc ms_not q, hs k e⟩
  refine ⟨⟨hblk, hsz, oo', by rw [show o' = o' + 0 from rfl, g 0 (by omega)]; exact h'.c0, by rw [g 1 (by omega)]; exact h'.c1, by rw [g 2 (by omega)]; exact h'.c2, h'.pa.kp hd.kp (fun k q e => (nS k e).1 q), own_kp h'.sn hd.kp (fun k q e => (nS k e).2 q), h'.sl⟩, fun k e q => ?_, fun k e q => ?_⟩
  · rcases hd.gb k e with z | z
    · exact hb k z q
    · have := h'.pa.lt q
      omega
  · rcases hd.gs k e with z | z
    · exact hs k z q
    · have := (h'.sB q).2.2
      omega
theorem De.kp0 {w w' : World} {D N n : Nat} (h : De w D N n) (hk : Kp w w' non) : De w' D N n := by
  obtain ⟨A, p, q, s, SL, B, p', q', s', SL', B', h1, h2, h3, h4, h5⟩ := h.h
  exact ⟨A, p, q, s, SL, B, p', q', s', SL', B', h1.kp0 hk, h2.kp0 hk, h3, h4, h5⟩
theorem De.lt {w : World} {D N n : Nat} (h : De w D N n) : D < w.heap.size ∧ N ≤ D := by
  obtain ⟨A, p, q, s, SL, B, p', q', s', SL', B', h1, h2, h3, h4, h5⟩ := h.h
  exact ⟨blk_lt h1.blk, h5 D (Or.inl rfl)⟩
theorem below_of {w w' : World} {N : Nat} {S : Nat → Prop} (h : Kp w w' S) (hN : N ≤ w.heap.size) (hS : ∀ k, S k → N ≤ k) : Below N w w' :=
  ⟨h.os, h.tape, h.output, h.size, fun k hk => h.block k (Nat.lt_of_lt_of_le hk hN) (fun e => by have := hS k e; omega)⟩
/-- a step of one of the two -/
theorem De.plays {w : World} {D N n : Nat} (h : De w D N n) (hn : n ≤ 99999999999) (i : Nat) (hi : i < 2) (s : Sp) (hm : MgFit s.m) :
    Calls Tryd.prog 9 #[.pointer (some ⟨D, i * 4, none⟩), .agg (spV s)] w fun e w' => e = .returned (.bool true) ∧ De w' D N (n + 3) ∧ Below N w w' := by
  obtain ⟨hD, hND⟩ := h.lt
  obtain ⟨A, p, q, s1, SL, B, p', q', s', SL', B', h1, h2, h3, h4, h5⟩ := h.h
  have hi2 : i = 0 ∨ i = 1 := by omega
  rcases hi2 with rfl | rfl
  · refine (plays_t h1 hn s hm).mono fun e w' he => ?_
    obtain ⟨rfl, A', sv', SLn, Bn, d, dn⟩ := he
    obtain ⟨d2, b2, s2⟩ := h1.beside h2 (by omega) h3 h4 dn d.blk d.sz
    refine ⟨rfl, ⟨A', p, q, sv', SLn, Bn, p', q', s', SL', B', d, d2.more (by omega), b2, s2, fun k e => ?_⟩, below_of dn.kp (by omega) (fun k e => ?_)⟩
    · rcases e with e | (e | e) | e
      · exact h5 k (Or.inl e)
      · rcases dn.gb k e with z | z
        · exact h5 k (Or.inr (Or.inl (Or.inl z)))
        · omega
      · rcases dn.gs k e with z | z
        · exact h5 k (Or.inr (Or.inl (Or.inr z)))
        · omega
      · exact h5 k (Or.inr (Or.inr e))
    · rcases e with e | e | e
      · exact h5 k (Or.inl e)
      · exact h5 k (Or.inr (Or.inl (Or.inl e)))
      · exact h5 k (Or.inr (Or.inl (Or.inr e)))
  · refine (plays_t h2 hn s hm).mono fun e w' he => ?_
    obtain ⟨rfl, A', sv', SLn, Bn, d, dn⟩ := he
    obtain ⟨d2, b2, s2⟩ := h2.beside h1 (by omega) (fun k e q => h3 k q e) (fun k e q => h4 k q e) dn d.blk d.sz
    refine ⟨rfl, ⟨A', p, q, s1, SL, B, p', q', sv', SLn, Bn, d2.more (by omega), d, fun k e q => b2 k q e, fun k e q => s2 k q e, fun k e => ?_⟩, below_of dn.kp (by omega) (fun k e => ?_)⟩
    · rcases e with e | e | e | e
      · exact h5 k (Or.inl e)
      · exact h5 k (Or.inr (Or.inl e))
      · rcases dn.gb k e with z | z
        · exact h5 k (Or.inr (Or.inr (Or.inl z)))
        · omega
      · rcases dn.gs k e with z | z
        · exact h5 k (Or.inr (Or.inr (Or.inr z)))
        · omega
    · rcases e with e | e | e
      · exact h5 k (Or.inl e)
      · exact h5 k (Or.inr (Or.inr (Or.inl e)))
      · exact h5 k (Or.inr (Or.inr (Or.inr e)))
end Go.Proofs.YtpoegknmkbnjlaaDoor.Cn
namespace Go.Proofs.YtpoegknmkbnjlaaDoor.Cn
open Go.RowKit
theorem new_rel (st : ByteArray) (x : Nat → Int) (ns : List ND) : Rel (newX st x ns (ptN ns)) (newR st x ns (ptN ns)) :=
  ⟨⟨rfl, rfl, rfl⟩, rfl, rfl, rfl, rfl, fun h => by simp [busyB, newX, rp0] at h, fun h => by simp [busyB, newX, rp0] at h⟩
def Nil2 (own ref : Value) : Prop := (own = .pointer none ∧ ref = .pointer none) ∨ ∃ X Y : Nat, own = .pointer (some ⟨X, 0, none⟩) ∧ ref = .pointer (some ⟨Y, 0, none⟩)
/-- both are made, of one definition that lies there twice -/
theorem new_both (N : Nat) (w : World) (st : ByteArray) (x : Nat → Int) (ao ao2 : Option Addr) (b o cap b2 o2 cap2 N2 : Nat) (pv pv2 : Nat → Value) (ns : List ND) (h : NsAt N w ao b o pv ns) (hN : N ≤ w.heap.size) (h2 : NsAt N2 w ao2 b2 o2 pv2 ns) (hN2 : N2 ≤ w.heap.size) (hs : st.size ≤ 9223372036854775807) (hT : YtpoegknmkbnjlaaDoor.TabG w) :
    ∃ er : Int, Calls Tryd.prog 11 #[.agg (clA st x (.slice ao ns.length cap))] w fun e w1 => ∃ own, e = .returned (.tuple #[own, .int .i64 er]) ∧ Below w.heap.size w w1 ∧ Calls Tryd.prog 12 #[.agg (clA st x (.slice ao2 ns.length cap2))] w1 fun e w2 => ∃ ref B, e = .returned (.tuple #[ref, .int .i64 er]) ∧ Below w1.heap.size w1 w2 ∧ Pa w2 own ref B 0 ∧ (∀ k, B k → w.heap.size ≤ k) ∧ Nil2 own ref := by
  by_cases he : errP st x ns = 0
  · refine ⟨0, (New_ok N w st x ao b o cap pv ns h hN hs he).mono fun e w1 hh => ?_⟩
    obtain ⟨X, rfl, Z, x1, g1, b1⟩ := hh
    have n2 : NsAt N2 w1 ao2 b2 o2 pv2 ns := h2.below (b1.mono hN2)
    refine ⟨_, rfl, b1, (New_r N2 w1 st x ao2 b2 o2 cap2 pv2 ns n2 (Nat.le_trans hN2 b1.size) hs (hT.below b1) he).mono fun e w2 hh => ?_⟩
    obtain ⟨Y, rfl, Zq, x2, g2, b2'⟩ := hh
    refine ⟨_, _, rfl, b2', Pa.two (x1.kp0 (Kp.of_below b2' non)) x2 ⟨new_rel st x ns, newX_ok he, Nat.zero_le _⟩ (fun k hk hr => ?_), fun k hk => ?_, Or.inr ⟨X, Y, rfl, rfl⟩⟩
    · have := x1.lt hk
      have := g2 k hr
      omega
    · rcases hk with hk | hk
      · exact g1 k hk
      · have := g2 k hk
        have := b1.size
        omega
  · refine ⟨errP st x ns, (New_no N w st x ao b o cap pv ns h hN hs he).mono fun e w1 hh => ?_⟩
    obtain ⟨rfl, b1⟩ := hh
    have n2 : NsAt N2 w1 ao2 b2 o2 pv2 ns := h2.below (b1.mono hN2)
    refine ⟨_, rfl, b1, (New_rno N2 w1 st x ao2 b2 o2 cap2 pv2 ns n2 (Nat.le_trans hN2 b1.size) hs (hT.below b1) he).mono fun e w2 hh => ?_⟩
    obtain ⟨rfl, b2'⟩ := hh
    exact ⟨_, fun _ => False, rfl, b2', Pa.nil w2 0, fun k hk => hk.elim, Or.inl ⟨rfl, rfl⟩⟩
end Go.Proofs.YtpoegknmkbnjlaaDoor.Cn
namespace Go.Proofs.YtpoegknmkbnjlaaDoor.Cn
open Go.RowKit
theorem wpList_apIB {w : World} {ops : Array Oper} {rest : List Oper} {o : Oper} {a : Act} {Q : Exit → Act → World → Prop} (hgd : o.guard = none) (x y : Operand) (ho : o.op = .call { callee := .builtin .append, args := #[x, y], argTypes := #[48, 48] }) (base : Nat) (v : Value) (n : Nat) (L : List Int) (hx : a.eval x = v) (hv : w.ownsRow base 3 1 v n (ints L)) (g : Nat) (m : Int) (hy : a.eval y = .slice (some ⟨g, 0, none⟩) 1 1) (hg : w.heap[g]? = some (.cells #[.int .i64 m] 3)) (hl : n < 17592186043904) (hb : base ≤ w.heap.size)
    (h : ∀ v' w', w'.ownsRow base 3 1 v' (n + 1) (ints (L ++ [m])) → w.grownBy w' v.ownBlock → (v'.ownBlock = v.ownBlock ∨ v'.ownBlock = some w.heap.size) → wpList Tryd.prog ops Q rest (a.put o.dst v') w') : wpList Tryd.prog ops Q (o :: rest) a w := by
  obtain ⟨i0, hi, hz0, hz1, hz2⟩ := info_parts int_infos
  refine wpList_append_own_at _ hgd _ _ 48 ho base 3 i0 _ 1 8 Tryd.underlying48 hi hz0 hz1 hz2 rfl (by decide) _ _ _ hx hv ⟨g, 0, none⟩ 1 1 (ints [m]) hy rfl ?_ (ints_one _) (by unfold maxLen; omega) (by omega) hb ?_
  · intro j u hj
    rw [Addr.add_mid, Nat.zero_add, cell_row hg]
    simpa [ints] using hj
  · intro v' w' h1 h2 _ h4
    rw [← ints_append] at h1
    exact h v' w' h1 h2 h4
set_option maxHeartbeats 16000000 in
set_option maxRecDepth 100000 in
set_option linter.unusedSimpArgs false in
set_option linter.unusedVariables false in
theorem cluster_any (N : Nat) (w : World) (st : ByteArray) (x : Nat → Int) (ao : Option Addr) (b o cap : Nat) (pv : Nat → Value) (ns : List ND) (h : NsAt N w ao b o pv ns) (hN : N ≤ w.heap.size) :
    Calls Tryd.prog 10 #[.agg (clA st x (.slice ao ns.length cap))] w fun e w' => ∃ vl zs, e = .returned (.agg (clA st x vl)) ∧ zs.length = ns.length ∧ Tw (w.heap.size + 2) w' ns vl zs ∧ Below w.heap.size w w' := by
  have hps : ∀ (q : Nat) (hq : q < ns.length), ns[q].ps.length ≤ 17592186043904 := fun q hq => by
    obtain ⟨_, _, _, _, _, hp⟩ := h.ps q hq
    exact hp.len
  have hns := h.len
  obtain ⟨W0, hW0⟩ : ∃ W0, W0 = (w.alloc (.cells (clA st x (.slice ao ns.length cap)) 24)).alloc (.cells (clA ⟨#[]⟩ zx (.slice none 0 0)) 24) := ⟨_, rfl⟩
  have B0 : Hid (Below w.heap.size w W0) := by rw [hW0]; exact ((Below.refl _ _).alloc (Nat.le_refl _) _).alloc (by simp) _
  have C0 : Hid (ClAt W0 w.heap.size st x (.slice ao ns.length cap)) := by rw [hW0]; exact (new_cl _ _ _ _).below ((Below.refl _ _).alloc (Nat.le_refl _) _)
  have R0 : Hid (ClAt W0 (w.heap.size + 1) ⟨#[]⟩ zx (.slice none 0 0)) := by
    rw [hW0]
    have := new_cl (w.alloc (.cells (clA st x (.slice ao ns.length cap)) 24)) ⟨#[]⟩ zx (.slice none 0 0)
    simp only [World.size_alloc] at this
    exact this
  have s0 : Hid (W0.heap.size = w.heap.size + 2) := by rw [hW0]; show _ = _; simp
  have HN := hide h
  have hlen := h.len
  clear h
  obtain ⟨i0, hi0, hz0, hz1, hz2⟩ := YtpoegknmkbnjlaaDoor.info_parts infoNd
  have HI : Hid (Tryd.prog.info? 50 = some i0 ∧ i0.zero = some (.agg #[.int .i64 0, .slice none 0 0]) ∧ i0.size = 2 ∧ i0.bytes = 32) := ⟨hi0, hz0, hz1, hz2⟩
  clear hi0 hz0 hz1 hz2
  go_enter Tryd.func10, Tryd.ntmps10
  go_upto_region 1 with fail
  rw [show (w.alloc (.cells (clA st x (.slice ao ns.length cap)) 24)).alloc (.cells #[.string ⟨#[]⟩, .int .i64 0, .int .i64 0, .int .i64 0, .int .i64 0, .int .i64 0, .int .i64 0, .int .i64 0, .int .i64 0, .int .i64 0, .int .i64 0, .int .i64 0, .int .i64 0, .int .i64 0, .int .i64 0, .int .i64 0, .int .i64 0, .int .i64 0, .int .i64 0, .int .i64 0, .int .i64 0, .int .i64 0, .slice none 0 0] 24) = W0 from hW0.symm]
  clear hW0
  go_wp2_with fail
  go_loopw [3, 4, 5, 6] (fun vl vi _ _ wr => ∃ (zs : List (Int × Value)), zs.length ≤ ns.length ∧ vi = .int .i64 (zs.length : Int) ∧ Tw W0.heap.size wr ns vl zs ∧ Below W0.heap.size W0 wr) (fun _ vi _ _ _ => ns.length - (intOf vi).toNat)
  case atStart => exact ⟨[], Nat.zero_le _, rfl, ⟨World.ownsRow_nil _ _ _ _, fun q hq => absurd hq (Nat.not_lt_zero _), fun q hq => absurd hq (Nat.not_lt_zero _)⟩, Below.refl _ _⟩
  case round =>
    obtain ⟨zs, hq, rfl, hT, hB⟩ := hrel
    have HT := hide hT
    have HB := hide hB
    clear hT hB
    obtain ⟨ba, cp, hv⟩ := own_sl HT.out.row
    subst hv
    by_cases hql : zs.length < ns.length
    case pos =>
      have hao := HN.out.at0 (by omega)
      subst hao
      have hqi : (zs.length : Int) < (ns.length : Int) := by omega
      obtain ⟨pa, pb, po, pc, hpv, hp⟩ := HN.out.ps zs.length hql
      have P0 := hide hp
      have hpl := hps zs.length hql
      have CC : Hid (∀ Y, Below W0.heap.size W0 Y → Y.cell? ⟨w.heap.size, 22, none⟩ = some (.slice (some ⟨b, o, none⟩) ns.length cap) ∧ Y.cell? ⟨b, o + zs.length * 2, none⟩ = some (.int .i64 ns[zs.length].z) ∧ Y.cell? ⟨b, o + zs.length * 2 + 1, none⟩ = some (.slice pa ns[zs.length].ps.length pc)) := fun Y hY => by
        have hN0 := HN.out.below ((B0.out.trans (hY.mono B0.out.size)).mono hN)
        refine ⟨(C0.out.below hY).nv, hN0.cz _ hql, ?_⟩
        rw [← hpv]
        exact hN0.cp _ hql
      have PP : Hid (∀ Y, Below W0.heap.size W0 Y → PsAt N Y pa pb po ns[zs.length].ps) := fun Y hY => P0.out.below ((B0.out.trans (hY.mono B0.out.size)).mono hN)
      clear hpv hp P0
      have TS := hide (fun X1 X3 vl' v1 => HT.out.step (X1 := X1) (X3 := X3) (vl' := vl') (v1 := v1) hql)
      have nvw := (CC.out _ HB.out).1
      have hnn : ns.length ≤ 4398046510976 := hlen
      generalize hzz : ns[zs.length].z = z at *
      generalize hpp : ns[zs.length].ps = ps at *
      clear hzz hpp
      go_wp2_with fail
      clear nvw
      generalize wr = wo at *
      go_loopw [5, 6] (fun v5 vk wr => ∃ (j : Nat) (a5 : Option Addr) (c5 : Nat) (QQ : List Int), j ≤ ps.length ∧ vk = .int .i64 (j : Int) ∧ QQ = ps.take j ∧ v5 = .slice a5 QQ.length c5 ∧ wr.ownsRow W0.heap.size 3 1 (.slice a5 QQ.length c5) QQ.length (ints QQ) ∧ (∀ k, (Value.slice a5 QQ.length c5).ownBlock = some k → wo.heap.size ≤ k) ∧ Kp wo wr non) (fun _ vk _ => ps.length - (intOf vk).toNat)
      case atStart => exact ⟨0, none, 0, [], Nat.zero_le _, rfl, rfl, rfl, World.ownsRow_nil _ _ _ _, fun k e => by simp [Value.ownBlock] at e, Kp.refl _ _⟩
      case round =>
        obtain ⟨j, a5, c5, QQ, hj, rfl, hQ, rfl, ho, hge, hk⟩ := hrel
        have HQ := hide hQ
        have HO := hide ho
        have HGE := hide hge
        have HK := hide hk
        have bq : Below W0.heap.size W0 wr := HB.out.trans (hk.below.mono HB.out.size)
        obtain ⟨y1, y2, y3⟩ := CC.out wr bq
        have PQ := PP.out wr bq
        have BQ := hide bq
        clear hQ ho hge hk bq
        by_cases hjl : j < ps.length
        case pos =>
          have hji : (j : Int) < (ps.length : Int) := by omega
          obtain rfl := PQ.at0 (by omega)
          have cj := PQ.c j hjl
          have hQl : QQ.length < 17592186043904 := by
            rw [HQ.out, List.length_take]
            omega
          have HQ1 : Hid (QQ ++ [ps[j]] = ps.take (j + 1)) := by show _ = _; rw [HQ.out, List.take_succ_eq_append_getElem hjl]
          generalize ps[j] = pj at *
          obtain ⟨W4, hW4⟩ : ∃ W4, W4 = wr.alloc (.cells #[.int .i64 pj] 3) := ⟨_, rfl⟩
          have k4 : Kp wr W4 non := by rw [hW4]; exact (Kp.refl wr non).alloc _
          have GG : Hid (W4.heap[wr.heap.size]? = some (.cells #[.int .i64 pj] 3)) := by rw [hW4]; exact heap_last _ _
          have O4 := hide (own_kp HO.out k4 (fun _ _ f => f))
          have K4 : Hid (Kp wo W4 non) := HK.out.trans k4 (fun _ f => f.elim)
          have hz4 : Hid (W0.heap.size ≤ W4.heap.size ∧ wo.heap.size ≤ W4.heap.size) := ⟨Nat.le_trans BQ.out.size k4.size, K4.out.size⟩
          clear k4 PQ
          go_wp2_with (at_builtin; rw [← hW4]; refine wpList_apIB rfl (.tmp 25) (.tmp 35) rfl W0.heap.size _ QQ.length QQ rfl O4.out wr.heap.size pj rfl GG.out hQl hz4.out.1 ?_; intro v' w' o2 g2 n2; have O5 := hide o2; have KG := hide (Kp.of_grown g2); have N5 := hide n2; clear o2 g2 n2)
          obtain ⟨a6, c6, rfl⟩ := own_sl O5.out
          have K5 : Hid (Kp wo w' non) := K4.out.trans KG.out (fun k e => Or.inr (HGE.out k e.symm))
          have GE5 : Hid (∀ k, (Value.slice a6 (QQ.length + 1) c6).ownBlock = some k → wo.heap.size ≤ k) := fun k e => by
            rcases N5.out with r | r
            · exact HGE.out k (r.symm.trans e)
            · rw [e] at r
              simp at r
              have := hz4.out.2
              omega
          go_roundw
          case rel => exact ⟨j + 1, a6, c6, QQ ++ [pj], by omega, by go_num, HQ1.out, by rw [List.length_append]; rfl, by rw [List.length_append]; exact O5.out, by rw [List.length_append]; exact GE5.out, K5.out⟩
          case measure => simp [intOf]; omega
        case neg =>
          obtain rfl : j = ps.length := by omega
          have hQe := HQ.out
          rw [List.take_length] at hQe
          subst hQe
          have G1 : Below wo.heap.size wo wr := HK.out.below
          obtain ⟨W5, hW5⟩ : ∃ W5, W5 = wr.alloc (.cells #[.int .i64 z, .slice a5 QQ.length c5] 50) := ⟨_, rfl⟩
          have T1 : Hid (Tw W0.heap.size W5 ns (.slice ba zs.length cp) zs) := by rw [hW5]; exact (HT.out.keep G1).keep ((Below.refl _ _).alloc (Nat.le_refl _) _)
          have NC := hide (nd_cells wr z (.slice a5 QQ.length c5))
          rw [← hW5] at NC
          have hb5 : Hid (W0.heap.size ≤ W5.heap.size) := by rw [hW5]; exact Nat.le_trans BQ.out.size (by simp)
          have BB5 : Hid (Below W0.heap.size W0 W5) := by rw [hW5]; exact BQ.out.alloc BQ.out.size _
          have GN : Hid (wo.grownBy wr none) := ⟨G1.os, G1.tape, G1.output, G1.size, fun i hi _ => G1.block i hi⟩
          have HW5 : Hid (W5 = wr.alloc (.cells #[.int .i64 z, .slice a5 QQ.length c5] 50)) := hW5
          have hzl2 : zs.length < 4398046510976 := by omega
          clear PQ G1
          go_wp2_with (first
            | refine wpList_blR rfl 50 #[(0, .tmp 43), (1, .tmp 44)] rfl #[.int .i64 z, .slice a5 QQ.length c5] (built_nd _ _ _ _) ?_
            | refine wpList_plain rfl fun _ hK => wp_bsNd (.tmp 45) rfl rfl (hK _ _ ?_)
            | (at_builtin; rw [← hW5]; refine wpList_append_own_at _ rfl (.tmp 37) (.tmp 46) 22 rfl W0.heap.size 50 i0 _ 2 32 Tryd.underlying22 HI.out.1 HI.out.2.1 HI.out.2.2.1 HI.out.2.2.2 rfl (by decide) (.slice ba zs.length cp) zs.length (ndc zs) rfl T1.out.row ⟨wr.heap.size, 0, none⟩ 1 1 (ndc [(z, .slice a5 QQ.length c5)]) rfl rfl NC.out (nd_one rfl) (by unfold maxLen; omega) (by omega) hb5.out ?_; intro vl' X3 o3 g3 _ _; have O3 := hide o3; have G3 := hide g3; clear o3 g3))
          have g3' := G3.out
          rw [HW5.out] at g3'
          have T3 := hide (TS.out wr X3 vl' _ HO.out GN.out O3.out g3')
          have S3 : Hid (Below W0.heap.size W0 X3) := BB5.out.grown G3.out hb5.out (fun j hj => (YtpoegknmkbnjlaaDoor.own_lt T1.out.row hj).1)
          clear g3' hW5
          obtain ⟨ba', cp', hvl'⟩ := own_sl O3.out
          subst hvl'
          go_roundw
          case rel => exact ⟨zs ++ [(z, .slice a5 QQ.length c5)], by simp; omega, by simp, T3.out, S3.out⟩
          case measure => simp [intOf]; omega
    case neg =>
      have hqe : zs.length = ns.length := by omega
      rw [hqe] at HT ⊢
      have hqi : ¬ (ns.length : Int) < (ns.length : Int) := by omega
      have CW := C0.out.below HB.out
      have nvw := CW.nv
      have fvw : wr.frozen? ⟨w.heap.size, 22, none⟩ = false := fz_row CW 22
      obtain ⟨X6, hX6⟩ : ∃ X6, X6 = wr.setCell ⟨w.heap.size, 22, none⟩ (.slice ba ns.length cp) := ⟨_, rfl⟩
      have C6 : Hid (ClAt X6 w.heap.size st x (.slice ba ns.length cp)) := by rw [hX6]; exact CW.set _
      have B6 : Hid (Below w.heap.size w X6) := by rw [hX6]; exact set_below (B0.out.trans (HB.out.mono B0.out.size)) (Nat.le_refl _)
      have k6 : Kp wr X6 (fun k => k = w.heap.size) := by rw [hX6]; exact (Kp.refl wr (fun k => k = w.heap.size)).set (Or.inl rfl) _ _
      have R5 : ClAt wr (w.heap.size + 1) ⟨#[]⟩ zx (.slice none 0 0) := (HB.out.block _ (by have := s0.out; omega)).trans R0.out
      have R6 : Hid (ClAt X6 (w.heap.size + 1) ⟨#[]⟩ zx (.slice none 0 0)) := (k6.block _ (blk_lt R5) (by omega)).trans R5
      have T6 : Hid (Tw W0.heap.size X6 ns (.slice ba ns.length cp) zs) := ⟨own_keep HT.out.row fun g hg => k6.block g (YtpoegknmkbnjlaaDoor.own_lt HT.out.row hg).2 (by have := (YtpoegknmkbnjlaaDoor.own_lt HT.out.row hg).1; have := s0.out; omega), HT.out.z, fun q hq hq' => own_keep (HT.out.p q hq hq') fun g hg => k6.block g (YtpoegknmkbnjlaaDoor.own_lt (HT.out.p q hq hq') hg).2 (by have := (YtpoegknmkbnjlaaDoor.own_lt (HT.out.p q hq hq') hg).1; have := s0.out; omega)⟩
      clear CW k6 R5 HN hqi
      go_upto_region 12 with fail
      rw [← hX6]
      clear hX6 nvw fvw
      go_wp2_with (first | (refine wpList_loadCl rfl (.tmp 1) rfl w.heap.size st x _ rfl C6.out ?_) | (refine wpList_store_row rfl 24 (.tmp 2) (.tmp 50) rfl (w.heap.size + 1) (clA st x (.slice ba ns.length cp)) rfl rfl 24 _ R6.out infoCl rfl (clA_one st x rfl) ?_))
      have E6 : ClAt (X6.setRow (w.heap.size + 1) (clA st x (.slice ba ns.length cp))) (w.heap.size + 1) st x (.slice ba ns.length cp) := setRow_heap X6 (w.heap.size + 1) _ _ 24 _ R6.out
      have oth : ∀ i, i ≠ w.heap.size + 1 → (X6.setRow (w.heap.size + 1) (clA st x (.slice ba ns.length cp))).heap[i]? = X6.heap[i]? := fun i hi => setRow_other X6 (w.heap.size + 1) i _ (fun e => hi (by first | exact e | exact e.symm))
      have T7 : Tw W0.heap.size (X6.setRow (w.heap.size + 1) (clA st x (.slice ba ns.length cp))) ns (.slice ba ns.length cp) zs := ⟨own_keep T6.out.row fun g hg => oth g (by have := (YtpoegknmkbnjlaaDoor.own_lt T6.out.row hg).1; have := s0.out; omega), T6.out.z, fun q hq hq' => own_keep (T6.out.p q hq hq') fun g hg => oth g (by have := (YtpoegknmkbnjlaaDoor.own_lt (T6.out.p q hq hq') hg).1; have := s0.out; omega)⟩
      rw [s0.out] at T7
      have B7 : Below w.heap.size w (X6.setRow (w.heap.size + 1) (clA st x (.slice ba ns.length cp))) := below_setRow B6.out (by omega) _
      refine bodyPost_ret (v := .agg (clA st x (.slice ba ns.length cp))) (res_cl Tryd.results10 _ st x _ _ (w.heap.size + 1) rfl E6) rfl (by first | exact ⟨_, rfl, zs, hqe, T7, B7⟩ | exact ⟨_, zs, rfl, hqe, T7, B7⟩)
end Go.Proofs.YtpoegknmkbnjlaaDoor.Cn
