import Derived.Test.YteiiolilpemimaaDoorAaIs
namespace Go.Proofs.YteiiolilpemimaaDoor.Cn
open Go.RowKit
set_option maxHeartbeats 16000000 in
set_option maxRecDepth 100000 in
set_option linter.unusedSimpArgs false in
set_option linter.unusedVariables false in
theorem clone_a (s : ByteArray) (hs : s.size ≤ 1000) (w : World) :
    Calls Tryd.prog 55 #[.string s] w fun e w' => e = .returned (.string s) ∧ Kp w w' non := by
  have CL := hide (Tryd.stringslite_Clone s w (by omega))
  go_enter Tryd.func55, Tryd.ntmps55
  go_wp2_with fail
  refine Calls.mono CL.out ?_
  rintro e W1 ⟨rfl, b1⟩
  have B1 := hide b1
  clear b1
  go_wp2_with fail
  go_ret
  exact ⟨rfl, Kp.of_below B1.out non⟩
/-- something was told -/
theorem AuAt.tell {w w' : World} {A H hc M : Nat} {v : Au} (h : AuAt w A H hc M v) {T' : Tl} (hm : Mt w' M T') (hk : Kp w w' (fun b => b = M)) : AuAt w' A H hc M { v with told := T' } := by
  have off : ∀ {b e sz n' : Nat} {u : Value} {xs : List Value}, w.ownsRow b e sz u n' xs → w'.ownsRow b e sz u n' xs := fun {b e sz n' u xs} ho => own_kp ho hk (fun k hk' ek => by
    obtain ⟨cur, hcu⟩ := own_typ ho hk'
    exact h.map.kind (ek ▸ hcu))
  exact ⟨(hk.block _ (blk_lt h.blk) h.nAM).trans h.blk, off h.row, hm, fun x hx => off (h.sl x hx), off h.df, off h.ms⟩
theorem ask_b {w : World} {A H hc M : Nat} {v : Au} (h : AuAt w A H hc M v) (q : Nat) (hq : q < v.hs.length) (k : Ho) (hk : v.hs[q] = k) (p : Nat) (s : Sl) (hs : k.sl[p]? = some s) (hl : v.hs.length ≤ 1000) (hlp : k.sl.length ≤ 1000) :
    Calls Tryd.prog 32 #[.pointer (some ⟨A, 0, none⟩), .int .i64 (q : Int), .int .i64 (p : Int)] w fun e w' => e = .returned (.agg (mgV (qM v q s))) ∧ AuAt w' A H hc M (v.ask q k p) ∧ Kp w w' (AuS A H M) := by
  subst hk
  obtain ⟨hp, e⟩ := List.getElem?_eq_some_iff.1 hs
  have := ask_a h q hq p hp hl hlp
  rw [e] at this
  exact this
theorem leave_b {w : World} {A H hc M : Nat} {v : Au} (h : AuAt w A H hc M v) (q : Nat) (hq : q < v.hs.length) (k : Ho) (hk : v.hs[q] = k) (s : Int) (n : Nat) (hn : v.rp = (n : Int)) (hn16 : n ≤ 16) (hl : v.hs.length ≤ 1000) :
    Calls Tryd.prog 41 #[.pointer (some ⟨A, 0, none⟩), .int .i64 (q : Int), .int .i64 s] w fun e w' => e = .returned (.tuple #[]) ∧ ∃ v', Left n (v.put q k s) v' ∧ AuAt w' A H hc M v' ∧ Kp w w' (AuS A H M) := by
  subst hk
  exact leave_a h q hq s n hn hn16 hl
theorem own_mg1 (w : World) (m : Mg) {base : Nat} (h : base ≤ w.heap.size) : (w.alloc (.cells (mgV m) 41)).ownsRow base 41 11 (.slice (some ⟨w.heap.size, 0, none⟩) 1 1) [m].length (mgs [m]) :=
  ⟨rfl, Or.inr ⟨w.heap.size, 1, mgV m, rfl, h, heap_last w _, Nat.le_refl _, by unfold maxLen; omega, rfl, rfl⟩⟩
def okM (m : Mg) : Prop := m.code = 0 ∧ m.val.size = 16
def Au.hrd (v : Au) (s : Sl) (m : Mg) : Au := { v with told := putt v.told s (m.val, m.prev) }
set_option maxHeartbeats 16000000 in
set_option maxRecDepth 100000 in
set_option linter.unusedSimpArgs false in
set_option linter.unusedVariables false in
theorem hear_bad {w : World} {A H hc M : Nat} {v : Au} (h : AuAt w A H hc M v) (m : Mg) (q : Nat) (hq : q < v.hs.length) (hfr : m.fr = (q : Int)) (hm : ¬ okM m) (n : Nat) (hn : v.rp = (n : Int)) (hn16 : n ≤ 16) (hl : v.hs.length ≤ 1000) :
    Calls Tryd.prog 37 #[.pointer (some ⟨A, 0, none⟩), .agg (mgV m)] w fun e w' => e = .returned (.slice none 0 0) ∧ ∃ v', Left n (v.put q v.hs[q] 2) v' ∧ AuAt w' A H hc M v' ∧ Kp w w' (AuS A H M) := by
  obtain ⟨B, hB⟩ : ∃ B, B = w.heap.size := ⟨_, rfl⟩
  obtain ⟨W0, hW0⟩ : ∃ W0, W0 = w.alloc (.cells (mgV m) 41) := ⟨_, rfl⟩
  have k0 : Kp w W0 non := by rw [hW0]; exact (Kp.refl w non).alloc _
  have m0 : MgAt W0 B m := by rw [hW0, hB]; exact MgAt.new w m
  have K0 := hide k0
  obtain ⟨-, y1, -, -, -, -, -, -, y8, -, y10⟩ := m0.cells
  rw [hfr] at y1
  have LE := hide (leave_a (h.kp0 k0) q hq 2 n hn hn16 hl)
  clear h k0 m0 hfr hn
  obtain ⟨va, hva⟩ : ∃ va, va = v.put q v.hs[q] 2 := ⟨_, rfl⟩
  rw [← hva] at LE ⊢
  clear hva hq hl
  have HB := hide hB
  go_enter Tryd.func37, Tryd.ntmps37
  go_upto_region 1 with fail
  rw [← hW0, ← hB]
  clear hW0 hB
  by_cases hc0 : m.code = 0
  · have q1 : (m.code != 0) = false := by simpa using hc0
    have hv16 : ¬ m.val.size = 16 := fun e => hm ⟨hc0, e⟩
    have q2 : ((m.val.size : Int) != 16) = true := by simp; omega
    have q3 : (m.val.size != 16) = true := by simpa using hv16
    clear hc0 hv16 hm
    go_wp2_with (go_at_call 41; refine Calls.mono LE.out ?_; rintro e W1 ⟨rfl, hx⟩; have HX := hide hx; clear hx)
    go_ret
    obtain ⟨v', a1, a2, a3⟩ := HX.out
    exact ⟨rfl, v', a1, a2, (K0.out.mono (T := AuS A H M) (fun _ f => f.elim)).trans a3 (fun _ f => Or.inl f)⟩
  · have q1 : (m.code != 0) = true := by simpa using hc0
    clear hc0 hm
    go_wp2_with (go_at_call 41; refine Calls.mono LE.out ?_; rintro e W1 ⟨rfl, hx⟩; have HX := hide hx; clear hx)
    go_ret
    obtain ⟨v', a1, a2, a3⟩ := HX.out
    exact ⟨rfl, v', a1, a2, (K0.out.mono (T := AuS A H M) (fun _ f => f.elim)).trans a3 (fun _ f => Or.inl f)⟩
set_option maxHeartbeats 16000000 in
set_option maxRecDepth 100000 in
set_option linter.unusedSimpArgs false in
set_option linter.unusedVariables false in
theorem hear_ok {w : World} {A H hc M : Nat} {v : Au} (h : AuAt w A H hc M v) (m : Mg) (q : Nat) (hq : q < v.hs.length) (hfr : m.fr = (q : Int)) (hm : okM m) (k : Ho) (hk : v.hs[q] = k) (s : Sl) (hs : k.sl[k.pl]? = some s) (hso : slOk s) (hsl : k.sl.length ≤ 1000) (n : Nat) (hn : v.rp = (n : Int)) (hn16 : n ≤ 16) (hl : v.hs.length ≤ 1000) :
    Calls Tryd.prog 37 #[.pointer (some ⟨A, 0, none⟩), .agg (mgV m)] w fun e w' => ∃ u L v', e = .returned u ∧ w'.ownsRow w.heap.size 41 11 u L.length (mgs L) ∧ AuAt w' A H hc M v' ∧ Kp w w' (AuS A H M) ∧ ((∃ s', k.sl[k.pl + 1]? = some s' ∧ L = [qM v q s'] ∧ v' = (v.hrd s m).ask q k (k.pl + 1)) ∨ (k.sl[k.pl + 1]? = none ∧ L = [] ∧ Left n ((v.hrd s m).put q k 0) v')) := by
  obtain ⟨B, hB⟩ : ∃ B, B = w.heap.size := ⟨_, rfl⟩
  obtain ⟨W0, hW0⟩ : ∃ W0, W0 = w.alloc (.cells (mgV m) 41) := ⟨_, rfl⟩
  have k0 : Kp w W0 non := by rw [hW0]; exact (Kp.refl w non).alloc _
  have m0 : MgAt W0 B m := by rw [hW0, hB]; exact MgAt.new w m
  have K0 := hide k0
  have h0 := h.kp0 k0
  have HA := hide h0
  have M0 := hide m0
  have HFR := hide hfr
  have HKQ := hide hk
  obtain ⟨-, y1, -, -, -, -, -, -, y8, -, y10⟩ := m0.cells
  rw [hfr] at y1
  rw [hm.1] at y8
  obtain ⟨nn, hnn⟩ : ∃ nn, nn = v.hs.length := ⟨_, rfl⟩
  have HNN := hide hnn
  have hqn : q < nn := by rw [hnn]; exact hq
  have hqi : (q : Int) < (nn : Int) := by omega
  obtain ⟨hp, hpe⟩ := List.getElem?_eq_some_iff.1 hs
  have ONE : Hid ((hoV k).all (·.oneCell') = true) := by
    obtain ⟨ba, cap, e⟩ := own_sl (h0.sl _ (List.getElem_mem hq))
    rw [hk] at e
    unfold Hid
    simp [hoV, e, Value.oneCell']
  have C3 : Hid ((fun X => X.cell? ⟨A, 3, none⟩ = some (.slice (some ⟨H, 0, none⟩) nn hc) ∧ X.cell? ⟨B, 1, none⟩ = some (.int .i64 (q : Int)) ∧ X.rangeAt H (q * 5) (hoV k).toList) W0) := ⟨by have z := h0.cells.2.2.2.1; rw [← hnn] at z; exact z, y1, by rw [← hk]; exact h0.range q hq⟩
  have CLN := hide (clone_a m.val (by rw [hm.2]; omega))
  have SOK := hide hso
  have q2 : ((m.val.size : Int) != 16) = false := by rw [hm.2]; rfl
  have q3 : (m.val.size != 16) = false := by rw [hm.2]; rfl
  have HN := hide hn
  have HS := hide hs
  have hl' : nn ≤ 1000 := by rw [hnn]; exact hl
  have HL := hide hl
  have HSL := hide hsl
  have HB := hide hB
  clear h h0 k0 m0 hfr hn hso hk hm hl
  go_enter Tryd.func37, Tryd.ntmps37
  go_upto_region 1 with fail
  rw [← hW0, ← hB]
  clear hW0 hB
  go_upto_region 4 with fail
  clear y8 y10 q2 q3
  refine wp_region_held_drew (S := fun X => X.cell? ⟨A, 3, none⟩ = some (.slice (some ⟨H, 0, none⟩) nn hc) ∧ X.cell? ⟨B, 1, none⟩ = some (.int .i64 (q : Int)) ∧ X.rangeAt H (q * 5) (hoV k).toList) (by kernel_rfl) C3.out (fun hHeld => ?_)
  refine wpAnyH_take (i := 0) (v := (.pointer (some ⟨A, 0, none⟩))) rfl (by kernel_rfl) (by kernel_rfl) (by kernel_rfl) (fun _ _ _ h => h) (Or.inl ⟨by kernel_rfl, ?_⟩) (by assumption) ?_
  · intro w' hSw
    (try dsimp only at hSw)
    go_simp
  (try simp only [Act.put, List.getElem_toArray, List.getElem_cons_zero, List.getElem_cons_succ, List.setIfInBounds_toArray, List.set_cons_zero, List.set_cons_succ])
  refine wpAnyH_take (i := 1) (v := (.pointer (some ⟨A, 0, none⟩))) rfl (by kernel_rfl) (by kernel_rfl) (by kernel_rfl) (fun _ _ _ h => h) (Or.inl ⟨by kernel_rfl, ?_⟩) (by assumption) ?_
  · intro w' hSw
    (try dsimp only at hSw)
    go_simp
  (try simp only [Act.put, List.getElem_toArray, List.getElem_cons_zero, List.getElem_cons_succ, List.setIfInBounds_toArray, List.set_cons_zero, List.set_cons_succ])
  refine wpAnyH_take (i := 2) (v := (.pointer (some ⟨A, 3, none⟩))) rfl (by kernel_rfl) (by kernel_rfl) (by kernel_rfl) (fun _ _ _ h => h) (Or.inl ⟨by kernel_rfl, ?_⟩) (by assumption) ?_
  · intro w' hSw
    (try dsimp only at hSw)
    go_simp
  (try simp only [Act.put, List.getElem_toArray, List.getElem_cons_zero, List.getElem_cons_succ, List.setIfInBounds_toArray, List.set_cons_zero, List.set_cons_succ])
  refine wpAnyH_take (i := 3) (v := (.slice (some ⟨H, 0, none⟩) nn hc)) rfl (by kernel_rfl) (by kernel_rfl) (by kernel_rfl) (fun _ _ _ h => h) (Or.inl ⟨by kernel_rfl, ?_⟩) (by assumption) ?_
  · intro w' hSw
    (try dsimp only at hSw)
    (have z := hSw.1; go_simp)
  (try simp only [Act.put, List.getElem_toArray, List.getElem_cons_zero, List.getElem_cons_succ, List.setIfInBounds_toArray, List.set_cons_zero, List.set_cons_succ])
  refine wpAnyH_take (i := 4) (v := (.pointer (some ⟨B, 1, none⟩))) rfl (by kernel_rfl) (by kernel_rfl) (by kernel_rfl) (fun _ _ _ h => h) (Or.inl ⟨by kernel_rfl, ?_⟩) (by assumption) ?_
  · intro w' hSw
    (try dsimp only at hSw)
    go_simp
  (try simp only [Act.put, List.getElem_toArray, List.getElem_cons_zero, List.getElem_cons_succ, List.setIfInBounds_toArray, List.set_cons_zero, List.set_cons_succ])
  refine wpAnyH_take (i := 5) (v := (.int .i64 (q : Int))) rfl (by kernel_rfl) (by kernel_rfl) (by kernel_rfl) (fun _ _ _ h => h) (Or.inl ⟨by kernel_rfl, ?_⟩) (by assumption) ?_
  · intro w' hSw
    (try dsimp only at hSw)
    (have z := hSw.2.1; go_simp)
  (try simp only [Act.put, List.getElem_toArray, List.getElem_cons_zero, List.getElem_cons_succ, List.setIfInBounds_toArray, List.set_cons_zero, List.set_cons_succ])
  refine wpAnyH_take (i := 6) (v := (.pointer (some ⟨H, q * 5, none⟩))) rfl (by kernel_rfl) (by kernel_rfl) (by kernel_rfl) (fun _ _ _ h => h) (Or.inl ⟨by kernel_rfl, ?_⟩) (by assumption) ?_
  · intro w' hSw
    (try dsimp only at hSw)
    go_simp
  (try simp only [Act.put, List.getElem_toArray, List.getElem_cons_zero, List.getElem_cons_succ, List.setIfInBounds_toArray, List.set_cons_zero, List.set_cons_succ])
  refine wpAnyH_take (i := 7) (v := (.agg (hoV k))) rfl (by kernel_rfl) (by kernel_rfl) (by kernel_rfl) (fun _ _ _ h => h) (Or.inl ⟨by kernel_rfl, ?_⟩) (by assumption) ?_
  · intro w' hSw
    (try dsimp only at hSw)
    (exact exec_ldMid 76 (.tmp 26) rfl rfl (hoV k).toList hSw.2.2 Tryd.underlying76 ho_info)
  (try simp only [Act.put, List.getElem_toArray, List.getElem_cons_zero, List.getElem_cons_succ, List.setIfInBounds_toArray, List.set_cons_zero, List.set_cons_succ])
  refine wpAnyH_ready (rs := [8]) (by kernel_rfl) (by simp) ?_
  refine AllReadyH.cons rfl (fun K hK => ?_) AllReadyH.nil
  go_simp
  obtain ⟨C, hC⟩ : ∃ C, C = W0.heap.size := ⟨_, rfl⟩
  obtain ⟨Y1, hY1⟩ : ∃ Y1, Y1 = (W0.alloc (.cells #[.slice none 0 0, .int .i64 0, .int .i64 0, .int .i64 0, .int .i64 0] 76)).drew := ⟨_, rfl⟩
  have ky1 : Kp W0 Y1 non := by rw [hY1]; exact ((Kp.refl W0 non).alloc _).drew
  have gy1 : Y1.heap[C]? = some (.cells #[.slice none 0 0, .int .i64 0, .int .i64 0, .int .i64 0, .int .i64 0] 76) := by rw [hY1, hC]; exact heap_last W0 _
  obtain ⟨Y2, hY2⟩ : ∃ Y2, Y2 = Y1.setRow C (hoV k) := ⟨_, rfl⟩
  have ky2 : Kp W0 Y2 non := by rw [hY2]; exact ky1.row (Or.inr (by rw [hC]; exact Nat.le_refl _)) _
  have gy2 : Y2.heap[C]? = some (.cells (hoV k) 76) := by rw [hY2]; exact setRow_heap _ _ _ _ _ _ gy1
  have SS : ∀ X, Kp W0 X non → (fun X => X.cell? ⟨A, 3, none⟩ = some (.slice (some ⟨H, 0, none⟩) nn hc) ∧ X.cell? ⟨B, 1, none⟩ = some (.int .i64 (q : Int)) ∧ X.rangeAt H (q * 5) (hoV k).toList) X := fun X hX => by
    have hx := HA.out.kp0 hX
    refine ⟨?_, ?_, ?_⟩
    · have z := hx.cells.2.2.2.1
      rw [← HNN.out] at z
      exact z
    · have z := (M0.out.keep hX (fun f => f)).cells.2.1
      rw [HFR.out] at z
      exact z
    · rw [← HKQ.out]
      exact hx.range q (by rw [← HNN.out]; exact hqn)
  have T1 := hide (SS Y1 ky1)
  have T2 := hide (SS Y2 ky2)
  have KY := hide ky2
  have GY1 := hide gy1
  have GY2 := hide gy2
  have HC := hide hC
  rw [← hC, ← hY1]
  clear hC hY1 SS ky1 ky2 gy1 gy2
  refine hK.out _ _ (T1.out) (fun hHeld => ?_)
  clear hK
  (try simp only [Act.put, List.setIfInBounds_toArray, List.set_cons_zero, List.set_cons_succ])
  refine wpAnyH_ready (rs := [9]) (by kernel_rfl) (by simp) ?_
  refine AllReadyH.cons rfl (fun K hK => ?_) AllReadyH.nil
  refine wp_store_row 76 (.tmp 5) (.tmp 27) rfl C (hoV k) rfl rfl 76 _ GY1.out ho_info rfl ONE.out ?_
  rw [← hY2]
  clear hY2
  refine hK.out _ _ (T2.out) (fun hHeld => ?_)
  clear hK
  (try simp only [Act.put, List.setIfInBounds_toArray, List.set_cons_zero, List.set_cons_succ])
  refine wpAnyH_done (by kernel_rfl) ?_ _
  clear hHeld T1 T2 C3 GY1
  have HAY := hide (HA.out.kp0 KY.out)
  obtain ⟨g, sc, hsv, hs1, hs2, hgl, hgn⟩ := HAY.out.slot q hq k.pl (by rw [HKQ.out]; exact hp)
  simp only [HKQ.out] at hsv hs1 hs2
  rw [hpe] at hs1 hs2
  have gc : g ≠ C := fun e => by
    have o := HAY.out.sl _ (List.getElem_mem hq)
    obtain ⟨cur, hcu⟩ := own_typ o (g := g) (by rw [HKQ.out, hsv]; rfl)
    rw [e, GY2.out] at hcu
    simp at hcu
  have c54 : (fun X => X.cell? ⟨A, 7, none⟩ = some (.map (some M)) ∧ X.cell? ⟨C, 0, none⟩ = some (.slice (some ⟨g, 0, none⟩) k.sl.length sc) ∧ X.cell? ⟨C, 2, none⟩ = some (.int .i64 (k.pl : Int)) ∧ X.cell? ⟨B, 10, none⟩ = some (.string m.val) ∧ X.cell? ⟨B, 7, none⟩ = some (.int .i64 m.prev) ∧ X.rangeAt g (k.pl * 2) (slV s).toList) Y2 := ⟨HAY.out.cells.2.2.2.2.2.2.2.1, by rw [cell_row GY2.out, ← hsv]; rfl, by rw [cell_row GY2.out]; rfl, (M0.out.keep KY.out (fun f => f)).cells.2.2.2.2.2.2.2.2.2.2, (M0.out.keep KY.out (fun f => f)).cells.2.2.2.2.2.2.2.1, fun j u hj => by
    match j, hj with
    | 0, hj => simp [slV] at hj; rw [← hj]; exact hs1
    | 1, hj => simp [slV] at hj; rw [← hj]; exact hs2
    | (j + 2), hj => simp [slV] at hj⟩
  have C5 := hide c54
  have C5M : Hid (∀ X, Kp Y2 X (fun b => b = M) → (fun X => X.cell? ⟨A, 7, none⟩ = some (.map (some M)) ∧ X.cell? ⟨C, 0, none⟩ = some (.slice (some ⟨g, 0, none⟩) k.sl.length sc) ∧ X.cell? ⟨C, 2, none⟩ = some (.int .i64 (k.pl : Int)) ∧ X.cell? ⟨B, 10, none⟩ = some (.string m.val) ∧ X.cell? ⟨B, 7, none⟩ = some (.int .i64 m.prev) ∧ X.rangeAt g (k.pl * 2) (slV s).toList) X) := fun X hX => by
    have ne : ∀ {b o : Nat} {x : Value}, Y2.cell? ⟨b, o, none⟩ = some x → b ≠ M → X.cell? ⟨b, o, none⟩ = some x := fun {b o x} hx hb => (hX.cell (World.block_lt_of_cell? Y2 _ hx) hb).trans hx
    have nC : C ≠ M := fun e => HAY.out.map.kind (e ▸ GY2.out)
    have nB : B ≠ M := fun e => HAY.out.map.kind (e ▸ (M0.out.keep KY.out (fun f => f)))
    have ng : g ≠ M := fun e => hgn (Or.inr (Or.inr e))
    exact ⟨ne C5.out.1 HAY.out.nAM, ne C5.out.2.1 nC, ne C5.out.2.2.1 nC, ne C5.out.2.2.2.1 nB, ne C5.out.2.2.2.2.1 nB, fun j u hj => ne (C5.out.2.2.2.2.2 j u hj) ng⟩
  have C5K : Hid (∀ X, Kp Y2 X non → (fun X => X.cell? ⟨A, 7, none⟩ = some (.map (some M)) ∧ X.cell? ⟨C, 0, none⟩ = some (.slice (some ⟨g, 0, none⟩) k.sl.length sc) ∧ X.cell? ⟨C, 2, none⟩ = some (.int .i64 (k.pl : Int)) ∧ X.cell? ⟨B, 10, none⟩ = some (.string m.val) ∧ X.cell? ⟨B, 7, none⟩ = some (.int .i64 m.prev) ∧ X.rangeAt g (k.pl * 2) (slV s).toList) X) := fun X hX => C5M.out X (hX.mono (fun _ f => f.elim))
  have sl1 := HSL.out
  have hpi : (k.pl : Int) < (k.sl.length : Int) := by omega
  clear c54 hs1 hs2 hgl hgn gc hsv
  obtain ⟨p, hpp⟩ : ∃ p, p = k.pl := ⟨_, rfl⟩
  rw [← hpp] at C5 C5M C5K hpi
  obtain ⟨sn, hsn⟩ : ∃ sn, sn = k.sl.length := ⟨_, rfl⟩
  rw [← hsn] at C5 C5M C5K hpi sl1
  have HPP := hide hpp
  have HSN := hide hsn
  clear hpp hsn hpe hp
  go_upto_region 5 with fail
  refine wp_region_held_drew (S := fun X => X.cell? ⟨A, 7, none⟩ = some (.map (some M)) ∧ X.cell? ⟨C, 0, none⟩ = some (.slice (some ⟨g, 0, none⟩) sn sc) ∧ X.cell? ⟨C, 2, none⟩ = some (.int .i64 (p : Int)) ∧ X.cell? ⟨B, 10, none⟩ = some (.string m.val) ∧ X.cell? ⟨B, 7, none⟩ = some (.int .i64 m.prev) ∧ X.rangeAt g (p * 2) (slV s).toList) (by kernel_rfl) C5.out (fun hHeld => ?_)
  refine wpAnyH_take (i := 0) (v := (.pointer (some ⟨A, 0, none⟩))) rfl (by kernel_rfl) (by kernel_rfl) (by kernel_rfl) (fun _ _ _ h => h) (Or.inl ⟨by kernel_rfl, ?_⟩) (by assumption) ?_
  · intro w' hSw
    (try dsimp only at hSw)
    go_simp
  (try simp only [Act.put, List.getElem_toArray, List.getElem_cons_zero, List.getElem_cons_succ, List.setIfInBounds_toArray, List.set_cons_zero, List.set_cons_succ])
  refine wpAnyH_take (i := 1) (v := (.pointer (some ⟨A, 0, none⟩))) rfl (by kernel_rfl) (by kernel_rfl) (by kernel_rfl) (fun _ _ _ h => h) (Or.inl ⟨by kernel_rfl, ?_⟩) (by assumption) ?_
  · intro w' hSw
    (try dsimp only at hSw)
    go_simp
  (try simp only [Act.put, List.getElem_toArray, List.getElem_cons_zero, List.getElem_cons_succ, List.setIfInBounds_toArray, List.set_cons_zero, List.set_cons_succ])
  refine wpAnyH_take (i := 2) (v := (.pointer (some ⟨A, 7, none⟩))) rfl (by kernel_rfl) (by kernel_rfl) (by kernel_rfl) (fun _ _ _ h => h) (Or.inl ⟨by kernel_rfl, ?_⟩) (by assumption) ?_
  · intro w' hSw
    (try dsimp only at hSw)
    go_simp
  (try simp only [Act.put, List.getElem_toArray, List.getElem_cons_zero, List.getElem_cons_succ, List.setIfInBounds_toArray, List.set_cons_zero, List.set_cons_succ])
  refine wpAnyH_take (i := 3) (v := (.map (some M))) rfl (by kernel_rfl) (by kernel_rfl) (by kernel_rfl) (fun _ _ _ h => h) (Or.inl ⟨by kernel_rfl, ?_⟩) (by assumption) ?_
  · intro w' hSw
    (try dsimp only at hSw)
    (have z := hSw.1; go_simp)
  (try simp only [Act.put, List.getElem_toArray, List.getElem_cons_zero, List.getElem_cons_succ, List.setIfInBounds_toArray, List.set_cons_zero, List.set_cons_succ])
  refine wpAnyH_take (i := 4) (v := (.pointer (some ⟨C, 0, none⟩))) rfl (by kernel_rfl) (by kernel_rfl) (by kernel_rfl) (fun _ _ _ h => h) (Or.inl ⟨by kernel_rfl, ?_⟩) (by assumption) ?_
  · intro w' hSw
    (try dsimp only at hSw)
    go_simp
  (try simp only [Act.put, List.getElem_toArray, List.getElem_cons_zero, List.getElem_cons_succ, List.setIfInBounds_toArray, List.set_cons_zero, List.set_cons_succ])
  refine wpAnyH_take (i := 5) (v := (.slice (some ⟨g, 0, none⟩) sn sc)) rfl (by kernel_rfl) (by kernel_rfl) (by kernel_rfl) (fun _ _ _ h => h) (Or.inl ⟨by kernel_rfl, ?_⟩) (by assumption) ?_
  · intro w' hSw
    (try dsimp only at hSw)
    (have z := hSw.2.1; go_simp)
  (try simp only [Act.put, List.getElem_toArray, List.getElem_cons_zero, List.getElem_cons_succ, List.setIfInBounds_toArray, List.set_cons_zero, List.set_cons_succ])
  refine wpAnyH_take (i := 6) (v := (.pointer (some ⟨C, 2, none⟩))) rfl (by kernel_rfl) (by kernel_rfl) (by kernel_rfl) (fun _ _ _ h => h) (Or.inl ⟨by kernel_rfl, ?_⟩) (by assumption) ?_
  · intro w' hSw
    (try dsimp only at hSw)
    go_simp
  (try simp only [Act.put, List.getElem_toArray, List.getElem_cons_zero, List.getElem_cons_succ, List.setIfInBounds_toArray, List.set_cons_zero, List.set_cons_succ])
  refine wpAnyH_take (i := 7) (v := (.int .i64 (p : Int))) rfl (by kernel_rfl) (by kernel_rfl) (by kernel_rfl) (fun _ _ _ h => h) (Or.inl ⟨by kernel_rfl, ?_⟩) (by assumption) ?_
  · intro w' hSw
    (try dsimp only at hSw)
    (have z := hSw.2.2.1; go_simp)
  (try simp only [Act.put, List.getElem_toArray, List.getElem_cons_zero, List.getElem_cons_succ, List.setIfInBounds_toArray, List.set_cons_zero, List.set_cons_succ])
  refine wpAnyH_take (i := 8) (v := (.pointer (some ⟨g, p * 2, none⟩))) rfl (by kernel_rfl) (by kernel_rfl) (by kernel_rfl) (fun _ _ _ h => h) (Or.inl ⟨by kernel_rfl, ?_⟩) (by assumption) ?_
  · intro w' hSw
    (try dsimp only at hSw)
    go_simp
  (try simp only [Act.put, List.getElem_toArray, List.getElem_cons_zero, List.getElem_cons_succ, List.setIfInBounds_toArray, List.set_cons_zero, List.set_cons_succ])
  refine wpAnyH_take (i := 9) (v := (.agg (slV s))) rfl (by kernel_rfl) (by kernel_rfl) (by kernel_rfl) (fun _ _ _ h => h) (Or.inl ⟨by kernel_rfl, ?_⟩) (by assumption) ?_
  · intro w' hSw
    (try dsimp only at hSw)
    (exact exec_ldMid 85 (.tmp 36) rfl rfl (slV s).toList hSw.2.2.2.2.2 Tryd.underlying85 sl_info)
  (try simp only [Act.put, List.getElem_toArray, List.getElem_cons_zero, List.getElem_cons_succ, List.setIfInBounds_toArray, List.set_cons_zero, List.set_cons_succ])
  refine wpAnyH_take (i := 10) (v := (.pointer (some ⟨B, 10, none⟩))) rfl (by kernel_rfl) (by kernel_rfl) (by kernel_rfl) (fun _ _ _ h => h) (Or.inl ⟨by kernel_rfl, ?_⟩) (by assumption) ?_
  · intro w' hSw
    (try dsimp only at hSw)
    go_simp
  (try simp only [Act.put, List.getElem_toArray, List.getElem_cons_zero, List.getElem_cons_succ, List.setIfInBounds_toArray, List.set_cons_zero, List.set_cons_succ])
  refine wpAnyH_take (i := 11) (v := (.string m.val)) rfl (by kernel_rfl) (by kernel_rfl) (by kernel_rfl) (fun _ _ _ h => h) (Or.inl ⟨by kernel_rfl, ?_⟩) (by assumption) ?_
  · intro w' hSw
    (try dsimp only at hSw)
    (have z := hSw.2.2.2.1; go_simp)
  (try simp only [Act.put, List.getElem_toArray, List.getElem_cons_zero, List.getElem_cons_succ, List.setIfInBounds_toArray, List.set_cons_zero, List.set_cons_succ])
  refine wpAnyH_take (i := 13) (v := (.pointer (some ⟨B, 7, none⟩))) rfl (by kernel_rfl) (by kernel_rfl) (by kernel_rfl) (fun _ _ _ h => h) (Or.inl ⟨by kernel_rfl, ?_⟩) (by assumption) ?_
  · intro w' hSw
    (try dsimp only at hSw)
    go_simp
  (try simp only [Act.put, List.getElem_toArray, List.getElem_cons_zero, List.getElem_cons_succ, List.setIfInBounds_toArray, List.set_cons_zero, List.set_cons_succ])
  refine wpAnyH_take (i := 14) (v := (.int .i64 m.prev)) rfl (by kernel_rfl) (by kernel_rfl) (by kernel_rfl) (fun _ _ _ h => h) (Or.inl ⟨by kernel_rfl, ?_⟩) (by assumption) ?_
  · intro w' hSw
    (try dsimp only at hSw)
    (have z := hSw.2.2.2.2.1; go_simp)
  (try simp only [Act.put, List.getElem_toArray, List.getElem_cons_zero, List.getElem_cons_succ, List.setIfInBounds_toArray, List.set_cons_zero, List.set_cons_succ])
  refine wpAnyH_ready (rs := [12]) (by kernel_rfl) (by simp) ?_
  refine AllReadyH.cons rfl (fun K hK => ?_) AllReadyH.nil
  go_simp
  refine Calls.mono (CLN.out Y2.drew) ?_
  rintro e Y3 ⟨rfl, k3⟩
  have KY3 : Hid (Kp Y2 Y3 non) := ((Kp.refl Y2 non).drew).trans k3 (fun _ f => f.elim)
  have C53 := hide (C5K.out Y3 KY3.out)
  clear k3
  refine hK.out _ _ (C53.out) (fun hHeld => ?_)
  clear hK
  (try simp only [Act.put, List.setIfInBounds_toArray, List.set_cons_zero, List.set_cons_succ])
  refine wpAnyH_take (i := 15) (v := (.agg (ctV (m.val, m.prev)))) rfl (by kernel_rfl) (by kernel_rfl) (by kernel_rfl) (fun _ _ _ h => h) (Or.inl ⟨by kernel_rfl, ?_⟩) (by assumption) ?_
  · intro w' hSw
    (try dsimp only at hSw)
    (exact exec_bl 116 #[(0, .tmp 40), (1, .tmp 42)] rfl _ (by kernel_rfl))
  (try simp only [Act.put, List.getElem_toArray, List.getElem_cons_zero, List.getElem_cons_succ, List.setIfInBounds_toArray, List.set_cons_zero, List.set_cons_succ])
  obtain ⟨Y4, hpt, m4, k4⟩ := (HAY.out.kp0 KY3.out).map.put SOK.out (m.val, m.prev) (by have := (HAY.out.kp0 KY3.out).map.len; unfold maxLen; omega)
  have X4 : Hid (AuAt Y4 A H hc M { v with told := putt v.told s (m.val, m.prev) }) := (HAY.out.kp0 KY3.out).tell m4 k4
  have K4 : Hid (Kp W0 Y4 (AuS A H M)) := ((KY.out.trans KY3.out (fun _ f => f.elim)).mono (T := AuS A H M) (fun _ f => f.elim)).trans (T := fun b => b = M) k4 (fun k e => Or.inl (Or.inr (Or.inr e)))
  have KM : Hid (Kp Y2 Y4 (fun b => b = M)) := (KY3.out.mono (T := fun b => b = M) (fun _ f => f.elim)).trans k4 (fun _ e => Or.inl e)
  refine wpAnyH_ready (rs := [16]) (by kernel_rfl) (by simp) ?_
  refine AllReadyH.cons rfl (fun K hK => ?_) AllReadyH.nil
  go_simp
  have C54 : Hid ((fun X => X.cell? ⟨A, 7, none⟩ = some (.map (some M)) ∧ X.cell? ⟨C, 0, none⟩ = some (.slice (some ⟨g, 0, none⟩) sn sc) ∧ X.cell? ⟨C, 2, none⟩ = some (.int .i64 (p : Int)) ∧ X.cell? ⟨B, 10, none⟩ = some (.string m.val) ∧ X.cell? ⟨B, 7, none⟩ = some (.int .i64 m.prev) ∧ X.rangeAt g (p * 2) (slV s).toList) Y4) := C5M.out Y4 KM.out
  refine hK.out _ _ (C54.out) (fun hHeld => ?_)
  clear hK
  (try simp only [Act.put, List.setIfInBounds_toArray, List.set_cons_zero, List.set_cons_succ])
  refine wpAnyH_done (by kernel_rfl) ?_ _
  clear hHeld C5 C53 hpt m4 k4 KY3
  obtain ⟨-, x0, x2, -, -, -⟩ := C54.out
  have wp1 : IntKind.i64.wrap ((p : Int) + 1) = (p : Int) + 1 := i64_in (by omega) (by omega)
  have MB : Hid (MgAt Y4 B m) := (M0.out.keep KY.out (fun f => f)).keep KM.out (fun e => HAY.out.map.kind (e ▸ (M0.out.keep KY.out (fun f => f))))
  have x1 := MB.out.cells.2.1
  rw [HFR.out] at x1
  have KW : Hid (Kp w Y4 (AuS A H M)) := (K0.out.mono (T := AuS A H M) (fun _ f => f.elim)).trans K4.out (fun _ f => Or.inl f)
  have HV : Hid (({ v with told := putt v.told s (m.val, m.prev) } : Au) = v.hrd s m) := rfl
  rw [HV.out] at X4
  clear C54 KM C5M C5K HAY GY2 KY K4
  by_cases hmore : p + 1 < sn
  case pos =>
    have hmi : (p : Int) + 1 < (sn : Int) := by omega
    have hp1 : k.pl + 1 < k.sl.length := by rw [← HPP.out, ← HSN.out]; exact hmore
    obtain ⟨s', hs'⟩ : ∃ s', k.sl[k.pl + 1]? = some s' := ⟨_, List.getElem?_eq_getElem hp1⟩
    have ak := ask_b X4.out q hq k HKQ.out (k.pl + 1) s' hs' HL.out HSL.out
    rw [show ((k.pl + 1 : Nat) : Int) = (p : Int) + 1 by rw [HPP.out]; omega] at ak
    have AK := hide ak
    have S1 := hide hs'
    obtain ⟨mm, hmm⟩ : ∃ mm, mm = qM (v.hrd s m) q s' := ⟨_, rfl⟩
    rw [← hmm] at AK
    have HMM := hide hmm
    clear ak hmm hp1 hs'
    go_wp2_with (first
      | (go_at_call 32; refine Calls.mono AK.out ?_; rintro e W9 ⟨rfl, a9, k9⟩; have A9 := hide a9; have K9 : Hid (Kp w W9 (AuS A H M)) := KW.out.trans k9 (fun _ f => Or.inl f); clear a9 k9)
      | refine wpList_bsM rfl (.tmp 56) rfl mm rfl ?_)
    go_ret
    refine ⟨_, [mm], _, rfl, own_mg1 W9 mm K9.out.size, A9.out.kp0 ((Kp.refl W9 non).alloc _), K9.out.alloc _, Or.inl ⟨s', S1.out, by rw [HMM.out]; rfl, rfl⟩⟩
  case neg =>
    have hmi : ¬ (p : Int) + 1 < (sn : Int) := by omega
    have S1 : Hid (k.sl[k.pl + 1]? = none) := List.getElem?_eq_none (by have := HPP.out; have := HSN.out; omega)
    have LE := hide (leave_b X4.out q hq k HKQ.out 0 n HN.out hn16 HL.out)
    go_wp2_with (go_at_call 41; refine Calls.mono LE.out ?_; rintro e W9 ⟨rfl, hx⟩; have HX := hide hx; clear hx)
    go_ret
    obtain ⟨v', a1, a2, a3⟩ := HX.out
    exact ⟨_, [], v', rfl, World.ownsRow_nil _ _ _ _, a2, KW.out.trans a3 (fun _ f => Or.inl f), Or.inr ⟨S1.out, rfl, a1⟩⟩
end Go.Proofs.YteiiolilpemimaaDoor.Cn
namespace Go.Proofs.YteiiolilpemimaaDoor.Cn
open Go.RowKit
/-- what holds of a holder -/
structure Hok (v : Au) (k : Ho) : Prop where
  pl : k.stt = 1 → k.pl < k.sl.length
  sl : k.sl.length ≤ 64
  so : ∀ s ∈ k.sl, slOk s
  tm : k.stt = 1 → 1 ≤ k.tm ∧ k.tm ≤ v.lm
  ti : 0 ≤ k.ti ∧ k.ti ≤ v.now
  st : k.stt = 0 ∨ k.stt = 1 ∨ k.stt = 2
  em : k.sl = [] → k.stt = 0
/-- what an auditor keeps -/
structure Aok (v : Au) (n : Nat) : Prop where
  n0 : 0 < v.hs.length
  n16 : v.hs.length ≤ 16
  rp : v.rp = (n : Int)
  r16 : n ≤ 16
  lm : 1 ≤ v.lm ∧ v.lm ≤ 1000000000
  rs : 1 ≤ v.rs ∧ v.rs ≤ 1000000000
  hk : ∀ k ∈ v.hs, Hok v k
theorem Hok.up {v v' : Au} {k : Ho} (h : Hok v k) (e1 : v'.lm = v.lm) (e2 : v.now ≤ v'.now) : Hok v' k := ⟨h.pl, h.sl, h.so, fun e => by rw [e1]; exact h.tm e, ⟨h.ti.1, Int.le_trans h.ti.2 e2⟩, h.st, h.em⟩
theorem Aok.set {v : Au} {n : Nat} (h : Aok v n) (q : Nat) {k : Ho} (hk : Hok v k) : Aok { v with hs := v.hs.set q k } n :=
  ⟨by show 0 < (v.hs.set q k).length; rw [List.length_set]; exact h.n0, by show (v.hs.set q k).length ≤ 16; rw [List.length_set]; exact h.n16, h.rp, h.r16, h.lm, h.rs, fun x hx => by
    rcases List.mem_or_eq_of_mem_set hx with e | e
    · exact (h.hk x e).up rfl (Int.le_refl _)
    · rw [e]
      exact hk.up rfl (Int.le_refl _)⟩
theorem Aok.same {v v' : Au} {n : Nat} (h : Aok v n) (e1 : v'.hs = v.hs) (e2 : v'.rp = v.rp) (e3 : v'.lm = v.lm) (e4 : v'.rs = v.rs) (e5 : v.now ≤ v'.now) : Aok v' n :=
  ⟨by rw [e1]; exact h.n0, by rw [e1]; exact h.n16, e2.trans h.rp, h.r16, by rw [e3]; exact h.lm, by rw [e4]; exact h.rs, fun k hk => (h.hk k (e1 ▸ hk)).up e3 e5⟩
theorem Aok.left {v v' : Au} {n m : Nat} (h : Aok v n) (hl : Left m v v') : Aok v' n := by
  rcases hl with ⟨_, rfl⟩ | ⟨_, DL, dv, mv, _, rfl⟩
  · exact h
  · exact h.same rfl rfl rfl rfl (Int.le_refl _)
theorem Aok.putt {v : Au} {n : Nat} (h : Aok v n) {q : Nat} {k : Ho} (hk : k ∈ v.hs) (s : Int) (hs : s = 0 ∨ (s = 2 ∧ k.sl ≠ [])) : Aok (v.put q k s) n := by
  have z := h.hk k hk
  refine h.set q ⟨fun e => ?_, z.sl, z.so, fun e => ?_, z.ti, ?_, fun e => ?_⟩
  · dsimp only at e
    omega
  · dsimp only at e
    omega
  · dsimp only
    omega
  · dsimp only at e ⊢
    rcases hs with q | ⟨_, q⟩
    · exact q
    · exact absurd e q
theorem Aok.ask {v : Au} {n : Nat} (h : Aok v n) {q : Nat} {k : Ho} (hk : k ∈ v.hs) {p : Nat} (hp : p < k.sl.length) (h0 : 0 ≤ v.now) : Aok (v.ask q k p) n := by
  have z := h.hk k hk
  exact h.set q ⟨fun _ => hp, z.sl, z.so, fun _ => ⟨Int.le_refl _, h.lm.1⟩, ⟨h0, Int.le_refl _⟩, Or.inr (Or.inl rfl), fun e => by rw [show k.sl = [] from e] at hp; simp at hp⟩
theorem Aok.sent {v : Au} {n : Nat} (h : Aok v n) {q : Nat} {k : Ho} (hk : k ∈ v.hs) (h1 : k.stt = 1) (ht : k.tm < v.lm) (h0 : 0 ≤ v.now) : Aok (v.sent q k) n := by
  have z := h.hk k hk
  have := z.tm h1
  exact h.set q ⟨z.pl, z.sl, z.so, fun _ => ⟨by show 1 ≤ k.tm + 1; omega, by show k.tm + 1 ≤ v.lm; omega⟩, ⟨h0, Int.le_refl _⟩, z.st, z.em⟩
theorem Aok.now0 {v : Au} {n : Nat} (h : Aok v n) : 0 ≤ v.now := by
  have := (h.hk _ (List.getElem_mem h.n0)).ti
  omega
/-- what Take makes -/
def TakeR (n : Nat) (v : Au) (m : Mg) (L : List Mg) (v' : Au) : Prop := (ansB v m = false ∧ L = [] ∧ v' = v) ∨ (ansB v m = true ∧ ∃ (q : Nat) (k : Ho) (s : Sl), m.fr = (q : Int) ∧ v.hs[q]? = some k ∧ k.stt = 1 ∧ k.sl[k.pl]? = some s ∧ m.sq = (s.1 : Int) ∧ ((¬ okM m ∧ L = [] ∧ Left n (v.put q k 2) v') ∨ (okM m ∧ ((∃ s', k.sl[k.pl + 1]? = some s' ∧ L = [qM v q s'] ∧ v' = (v.hrd s m).ask q k (k.pl + 1)) ∨ (k.sl[k.pl + 1]? = none ∧ L = [] ∧ Left n ((v.hrd s m).put q k 0) v')))))
theorem ans_get {v : Au} {m : Mg} (h : ansB v m = true) : ∃ (q : Nat) (k : Ho) (s : Sl), m.fr = (q : Int) ∧ v.hs[q]? = some k ∧ k.stt = 1 ∧ k.sl[k.pl]? = some s ∧ m.sq = (s.1 : Int) := by
  unfold ansB ansH at h
  simp only [Bool.and_eq_true, decide_eq_true_eq] at h
  obtain ⟨_, _, _, h⟩ := h
  by_cases e : m.fr < 0
  · rw [if_pos e] at h
    simp at h
  · rw [if_neg e] at h
    cases hk : v.hs[m.fr.toNat]? with
    | none => rw [hk] at h; simp at h
    | some k =>
      rw [hk] at h
      simp only [Bool.and_eq_true, beq_iff_eq] at h
      cases hs : k.sl[k.pl]? with
      | none => rw [hs] at h; simp at h
      | some s =>
        rw [hs] at h
        exact ⟨m.fr.toNat, k, s, by omega, hk, h.1, hs, by simpa using h.2⟩
theorem Aok.take {v v' : Au} {n : Nat} {m : Mg} {L : List Mg} (h : Aok v n) (ht : TakeR n v m L v') : Aok v' n := by
  rcases ht with ⟨_, _, rfl⟩ | ⟨_, q, k, s, _, hk, hs, hsl, _, hr⟩
  · exact h
  · have hm := List.mem_of_getElem? hk
    have hp := (List.getElem?_eq_some_iff.1 hsl).1
    have hne : k.sl ≠ [] := fun e => by rw [e] at hp; simp at hp
    rcases hr with ⟨_, _, hl⟩ | ⟨_, ⟨s', hs', _, rfl⟩ | ⟨_, _, hl⟩⟩
    · exact (h.putt hm 2 (Or.inr ⟨rfl, hne⟩)).left hl
    · exact Aok.ask (v := v.hrd s m) (h.same rfl rfl rfl rfl (Int.le_refl _)) hm (List.getElem?_eq_some_iff.1 hs').1 h.now0
    · exact (Aok.putt (v := v.hrd s m) (h.same rfl rfl rfl rfl (Int.le_refl _)) hm 0 (Or.inl rfl)).left hl
set_option maxHeartbeats 16000000 in
set_option maxRecDepth 100000 in
set_option linter.unusedSimpArgs false in
set_option linter.unusedVariables false in
theorem Take_a {w : World} {A H hc M : Nat} {v : Au} (h : AuAt w A H hc M v) {n : Nat} (ok : Aok v n) (m : Mg) :
    Calls Tryd.prog 16 #[.pointer (some ⟨A, 0, none⟩), .agg (mgV m)] w fun e w' => ∃ u L v', e = .returned (.tuple #[u, .int .i64 0]) ∧ w'.ownsRow w.heap.size 41 11 u L.length (mgs L) ∧ AuAt w' A H hc M v' ∧ Kp w w' (AuS A H M) ∧ TakeR n v m L v' := by
  obtain ⟨B, hB⟩ : ∃ B, B = w.heap.size := ⟨_, rfl⟩
  obtain ⟨W0, hW0⟩ : ∃ W0, W0 = w.alloc (.cells (mgV m) 41) := ⟨_, rfl⟩
  have k0 : Kp w W0 non := by rw [hW0]; exact (Kp.refl w non).alloc _
  have m0 : MgAt W0 B m := by rw [hW0, hB]; exact MgAt.new w m
  have hl : v.hs.length ≤ 1000 := by have := ok.n16; omega
  have NO := hide (none_a (h.kp0 k0) ok.n0)
  have IA := hide (isAnswer_a (h.kp0 k0) m hl (fun k hk => (ok.hk k hk).pl) (fun k hk => by have := (ok.hk k hk).sl; omega))
  have HA := hide (h.kp0 k0)
  have K0 := hide k0
  have M0 := hide m0
  have OK := hide ok
  have HB := hide hB
  have HE : Hid (∀ X, Kp W0 X non → ansB v m = true → Calls Tryd.prog 37 #[.pointer (some ⟨A, 0, none⟩), .agg (mgV m)] X fun e w' => ∃ u L v', e = .returned u ∧ w'.ownsRow X.heap.size 41 11 u L.length (mgs L) ∧ AuAt w' A H hc M v' ∧ Kp X w' (AuS A H M) ∧ TakeR n v m L v') := fun X hX ha => by
    obtain ⟨q, k, s, e1, e2, e3, e4, e5⟩ := ans_get ha
    obtain ⟨hq, hk⟩ := List.getElem?_eq_some_iff.1 e2
    have hx := (h.kp0 k0).kp0 hX
    have hm := List.mem_of_getElem? e2
    by_cases hok : okM m
    · refine Calls.mono (hear_ok hx m q hq e1 hok k hk s e4 ((ok.hk k hm).so s (List.mem_of_getElem? e4)) (by have := (ok.hk k hm).sl; omega) n ok.rp ok.r16 hl) ?_
      rintro e w' ⟨u, L, v', rfl, a1, a2, a3, a4⟩
      exact ⟨u, L, v', rfl, a1, a2, a3, Or.inr ⟨ha, q, k, s, e1, e2, e3, e4, e5, Or.inr ⟨hok, a4⟩⟩⟩
    · have hb := hear_bad hx m q hq e1 hok n ok.rp ok.r16 hl
      rw [hk] at hb
      refine Calls.mono hb ?_
      rintro e w' ⟨rfl, v', a1, a2, a3⟩
      exact ⟨_, [], v', rfl, World.ownsRow_nil _ _ _ _, a2, a3, Or.inr ⟨ha, q, k, s, e1, e2, e3, e4, e5, Or.inl ⟨hok, rfl, a1⟩⟩⟩
  clear h k0 m0 ok hl
  go_enter Tryd.func16, Tryd.ntmps16
  go_upto_region 1 with fail
  rw [← hW0, ← hB]
  clear hW0 hB
  go_wp2_with fail
  refine Calls.mono NO.out ?_
  rintro e w' ⟨rfl, rfl⟩
  go_wp2_with (refine wpList_ldM rfl (.tmp 3) rfl m B rfl M0.out ?_)
  refine Calls.mono IA.out ?_
  rintro e W1 ⟨rfl, k1⟩
  have K1 := hide k1
  clear k1 IA NO
  cases ha : ansB v m
  case false =>
    have HAN := hide ha
    clear ha
    go_wp2_with fail
    go_ret2
    exact ⟨_, [], v, rfl, World.ownsRow_nil _ _ _ _, HA.out.kp0 K1.out, (K0.out.trans K1.out (fun _ f => f.elim)).mono (fun _ f => f.elim), Or.inl ⟨HAN.out, rfl, rfl⟩⟩
  case true =>
    have HR := hide (HE.out W1 K1.out ha)
    have M1 : Hid (MgAt W1 B m) := M0.out.keep K1.out (fun f => f)
    clear ha HE
    go_wp2_with (refine wpList_ldM rfl (.tmp 3) rfl m B rfl M1.out ?_)
    refine Calls.mono HR.out ?_
    rintro e W2 ⟨u, L, v', rfl, a1, a2, a3, a4⟩
    have A1 : Hid (W2.ownsRow w.heap.size 41 11 u L.length (mgs L)) := own_base a1 (Nat.le_trans K0.out.size K1.out.size)
    have A2 := hide a2
    have A3 : Hid (Kp w W2 (AuS A H M)) := ((K0.out.trans K1.out (fun _ f => f.elim)).mono (T := AuS A H M) (fun _ f => f.elim)).trans a3 (fun _ f => Or.inl f)
    have A4 := hide a4
    clear a1 a2 a3 a4 HR
    go_wp2_with fail
    go_ret2
    exact ⟨u, L, v', rfl, A1.out, A2.out, A3.out, A4.out⟩
end Go.Proofs.YteiiolilpemimaaDoor.Cn
