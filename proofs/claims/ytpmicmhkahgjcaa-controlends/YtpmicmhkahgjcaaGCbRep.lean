import Derived.Test.YtpmicmhkahgjcaaGCbBegin
namespace Go.Proofs.Ytpmicmhkahgjcaa.Cn
open Go.RowKit
set_option maxHeartbeats 8000000 in
set_option maxRecDepth 100000 in
set_option linter.unusedSimpArgs false in
set_option linter.unusedVariables false in
theorem Report_no {w : World} {S : Nat → Prop} {C : Nat} {c : Ct} (h : CtAt w S C c) (hn : 1 ≤ c.ru.n) (hj : c.last.job = 0) :
    Calls Try.prog 13 #[.pointer (some ⟨C, 0, none⟩)] w fun e w' => e = .returned (.tuple #[.agg (rpA rp0 (.slice none 0 0) (.slice none 0 0)), .int .i64 151]) ∧ Below w.heap.size w w' := by
  obtain ⟨W0, hW0⟩ : ∃ W0, W0 = w.alloc (.cells (rpA rp0 (.slice none 0 0) (.slice none 0 0)) 39) := ⟨_, rfl⟩
  have b0 : Hid (Below w.heap.size w W0) := by rw [hW0]; exact (Below.refl _ w).alloc (Nat.le_refl _) _
  have m0 : Hid (W0.heap[w.heap.size]? = some (.cells (rpA rp0 (.slice none 0 0) (.slice none 0 0)) 39)) := by rw [hW0]; exact heap_last w _
  have NO := hide (none_any (h.below b0.out) hn)
  obtain ⟨P, A, hv, mv, h⟩ := h.below b0.out
  have c6 := h.cells.2.2.2.2.2.2
  rw [hj] at c6
  clear h hj
  go_enter Try.func13, Try.ntmps13
  go_upto_region 1 with fail
  rw [show (#[.int .i64 0, .int .i64 0, .int .i64 0, .int .i64 0, .slice none 0 0, .slice none 0 0] : Array Value) = rpA rp0 (.slice none 0 0) (.slice none 0 0) from rfl]
  rw [← hW0]
  clear hW0
  go_wp2_with fail
  refine Calls.mono NO.out ?_
  rintro e W1 ⟨rfl, rfl⟩
  go_wp2_with (first | refine wpList_blR rfl 39 #[] rfl (rpA rp0 (.slice none 0 0) (.slice none 0 0)) (by kernel_rfl) ?_ | refine wpList_stR rfl 39 (.tmp 2) (.tmp 16) rfl w.heap.size rfl (rpA rp0 (.slice none 0 0) (.slice none 0 0)) _ rfl _ m0.out rp_info rfl (by simp [rpA, Value.oneCell']) ?_)
  refine bodyPost_ret (v := .tuple #[.agg (rpA rp0 (.slice none 0 0) (.slice none 0 0)), .int .i64 151]) (res_row2 Try.results13 _ _ _ w.heap.size rfl _ rfl _ (setRow_heap _ _ _ _ _ _ m0.out) Try.underlying39 rp_info) rfl ⟨rfl, ?_⟩
  exact ((Kp.of_below b0.out non).row (Or.inr (Nat.le_refl _)) _).below
theorem rp_set4 {w : World} {b : Nat} {p : Rp} {h1 m1 : Value} (h : w.heap[b]? = some (.cells (rpA p h1 m1) 39)) (v : Value) : (w.setCell ⟨b, 4, none⟩ v).heap[b]? = some (.cells (rpA p v m1) 39) := set_row h 4 v
theorem rp_set5 {w : World} {b : Nat} {p : Rp} {h1 m1 : Value} (h : w.heap[b]? = some (.cells (rpA p h1 m1) 39)) (v : Value) : (w.setCell ⟨b, 5, none⟩ v).heap[b]? = some (.cells (rpA p h1 v) 39) := set_row h 5 v
theorem CtX.rep {w : World} {S : Nat → Prop} {C P A : Nat} {hv mv : Value} {c : Ct} (h : CtX w S C P A hv mv c) : w.rangeAt C 6 (rpA c.last hv mv).toList := by
  intro j v hj
  rw [cell_row h.ob]
  have hl := (List.getElem?_eq_some_iff.1 hj).1
  have : j = 0 ∨ j = 1 ∨ j = 2 ∨ j = 3 ∨ j = 4 ∨ j = 5 := by simp [rpA] at hl; omega
  rcases this with rfl | rfl | rfl | rfl | rfl | rfl <;> exact hj
set_option maxHeartbeats 8000000 in
set_option maxRecDepth 100000 in
set_option linter.unusedSimpArgs false in
set_option linter.unusedVariables false in
theorem Report_yes {w : World} {S : Nat → Prop} {C : Nat} {c : Ct} (h : CtAt w S C c) (hn : 1 ≤ c.ru.n) (hj : c.last.job ≠ 0) (hl1 : c.last.hs.length ≤ 1000000) (hl2 : c.last.ms.length ≤ 1000000) :
    Calls Try.prog 13 #[.pointer (some ⟨C, 0, none⟩)] w fun e w' => ∃ nh nm, e = .returned (.tuple #[.agg (rpA c.last nh nm), .int .i64 0]) ∧ w'.ownsRow w.heap.size 3 1 nh c.last.hs.length (ints c.last.hs) ∧ w'.ownsRow w.heap.size 3 1 nm c.last.ms.length (ints c.last.ms) ∧ Below w.heap.size w w' := by
  obtain ⟨B, hB⟩ : ∃ B, B = w.heap.size := ⟨_, rfl⟩
  obtain ⟨W0, hW0⟩ : ∃ W0, W0 = w.alloc (.cells (rpA rp0 (.slice none 0 0) (.slice none 0 0)) 39) := ⟨_, rfl⟩
  have b0 : Hid (Below w.heap.size w W0) := by rw [hW0]; exact (Below.refl _ w).alloc (Nat.le_refl _) _
  have m0 : Hid (W0.heap[B]? = some (.cells (rpA rp0 (.slice none 0 0) (.slice none 0 0)) 39)) := by rw [hW0, hB]; exact heap_last w _
  have s0 : W0.heap.size = B + 1 := by rw [hW0, hB]; exact World.size_alloc _ _
  have NO := hide (none_any (h.below b0.out) hn)
  obtain ⟨P, A, hv, mv, h0⟩ := h.below b0.out
  have c6 := h0.cells.2.2.2.2.2.2
  have q6 : (c.last.job == 0) = false := by simpa using hj
  have HR := hide h0.rep
  have HB := hide hB
  obtain ⟨W1, hW1⟩ : ∃ W1, W1 = (W0.alloc (.cells #[.int .i64 0, .int .i64 0, .int .i64 0, .int .i64 0, .slice none 0 0, .slice none 0 0] 39)).setRow W0.heap.size (rpA c.last hv mv) := ⟨_, rfl⟩
  have b1 : Below W0.heap.size W0 W1 := by rw [hW1]; exact (((Kp.refl W0 non).alloc _).row (Or.inr (Nat.le_refl _)) _).below
  have B1 := hide b1
  obtain ⟨R, hR⟩ : ∃ R, R = W0.heap.size := ⟨_, rfl⟩
  have m1 : Hid (W1.heap[R]? = some (.cells (rpA c.last hv mv) 39)) := by rw [hW1, hR]; exact setRow_heap _ _ _ _ _ _ (heap_last W0 _)
  have HRe : Hid (R = B + 1) := by rw [hR, s0]; rfl
  have s1 : Hid (W1.heap.size = R + 1) := by rw [hW1, hR]; simp only [World.setRow, Array.size_modify]; exact World.size_alloc _ _
  have O1 : Hid (W1.ownsRow 0 3 1 hv c.last.hs.length (ints c.last.hs)) := own_below h0.hs b1
  have O2 : Hid (W1.ownsRow 0 3 1 mv c.last.ms.length (ints c.last.ms)) := own_below h0.ms b1
  have M1 : Hid (W1.heap[B]? = some (.cells (rpA rp0 (.slice none 0 0) (.slice none 0 0)) 39)) := (b1.block _ (blk_lt m0.out)).trans m0.out
  have hvs : ∃ a n cc, hv = .slice a n cc := by obtain ⟨a, cc, e⟩ := own_sl h0.hs; exact ⟨_, _, _, e⟩
  have mvs : ∃ a n cc, mv = .slice a n cc := by obtain ⟨a, cc, e⟩ := own_sl h0.ms; exact ⟨_, _, _, e⟩
  have VS := hide (And.intro hvs mvs)
  have ONE := hide (rp_one c.last hvs mvs)
  have D1 : Below W1.heap.size W1 W1.drew := ⟨rfl, rfl, rfl, Nat.le_refl _, fun _ _ => rfl⟩
  replace hW1 := hide hW1
  rw [← hB]
  have HR2 := hide hR
  clear h h0 hj b1 hR s0 hvs mvs
  generalize c.last = la at *
  go_enter Try.func13, Try.ntmps13
  go_upto_region 1 with fail
  rw [show (#[.int .i64 0, .int .i64 0, .int .i64 0, .int .i64 0, .slice none 0 0, .slice none 0 0] : Array Value) = rpA rp0 (.slice none 0 0) (.slice none 0 0) from rfl]
  rw [← hW0, ← HB.out]
  clear hW0 hB
  go_wp2_with fail
  refine Calls.mono NO.out ?_
  rintro e Wx ⟨rfl, rfl⟩
  clear NO
  go_upto_region 6 with (first | refine wpList_load_mid rfl 39 (.tmp 19) rfl C 6 rfl (rpA la hv mv).toList _ HR.out Try.underlying39 rfl rp_info ?_ | refine wpList_stR rfl 39 (.tmp 4) (.tmp 20) rfl W0.heap.size rfl (rpA la hv mv) #[.int .i64 0, .int .i64 0, .int .i64 0, .int .i64 0, .slice none 0 0, .slice none 0 0] rfl _ (heap_last W0 _) rp_info rfl ONE.out ?_)
  rw [← hW1.out, ← HR2.out]
  clear hW1 HR2 c6 q6 HR
  have y4 : W1.cell? ⟨R, 4, none⟩ = some hv := by rw [cell_row m1.out]; rfl
  have y5 : W1.cell? ⟨R, 5, none⟩ = some mv := by rw [cell_row m1.out]; rfl
  obtain ⟨⟨ha, hnn, hc, rfl⟩, ⟨ma, mn, mc, rfl⟩⟩ := VS.out
  have C1 := hide (clone_any (own_below O1.out D1) hl1)
  have FIN : Hid (∀ (W2 W3 : World) (nh nm : Value), W2.ownsRow W1.heap.size 3 1 nh la.hs.length (ints la.hs) → Below W1.heap.size W1 W2 → W3.ownsRow W2.heap.size 3 1 nm la.ms.length (ints la.ms) → Below W2.heap.size W2 W3 → W3.heap[R]? = some (.cells (rpA la (.slice ha hnn hc) (.slice ma mn mc)) 39) ∧ W3.heap[B]? = some (.cells (rpA rp0 (.slice none 0 0) (.slice none 0 0)) 39) ∧ W3.ownsRow (R + 1) 3 1 nh la.hs.length (ints la.hs) ∧ W3.ownsRow (R + 1) 3 1 nm la.ms.length (ints la.ms) ∧ Kp w W3 non) := fun W2 W3 nh nm h1 h2 h3 h4 => by
    refine ⟨(h4.block _ (by have := h2.size; have := blk_lt m1.out; omega)).trans ((h2.block _ (blk_lt m1.out)).trans m1.out), (h4.block _ (by have := h2.size; have := blk_lt M1.out; omega)).trans ((h2.block _ (blk_lt M1.out)).trans M1.out), by rw [← s1.out]; exact own_below h1 h4, own_mono h3 (by rw [← s1.out]; exact h2.size), ?_⟩
    exact (((Kp.of_below b0.out non).trans (Kp.of_below B1.out non) (fun _ f => f.elim)).trans (Kp.of_below h2 non) (fun _ f => f.elim)).trans (Kp.of_below h4 non) (fun _ f => f.elim)
  refine wp_region_held_drew (S := fun _ => True) (by kernel_rfl) trivial (fun hHeld => ?_)
  refine wpAnyH_take (i := 0) (v := (.pointer (some ⟨R, 4, none⟩))) rfl (by kernel_rfl) (by kernel_rfl) (by kernel_rfl) (fun _ _ _ h => h) (Or.inl ⟨by kernel_rfl, ?_⟩) (by assumption) ?_
  · intro w' hSw
    (try dsimp only at hSw)
    go_simp
  (try simp only [Act.put, List.getElem_toArray, List.getElem_cons_zero, List.getElem_cons_succ, List.setIfInBounds_toArray, List.set_cons_zero, List.set_cons_succ])
  refine wpAnyH_take (i := 3) (v := (.pointer (some ⟨R, 5, none⟩))) rfl (by kernel_rfl) (by kernel_rfl) (by kernel_rfl) (fun _ _ _ h => h) (Or.inl ⟨by kernel_rfl, ?_⟩) (by assumption) ?_
  · intro w' hSw
    (try dsimp only at hSw)
    go_simp
  (try simp only [Act.put, List.getElem_toArray, List.getElem_cons_zero, List.getElem_cons_succ, List.setIfInBounds_toArray, List.set_cons_zero, List.set_cons_succ])
  refine wpAnyH_ready (rs := [1, 4]) (by kernel_rfl) (by simp) ?_
  refine AllReadyH.cons rfl (fun K hK => ?_) (AllReadyH.cons rfl (fun K hK => ?_) AllReadyH.nil)
  · go_simp
    refine hK.out _ _ (trivial) (fun hHeld => ?_)
    clear hK
    (try simp only [Act.put, List.setIfInBounds_toArray, List.set_cons_zero, List.set_cons_succ])
    refine wpAnyH_ready (rs := [2, 4]) (by kernel_rfl) (by simp) ?_
    refine AllReadyH.cons rfl (fun K hK => ?_) (AllReadyH.cons rfl (fun K hK => ?_) AllReadyH.nil)
    · go_simp
      refine Calls.mono C1.out ?_
      rintro e W2 ⟨nh, rfl, o1, hb⟩
      have BB2 := hide (D1.trans hb)
      have o1 := hide o1
      clear hb
      refine hK.out _ _ (trivial) (fun hHeld => ?_)
      clear hK
      (try simp only [Act.put, List.setIfInBounds_toArray, List.set_cons_zero, List.set_cons_succ])
      have yy : W2.cell? ⟨R, 5, none⟩ = some (.slice ma mn mc) := ((Kp.of_below BB2.out non).cell (blk_lt m1.out) (fun f => f)).trans y5
      refine wpAnyH_ready (rs := [4]) (by kernel_rfl) (by simp) ?_
      refine AllReadyH.cons rfl (fun K hK => ?_) AllReadyH.nil
      go_simp
      clear yy
      refine hK.out _ _ (trivial) (fun hHeld => ?_)
      clear hK
      (try simp only [Act.put, List.setIfInBounds_toArray, List.set_cons_zero, List.set_cons_succ])
      have C2 := hide (clone_any (own_below O2.out BB2.out) hl2)
      refine wpAnyH_take (i := 6) (v := (.pointer (some ⟨R, 4, none⟩))) rfl (by kernel_rfl) (by kernel_rfl) (by kernel_rfl) (fun _ _ _ h => h) (Or.inl ⟨by kernel_rfl, ?_⟩) (by assumption) ?_
      · intro w' hSw
        (try dsimp only at hSw)
        go_simp
      (try simp only [Act.put, List.getElem_toArray, List.getElem_cons_zero, List.getElem_cons_succ, List.setIfInBounds_toArray, List.set_cons_zero, List.set_cons_succ])
      refine wpAnyH_ready (rs := [5]) (by kernel_rfl) (by simp) ?_
      refine AllReadyH.cons rfl (fun K hK => ?_) AllReadyH.nil
      go_simp
      refine Calls.mono C2.out ?_
      rintro e W3 ⟨nm, rfl, o2, hb⟩
      have F := hide (FIN.out W2 W3 nh nm o1.out BB2.out o2 hb)
      clear hb o2 C2 C1
      obtain ⟨na, nc, rfl⟩ := own_sl F.out.2.2.1
      obtain ⟨ka, kc, rfl⟩ := own_sl F.out.2.2.2.1
      have z4 : W3.frozen? ⟨R, 4, none⟩ = false := fz_row F.out.1 4
      have x4 : W3.cell? ⟨R, 4, none⟩ = some (.slice ha hnn hc) := by rw [cell_row F.out.1]; rfl
      obtain ⟨W4, hW4⟩ : ∃ W4, W4 = W3.setCell ⟨R, 4, none⟩ (.slice na la.hs.length nc) := ⟨_, rfl⟩
      have f4 : W4.heap[R]? = some (.cells (rpA la (.slice na la.hs.length nc) (.slice ma mn mc)) 39) := by rw [hW4]; exact rp_set4 F.out.1 _
      obtain ⟨W5, hW5⟩ : ∃ W5, W5 = W4.setCell ⟨R, 5, none⟩ (.slice ka la.ms.length kc) := ⟨_, rfl⟩
      have f5 : Hid (W5.heap[R]? = some (.cells (rpA la (.slice na la.hs.length nc) (.slice ka la.ms.length kc)) 39)) := by rw [hW5]; exact rp_set5 f4 _
      have k5 : Hid (Kp W3 W5 (fun k => k = R)) := by rw [hW5, hW4]; exact ((Kp.refl W3 (fun k => k = R)).set (Or.inl rfl) _ _).set (Or.inl rfl) _ _
      have z5 : W4.frozen? ⟨R, 5, none⟩ = false := fz_row f4 5
      have x5 : W4.cell? ⟨R, 5, none⟩ = some (.slice ma mn mc) := by rw [cell_row f4]; rfl
      replace hW4 := hide hW4
      replace hW5 := hide hW5
      clear f4
      refine hK.out _ _ (trivial) (fun hHeld => ?_)
      clear hK
      (try simp only [Act.put, List.setIfInBounds_toArray, List.set_cons_zero, List.set_cons_succ])
      refine wpAnyH_ready (rs := [7]) (by kernel_rfl) (by simp) ?_
      refine AllReadyH.cons rfl (fun K hK => ?_) AllReadyH.nil
      go_simp
      rw [← hW4.out]
      clear hW4 z4 x4
      refine hK.out _ _ (trivial) (fun hHeld => ?_)
      clear hK
      (try simp only [Act.put, List.setIfInBounds_toArray, List.set_cons_zero, List.set_cons_succ])
      refine wpAnyH_take (i := 8) (v := (.pointer (some ⟨R, 5, none⟩))) rfl (by kernel_rfl) (by kernel_rfl) (by kernel_rfl) (fun _ _ _ h => h) (Or.inl ⟨by kernel_rfl, ?_⟩) (by assumption) ?_
      · intro w' hSw
        (try dsimp only at hSw)
        go_simp
      (try simp only [Act.put, List.getElem_toArray, List.getElem_cons_zero, List.getElem_cons_succ, List.setIfInBounds_toArray, List.set_cons_zero, List.set_cons_succ])
      refine wpAnyH_ready (rs := [9]) (by kernel_rfl) (by simp) ?_
      refine AllReadyH.cons rfl (fun K hK => ?_) AllReadyH.nil
      go_simp
      rw [← hW5.out]
      clear hW5 z5 x5
      refine hK.out _ _ (trivial) (fun hHeld => ?_)
      clear hK
      (try simp only [Act.put, List.setIfInBounds_toArray, List.set_cons_zero, List.set_cons_succ])
      refine wpAnyH_done (by kernel_rfl) ?_ _
      have mB : Hid (W5.heap[B]? = some (.cells (rpA rp0 (.slice none 0 0) (.slice none 0 0)) 39)) := getL k5.out F.out.2.1 (by have := HRe.out; omega)
      go_wp2_with (first | refine wpList_ldR rfl 39 (.tmp 4) rfl R rfl _ _ f5.out Try.underlying39 rp_info ?_ | refine wpList_stR rfl 39 (.tmp 2) (.tmp 29) rfl B rfl (rpA la (.slice na la.hs.length nc) (.slice ka la.ms.length kc)) _ rfl _ mB.out rp_info rfl (by simp [rpA, Value.oneCell']) ?_)
      have kr : Kp W3 (W5.setRow B (rpA la (.slice na la.hs.length nc) (.slice ka la.ms.length kc))) (fun k => k = R ∨ k = B) := (k5.out.mono (T := fun k => k = R ∨ k = B) (fun k e => Or.inl e)).row (b := B) (Or.inl (Or.inr rfl)) _
      refine bodyPost_ret (v := .tuple #[.agg (rpA la (.slice na la.hs.length nc) (.slice ka la.ms.length kc)), .int .i64 0]) (res_row2 Try.results13 _ _ _ B rfl _ rfl _ (setRow_heap _ _ _ _ _ _ mB.out) Try.underlying39 rp_info) rfl ⟨_, _, rfl, ?_, ?_, ?_⟩
      · refine own_mono (own_kp F.out.2.2.1 kr (fun k hk e => ?_)) (by have := HRe.out; omega)
        have := own_ge F.out.2.2.1 hk
        have := HRe.out
        omega
      · refine own_mono (own_kp F.out.2.2.2.1 kr (fun k hk e => ?_)) (by have := HRe.out; omega)
        have := own_ge F.out.2.2.2.1 hk
        have := HRe.out
        omega
      · have := (F.out.2.2.2.2.trans kr (fun k e => Or.inr (by have := HRe.out; have := HB.out; omega))).below
        rwa [← HB.out] at this
    · go_simp
      refine hK.out _ _ (trivial) (fun hHeld => ?_)
      clear hK
      (try simp only [Act.put, List.setIfInBounds_toArray, List.set_cons_zero, List.set_cons_succ])
      refine wpAnyH_ready (rs := [2]) (by kernel_rfl) (by simp) ?_
      refine AllReadyH.cons rfl (fun K hK => ?_) AllReadyH.nil
      go_simp
      refine Calls.mono C1.out ?_
      rintro e W2 ⟨nh, rfl, o1, hb⟩
      have BB2 := hide (D1.trans hb)
      have o1 := hide o1
      clear hb
      refine hK.out _ _ (trivial) (fun hHeld => ?_)
      clear hK
      (try simp only [Act.put, List.setIfInBounds_toArray, List.set_cons_zero, List.set_cons_succ])
      have C2 := hide (clone_any (own_below O2.out BB2.out) hl2)
      refine wpAnyH_take (i := 6) (v := (.pointer (some ⟨R, 4, none⟩))) rfl (by kernel_rfl) (by kernel_rfl) (by kernel_rfl) (fun _ _ _ h => h) (Or.inl ⟨by kernel_rfl, ?_⟩) (by assumption) ?_
      · intro w' hSw
        (try dsimp only at hSw)
        go_simp
      (try simp only [Act.put, List.getElem_toArray, List.getElem_cons_zero, List.getElem_cons_succ, List.setIfInBounds_toArray, List.set_cons_zero, List.set_cons_succ])
      refine wpAnyH_ready (rs := [5]) (by kernel_rfl) (by simp) ?_
      refine AllReadyH.cons rfl (fun K hK => ?_) AllReadyH.nil
      go_simp
      refine Calls.mono C2.out ?_
      rintro e W3 ⟨nm, rfl, o2, hb⟩
      have F := hide (FIN.out W2 W3 nh nm o1.out BB2.out o2 hb)
      clear hb o2 C2 C1
      obtain ⟨na, nc, rfl⟩ := own_sl F.out.2.2.1
      obtain ⟨ka, kc, rfl⟩ := own_sl F.out.2.2.2.1
      have z4 : W3.frozen? ⟨R, 4, none⟩ = false := fz_row F.out.1 4
      have x4 : W3.cell? ⟨R, 4, none⟩ = some (.slice ha hnn hc) := by rw [cell_row F.out.1]; rfl
      obtain ⟨W4, hW4⟩ : ∃ W4, W4 = W3.setCell ⟨R, 4, none⟩ (.slice na la.hs.length nc) := ⟨_, rfl⟩
      have f4 : W4.heap[R]? = some (.cells (rpA la (.slice na la.hs.length nc) (.slice ma mn mc)) 39) := by rw [hW4]; exact rp_set4 F.out.1 _
      obtain ⟨W5, hW5⟩ : ∃ W5, W5 = W4.setCell ⟨R, 5, none⟩ (.slice ka la.ms.length kc) := ⟨_, rfl⟩
      have f5 : Hid (W5.heap[R]? = some (.cells (rpA la (.slice na la.hs.length nc) (.slice ka la.ms.length kc)) 39)) := by rw [hW5]; exact rp_set5 f4 _
      have k5 : Hid (Kp W3 W5 (fun k => k = R)) := by rw [hW5, hW4]; exact ((Kp.refl W3 (fun k => k = R)).set (Or.inl rfl) _ _).set (Or.inl rfl) _ _
      have z5 : W4.frozen? ⟨R, 5, none⟩ = false := fz_row f4 5
      have x5 : W4.cell? ⟨R, 5, none⟩ = some (.slice ma mn mc) := by rw [cell_row f4]; rfl
      replace hW4 := hide hW4
      replace hW5 := hide hW5
      clear f4
      refine hK.out _ _ (trivial) (fun hHeld => ?_)
      clear hK
      (try simp only [Act.put, List.setIfInBounds_toArray, List.set_cons_zero, List.set_cons_succ])
      refine wpAnyH_ready (rs := [7]) (by kernel_rfl) (by simp) ?_
      refine AllReadyH.cons rfl (fun K hK => ?_) AllReadyH.nil
      go_simp
      rw [← hW4.out]
      clear hW4 z4 x4
      refine hK.out _ _ (trivial) (fun hHeld => ?_)
      clear hK
      (try simp only [Act.put, List.setIfInBounds_toArray, List.set_cons_zero, List.set_cons_succ])
      refine wpAnyH_take (i := 8) (v := (.pointer (some ⟨R, 5, none⟩))) rfl (by kernel_rfl) (by kernel_rfl) (by kernel_rfl) (fun _ _ _ h => h) (Or.inl ⟨by kernel_rfl, ?_⟩) (by assumption) ?_
      · intro w' hSw
        (try dsimp only at hSw)
        go_simp
      (try simp only [Act.put, List.getElem_toArray, List.getElem_cons_zero, List.getElem_cons_succ, List.setIfInBounds_toArray, List.set_cons_zero, List.set_cons_succ])
      refine wpAnyH_ready (rs := [9]) (by kernel_rfl) (by simp) ?_
      refine AllReadyH.cons rfl (fun K hK => ?_) AllReadyH.nil
      go_simp
      rw [← hW5.out]
      clear hW5 z5 x5
      refine hK.out _ _ (trivial) (fun hHeld => ?_)
      clear hK
      (try simp only [Act.put, List.setIfInBounds_toArray, List.set_cons_zero, List.set_cons_succ])
      refine wpAnyH_done (by kernel_rfl) ?_ _
      have mB : Hid (W5.heap[B]? = some (.cells (rpA rp0 (.slice none 0 0) (.slice none 0 0)) 39)) := getL k5.out F.out.2.1 (by have := HRe.out; omega)
      go_wp2_with (first | refine wpList_ldR rfl 39 (.tmp 4) rfl R rfl _ _ f5.out Try.underlying39 rp_info ?_ | refine wpList_stR rfl 39 (.tmp 2) (.tmp 29) rfl B rfl (rpA la (.slice na la.hs.length nc) (.slice ka la.ms.length kc)) _ rfl _ mB.out rp_info rfl (by simp [rpA, Value.oneCell']) ?_)
      have kr : Kp W3 (W5.setRow B (rpA la (.slice na la.hs.length nc) (.slice ka la.ms.length kc))) (fun k => k = R ∨ k = B) := (k5.out.mono (T := fun k => k = R ∨ k = B) (fun k e => Or.inl e)).row (b := B) (Or.inl (Or.inr rfl)) _
      refine bodyPost_ret (v := .tuple #[.agg (rpA la (.slice na la.hs.length nc) (.slice ka la.ms.length kc)), .int .i64 0]) (res_row2 Try.results13 _ _ _ B rfl _ rfl _ (setRow_heap _ _ _ _ _ _ mB.out) Try.underlying39 rp_info) rfl ⟨_, _, rfl, ?_, ?_, ?_⟩
      · refine own_mono (own_kp F.out.2.2.1 kr (fun k hk e => ?_)) (by have := HRe.out; omega)
        have := own_ge F.out.2.2.1 hk
        have := HRe.out
        omega
      · refine own_mono (own_kp F.out.2.2.2.1 kr (fun k hk e => ?_)) (by have := HRe.out; omega)
        have := own_ge F.out.2.2.2.1 hk
        have := HRe.out
        omega
      · have := (F.out.2.2.2.2.trans kr (fun k e => Or.inr (by have := HRe.out; have := HB.out; omega))).below
        rwa [← HB.out] at this
  · go_simp
    refine hK.out _ _ (trivial) (fun hHeld => ?_)
    clear hK
    (try simp only [Act.put, List.setIfInBounds_toArray, List.set_cons_zero, List.set_cons_succ])
    refine wpAnyH_ready (rs := [1]) (by kernel_rfl) (by simp) ?_
    refine AllReadyH.cons rfl (fun K hK => ?_) AllReadyH.nil
    go_simp
    refine hK.out _ _ (trivial) (fun hHeld => ?_)
    clear hK
    (try simp only [Act.put, List.setIfInBounds_toArray, List.set_cons_zero, List.set_cons_succ])
    refine wpAnyH_ready (rs := [2]) (by kernel_rfl) (by simp) ?_
    refine AllReadyH.cons rfl (fun K hK => ?_) AllReadyH.nil
    go_simp
    refine Calls.mono C1.out ?_
    rintro e W2 ⟨nh, rfl, o1, hb⟩
    have BB2 := hide (D1.trans hb)
    have o1 := hide o1
    clear hb
    refine hK.out _ _ (trivial) (fun hHeld => ?_)
    clear hK
    (try simp only [Act.put, List.setIfInBounds_toArray, List.set_cons_zero, List.set_cons_succ])
    have C2 := hide (clone_any (own_below O2.out BB2.out) hl2)
    refine wpAnyH_take (i := 6) (v := (.pointer (some ⟨R, 4, none⟩))) rfl (by kernel_rfl) (by kernel_rfl) (by kernel_rfl) (fun _ _ _ h => h) (Or.inl ⟨by kernel_rfl, ?_⟩) (by assumption) ?_
    · intro w' hSw
      (try dsimp only at hSw)
      go_simp
    (try simp only [Act.put, List.getElem_toArray, List.getElem_cons_zero, List.getElem_cons_succ, List.setIfInBounds_toArray, List.set_cons_zero, List.set_cons_succ])
    refine wpAnyH_ready (rs := [5]) (by kernel_rfl) (by simp) ?_
    refine AllReadyH.cons rfl (fun K hK => ?_) AllReadyH.nil
    go_simp
    refine Calls.mono C2.out ?_
    rintro e W3 ⟨nm, rfl, o2, hb⟩
    have F := hide (FIN.out W2 W3 nh nm o1.out BB2.out o2 hb)
    clear hb o2 C2 C1
    obtain ⟨na, nc, rfl⟩ := own_sl F.out.2.2.1
    obtain ⟨ka, kc, rfl⟩ := own_sl F.out.2.2.2.1
    have z4 : W3.frozen? ⟨R, 4, none⟩ = false := fz_row F.out.1 4
    have x4 : W3.cell? ⟨R, 4, none⟩ = some (.slice ha hnn hc) := by rw [cell_row F.out.1]; rfl
    obtain ⟨W4, hW4⟩ : ∃ W4, W4 = W3.setCell ⟨R, 4, none⟩ (.slice na la.hs.length nc) := ⟨_, rfl⟩
    have f4 : W4.heap[R]? = some (.cells (rpA la (.slice na la.hs.length nc) (.slice ma mn mc)) 39) := by rw [hW4]; exact rp_set4 F.out.1 _
    obtain ⟨W5, hW5⟩ : ∃ W5, W5 = W4.setCell ⟨R, 5, none⟩ (.slice ka la.ms.length kc) := ⟨_, rfl⟩
    have f5 : Hid (W5.heap[R]? = some (.cells (rpA la (.slice na la.hs.length nc) (.slice ka la.ms.length kc)) 39)) := by rw [hW5]; exact rp_set5 f4 _
    have k5 : Hid (Kp W3 W5 (fun k => k = R)) := by rw [hW5, hW4]; exact ((Kp.refl W3 (fun k => k = R)).set (Or.inl rfl) _ _).set (Or.inl rfl) _ _
    have z5 : W4.frozen? ⟨R, 5, none⟩ = false := fz_row f4 5
    have x5 : W4.cell? ⟨R, 5, none⟩ = some (.slice ma mn mc) := by rw [cell_row f4]; rfl
    replace hW4 := hide hW4
    replace hW5 := hide hW5
    clear f4
    refine hK.out _ _ (trivial) (fun hHeld => ?_)
    clear hK
    (try simp only [Act.put, List.setIfInBounds_toArray, List.set_cons_zero, List.set_cons_succ])
    refine wpAnyH_ready (rs := [7]) (by kernel_rfl) (by simp) ?_
    refine AllReadyH.cons rfl (fun K hK => ?_) AllReadyH.nil
    go_simp
    rw [← hW4.out]
    clear hW4 z4 x4
    refine hK.out _ _ (trivial) (fun hHeld => ?_)
    clear hK
    (try simp only [Act.put, List.setIfInBounds_toArray, List.set_cons_zero, List.set_cons_succ])
    refine wpAnyH_take (i := 8) (v := (.pointer (some ⟨R, 5, none⟩))) rfl (by kernel_rfl) (by kernel_rfl) (by kernel_rfl) (fun _ _ _ h => h) (Or.inl ⟨by kernel_rfl, ?_⟩) (by assumption) ?_
    · intro w' hSw
      (try dsimp only at hSw)
      go_simp
    (try simp only [Act.put, List.getElem_toArray, List.getElem_cons_zero, List.getElem_cons_succ, List.setIfInBounds_toArray, List.set_cons_zero, List.set_cons_succ])
    refine wpAnyH_ready (rs := [9]) (by kernel_rfl) (by simp) ?_
    refine AllReadyH.cons rfl (fun K hK => ?_) AllReadyH.nil
    go_simp
    rw [← hW5.out]
    clear hW5 z5 x5
    refine hK.out _ _ (trivial) (fun hHeld => ?_)
    clear hK
    (try simp only [Act.put, List.setIfInBounds_toArray, List.set_cons_zero, List.set_cons_succ])
    refine wpAnyH_done (by kernel_rfl) ?_ _
    have mB : Hid (W5.heap[B]? = some (.cells (rpA rp0 (.slice none 0 0) (.slice none 0 0)) 39)) := getL k5.out F.out.2.1 (by have := HRe.out; omega)
    go_wp2_with (first | refine wpList_ldR rfl 39 (.tmp 4) rfl R rfl _ _ f5.out Try.underlying39 rp_info ?_ | refine wpList_stR rfl 39 (.tmp 2) (.tmp 29) rfl B rfl (rpA la (.slice na la.hs.length nc) (.slice ka la.ms.length kc)) _ rfl _ mB.out rp_info rfl (by simp [rpA, Value.oneCell']) ?_)
    have kr : Kp W3 (W5.setRow B (rpA la (.slice na la.hs.length nc) (.slice ka la.ms.length kc))) (fun k => k = R ∨ k = B) := (k5.out.mono (T := fun k => k = R ∨ k = B) (fun k e => Or.inl e)).row (b := B) (Or.inl (Or.inr rfl)) _
    refine bodyPost_ret (v := .tuple #[.agg (rpA la (.slice na la.hs.length nc) (.slice ka la.ms.length kc)), .int .i64 0]) (res_row2 Try.results13 _ _ _ B rfl _ rfl _ (setRow_heap _ _ _ _ _ _ mB.out) Try.underlying39 rp_info) rfl ⟨_, _, rfl, ?_, ?_, ?_⟩
    · refine own_mono (own_kp F.out.2.2.1 kr (fun k hk e => ?_)) (by have := HRe.out; omega)
      have := own_ge F.out.2.2.1 hk
      have := HRe.out
      omega
    · refine own_mono (own_kp F.out.2.2.2.1 kr (fun k hk e => ?_)) (by have := HRe.out; omega)
      have := own_ge F.out.2.2.2.1 hk
      have := HRe.out
      omega
    · have := (F.out.2.2.2.2.trans kr (fun k e => Or.inr (by have := HRe.out; have := HB.out; omega))).below
      rwa [← HB.out] at this
end Go.Proofs.Ytpmicmhkahgjcaa.Cn
namespace Go.Proofs.Ytpmicmhkahgjcaa.Cn
open Go.RowKit
/-- a controller that may be: what its calls keep -/
structure Ct.fine (c : Ct) : Prop where
  n1 : 1 ≤ c.ru.n
  n16 : c.ru.n ≤ 16
  rs1 : 1 ≤ c.ru.rs
  rs2 : c.ru.rs ≤ 1000000
  lm1 : 1 ≤ c.ru.lm
  lm2 : c.ru.lm ≤ 1000000
  pt1 : 1 ≤ c.ru.pt
  pt2 : c.ru.pt ≤ 1000000000
  nu0 : 0 ≤ c.num
  nu1 : c.num ≤ 9007199254740992
  rd : ∀ p r, c.ph = some (p, r) → r.al.length = c.ru.n ∧ 0 ≤ r.tk ∧ r.sd = 1 + r.tk / c.ru.rs ∧ r.num = c.num ∧ (p = .fetch → r.tk < c.ru.pt) ∧ (p ≠ .fetch → r.tk < c.ru.rs * c.ru.lm)
  la : c.last.hs.length ≤ 16 ∧ c.last.ms.length ≤ 16
theorem mul_le {a b : Int} (a1 : a ≤ 1000000) (b0 : 0 ≤ b) (b1 : b ≤ 1000000) : a * b ≤ 1000000000000 := by
  have h1 : a * b ≤ 1000000 * b := Int.mul_le_mul_of_nonneg_right a1 b0
  have h2 : (1000000 : Int) * b ≤ 1000000 * 1000000 := Int.mul_le_mul_of_nonneg_left b1 (by omega)
  omega
theorem Ct.fine.tk {c : Ct} (h : c.fine) {p : Ph} {r : Rd} (hp : c.ph = some (p, r)) : 0 ≤ r.tk ∧ r.tk ≤ 1000000000000 := by
  obtain ⟨_, h0, _, _, h3, h4⟩ := h.rd p r hp
  refine ⟨h0, ?_⟩
  have := mul_le h.rs2 (by have := h.lm1; omega) h.lm2
  have := h.pt2
  by_cases e : p = .fetch
  · have := h3 e; omega
  · have := h4 e; omega
theorem Ct.fine.sd {c : Ct} (h : c.fine) {p : Ph} {r : Rd} (hp : c.ph = some (p, r)) : 1 ≤ r.sd ∧ r.sd ≤ 1000000000001 := by
  obtain ⟨t0, t1⟩ := h.tk hp
  obtain ⟨_, _, h2, _⟩ := h.rd p r hp
  have g1 : 0 ≤ r.tk / c.ru.rs := Int.ediv_nonneg t0 (by have := h.rs1; omega)
  have g2 : r.tk / c.ru.rs ≤ r.tk := Int.ediv_le_self _ t0
  omega
theorem Ct.fine.ok {c : Ct} (h : c.fine) : c.ok :=
  ⟨h.n1, h.n16, h.rs1, by have := h.rs2; omega, fun p r hp => by have := h.tk hp; have := h.sd hp; omega⟩
theorem miss_len (al : List (Bool × Int)) : (miss al).length ≤ al.length := missL_len al al.length
theorem fine_ent {c : Ct} (h : c.fine) (p : Ph) (k v : Int) : (entP c p (rd0 c.ru c.num k v)).fine := by
  refine ⟨h.n1, h.n16, h.rs1, h.rs2, h.lm1, h.lm2, h.pt1, h.pt2, h.nu0, h.nu1, fun p' r' e => ?_, h.la⟩
  simp only [entP, Option.some.injEq, Prod.mk.injEq] at e
  obtain ⟨rfl, rfl⟩ := e
  refine ⟨by simp [rd0, entP], by simp [rd0], by simp [rd0], rfl, fun _ => ?_, fun _ => ?_⟩
  · show (0 : Int) < c.ru.pt
    have := h.pt1; omega
  · show (0 : Int) < c.ru.rs * c.ru.lm
    exact Int.mul_pos (by have := h.rs1; omega) (by have := h.lm1; omega)
theorem fine_end {c : Ct} (h : c.fine) {r : Rd} (hl : r.al.length = c.ru.n) (o : Int) : (endC c r o).fine := by
  refine ⟨h.n1, h.n16, h.rs1, h.rs2, h.lm1, h.lm2, h.pt1, h.pt2, h.nu0, h.nu1, fun p' r' e => by simp [endC] at e, ?_⟩
  have := miss_len r.al
  have := h.n16
  simp only [endC, repO, List.length_map]
  omega
theorem fine_rd {c : Ct} (h : c.fine) {p : Ph} {r' : Rd} (hr : r'.al.length = c.ru.n ∧ 0 ≤ r'.tk ∧ r'.sd = 1 + r'.tk / c.ru.rs ∧ r'.num = c.num ∧ (p = .fetch → r'.tk < c.ru.pt) ∧ (p ≠ .fetch → r'.tk < c.ru.rs * c.ru.lm)) : ({ c with ph := some (p, r') } : Ct).fine := by
  refine ⟨h.n1, h.n16, h.rs1, h.rs2, h.lm1, h.lm2, h.pt1, h.pt2, h.nu0, h.nu1, fun p' r'' e => ?_, h.la⟩
  simp only [Option.some.injEq, Prod.mk.injEq] at e
  obtain ⟨rfl, rfl⟩ := e
  exact hr
/-- the calls, of any controller -/
def takeC (c : Ct) (m : Mg) : Ct := match c.ph with | none => c | some x => takC c x.1 x.2 m
def takeL (c : Ct) (m : Mg) : List Mg := match c.ph with | none => [] | some x => takL c x.1 x.2 m
def tickC (c : Ct) : Ct := match c.ph with | none => c | some x => folC { c with ph := some (x.1, tkR x.2) } x.1 (tkR x.2) (tickV x.1 c.ru x.2)
def tickL (c : Ct) : List Mg := match c.ph with | none => [] | some x => folL { c with ph := some (x.1, tkR x.2) } x.1 (tkR x.2) (tickV x.1 c.ru x.2)
theorem fine_fol {c : Ct} (h : c.fine) {p : Ph} {r : Rd} (hp : c.ph = some (p, r)) {v : Int} (hv : v = 0 ∨ v = 2 ∨ v = 3 ∨ v = 4 ∨ v = 5 ∨ v = 6) : (folC c p r v).fine := by
  obtain ⟨hl, _, _, hn, _⟩ := h.rd p r hp
  rcases hv with rfl | rfl | rfl | rfl | rfl | rfl <;> simp only [folC] <;> simp
  · exact h
  · rw [hn]; exact fine_ent h _ _ _
  · rw [hn]; exact fine_ent h _ _ _
  · exact fine_end h hl _
  · exact fine_end h hl _
  · exact fine_end h hl _
theorem takeC_fine {c : Ct} (h : c.fine) (m : Mg) : (takeC c m).fine := by
  unfold takeC
  cases hp : c.ph with
  | none => exact h
  | some x =>
    obtain ⟨p, r⟩ := x
    have hr := h.rd p r hp
    have hn : ({ c with ph := some (p, ntR r m) } : Ct).fine := fine_rd h ⟨by simpa [ntR] using hr.1, hr.2.1, hr.2.2.1, hr.2.2.2.1, hr.2.2.2.2.1, hr.2.2.2.2.2⟩
    simp only [takC]
    split
    · split
      · split
        · exact fine_fol hn rfl (by cases p <;> simp [comV])
        · exact hn
      · exact fine_fol h hp (by cases p <;> simp [refV])
    · exact h
theorem div_step {t s : Int} (h1 : 1 ≤ s) : ((t + 1) % s = 0 → (t + 1) / s = t / s + 1) ∧ ((t + 1) % s ≠ 0 → (t + 1) / s = t / s) := by
  have a1 := Int.mul_ediv_add_emod t s
  have a2 := Int.mul_ediv_add_emod (t + 1) s
  have b1 := Int.emod_nonneg t (show s ≠ 0 by omega)
  have b2 := Int.emod_lt_of_pos t (show 0 < s by omega)
  have b3 := Int.emod_nonneg (t + 1) (show s ≠ 0 by omega)
  have b4 := Int.emod_lt_of_pos (t + 1) (show 0 < s by omega)
  generalize hx : t / s = x at *
  generalize hy : (t + 1) / s = y at *
  generalize t % s = m1 at *
  generalize (t + 1) % s = m2 at *
  have e : s * (y - x) = 1 + m1 - m2 := by rw [Int.mul_sub]; omega
  constructor
  · intro hm
    subst hm
    have lo : 0 < s * (y - x) := by omega
    have hi : s * (y - x) ≤ s := by omega
    have l1 : 0 < y - x := by
      rcases Int.lt_or_le 0 (y - x) with q | q
      · exact q
      · have := Int.mul_le_mul_of_nonneg_left q (show 0 ≤ s by omega); simp at this; omega
    have l2 : y - x ≤ 1 := by
      rcases Int.lt_or_le 1 (y - x) with q | q
      · have := Int.mul_le_mul_of_nonneg_left (show 2 ≤ y - x by omega) (show 0 ≤ s by omega); omega
      · exact q
    omega
  · intro hm
    have lo : -s < s * (y - x) := by omega
    have hi : s * (y - x) < s := by omega
    have l1 : -1 < y - x := by
      rcases Int.lt_or_le (-1) (y - x) with q | q
      · exact q
      · have := Int.mul_le_mul_of_nonneg_left q (show 0 ≤ s by omega); omega
    have l2 : y - x < 1 := by
      rcases Int.lt_or_le (y - x) 1 with q | q
      · exact q
      · have := Int.mul_le_mul_of_nonneg_left q (show 0 ≤ s by omega); omega
    omega
end Go.Proofs.Ytpmicmhkahgjcaa.Cn
