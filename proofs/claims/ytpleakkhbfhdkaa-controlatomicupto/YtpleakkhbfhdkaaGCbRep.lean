import Derived.Test.YtpleakkhbfhdkaaGCbBegin
import Derived.Test.YtpleakkhbfhdkaaGCgOrder
namespace Go.Proofs.Ytpleakkhbfhdkaa.Cn
open Go.RowKit
set_option maxHeartbeats 8000000 in
set_option maxRecDepth 100000 in
set_option linter.unusedSimpArgs false in
set_option linter.unusedVariables false in
theorem Report_no {w : World} {S : Nat → Prop} {C : Nat} {c : Ct} (h : CtAt w S C c) (hn : 1 ≤ c.ru.n) (hj : c.last.job = 0) :
    Calls Try.prog 13 #[.pointer (some ⟨C, 0, none⟩)] w fun e w' => e = .returned (.tuple #[.agg (rpA rp0 (.slice none 0 0) (.slice none 0 0)), .int .i64 151]) ∧ Below w.heap.size w w' := by
  obtain ⟨W0, hW0⟩ : ∃ W0, W0 = w.alloc (.cells (rpA rp0 (.slice none 0 0) (.slice none 0 0)) 39) := ⟨_, rfl⟩
  have b0 : Hid (Below w.heap.size w W0) := by rw [hW0]; exact (Below.refl _ w).alloc (Nat.le_refl _) _
  have m0 : Hid (W0.heap[w.heap.size]? = some (.cells (rpA rp0 (.slice none 0 0) (.slice none 0 0)) 39)) := by rw [hW0]; exact heap_last w _
  have NO := hide (none_any (h.below b0.out) hn)
  obtain ⟨P, A, hv, mv, h⟩ := h.below b0.out
  have c6 := h.cells.2.2.2.2.2.2
  rw [hj] at c6
  clear h hj
  go_enter Try.func13, Try.ntmps13
  go_upto_region 1 with fail
  rw [show (#[.int .i64 0, .int .i64 0, .int .i64 0, .int .i64 0, .slice none 0 0, .slice none 0 0] : Array Value) = rpA rp0 (.slice none 0 0) (.slice none 0 0) from rfl]
  rw [← hW0]
  clear hW0
  go_wp2_with fail
  refine Calls.mono NO.out ?_
  rintro e W1 ⟨rfl, rfl⟩
  go_wp2_with (first | refine wpList_blR rfl 39 #[] rfl (rpA rp0 (.slice none 0 0) (.slice none 0 0)) (by kernel_rfl) ?_ | refine wpList_stR rfl 39 (.tmp 2) (.tmp 16) rfl w.heap.size rfl (rpA rp0 (.slice none 0 0) (.slice none 0 0)) _ rfl _ m0.out rp_info rfl (by simp [rpA, Value.oneCell']) ?_)
  refine bodyPost_ret (v := .tuple #[.agg (rpA rp0 (.slice none 0 0) (.slice none 0 0)), .int .i64 151]) (res_row2 Try.results13 _ _ _ w.heap.size rfl _ rfl _ (setRow_heap _ _ _ _ _ _ m0.out) Try.underlying39 rp_info) rfl ⟨rfl, ?_⟩
  exact ((Kp.of_below b0.out non).row (Or.inr (Nat.le_refl _)) _).below
theorem rp_set4 {w : World} {b : Nat} {p : Rp} {h1 m1 : Value} (h : w.heap[b]? = some (.cells (rpA p h1 m1) 39)) (v : Value) : (w.setCell ⟨b, 4, none⟩ v).heap[b]? = some (.cells (rpA p v m1) 39) := set_row h 4 v
theorem rp_set5 {w : World} {b : Nat} {p : Rp} {h1 m1 : Value} (h : w.heap[b]? = some (.cells (rpA p h1 m1) 39)) (v : Value) : (w.setCell ⟨b, 5, none⟩ v).heap[b]? = some (.cells (rpA p h1 v) 39) := set_row h 5 v
theorem CtX.rep {w : World} {S : Nat → Prop} {C P A : Nat} {hv mv : Value} {c : Ct} (h : CtX w S C P A hv mv c) : w.rangeAt C 6 (rpA c.last hv mv).toList := by
  intro j v hj
  rw [cell_row h.ob]
  have hl := (List.getElem?_eq_some_iff.1 hj).1
  have : j = 0 ∨ j = 1 ∨ j = 2 ∨ j = 3 ∨ j = 4 ∨ j = 5 := by simp [rpA] at hl; omega
  rcases this with rfl | rfl | rfl | rfl | rfl | rfl <;> exact hj
set_option maxHeartbeats 8000000 in
set_option maxRecDepth 100000 in
set_option linter.unusedSimpArgs false in
set_option linter.unusedVariables false in
theorem Report_yes {w : World} {S : Nat → Prop} {C : Nat} {c : Ct} (h : CtAt w S C c) (hn : 1 ≤ c.ru.n) (hj : c.last.job ≠ 0) (hl1 : c.last.hs.length ≤ 1000000) (hl2 : c.last.ms.length ≤ 1000000) :
    Calls Try.prog 13 #[.pointer (some ⟨C, 0, none⟩)] w fun e w' => ∃ nh nm, e = .returned (.tuple #[.agg (rpA c.last nh nm), .int .i64 0]) ∧ w'.ownsRow w.heap.size 3 1 nh c.last.hs.length (ints c.last.hs) ∧ w'.ownsRow w.heap.size 3 1 nm c.last.ms.length (ints c.last.ms) ∧ Below w.heap.size w w' := by
  obtain ⟨B, hB⟩ : ∃ B, B = w.heap.size := ⟨_, rfl⟩
  obtain ⟨W0, hW0⟩ : ∃ W0, W0 = w.alloc (.cells (rpA rp0 (.slice none 0 0) (.slice none 0 0)) 39) := ⟨_, rfl⟩
  have b0 : Hid (Below w.heap.size w W0) := by rw [hW0]; exact (Below.refl _ w).alloc (Nat.le_refl _) _
  have m0 : Hid (W0.heap[B]? = some (.cells (rpA rp0 (.slice none 0 0) (.slice none 0 0)) 39)) := by rw [hW0, hB]; exact heap_last w _
  have s0 : W0.heap.size = B + 1 := by rw [hW0, hB]; exact World.size_alloc _ _
  have NO := hide (none_any (h.below b0.out) hn)
  obtain ⟨P, A, hv, mv, h0⟩ := h.below b0.out
  have c6 := h0.cells.2.2.2.2.2.2
  have q6 : (c.last.job == 0) = false := by simpa using hj
  have HR := hide h0.rep
  have HB := hide hB
  obtain ⟨W1, hW1⟩ : ∃ W1, W1 = (W0.alloc (.cells #[.int .i64 0, .int .i64 0, .int .i64 0, .int .i64 0, .slice none 0 0, .slice none 0 0] 39)).setRow W0.heap.size (rpA c.last hv mv) := ⟨_, rfl⟩
  have b1 : Below W0.heap.size W0 W1 := by rw [hW1]; exact (((Kp.refl W0 non).alloc _).row (Or.inr (Nat.le_refl _)) _).below
  have B1 := hide b1
  obtain ⟨R, hR⟩ : ∃ R, R = W0.heap.size := ⟨_, rfl⟩
  have m1 : Hid (W1.heap[R]? = some (.cells (rpA c.last hv mv) 39)) := by rw [hW1, hR]; exact setRow_heap _ _ _ _ _ _ (heap_last W0 _)
  have HRe : Hid (R = B + 1) := by rw [hR, s0]; rfl
  have s1 : Hid (W1.heap.size = R + 1) := by rw [hW1, hR]; simp only [World.setRow, Array.size_modify]; exact World.size_alloc _ _
  have O1 : Hid (W1.ownsRow 0 3 1 hv c.last.hs.length (ints c.last.hs)) := own_below h0.hs b1
  have O2 : Hid (W1.ownsRow 0 3 1 mv c.last.ms.length (ints c.last.ms)) := own_below h0.ms b1
  have M1 : Hid (W1.heap[B]? = some (.cells (rpA rp0 (.slice none 0 0) (.slice none 0 0)) 39)) := (b1.block _ (blk_lt m0.out)).trans m0.out
  have hvs : ∃ a n cc, hv = .slice a n cc := by obtain ⟨a, cc, e⟩ := own_sl h0.hs; exact ⟨_, _, _, e⟩
  have mvs : ∃ a n cc, mv = .slice a n cc := by obtain ⟨a, cc, e⟩ := own_sl h0.ms; exact ⟨_, _, _, e⟩
  have VS := hide (And.intro hvs mvs)
  have ONE := hide (rp_one c.last hvs mvs)
  have D1 : Below W1.heap.size W1 W1.drew := ⟨rfl, rfl, rfl, Nat.le_refl _, fun _ _ => rfl⟩
  replace hW1 := hide hW1
  rw [← hB]
  have HR2 := hide hR
  clear h h0 hj b1 hR s0 hvs mvs
  generalize c.last = la at *
  go_enter Try.func13, Try.ntmps13
  go_upto_region 1 with fail
  rw [show (#[.int .i64 0, .int .i64 0, .int .i64 0, .int .i64 0, .slice none 0 0, .slice none 0 0] : Array Value) = rpA rp0 (.slice none 0 0) (.slice none 0 0) from rfl]
  rw [← hW0, ← HB.out]
  clear hW0 hB
  go_wp2_with fail
  refine Calls.mono NO.out ?_
  rintro e Wx ⟨rfl, rfl⟩
  clear NO
  go_upto_region 6 with (first | refine wpList_load_mid rfl 39 (.tmp 19) rfl C 6 rfl (rpA la hv mv).toList _ HR.out Try.underlying39 rfl rp_info ?_ | refine wpList_stR rfl 39 (.tmp 4) (.tmp 20) rfl W0.heap.size rfl (rpA la hv mv) #[.int .i64 0, .int .i64 0, .int .i64 0, .int .i64 0, .slice none 0 0, .slice none 0 0] rfl _ (heap_last W0 _) rp_info rfl ONE.out ?_)
  rw [← hW1.out, ← HR2.out]
  clear hW1 HR2 c6 q6 HR
  have y4 : W1.cell? ⟨R, 4, none⟩ = some hv := by rw [cell_row m1.out]; rfl
  have y5 : W1.cell? ⟨R, 5, none⟩ = some mv := by rw [cell_row m1.out]; rfl
  obtain ⟨⟨ha, hnn, hc, rfl⟩, ⟨ma, mn, mc, rfl⟩⟩ := VS.out
  have C1 := hide (clone_any (own_below O1.out D1) hl1)
  have FIN : Hid (∀ (W2 W3 : World) (nh nm : Value), W2.ownsRow W1.heap.size 3 1 nh la.hs.length (ints la.hs) → Below W1.heap.size W1 W2 → W3.ownsRow W2.heap.size 3 1 nm la.ms.length (ints la.ms) → Below W2.heap.size W2 W3 → W3.heap[R]? = some (.cells (rpA la (.slice ha hnn hc) (.slice ma mn mc)) 39) ∧ W3.heap[B]? = some (.cells (rpA rp0 (.slice none 0 0) (.slice none 0 0)) 39) ∧ W3.ownsRow (R + 1) 3 1 nh la.hs.length (ints la.hs) ∧ W3.ownsRow (R + 1) 3 1 nm la.ms.length (ints la.ms) ∧ Kp w W3 non) := fun W2 W3 nh nm h1 h2 h3 h4 => by
    refine ⟨(h4.block _ (by have := h2.size; have := blk_lt m1.out; omega)).trans ((h2.block _ (blk_lt m1.out)).trans m1.out), (h4.block _ (by have := h2.size; have := blk_lt M1.out; omega)).trans ((h2.block _ (blk_lt M1.out)).trans M1.out), by rw [← s1.out]; exact own_below h1 h4, own_mono h3 (by rw [← s1.out]; exact h2.size), ?_⟩
    exact (((Kp.of_below b0.out non).trans (Kp.of_below B1.out non) (fun _ f => f.elim)).trans (Kp.of_below h2 non) (fun _ f => f.elim)).trans (Kp.of_below h4 non) (fun _ f => f.elim)
  refine wp_region_held_drew (S := fun _ => True) (by kernel_rfl) trivial (fun hHeld => ?_)
  refine wpAnyH_take (i := 0) (v := (.pointer (some ⟨R, 4, none⟩))) rfl (by kernel_rfl) (by kernel_rfl) (by kernel_rfl) (fun _ _ _ h => h) (Or.inl ⟨by kernel_rfl, ?_⟩) (by assumption) ?_
  · intro w' hSw
    (try dsimp only at hSw)
    go_simp
  (try simp only [Act.put, List.getElem_toArray, List.getElem_cons_zero, List.getElem_cons_succ, List.setIfInBounds_toArray, List.set_cons_zero, List.set_cons_succ])
  refine wpAnyH_take (i := 3) (v := (.pointer (some ⟨R, 5, none⟩))) rfl (by kernel_rfl) (by kernel_rfl) (by kernel_rfl) (fun _ _ _ h => h) (Or.inl ⟨by kernel_rfl, ?_⟩) (by assumption) ?_
  · intro w' hSw
    (try dsimp only at hSw)
    go_simp
  (try simp only [Act.put, List.getElem_toArray, List.getElem_cons_zero, List.getElem_cons_succ, List.setIfInBounds_toArray, List.set_cons_zero, List.set_cons_succ])
  refine wpAnyH_ready (rs := [1, 4]) (by kernel_rfl) (by simp) ?_
  refine AllReadyH.cons rfl (fun K hK => ?_) (AllReadyH.cons rfl (fun K hK => ?_) AllReadyH.nil)
  · go_simp
    refine hK.out _ _ (trivial) (fun hHeld => ?_)
    clear hK
    (try simp only [Act.put, List.setIfInBounds_toArray, List.set_cons_zero, List.set_cons_succ])
    refine wpAnyH_ready (rs := [2, 4]) (by kernel_rfl) (by simp) ?_
    refine AllReadyH.cons rfl (fun K hK => ?_) (AllReadyH.cons rfl (fun K hK => ?_) AllReadyH.nil)
    · go_simp
      refine Calls.mono C1.out ?_
      rintro e W2 ⟨nh, rfl, o1, hb⟩
      have BB2 := hide (D1.trans hb)
      have o1 := hide o1
      clear hb
      refine hK.out _ _ (trivial) (fun hHeld => ?_)
      clear hK
      (try simp only [Act.put, List.setIfInBounds_toArray, List.set_cons_zero, List.set_cons_succ])
      have yy : W2.cell? ⟨R, 5, none⟩ = some (.slice ma mn mc) := ((Kp.of_below BB2.out non).cell (blk_lt m1.out) (fun f => f)).trans y5
      refine wpAnyH_ready (rs := [4]) (by kernel_rfl) (by simp) ?_
      refine AllReadyH.cons rfl (fun K hK => ?_) AllReadyH.nil
      go_simp
      clear yy
      refine hK.out _ _ (trivial) (fun hHeld => ?_)
      clear hK
      (try simp only [Act.put, List.setIfInBounds_toArray, List.set_cons_zero, List.set_cons_succ])
      have C2 := hide (clone_any (own_below O2.out BB2.out) hl2)
      refine wpAnyH_take (i := 6) (v := (.pointer (some ⟨R, 4, none⟩))) rfl (by kernel_rfl) (by kernel_rfl) (by kernel_rfl) (fun _ _ _ h => h) (Or.inl ⟨by kernel_rfl, ?_⟩) (by assumption) ?_
      · intro w' hSw
        (try dsimp only at hSw)
        go_simp
      (try simp only [Act.put, List.getElem_toArray, List.getElem_cons_zero, List.getElem_cons_succ, List.setIfInBounds_toArray, List.set_cons_zero, List.set_cons_succ])
      refine wpAnyH_ready (rs := [5]) (by kernel_rfl) (by simp) ?_
      refine AllReadyH.cons rfl (fun K hK => ?_) AllReadyH.nil
      go_simp
      refine Calls.mono C2.out ?_
      rintro e W3 ⟨nm, rfl, o2, hb⟩
      have F := hide (FIN.out W2 W3 nh nm o1.out BB2.out o2 hb)
      clear hb o2 C2 C1
      obtain ⟨na, nc, rfl⟩ := own_sl F.out.2.2.1
      obtain ⟨ka, kc, rfl⟩ := own_sl F.out.2.2.2.1
      have z4 : W3.frozen? ⟨R, 4, none⟩ = false := fz_row F.out.1 4
      have x4 : W3.cell? ⟨R, 4, none⟩ = some (.slice ha hnn hc) := by rw [cell_row F.out.1]; rfl
      obtain ⟨W4, hW4⟩ : ∃ W4, W4 = W3.setCell ⟨R, 4, none⟩ (.slice na la.hs.length nc) := ⟨_, rfl⟩
      have f4 : W4.heap[R]? = some (.cells (rpA la (.slice na la.hs.length nc) (.slice ma mn mc)) 39) := by rw [hW4]; exact rp_set4 F.out.1 _
      obtain ⟨W5, hW5⟩ : ∃ W5, W5 = W4.setCell ⟨R, 5, none⟩ (.slice ka la.ms.length kc) := ⟨_, rfl⟩
      have f5 : Hid (W5.heap[R]? = some (.cells (rpA la (.slice na la.hs.length nc) (.slice ka la.ms.length kc)) 39)) := by rw [hW5]; exact rp_set5 f4 _
      have k5 : Hid (Kp W3 W5 (fun k => k = R)) := by rw [hW5, hW4]; exact ((Kp.refl W3 (fun k => k = R)).set (Or.inl rfl) _ _).set (Or.inl rfl) _ _
      have z5 : W4.frozen? ⟨R, 5, none⟩ = false := fz_row f4 5
      have x5 : W4.cell? ⟨R, 5, none⟩ = some (.slice ma mn mc) := by rw [cell_row f4]; rfl
      replace hW4 := hide hW4
      replace hW5 := hide hW5
      clear f4
      refine hK.out _ _ (trivial) (fun hHeld => ?_)
      clear hK
      (try simp only [Act.put, List.setIfInBounds_toArray, List.set_cons_zero, List.set_cons_succ])
      refine wpAnyH_ready (rs := [7]) (by kernel_rfl) (by simp) ?_
      refine AllReadyH.cons rfl (fun K hK => ?_) AllReadyH.nil
      go_simp
      rw [← hW4.out]
      clear hW4 z4 x4
      refine hK.out _ _ (trivial) (fun hHeld => ?_)
      clear hK
      (try simp only [Act.put, List.setIfInBounds_toArray, List.set_cons_zero, List.set_cons_succ])
      refine wpAnyH_take (i := 8) (v := (.pointer (some ⟨R, 5, none⟩))) rfl (by kernel_rfl) (by kernel_rfl) (by kernel_rfl) (fun _ _ _ h => h) (Or.inl ⟨by kernel_rfl, ?_⟩) (by assumption) ?_
      · intro w' hSw
        (try dsimp only at hSw)
        go_simp
      (try simp only [Act.put, List.getElem_toArray, List.getElem_cons_zero, List.getElem_cons_succ, List.setIfInBounds_toArray, List.set_cons_zero, List.set_cons_succ])
      refine wpAnyH_ready (rs := [9]) (by kernel_rfl) (by simp) ?_
      refine AllReadyH.cons rfl (fun K hK => ?_) AllReadyH.nil
      go_simp
      rw [← hW5.out]
      clear hW5 z5 x5
      refine hK.out _ _ (trivial) (fun hHeld => ?_)
      clear hK
      (try simp only [Act.put, List.setIfInBounds_toArray, List.set_cons_zero, List.set_cons_succ])
      refine wpAnyH_done (by kernel_rfl) ?_ _
      have mB : Hid (W5.heap[B]? = some (.cells (rpA rp0 (.slice none 0 0) (.slice none 0 0)) 39)) := getL k5.out F.out.2.1 (by have := HRe.out; omega)
      go_wp2_with (first | refine wpList_ldR rfl 39 (.tmp 4) rfl R rfl _ _ f5.out Try.underlying39 rp_info ?_ | refine wpList_stR rfl 39 (.tmp 2) (.tmp 29) rfl B rfl (rpA la (.slice na la.hs.length nc) (.slice ka la.ms.length kc)) _ rfl _ mB.out rp_info rfl (by simp [rpA, Value.oneCell']) ?_)
      have kr : Kp W3 (W5.setRow B (rpA la (.slice na la.hs.length nc) (.slice ka la.ms.length kc))) (fun k => k = R ∨ k = B) := (k5.out.mono (T := fun k => k = R ∨ k = B) (fun k e => Or.inl e)).row (b := B) (Or.inl (Or.inr rfl)) _
      refine bodyPost_ret (v := .tuple #[.agg (rpA la (.slice na la.hs.length nc) (.slice ka la.ms.length kc)), .int .i64 0]) (res_row2 Try.results13 _ _ _ B rfl _ rfl _ (setRow_heap _ _ _ _ _ _ mB.out) Try.underlying39 rp_info) rfl ⟨_, _, rfl, ?_, ?_, ?_⟩
      · refine own_mono (own_kp F.out.2.2.1 kr (fun k hk e => ?_)) (by have := HRe.out; omega)
        have := own_ge F.out.2.2.1 hk
        have := HRe.out
        omega
      · refine own_mono (own_kp F.out.2.2.2.1 kr (fun k hk e => ?_)) (by have := HRe.out; omega)
        have := own_ge F.out.2.2.2.1 hk
        have := HRe.out
        omega
      · have := (F.out.2.2.2.2.trans kr (fun k e => Or.inr (by have := HRe.out; have := HB.out; omega))).below
        rwa [← HB.out] at this
    · go_simp
      refine hK.out _ _ (trivial) (fun hHeld => ?_)
      clear hK
      (try simp only [Act.put, List.setIfInBounds_toArray, List.set_cons_zero, List.set_cons_succ])
      refine wpAnyH_ready (rs := [2]) (by kernel_rfl) (by simp) ?_
      refine AllReadyH.cons rfl (fun K hK => ?_) AllReadyH.nil
      go_simp
      refine Calls.mono C1.out ?_
      rintro e W2 ⟨nh, rfl, o1, hb⟩
      have BB2 := hide (D1.trans hb)
      have o1 := hide o1
      clear hb
      refine hK.out _ _ (trivial) (fun hHeld => ?_)
      clear hK
      (try simp only [Act.put, List.setIfInBounds_toArray, List.set_cons_zero, List.set_cons_succ])
      have C2 := hide (clone_any (own_below O2.out BB2.out) hl2)
      refine wpAnyH_take (i := 6) (v := (.pointer (some ⟨R, 4, none⟩))) rfl (by kernel_rfl) (by kernel_rfl) (by kernel_rfl) (fun _ _ _ h => h) (Or.inl ⟨by kernel_rfl, ?_⟩) (by assumption) ?_
      · intro w' hSw
        (try dsimp only at hSw)
        go_simp
      (try simp only [Act.put, List.getElem_toArray, List.getElem_cons_zero, List.getElem_cons_succ, List.setIfInBounds_toArray, List.set_cons_zero, List.set_cons_succ])
      refine wpAnyH_ready (rs := [5]) (by kernel_rfl) (by simp) ?_
      refine AllReadyH.cons rfl (fun K hK => ?_) AllReadyH.nil
      go_simp
      refine Calls.mono C2.out ?_
      rintro e W3 ⟨nm, rfl, o2, hb⟩
      have F := hide (FIN.out W2 W3 nh nm o1.out BB2.out o2 hb)
      clear hb o2 C2 C1
      obtain ⟨na, nc, rfl⟩ := own_sl F.out.2.2.1
      obtain ⟨ka, kc, rfl⟩ := own_sl F.out.2.2.2.1
      have z4 : W3.frozen? ⟨R, 4, none⟩ = false := fz_row F.out.1 4
      have x4 : W3.cell? ⟨R, 4, none⟩ = some (.slice ha hnn hc) := by rw [cell_row F.out.1]; rfl
      obtain ⟨W4, hW4⟩ : ∃ W4, W4 = W3.setCell ⟨R, 4, none⟩ (.slice na la.hs.length nc) := ⟨_, rfl⟩
      have f4 : W4.heap[R]? = some (.cells (rpA la (.slice na la.hs.length nc) (.slice ma mn mc)) 39) := by rw [hW4]; exact rp_set4 F.out.1 _
      obtain ⟨W5, hW5⟩ : ∃ W5, W5 = W4.setCell ⟨R, 5, none⟩ (.slice ka la.ms.length kc) := ⟨_, rfl⟩
      have f5 : Hid (W5.heap[R]? = some (.cells (rpA la (.slice na la.hs.length nc) (.slice ka la.ms.length kc)) 39)) := by rw [hW5]; exact rp_set5 f4 _
      have k5 : Hid (Kp W3 W5 (fun k => k = R)) := by rw [hW5, hW4]; exact ((Kp.refl W3 (fun k => k = R)).set (Or.inl rfl) _ _).set (Or.inl rfl) _ _
      have z5 : W4.frozen? ⟨R, 5, none⟩ = false := fz_row f4 5
      have x5 : W4.cell? ⟨R, 5, none⟩ = some (.slice ma mn mc) := by rw [cell_row f4]; rfl
      replace hW4 := hide hW4
      replace hW5 := hide hW5
      clear f4
      refine hK.out _ _ (trivial) (fun hHeld => ?_)
      clear hK
      (try simp only [Act.put, List.setIfInBounds_toArray, List.set_cons_zero, List.set_cons_succ])
      refine wpAnyH_ready (rs := [7]) (by kernel_rfl) (by simp) ?_
      refine AllReadyH.cons rfl (fun K hK => ?_) AllReadyH.nil
      go_simp
      rw [← hW4.out]
      clear hW4 z4 x4
      refine hK.out _ _ (trivial) (fun hHeld => ?_)
      clear hK
      (try simp only [Act.put, List.setIfInBounds_toArray, List.set_cons_zero, List.set_cons_succ])
      refine wpAnyH_take (i := 8) (v := (.pointer (some ⟨R, 5, none⟩))) rfl (by kernel_rfl) (by kernel_rfl) (by kernel_rfl) (fun _ _ _ h => h) (Or.inl ⟨by kernel_rfl, ?_⟩) (by assumption) ?_
      · intro w' hSw
        (try dsimp only at hSw)
        go_simp
      (try simp only [Act.put, List.getElem_toArray, List.getElem_cons_zero, List.getElem_cons_succ, List.setIfInBounds_toArray, List.set_cons_zero, List.set_cons_succ])
      refine wpAnyH_ready (rs := [9]) (by kernel_rfl) (by simp) ?_
      refine AllReadyH.cons rfl (fun K hK => ?_) AllReadyH.nil
      go_simp
      rw [← hW5.out]
      clear hW5 z5 x5
      refine hK.out _ _ (trivial) (fun hHeld => ?_)
      clear hK
      (try simp only [Act.put, List.setIfInBounds_toArray, List.set_cons_zero, List.set_cons_succ])
      refine wpAnyH_done (by kernel_rfl) ?_ _
      have mB : Hid (W5.heap[B]? = some (.cells (rpA rp0 (.slice none 0 0) (.slice none 0 0)) 39)) := getL k5.out F.out.2.1 (by have := HRe.out; omega)
      go_wp2_with (first | refine wpList_ldR rfl 39 (.tmp 4) rfl R rfl _ _ f5.out Try.underlying39 rp_info ?_ | refine wpList_stR rfl 39 (.tmp 2) (.tmp 29) rfl B rfl (rpA la (.slice na la.hs.length nc) (.slice ka la.ms.length kc)) _ rfl _ mB.out rp_info rfl (by simp [rpA, Value.oneCell']) ?_)
      have kr : Kp W3 (W5.setRow B (rpA la (.slice na la.hs.length nc) (.slice ka la.ms.length kc))) (fun k => k = R ∨ k = B) := (k5.out.mono (T := fun k => k = R ∨ k = B) (fun k e => Or.inl e)).row (b := B) (Or.inl (Or.inr rfl)) _
      refine bodyPost_ret (v := .tuple #[.agg (rpA la (.slice na la.hs.length nc) (.slice ka la.ms.length kc)), .int .i64 0]) (res_row2 Try.results13 _ _ _ B rfl _ rfl _ (setRow_heap _ _ _ _ _ _ mB.out) Try.underlying39 rp_info) rfl ⟨_, _, rfl, ?_, ?_, ?_⟩
      · refine own_mono (own_kp F.out.2.2.1 kr (fun k hk e => ?_)) (by have := HRe.out; omega)
        have := own_ge F.out.2.2.1 hk
        have := HRe.out
        omega
      · refine own_mono (own_kp F.out.2.2.2.1 kr (fun k hk e => ?_)) (by have := HRe.out; omega)
        have := own_ge F.out.2.2.2.1 hk
        have := HRe.out
        omega
      · have := (F.out.2.2.2.2.trans kr (fun k e => Or.inr (by have := HRe.out; have := HB.out; omega))).below
        rwa [← HB.out] at this
  · go_simp
    refine hK.out _ _ (trivial) (fun hHeld => ?_)
    clear hK
    (try simp only [Act.put, List.setIfInBounds_toArray, List.set_cons_zero, List.set_cons_succ])
    refine wpAnyH_ready (rs := [1]) (by kernel_rfl) (by simp) ?_
    refine AllReadyH.cons rfl (fun K hK => ?_) AllReadyH.nil
    go_simp
    refine hK.out _ _ (trivial) (fun hHeld => ?_)
    clear hK
    (try simp only [Act.put, List.setIfInBounds_toArray, List.set_cons_zero, List.set_cons_succ])
    refine wpAnyH_ready (rs := [2]) (by kernel_rfl) (by simp) ?_
    refine AllReadyH.cons rfl (fun K hK => ?_) AllReadyH.nil
    go_simp
    refine Calls.mono C1.out ?_
    rintro e W2 ⟨nh, rfl, o1, hb⟩
    have BB2 := hide (D1.trans hb)
    have o1 := hide o1
    clear hb
    refine hK.out _ _ (trivial) (fun hHeld => ?_)
    clear hK
    (try simp only [Act.put, List.setIfInBounds_toArray, List.set_cons_zero, List.set_cons_succ])
    have C2 := hide (clone_any (own_below O2.out BB2.out) hl2)
    refine wpAnyH_take (i := 6) (v := (.pointer (some ⟨R, 4, none⟩))) rfl (by kernel_rfl) (by kernel_rfl) (by kernel_rfl) (fun _ _ _ h => h) (Or.inl ⟨by kernel_rfl, ?_⟩) (by assumption) ?_
    · intro w' hSw
      (try dsimp only at hSw)
      go_simp
    (try simp only [Act.put, List.getElem_toArray, List.getElem_cons_zero, List.getElem_cons_succ, List.setIfInBounds_toArray, List.set_cons_zero, List.set_cons_succ])
    refine wpAnyH_ready (rs := [5]) (by kernel_rfl) (by simp) ?_
    refine AllReadyH.cons rfl (fun K hK => ?_) AllReadyH.nil
    go_simp
    refine Calls.mono C2.out ?_
    rintro e W3 ⟨nm, rfl, o2, hb⟩
    have F := hide (FIN.out W2 W3 nh nm o1.out BB2.out o2 hb)
    clear hb o2 C2 C1
    obtain ⟨na, nc, rfl⟩ := own_sl F.out.2.2.1
    obtain ⟨ka, kc, rfl⟩ := own_sl F.out.2.2.2.1
    have z4 : W3.frozen? ⟨R, 4, none⟩ = false := fz_row F.out.1 4
    have x4 : W3.cell? ⟨R, 4, none⟩ = some (.slice ha hnn hc) := by rw [cell_row F.out.1]; rfl
    obtain ⟨W4, hW4⟩ : ∃ W4, W4 = W3.setCell ⟨R, 4, none⟩ (.slice na la.hs.length nc) := ⟨_, rfl⟩
    have f4 : W4.heap[R]? = some (.cells (rpA la (.slice na la.hs.length nc) (.slice ma mn mc)) 39) := by rw [hW4]; exact rp_set4 F.out.1 _
    obtain ⟨W5, hW5⟩ : ∃ W5, W5 = W4.setCell ⟨R, 5, none⟩ (.slice ka la.ms.length kc) := ⟨_, rfl⟩
    have f5 : Hid (W5.heap[R]? = some (.cells (rpA la (.slice na la.hs.length nc) (.slice ka la.ms.length kc)) 39)) := by rw [hW5]; exact rp_set5 f4 _
    have k5 : Hid (Kp W3 W5 (fun k => k = R)) := by rw [hW5, hW4]; exact ((Kp.refl W3 (fun k => k = R)).set (Or.inl rfl) _ _).set (Or.inl rfl) _ _
    have z5 : W4.frozen? ⟨R, 5, none⟩ = false := fz_row f4 5
    have x5 : W4.cell? ⟨R, 5, none⟩ = some (.slice ma mn mc) := by rw [cell_row f4]; rfl
    replace hW4 := hide hW4
    replace hW5 := hide hW5
    clear f4
    refine hK.out _ _ (trivial) (fun hHeld => ?_)
    clear hK
    (try simp only [Act.put, List.setIfInBounds_toArray, List.set_cons_zero, List.set_cons_succ])
    refine wpAnyH_ready (rs := [7]) (by kernel_rfl) (by simp) ?_
    refine AllReadyH.cons rfl (fun K hK => ?_) AllReadyH.nil
    go_simp
    rw [← hW4.out]
    clear hW4 z4 x4
    refine hK.out _ _ (trivial) (fun hHeld => ?_)
    clear hK
    (try simp only [Act.put, List.setIfInBounds_toArray, List.set_cons_zero, List.set_cons_succ])
    refine wpAnyH_take (i := 8) (v := (.pointer (some ⟨R, 5, none⟩))) rfl (by kernel_rfl) (by kernel_rfl) (by kernel_rfl) (fun _ _ _ h => h) (Or.inl ⟨by kernel_rfl, ?_⟩) (by assumption) ?_
    · intro w' hSw
      (try dsimp only at hSw)
      go_simp
    (try simp only [Act.put, List.getElem_toArray, List.getElem_cons_zero, List.getElem_cons_succ, List.setIfInBounds_toArray, List.set_cons_zero, List.set_cons_succ])
    refine wpAnyH_ready (rs := [9]) (by kernel_rfl) (by simp) ?_
    refine AllReadyH.cons rfl (fun K hK => ?_) AllReadyH.nil
    go_simp
    rw [← hW5.out]
    clear hW5 z5 x5
    refine hK.out _ _ (trivial) (fun hHeld => ?_)
    clear hK
    (try simp only [Act.put, List.setIfInBounds_toArray, List.set_cons_zero, List.set_cons_succ])
    refine wpAnyH_done (by kernel_rfl) ?_ _
    have mB : Hid (W5.heap[B]? = some (.cells (rpA rp0 (.slice none 0 0) (.slice none 0 0)) 39)) := getL k5.out F.out.2.1 (by have := HRe.out; omega)
    go_wp2_with (first | refine wpList_ldR rfl 39 (.tmp 4) rfl R rfl _ _ f5.out Try.underlying39 rp_info ?_ | refine wpList_stR rfl 39 (.tmp 2) (.tmp 29) rfl B rfl (rpA la (.slice na la.hs.length nc) (.slice ka la.ms.length kc)) _ rfl _ mB.out rp_info rfl (by simp [rpA, Value.oneCell']) ?_)
    have kr : Kp W3 (W5.setRow B (rpA la (.slice na la.hs.length nc) (.slice ka la.ms.length kc))) (fun k => k = R ∨ k = B) := (k5.out.mono (T := fun k => k = R ∨ k = B) (fun k e => Or.inl e)).row (b := B) (Or.inl (Or.inr rfl)) _
    refine bodyPost_ret (v := .tuple #[.agg (rpA la (.slice na la.hs.length nc) (.slice ka la.ms.length kc)), .int .i64 0]) (res_row2 Try.results13 _ _ _ B rfl _ rfl _ (setRow_heap _ _ _ _ _ _ mB.out) Try.underlying39 rp_info) rfl ⟨_, _, rfl, ?_, ?_, ?_⟩
    · refine own_mono (own_kp F.out.2.2.1 kr (fun k hk e => ?_)) (by have := HRe.out; omega)
      have := own_ge F.out.2.2.1 hk
      have := HRe.out
      omega
    · refine own_mono (own_kp F.out.2.2.2.1 kr (fun k hk e => ?_)) (by have := HRe.out; omega)
      have := own_ge F.out.2.2.2.1 hk
      have := HRe.out
      omega
    · have := (F.out.2.2.2.2.trans kr (fun k e => Or.inr (by have := HRe.out; have := HB.out; omega))).below
      rwa [← HB.out] at this
end Go.Proofs.Ytpleakkhbfhdkaa.Cn
namespace Go.Proofs.Ytpleakkhbfhdkaa.Cn
open Go.RowKit
theorem Kp.toN {w w' : World} {S : Nat → Prop} {N : Nat} (h : Kp w w' S) (hN : N ≤ w.heap.size) (hS : ∀ k, S k → N ≤ k) : Below N w w' :=
  ⟨h.os, h.tape, h.output, h.size, fun q hq => h.block q (by omega) (fun f => by have := hS q f; omega)⟩
/-- what the law plays with, as a value -/
structure Pl where
  c : Ct
  nd : List Nd
  lt : List Mg
  job : Int
  kind : Int
  ver : Int
  fe : List Bool
  ba : List Bool
  bk : Bool
  at' : List Int
def nds (L : List Nd) : List Value := L.flatMap fun n => (ndV n).toList
theorem nds_append (a b : List Nd) : nds (a ++ b) = nds a ++ nds b := List.flatMap_append
theorem nds_one (n : Nd) : nds [n] = (ndV n).toList := by unfold nds; rw [List.flatMap_cons, List.flatMap_nil, List.append_nil]
theorem nds_len (L : List Nd) : (nds L).length = L.length * 8 := by
  induction L with
  | nil => rfl
  | cons a r ih =>
    unfold nds at *
    rw [List.flatMap_cons, List.length_append, ih]
    simp only [List.length_cons, ndV, List.length_nil]
    omega
theorem nd_one (n : Nd) : (ndV n).all (·.oneCell') = true := by simp [ndV, Value.oneCell']
theorem nds_oneCell (L : List Nd) : ∀ u ∈ nds L, u.oneCell' = true := by
  intro u hu
  unfold nds at hu
  obtain ⟨m, _, hm⟩ := List.mem_flatMap.1 hu
  have := Array.all_eq_true_iff_forall_mem.1 (nd_one m) u (by simpa using hm)
  exact this
theorem nds_at (L : List Nd) (q : Nat) (h : q < L.length) (j : Nat) (hj : j < 8) : (nds L)[q * 8 + j]? = (ndV L[q])[j]? := by
  induction L generalizing q with
  | nil => simp at h
  | cons a r ih =>
    cases q with
    | zero =>
      unfold nds
      rw [List.flatMap_cons, Nat.zero_mul, Nat.zero_add, List.getElem?_append_left (by simpa [ndV] using hj)]
      simp
    | succ q =>
      have h' : q < r.length := by simpa using h
      have := ih q h'
      unfold nds at *
      rw [List.flatMap_cons, show (q + 1) * 8 + j = (ndV a).toList.length + (q * 8 + j) by simp [ndV]; omega, List.getElem?_append_right (by omega), Nat.add_sub_cancel_left]
      exact this
def bls (L : List Bool) : List Value := L.map fun b : Bool => .bool b
theorem bls_at (L : List Bool) (q : Nat) : (bls L)[q]? = (L[q]?).map fun b : Bool => .bool b := by simp [bls]
theorem bls_append (a b : List Bool) : bls (a ++ b) = bls a ++ bls b := by simp [bls]
theorem bls_set (L : List Bool) (i : Nat) (x : Bool) : (bls L).set i (.bool x) = bls (L.set i x) := by simp [bls, List.map_set]
theorem bls_one (L : List Bool) : ∀ u ∈ bls L, u.oneCell' = true := by
  intro u hu
  obtain ⟨b, _, rfl⟩ := List.mem_map.1 hu
  rfl
/-- a cell of a row of one's own is written -/
theorem own_setZ {w : World} {base e sz n g cap : Nat} {xs : List Value} (h : w.ownsRow base e sz (.slice (some ⟨g, 0, none⟩) n cap) n xs) (k : Nat) (u : Value) : (w.setCell ⟨g, k, none⟩ u).ownsRow base e sz (.slice (some ⟨g, 0, none⟩) n cap) n (xs.set k u) := by
  refine ⟨by rw [List.length_set]; exact h.1, ?_⟩
  rcases h.2 with ⟨hv, _⟩ | ⟨g', cap', cur, hv, h1, h2, h3, h4, h5, h6⟩
  · cases hv
  · injection hv with e1 e2 e3
    injection e1 with e1
    injection e1 with e1
    subst e1 e3
    refine .inr ⟨g, cap, cur.setIfInBounds k u, rfl, h1, heap_setCell _ _ _ _ _ _ _ h2, h3, h4, by simpa using h5, ?_⟩
    rw [Array.toList_setIfInBounds, List.take_set, h6]
theorem own_fz {w : World} {base e sz n g cap : Nat} {xs : List Value} (h : w.ownsRow base e sz (.slice (some ⟨g, 0, none⟩) n cap) n xs) (k : Nat) : w.frozen? ⟨g, k, none⟩ = false := by
  rcases h.2 with ⟨hv, _⟩ | ⟨g', cap', cur, hv, h1, h2, h3⟩
  · cases hv
  · injection hv with e1 e2 e3
    injection e1 with e1
    injection e1 with e1
    subst e1
    exact fz_row h2 k
/-- a node of the row, and the row when the node has become another -/
theorem nd_open {w : World} {base n g cap : Nat} {L : List Nd} (h : w.ownsRow base 108 8 (.slice (some ⟨g, 0, none⟩) n cap) n (nds L)) (k : Nat) (hk : k < L.length) :
    ∃ cur, NdX w g (k * 8) cur L[k] ∧ ∀ w' n', NdX w' g (k * 8) cur n' → w'.ownsRow base 108 8 (.slice (some ⟨g, 0, none⟩) n cap) n (nds (L.set k n')) := by
  have hl := h.1
  rw [nds_len] at hl
  rcases h.2 with ⟨hv, _⟩ | ⟨g', cap', cur, hv, h1, h2, h3, h4, h5, h6⟩
  · cases hv
  · injection hv with e1 e2 e3
    injection e1 with e1
    injection e1 with e1
    subst e1 e3
    have hn : L.length = n := by omega
    have hs : n * 8 ≤ cur.size := by rw [h5]; omega
    have at8 : ∀ j, j < 8 → cur[k * 8 + j]? = (ndV L[k])[j]? := fun j hj => by
      rw [← nds_at L k hk j hj, ← h6, List.getElem?_take, if_pos (by omega)]
      simp
    refine ⟨cur, ⟨cur, h2, at8, rfl, fun _ _ => rfl⟩, fun w' n' ⟨A, ha⟩ => ⟨by rw [nds_len, List.length_set]; omega, .inr ⟨g, cap, A, rfl, h1, ha.ob, h3, h4, by rw [ha.size]; exact h5, ?_⟩⟩⟩
    have sz := ha.size
    apply List.ext_getElem?
    intro i
    rw [List.getElem?_take]
    by_cases hi : i < n * 8
    · rw [if_pos hi]
      have hq : i / 8 < L.length := by omega
      have e : i = i / 8 * 8 + i % 8 := by omega
      have hset : i / 8 < (L.set k n').length := by rw [List.length_set]; exact hq
      by_cases hb : i / 8 = k
      · have r := ha.at8 (i % 8) (by omega)
        rw [← hb, ← e] at r
        have y := nds_at (L.set k n') (i / 8) hset (i % 8) (by omega)
        rw [← e] at y
        rw [y]
        have z : (L.set k n')[i / 8] = n' := by rw [List.getElem_set, if_pos hb.symm]
        rw [z, ← r]
        simp
      · have r := ha.rest i (by omega)
        have y := nds_at (L.set k n') (i / 8) hset (i % 8) (by omega)
        rw [← e] at y
        rw [y]
        have z : (L.set k n')[i / 8] = L[i / 8] := by rw [List.getElem_set, if_neg (fun f => hb f.symm)]
        rw [z, ← nds_at L (i / 8) hq (i % 8) (by omega), ← e, ← h6, List.getElem?_take, if_pos hi]
        simpa using r
    · rw [if_neg hi, List.getElem?_eq_none (by rw [nds_len, List.length_set]; omega)]
def plA (p : Pl) (C : Nat) (nv lv fv bv av : Value) : Array Value := #[.pointer (some ⟨C, 0, none⟩), nv, lv, .int .i64 p.job, .int .i64 p.kind, .int .i64 p.ver, fv, bv, .bool p.bk, av]
/-- the play in memory: N: nothing of it lies below N; S: the controller's blocks -/
structure PlX (N : Nat) (w : World) (B C : Nat) (S : Nat → Prop) (nv lv fv bv av : Value) (p : Pl) : Prop where
  ob : w.heap[B]? = some (.cells (plA p C nv lv fv bv av) 106)
  ct : CtAt w S C p.c
  nd : w.ownsRow N 108 8 nv p.nd.length (nds p.nd)
  lt : w.ownsRow N 44 11 lv p.lt.length (mgs p.lt)
  fe : w.ownsRow N 4 1 fv p.fe.length (bls p.fe)
  ba : w.ownsRow N 4 1 bv p.ba.length (bls p.ba)
  at' : w.ownsRow N 3 1 av p.at'.length (ints p.at')
  sB : ¬ S B
  sn : ∀ k, nv.ownBlock = some k → ¬ S k
  sl : ∀ k, lv.ownBlock = some k → ¬ S k
  sf : ∀ k, fv.ownBlock = some k → ¬ S k
  sb : ∀ k, bv.ownBlock = some k → ¬ S k
  sa : ∀ k, av.ownBlock = some k → ¬ S k
  fb : ∀ k, fv.ownBlock = some k → bv.ownBlock = some k → False
  gB : N ≤ B
  gS : ∀ k, S k → N ≤ k
  gN : N ≤ w.heap.size
theorem PlX.cells {N : Nat} {w : World} {B C : Nat} {S : Nat → Prop} {nv lv fv bv av : Value} {p : Pl} (h : PlX N w B C S nv lv fv bv av p) :
    w.cell? ⟨B, 0, none⟩ = some (.pointer (some ⟨C, 0, none⟩)) ∧ w.cell? ⟨B, 1, none⟩ = some nv ∧ w.cell? ⟨B, 2, none⟩ = some lv ∧ w.cell? ⟨B, 3, none⟩ = some (.int .i64 p.job) ∧ w.cell? ⟨B, 4, none⟩ = some (.int .i64 p.kind) ∧ w.cell? ⟨B, 5, none⟩ = some (.int .i64 p.ver) ∧ w.cell? ⟨B, 6, none⟩ = some fv ∧ w.cell? ⟨B, 7, none⟩ = some bv ∧ w.cell? ⟨B, 8, none⟩ = some (.bool p.bk) ∧ w.cell? ⟨B, 9, none⟩ = some av := by
  simp only [cell_row h.ob]
  exact ⟨rfl, rfl, rfl, rfl, rfl, rfl, rfl, rfl, rfl, rfl⟩
/-- all blocks of the play -/
def plS (B : Nat) (S : Nat → Prop) (nv lv fv bv av : Value) : Nat → Prop := fun k => k = B ∨ S k ∨ nv.ownBlock = some k ∨ lv.ownBlock = some k ∨ fv.ownBlock = some k ∨ bv.ownBlock = some k ∨ av.ownBlock = some k
/-- what is done elsewhere leaves it -/
theorem PlX.kp {N : Nat} {w w' : World} {B C : Nat} {S T : Nat → Prop} {nv lv fv bv av : Value} {p : Pl} (h : PlX N w B C S nv lv fv bv av p) (hk : Kp w w' T) (hT : ∀ k, T k → ¬ plS B S nv lv fv bv av k) : PlX N w' B C S nv lv fv bv av p := by
  have q : ∀ k, plS B S nv lv fv bv av k → ¬ T k := fun k hs ht => hT k ht hs
  unfold plS at q
  exact ⟨getL hk h.ob (q _ (Or.inl rfl)), h.ct.kp hk (fun k t s => q k (Or.inr (Or.inl s)) t),
    own_kp h.nd hk (fun k e => q k (Or.inr (Or.inr (Or.inl e)))), own_kp h.lt hk (fun k e => q k (Or.inr (Or.inr (Or.inr (Or.inl e))))),
    own_kp h.fe hk (fun k e => q k (Or.inr (Or.inr (Or.inr (Or.inr (Or.inl e)))))), own_kp h.ba hk (fun k e => q k (Or.inr (Or.inr (Or.inr (Or.inr (Or.inr (Or.inl e))))))),
    own_kp h.at' hk (fun k e => q k (Or.inr (Or.inr (Or.inr (Or.inr (Or.inr (Or.inr e))))))), h.sB, h.sn, h.sl, h.sf, h.sb, h.sa, h.fb, h.gB, h.gS, Nat.le_trans h.gN hk.size⟩
theorem PlX.below {N : Nat} {w w' : World} {B C : Nat} {S : Nat → Prop} {nv lv fv bv av : Value} {p : Pl} (h : PlX N w B C S nv lv fv bv av p) (hb : Below w.heap.size w w') : PlX N w' B C S nv lv fv bv av p := h.kp (Kp.of_below hb non) (fun _ f => f.elim)
/-- the play's own block is no other's -/
theorem PlX.ne {N : Nat} {w : World} {B C : Nat} {S : Nat → Prop} {nv lv fv bv av : Value} {p : Pl} (h : PlX N w B C S nv lv fv bv av p) : (∀ k, nv.ownBlock = some k → k ≠ B) ∧ (∀ k, lv.ownBlock = some k → k ≠ B) ∧ (∀ k, fv.ownBlock = some k → k ≠ B) ∧ (∀ k, bv.ownBlock = some k → k ≠ B) ∧ (∀ k, av.ownBlock = some k → k ≠ B) :=
  ⟨fun k e f => row_type h.nd h.ob (by decide) k e f, fun k e f => row_type h.lt h.ob (by decide) k e f, fun k e f => row_type h.fe h.ob (by decide) k e f, fun k e f => row_type h.ba h.ob (by decide) k e f, fun k e f => row_type h.at' h.ob (by decide) k e f⟩
/-- the play's own cells are written -/
theorem PlX.own {N : Nat} {w : World} {B C : Nat} {S : Nat → Prop} {nv lv fv bv av : Value} {p : Pl} (h : PlX N w B C S nv lv fv bv av p) (i : Nat) (v : Value) (p' : Pl) (nv' lv' fv' bv' av' : Value) (hA : (plA p C nv lv fv bv av).setIfInBounds i v = plA p' C nv' lv' fv' bv' av') (hc : p'.c = p.c)
    (hn : w.ownsRow N 108 8 nv' p'.nd.length (nds p'.nd)) (hl : w.ownsRow N 44 11 lv' p'.lt.length (mgs p'.lt)) (hf : w.ownsRow N 4 1 fv' p'.fe.length (bls p'.fe)) (hb : w.ownsRow N 4 1 bv' p'.ba.length (bls p'.ba)) (ha : w.ownsRow N 3 1 av' p'.at'.length (ints p'.at'))
    (sn : ∀ k, nv'.ownBlock = some k → ¬ S k) (sl : ∀ k, lv'.ownBlock = some k → ¬ S k) (sf : ∀ k, fv'.ownBlock = some k → ¬ S k) (sb : ∀ k, bv'.ownBlock = some k → ¬ S k) (sa : ∀ k, av'.ownBlock = some k → ¬ S k) (fb : ∀ k, fv'.ownBlock = some k → bv'.ownBlock = some k → False) :
    PlX N (w.setCell ⟨B, i, none⟩ v) B C S nv' lv' fv' bv' av' p' := by
  have kp : Kp w (w.setCell ⟨B, i, none⟩ v) (fun k => k = B) := (Kp.refl w (fun k => k = B)).set (Or.inl rfl) _ _
  have ob := set_row h.ob i v
  rw [hA] at ob
  have ne : ∀ {e sz n : Nat} {u : Value} {xs : List Value}, w.ownsRow N e sz u n xs → e ≠ 106 → ∀ k, u.ownBlock = some k → ¬ k = B := fun ho he k e f => row_type ho h.ob he k e f
  exact ⟨ob, by rw [hc]; exact h.ct.kp kp (fun k e s => h.sB (e ▸ s)), own_kp hn kp (ne hn (by decide)), own_kp hl kp (ne hl (by decide)), own_kp hf kp (ne hf (by decide)), own_kp hb kp (ne hb (by decide)), own_kp ha kp (ne ha (by decide)), h.sB, sn, sl, sf, sb, sa, fb, h.gB, h.gS, Nat.le_trans h.gN kp.size⟩
theorem PlX.set {N : Nat} {w : World} {B C : Nat} {S : Nat → Prop} {nv lv fv bv av : Value} {p : Pl} (h : PlX N w B C S nv lv fv bv av p) (j k v : Int) (b : Bool) (i : Nat) (u : Value) (hA : (plA p C nv lv fv bv av).setIfInBounds i u = plA { p with job := j, kind := k, ver := v, bk := b } C nv lv fv bv av) : PlX N (w.setCell ⟨B, i, none⟩ u) B C S nv lv fv bv av { p with job := j, kind := k, ver := v, bk := b } :=
  h.own i u _ nv lv fv bv av hA rfl h.nd h.lt h.fe h.ba h.at' h.sn h.sl h.sf h.sb h.sa h.fb
end Go.Proofs.Ytpleakkhbfhdkaa.Cn
