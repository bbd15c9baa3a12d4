import Derived.Test.YtnegdhnmgkpkjaaGDeOrder
import Derived.Test.YtnegdhnmgkpkjaaGDdDrive
import Derived.Test.YtnegdhnmgkpkjaaDdApart
namespace Go.Proofs.Ytnegdhnmgkpkjaa
open Go.RowKit
theorem does_other (d : Dt) {kd nd : Int} (h1 : kd ≠ 1) (h2 : kd ≠ 2) (h3 : kd ≠ 3) : d.does kd nd = d := by unfold Dt.does; rw [if_neg h1, if_neg h2, if_neg h3]

set_option maxHeartbeats 16000000 in
set_option maxRecDepth 100000 in
set_option linter.unusedSimpArgs false in
set_option linter.unusedVariables false in
theorem plays_1 {w : World} {S T : Nat → Prop} {D R : Nat} {d : Dt} (h : Two w S T D R d) {q0 : Nat} (hf : d.upto q0) (he : d.enb) (hq : q0 ≤ 1000000) (nd : Int) (ia : Option Addr) (ib io ic : Nat) (ns : List Int) (hns : IsAt w ia ib io ns) :
    Calls Try.prog 24 #[.pointer (some ⟨D, 0, none⟩), .pointer (some ⟨R, 0, none⟩), .agg #[.int .i64 1, .int .i64 nd, .slice ia ns.length ic]] w fun e w' => e = .returned (.bool true) ∧ TwoDid w w' S T D R (d.does 1 nd) := by
  have hSB : ∀ k, S k → k < w.heap.size := h.dt.lt
  have hTB : ∀ k, T k → k < w.heap.size := h.rf.lt
  obtain ⟨W0, hW0⟩ : ∃ W0, W0 = w.alloc (.cells #[.int .i64 1, .int .i64 nd, .slice ia ns.length ic] 40) := ⟨_, rfl⟩
  obtain ⟨B, hB⟩ : ∃ B, B = w.heap.size := ⟨_, rfl⟩
  have hb : Below w.heap.size w W0 := by rw [hW0]; exact (Below.refl _ _).alloc (Nat.le_refl _) _
  have sB : StB W0 B 1 nd (.slice ia ns.length ic) := by rw [hW0, hB]; exact heap_last _ _
  have H := hide (h.below hb)
  have HSN := hide (hns.kp (Kp.of_below hb non) (fun _ f => f))
  have HB0 := hide hb
  have HSB := hide sB
  have HnB : Hid (¬ S B ∧ ¬ T B) := ⟨fun q => by have := hSB B q; omega, fun q => by have := hTB B q; omega⟩
  have NU := hide fun w n => num_any w n
  have c0 := sB.c0
  have c1 := sB.c1
  have c2 := sB.c2
  have hnl := hns.len
  clear h hb sB hSB hTB hns

  have HFT := hide hf.ft
  have HGG : Hid (∀ W, DtAt W S D d → Calls Try.prog 16 #[.pointer (some ⟨D, 0, none⟩), .int .i64 nd] W fun e w' => e = .returned (.int .i64 (chk1 d.n nd)) ∧ DtAt w' S D (d.does 1 nd) ∧ Kp W w' S) := fun W hW => Good_all hW hf.ft nd
  have RG := hide fun (W : World) (hW : RfAt W T R d) => rGood_all hW hf.ft nd
  generalize d.does 1 nd = d' at *
  generalize chk1 d.n nd = cv at *
  clear hf he
  go_enter Try.func24, Try.ntmps24
  go_wp2_with fail
  rw [← hW0, ← hB]
  clear hW0 hB
  go_wp2_with fail
  have GOd : Hid (Calls Try.prog 16 #[.pointer (some ⟨D, 0, none⟩), .int .i64 nd] W0.drew fun e w' => e = .returned (.int .i64 cv) ∧ DtAt w' S D d' ∧ Kp W0.drew w' S) := HGG.out _ (H.out.dt.kp ((Kp.refl W0 non).drew) (fun _ _ f => f))
  refine wp_region_held_drew (S := fun Z => Z.cell? ⟨B, 1, none⟩ = some (.int .i64 nd)) (by kernel_rfl) c1 (fun hHeld => ?_)
  refine wpAnyH_take (i := 0) (v := (.pointer (some ⟨D, 0, none⟩))) rfl (by kernel_rfl) (by kernel_rfl) (by kernel_rfl) (fun _ _ _ h => h) (Or.inl ⟨by rfl, ?_⟩) (by assumption) ?_
  · intro w' hSw
    (try dsimp only at hSw)
    go_simp
  (try simp only [Act.put, List.getElem_toArray, List.getElem_cons_zero, List.getElem_cons_succ, List.setIfInBounds_toArray, List.set_cons_zero, List.set_cons_succ])
  refine wpAnyH_take (i := 1) (v := (.pointer (some ⟨B, 1, none⟩))) rfl (by kernel_rfl) (by kernel_rfl) (by kernel_rfl) (fun _ _ _ h => h) (Or.inl ⟨by rfl, ?_⟩) (by assumption) ?_
  · intro w' hSw
    (try dsimp only at hSw)
    go_simp
  (try simp only [Act.put, List.getElem_toArray, List.getElem_cons_zero, List.getElem_cons_succ, List.setIfInBounds_toArray, List.set_cons_zero, List.set_cons_succ])
  refine wpAnyH_take (i := 2) (v := (.int .i64 nd)) rfl (by kernel_rfl) (by kernel_rfl) (by kernel_rfl) (fun _ _ _ h => h) (Or.inl ⟨by rfl, ?_⟩) (by assumption) ?_
  · intro w' hSw
    (try dsimp only at hSw)
    (have y := hSw; go_simp)
  (try simp only [Act.put, List.getElem_toArray, List.getElem_cons_zero, List.getElem_cons_succ, List.setIfInBounds_toArray, List.set_cons_zero, List.set_cons_succ])
  refine wpAnyH_take (i := 5) (v := (.pointer (some ⟨R, 0, none⟩))) rfl (by kernel_rfl) (by kernel_rfl) (by kernel_rfl) (fun _ _ _ h => h) (Or.inl ⟨by rfl, ?_⟩) (by assumption) ?_
  · intro w' hSw
    (try dsimp only at hSw)
    go_simp
  (try simp only [Act.put, List.getElem_toArray, List.getElem_cons_zero, List.getElem_cons_succ, List.setIfInBounds_toArray, List.set_cons_zero, List.set_cons_succ])
  refine wpAnyH_take (i := 6) (v := (.pointer (some ⟨B, 1, none⟩))) rfl (by kernel_rfl) (by kernel_rfl) (by kernel_rfl) (fun _ _ _ h => h) (Or.inl ⟨by rfl, ?_⟩) (by assumption) ?_
  · intro w' hSw
    (try dsimp only at hSw)
    go_simp
  (try simp only [Act.put, List.getElem_toArray, List.getElem_cons_zero, List.getElem_cons_succ, List.setIfInBounds_toArray, List.set_cons_zero, List.set_cons_succ])
  refine wpAnyH_take (i := 7) (v := (.int .i64 nd)) rfl (by kernel_rfl) (by kernel_rfl) (by kernel_rfl) (fun _ _ _ h => h) (Or.inl ⟨by rfl, ?_⟩) (by assumption) ?_
  · intro w' hSw
    (try dsimp only at hSw)
    (have y := hSw; go_simp)
  (try simp only [Act.put, List.getElem_toArray, List.getElem_cons_zero, List.getElem_cons_succ, List.setIfInBounds_toArray, List.set_cons_zero, List.set_cons_succ])
  refine wpAnyH_ready (rs := [3]) (by kernel_rfl) (by simp) ?_
  refine AllReadyH.cons rfl (fun K hK => ?_) AllReadyH.nil
  go_simp
  refine Calls.mono GOd.out ?_
  rintro e W1 ⟨rfl, h1, h2⟩
  have HD1 := hide h1
  have HK1 : Hid (Kp W0 W1 S) := (Kp.refl W0 S).drew.trans h2 (fun _ e => Or.inl e)
  have HSB1 := hide (HSB.out.kp HK1.out HnB.out.1)
  have RG1 := hide (RG.out W1 (H.out.rf.kp HK1.out (fun k t s => H.out.ap k s t)))
  clear h1 h2
  refine hK.out _ _ (HSB1.out.c1) (fun hHeld => ?_)
  clear hK
  (try simp only [Act.put, List.setIfInBounds_toArray, List.set_cons_zero, List.set_cons_succ])
  refine wpAnyH_ready (rs := [4]) (by kernel_rfl) (by simp) ?_
  refine AllReadyH.cons rfl (fun K hK => ?_) AllReadyH.nil
  go_simp
  refine Calls.mono (NU.out _ _) ?_
  rintro e W2 ⟨rfl, rfl⟩
  refine hK.out _ _ (HSB1.out.c1) (fun hHeld => ?_)
  clear hK
  (try simp only [Act.put, List.setIfInBounds_toArray, List.set_cons_zero, List.set_cons_succ])
  refine wpAnyH_ready (rs := [8]) (by kernel_rfl) (by simp) ?_
  refine AllReadyH.cons rfl (fun K hK => ?_) AllReadyH.nil
  go_simp
  refine Calls.mono RG1.out ?_
  rintro e W2 ⟨rfl, h3⟩
  have HSB2 : Hid (StB W2 B 1 nd (.slice ia ns.length ic)) := by
    obtain ⟨T', r1, r2, r3⟩ := h3
    exact HSB1.out.kp r3 HnB.out.2
  have H3 := hide h3
  clear h3
  refine hK.out _ _ (HSB2.out.c1) (fun hHeld => ?_)
  clear hK
  (try simp only [Act.put, List.setIfInBounds_toArray, List.set_cons_zero, List.set_cons_succ])
  refine wpAnyH_ready (rs := [9]) (by kernel_rfl) (by simp) ?_
  refine AllReadyH.cons rfl (fun K hK => ?_) AllReadyH.nil
  go_simp
  refine hK.out _ _ (HSB2.out.c1) (fun hHeld => ?_)
  clear hK
  (try simp only [Act.put, List.setIfInBounds_toArray, List.set_cons_zero, List.set_cons_succ])
  refine wpAnyH_ready (rs := [10]) (by kernel_rfl) (by simp) ?_
  refine AllReadyH.cons rfl (fun K hK => ?_) AllReadyH.nil
  go_simp
  refine hK.out _ _ (HSB2.out.c1) (fun hHeld => ?_)
  clear hK
  (try simp only [Act.put, List.setIfInBounds_toArray, List.set_cons_zero, List.set_cons_succ])
  refine wpAnyH_done (by kernel_rfl) ?_ _
  clear hHeld
  go_wp2_with fail
  go_ret
  exact ⟨by first | rfl | simp, TwoDid.pre HB0.out (H.out.step HD1.out HK1.out H3.out)⟩
set_option maxHeartbeats 16000000 in
set_option maxRecDepth 100000 in
set_option linter.unusedSimpArgs false in
set_option linter.unusedVariables false in
theorem plays_2 {w : World} {S T : Nat → Prop} {D R : Nat} {d : Dt} (h : Two w S T D R d) {q0 : Nat} (hf : d.upto q0) (he : d.enb) (hq : q0 ≤ 1000000) (nd : Int) (ia : Option Addr) (ib io ic : Nat) (ns : List Int) (hns : IsAt w ia ib io ns) :
    Calls Try.prog 24 #[.pointer (some ⟨D, 0, none⟩), .pointer (some ⟨R, 0, none⟩), .agg #[.int .i64 2, .int .i64 nd, .slice ia ns.length ic]] w fun e w' => e = .returned (.bool true) ∧ TwoDid w w' S T D R (d.does 2 nd) := by
  have hSB : ∀ k, S k → k < w.heap.size := h.dt.lt
  have hTB : ∀ k, T k → k < w.heap.size := h.rf.lt
  obtain ⟨W0, hW0⟩ : ∃ W0, W0 = w.alloc (.cells #[.int .i64 2, .int .i64 nd, .slice ia ns.length ic] 40) := ⟨_, rfl⟩
  obtain ⟨B, hB⟩ : ∃ B, B = w.heap.size := ⟨_, rfl⟩
  have hb : Below w.heap.size w W0 := by rw [hW0]; exact (Below.refl _ _).alloc (Nat.le_refl _) _
  have sB : StB W0 B 2 nd (.slice ia ns.length ic) := by rw [hW0, hB]; exact heap_last _ _
  have H := hide (h.below hb)
  have HSN := hide (hns.kp (Kp.of_below hb non) (fun _ f => f))
  have HB0 := hide hb
  have HSB := hide sB
  have HnB : Hid (¬ S B ∧ ¬ T B) := ⟨fun q => by have := hSB B q; omega, fun q => by have := hTB B q; omega⟩
  have NU := hide fun w n => num_any w n
  have c0 := sB.c0
  have c1 := sB.c1
  have c2 := sB.c2
  have hnl := hns.len
  clear h hb sB hSB hTB hns

  have HGG : Hid (∀ W, DtAt W S D d → Calls Try.prog 13 #[.pointer (some ⟨D, 0, none⟩), .int .i64 nd] W fun e w' => e = .returned (.int .i64 (chk1 d.n nd)) ∧ DtAt w' S D (d.does 2 nd) ∧ Kp W w' S) := fun W hW => Bad_all hW hf (by omega) nd
  have RG := hide fun (W : World) (hW : RfAt W T R d) => rBad_all hW hf hq nd
  generalize d.does 2 nd = d' at *
  generalize chk1 d.n nd = cv at *
  clear hf he
  go_enter Try.func24, Try.ntmps24
  go_wp2_with fail
  rw [← hW0, ← hB]
  clear hW0 hB
  go_wp2_with fail
  have GOd : Hid (Calls Try.prog 13 #[.pointer (some ⟨D, 0, none⟩), .int .i64 nd] W0.drew fun e w' => e = .returned (.int .i64 cv) ∧ DtAt w' S D d' ∧ Kp W0.drew w' S) := HGG.out _ (H.out.dt.kp ((Kp.refl W0 non).drew) (fun _ _ f => f))
  refine wp_region_held_drew (S := fun Z => Z.cell? ⟨B, 1, none⟩ = some (.int .i64 nd)) (by kernel_rfl) c1 (fun hHeld => ?_)
  refine wpAnyH_take (i := 0) (v := (.pointer (some ⟨D, 0, none⟩))) rfl (by kernel_rfl) (by kernel_rfl) (by kernel_rfl) (fun _ _ _ h => h) (Or.inl ⟨by rfl, ?_⟩) (by assumption) ?_
  · intro w' hSw
    (try dsimp only at hSw)
    go_simp
  (try simp only [Act.put, List.getElem_toArray, List.getElem_cons_zero, List.getElem_cons_succ, List.setIfInBounds_toArray, List.set_cons_zero, List.set_cons_succ])
  refine wpAnyH_take (i := 1) (v := (.pointer (some ⟨B, 1, none⟩))) rfl (by kernel_rfl) (by kernel_rfl) (by kernel_rfl) (fun _ _ _ h => h) (Or.inl ⟨by rfl, ?_⟩) (by assumption) ?_
  · intro w' hSw
    (try dsimp only at hSw)
    go_simp
  (try simp only [Act.put, List.getElem_toArray, List.getElem_cons_zero, List.getElem_cons_succ, List.setIfInBounds_toArray, List.set_cons_zero, List.set_cons_succ])
  refine wpAnyH_take (i := 2) (v := (.int .i64 nd)) rfl (by kernel_rfl) (by kernel_rfl) (by kernel_rfl) (fun _ _ _ h => h) (Or.inl ⟨by rfl, ?_⟩) (by assumption) ?_
  · intro w' hSw
    (try dsimp only at hSw)
    (have y := hSw; go_simp)
  (try simp only [Act.put, List.getElem_toArray, List.getElem_cons_zero, List.getElem_cons_succ, List.setIfInBounds_toArray, List.set_cons_zero, List.set_cons_succ])
  refine wpAnyH_take (i := 5) (v := (.pointer (some ⟨R, 0, none⟩))) rfl (by kernel_rfl) (by kernel_rfl) (by kernel_rfl) (fun _ _ _ h => h) (Or.inl ⟨by rfl, ?_⟩) (by assumption) ?_
  · intro w' hSw
    (try dsimp only at hSw)
    go_simp
  (try simp only [Act.put, List.getElem_toArray, List.getElem_cons_zero, List.getElem_cons_succ, List.setIfInBounds_toArray, List.set_cons_zero, List.set_cons_succ])
  refine wpAnyH_take (i := 6) (v := (.pointer (some ⟨B, 1, none⟩))) rfl (by kernel_rfl) (by kernel_rfl) (by kernel_rfl) (fun _ _ _ h => h) (Or.inl ⟨by rfl, ?_⟩) (by assumption) ?_
  · intro w' hSw
    (try dsimp only at hSw)
    go_simp
  (try simp only [Act.put, List.getElem_toArray, List.getElem_cons_zero, List.getElem_cons_succ, List.setIfInBounds_toArray, List.set_cons_zero, List.set_cons_succ])
  refine wpAnyH_take (i := 7) (v := (.int .i64 nd)) rfl (by kernel_rfl) (by kernel_rfl) (by kernel_rfl) (fun _ _ _ h => h) (Or.inl ⟨by rfl, ?_⟩) (by assumption) ?_
  · intro w' hSw
    (try dsimp only at hSw)
    (have y := hSw; go_simp)
  (try simp only [Act.put, List.getElem_toArray, List.getElem_cons_zero, List.getElem_cons_succ, List.setIfInBounds_toArray, List.set_cons_zero, List.set_cons_succ])
  refine wpAnyH_ready (rs := [3]) (by kernel_rfl) (by simp) ?_
  refine AllReadyH.cons rfl (fun K hK => ?_) AllReadyH.nil
  go_simp
  refine Calls.mono GOd.out ?_
  rintro e W1 ⟨rfl, h1, h2⟩
  have HD1 := hide h1
  have HK1 : Hid (Kp W0 W1 S) := (Kp.refl W0 S).drew.trans h2 (fun _ e => Or.inl e)
  have HSB1 := hide (HSB.out.kp HK1.out HnB.out.1)
  have RG1 := hide (RG.out W1 (H.out.rf.kp HK1.out (fun k t s => H.out.ap k s t)))
  clear h1 h2
  refine hK.out _ _ (HSB1.out.c1) (fun hHeld => ?_)
  clear hK
  (try simp only [Act.put, List.setIfInBounds_toArray, List.set_cons_zero, List.set_cons_succ])
  refine wpAnyH_ready (rs := [4]) (by kernel_rfl) (by simp) ?_
  refine AllReadyH.cons rfl (fun K hK => ?_) AllReadyH.nil
  go_simp
  refine Calls.mono (NU.out _ _) ?_
  rintro e W2 ⟨rfl, rfl⟩
  refine hK.out _ _ (HSB1.out.c1) (fun hHeld => ?_)
  clear hK
  (try simp only [Act.put, List.setIfInBounds_toArray, List.set_cons_zero, List.set_cons_succ])
  refine wpAnyH_ready (rs := [8]) (by kernel_rfl) (by simp) ?_
  refine AllReadyH.cons rfl (fun K hK => ?_) AllReadyH.nil
  go_simp
  refine Calls.mono RG1.out ?_
  rintro e W2 ⟨rfl, h3⟩
  have HSB2 : Hid (StB W2 B 2 nd (.slice ia ns.length ic)) := by
    obtain ⟨T', r1, r2, r3⟩ := h3
    exact HSB1.out.kp r3 HnB.out.2
  have H3 := hide h3
  clear h3
  refine hK.out _ _ (HSB2.out.c1) (fun hHeld => ?_)
  clear hK
  (try simp only [Act.put, List.setIfInBounds_toArray, List.set_cons_zero, List.set_cons_succ])
  refine wpAnyH_ready (rs := [9]) (by kernel_rfl) (by simp) ?_
  refine AllReadyH.cons rfl (fun K hK => ?_) AllReadyH.nil
  go_simp
  refine hK.out _ _ (HSB2.out.c1) (fun hHeld => ?_)
  clear hK
  (try simp only [Act.put, List.setIfInBounds_toArray, List.set_cons_zero, List.set_cons_succ])
  refine wpAnyH_ready (rs := [10]) (by kernel_rfl) (by simp) ?_
  refine AllReadyH.cons rfl (fun K hK => ?_) AllReadyH.nil
  go_simp
  refine hK.out _ _ (HSB2.out.c1) (fun hHeld => ?_)
  clear hK
  (try simp only [Act.put, List.setIfInBounds_toArray, List.set_cons_zero, List.set_cons_succ])
  refine wpAnyH_done (by kernel_rfl) ?_ _
  clear hHeld
  go_wp2_with fail
  go_ret
  exact ⟨by first | rfl | simp, TwoDid.pre HB0.out (H.out.step HD1.out HK1.out H3.out)⟩
set_option maxHeartbeats 16000000 in
set_option maxRecDepth 100000 in
set_option linter.unusedSimpArgs false in
set_option linter.unusedVariables false in
theorem plays_3 {w : World} {S T : Nat → Prop} {D R : Nat} {d : Dt} (h : Two w S T D R d) {q0 : Nat} (hf : d.upto q0) (he : d.enb) (hq : q0 ≤ 1000000) (nd : Int) (ia : Option Addr) (ib io ic : Nat) (ns : List Int) (hns : IsAt w ia ib io ns) :
    Calls Try.prog 24 #[.pointer (some ⟨D, 0, none⟩), .pointer (some ⟨R, 0, none⟩), .agg #[.int .i64 3, .int .i64 nd, .slice ia ns.length ic]] w fun e w' => e = .returned (.bool true) ∧ TwoDid w w' S T D R (d.does 3 nd) := by
  have hSB : ∀ k, S k → k < w.heap.size := h.dt.lt
  have hTB : ∀ k, T k → k < w.heap.size := h.rf.lt
  obtain ⟨W0, hW0⟩ : ∃ W0, W0 = w.alloc (.cells #[.int .i64 3, .int .i64 nd, .slice ia ns.length ic] 40) := ⟨_, rfl⟩
  obtain ⟨B, hB⟩ : ∃ B, B = w.heap.size := ⟨_, rfl⟩
  have hb : Below w.heap.size w W0 := by rw [hW0]; exact (Below.refl _ _).alloc (Nat.le_refl _) _
  have sB : StB W0 B 3 nd (.slice ia ns.length ic) := by rw [hW0, hB]; exact heap_last _ _
  have H := hide (h.below hb)
  have HSN := hide (hns.kp (Kp.of_below hb non) (fun _ f => f))
  have HB0 := hide hb
  have HSB := hide sB
  have HnB : Hid (¬ S B ∧ ¬ T B) := ⟨fun q => by have := hSB B q; omega, fun q => by have := hTB B q; omega⟩
  have NU := hide fun w n => num_any w n
  have c0 := sB.c0
  have c1 := sB.c1
  have c2 := sB.c2
  have hnl := hns.len
  clear h hb sB hSB hTB hns

  have TK := hide (ticks_any H.out hf hq nd)
  generalize d.does 3 nd = d' at *
  clear hf he
  go_enter Try.func24, Try.ntmps24
  go_wp2_with fail
  rw [← hW0, ← hB]
  clear hW0 hB
  go_wp2_with fail
  refine Calls.mono TK.out ?_
  rintro e W1 ⟨rfl, h1⟩
  have H1 := hide h1
  clear h1
  go_wp2_with fail
  go_ret
  exact ⟨rfl, TwoDid.pre HB0.out H1.out⟩
set_option maxHeartbeats 16000000 in
set_option maxRecDepth 100000 in
set_option linter.unusedSimpArgs false in
set_option linter.unusedVariables false in
theorem plays_4 {w : World} {S T : Nat → Prop} {D R : Nat} {d : Dt} (h : Two w S T D R d) {q0 : Nat} (hf : d.upto q0) (he : d.enb) (hq : q0 ≤ 1000000) (nd : Int) (ia : Option Addr) (ib io ic : Nat) (ns : List Int) (hns : IsAt w ia ib io ns) :
    Calls Try.prog 24 #[.pointer (some ⟨D, 0, none⟩), .pointer (some ⟨R, 0, none⟩), .agg #[.int .i64 4, .int .i64 nd, .slice ia ns.length ic]] w fun e w' => e = .returned (.bool true) ∧ TwoDid w w' S T D R (d.does 4 nd) := by
  have hSB : ∀ k, S k → k < w.heap.size := h.dt.lt
  have hTB : ∀ k, T k → k < w.heap.size := h.rf.lt
  obtain ⟨W0, hW0⟩ : ∃ W0, W0 = w.alloc (.cells #[.int .i64 4, .int .i64 nd, .slice ia ns.length ic] 40) := ⟨_, rfl⟩
  obtain ⟨B, hB⟩ : ∃ B, B = w.heap.size := ⟨_, rfl⟩
  have hb : Below w.heap.size w W0 := by rw [hW0]; exact (Below.refl _ _).alloc (Nat.le_refl _) _
  have sB : StB W0 B 4 nd (.slice ia ns.length ic) := by rw [hW0, hB]; exact heap_last _ _
  have H := hide (h.below hb)
  have HSN := hide (hns.kp (Kp.of_below hb non) (fun _ f => f))
  have HB0 := hide hb
  have HSB := hide sB
  have HnB : Hid (¬ S B ∧ ¬ T B) := ⟨fun q => by have := hSB B q; omega, fun q => by have := hTB B q; omega⟩
  have NU := hide fun w n => num_any w n
  have c0 := sB.c0
  have c1 := sB.c1
  have c2 := sB.c2
  have hnl := hns.len
  clear h hb sB hSB hTB hns

  have SD := hide (Silent_any H.out.dt hf.ft nd)
  have SR := hide fun (W : World) (hW : RfAt W T R d) => rSilent_any hW hf hq nd
  rw [does_other d (by decide) (by decide) (by decide)]
  generalize silV d nd = sv at *
  generalize chk1 d.n nd = cv at *
  clear hf he
  go_enter Try.func24, Try.ntmps24
  go_wp2_with fail
  rw [← hW0, ← hB]
  clear hW0 hB
  go_wp2_with fail
  refine Calls.mono SD.out ?_
  rintro e W1 ⟨rfl, hb1⟩
  have H1 := hide (H.out.below hb1)
  have HB1 := hide (HB0.out.trans (hb1.mono HB0.out.size))
  have HSB1 := hide (HSB.out.kp (Kp.of_below hb1 non) (fun f => f))
  have SR1 := hide (SR.out W1 H1.out.rf)
  have d1 := HSB1.out.c1
  clear hb1 c0 c1 c2
  go_wp2_with fail
  refine Calls.mono SR1.out ?_
  rintro e W2 ⟨rfl, hb2⟩
  have H2 := hide (H1.out.below hb2)
  have HB2 := hide (HB1.out.trans (hb2.mono HB1.out.size))
  clear hb2 d1
  go_wp2_with fail
  refine Calls.mono (NU.out _ _) ?_
  rintro e W3 ⟨rfl, rfl⟩
  go_wp2_with fail
  go_ret
  exact ⟨by first | rfl | simp, TwoDid.pre HB2.out (H2.out.did (Below.refl _ _))⟩
set_option maxHeartbeats 16000000 in
set_option maxRecDepth 100000 in
set_option linter.unusedSimpArgs false in
set_option linter.unusedVariables false in
theorem plays_o {w : World} {S T : Nat → Prop} {D R : Nat} {d : Dt} (h : Two w S T D R d) {q0 : Nat} (hf : d.upto q0) (he : d.enb) (hq : q0 ≤ 1000000) (kd : Int) (k1 : kd ≠ 1) (k2 : kd ≠ 2) (k3 : kd ≠ 3) (k4 : kd ≠ 4) (k5 : kd ≠ 5) (nd : Int) (ia : Option Addr) (ib io ic : Nat) (ns : List Int) (hns : IsAt w ia ib io ns) :
    Calls Try.prog 24 #[.pointer (some ⟨D, 0, none⟩), .pointer (some ⟨R, 0, none⟩), .agg #[.int .i64 kd, .int .i64 nd, .slice ia ns.length ic]] w fun e w' => e = .returned (.bool true) ∧ TwoDid w w' S T D R (d.does kd nd) := by
  have hSB : ∀ k, S k → k < w.heap.size := h.dt.lt
  have hTB : ∀ k, T k → k < w.heap.size := h.rf.lt
  obtain ⟨W0, hW0⟩ : ∃ W0, W0 = w.alloc (.cells #[.int .i64 kd, .int .i64 nd, .slice ia ns.length ic] 40) := ⟨_, rfl⟩
  obtain ⟨B, hB⟩ : ∃ B, B = w.heap.size := ⟨_, rfl⟩
  have hb : Below w.heap.size w W0 := by rw [hW0]; exact (Below.refl _ _).alloc (Nat.le_refl _) _
  have sB : StB W0 B kd nd (.slice ia ns.length ic) := by rw [hW0, hB]; exact heap_last _ _
  have H := hide (h.below hb)
  have HSN := hide (hns.kp (Kp.of_below hb non) (fun _ f => f))
  have HB0 := hide hb
  have HSB := hide sB
  have HnB : Hid (¬ S B ∧ ¬ T B) := ⟨fun q => by have := hSB B q; omega, fun q => by have := hTB B q; omega⟩
  have NU := hide fun w n => num_any w n
  have c0 := sB.c0
  have c1 := sB.c1
  have c2 := sB.c2
  have hnl := hns.len
  clear h hb sB hSB hTB hns

  rw [does_other d k1 k2 k3]
  have e1 : (kd == 1) = false := by simpa using k1
  have e2 : (kd == 2) = false := by simpa using k2
  have e3 : (kd == 3) = false := by simpa using k3
  have e4 : (kd == 4) = false := by simpa using k4
  have e5 : (kd == 5) = false := by simpa using k5
  clear hf he k1 k2 k3 k4 k5
  go_enter Try.func24, Try.ntmps24
  go_wp2_with fail
  rw [← hW0, ← hB]
  clear hW0 hB
  go_wp2_with fail
  go_ret
  exact ⟨rfl, TwoDid.pre HB0.out (H.out.did (Below.refl _ _))⟩
set_option maxHeartbeats 16000000 in
set_option maxRecDepth 100000 in
set_option linter.unusedSimpArgs false in
set_option linter.unusedVariables false in
theorem plays_5a {w : World} {S T : Nat → Prop} {D R : Nat} {d : Dt} (h : Two w S T D R d) {q0 : Nat} (hf : d.upto q0) (he : d.enb) (hq : q0 ≤ 1000000) (nd : Int) (ia : Option Addr) (ib io ic : Nat) (ns : List Int) (hns : IsAt w ia ib io ns) (hin : ∀ x ∈ tk ns, 0 ≤ x ∧ x < (d.n : Int)) :
    Calls Try.prog 24 #[.pointer (some ⟨D, 0, none⟩), .pointer (some ⟨R, 0, none⟩), .agg #[.int .i64 5, .int .i64 nd, .slice ia ns.length ic]] w fun e w' => e = .returned (.bool true) ∧ TwoDid w w' S T D R (d.does 5 nd) := by
  have hSB : ∀ k, S k → k < w.heap.size := h.dt.lt
  have hTB : ∀ k, T k → k < w.heap.size := h.rf.lt
  obtain ⟨W0, hW0⟩ : ∃ W0, W0 = w.alloc (.cells #[.int .i64 5, .int .i64 nd, .slice ia ns.length ic] 40) := ⟨_, rfl⟩
  obtain ⟨B, hB⟩ : ∃ B, B = w.heap.size := ⟨_, rfl⟩
  have hb : Below w.heap.size w W0 := by rw [hW0]; exact (Below.refl _ _).alloc (Nat.le_refl _) _
  have sB : StB W0 B 5 nd (.slice ia ns.length ic) := by rw [hW0, hB]; exact heap_last _ _
  have H := hide (h.below hb)
  have HSN := hide (hns.kp (Kp.of_below hb non) (fun _ f => f))
  have HB0 := hide hb
  have HSB := hide sB
  have HnB : Hid (¬ S B ∧ ¬ T B) := ⟨fun q => by have := hSB B q; omega, fun q => by have := hTB B q; omega⟩
  have NU := hide fun w n => num_any w n
  have c0 := sB.c0
  have c1 := sB.c1
  have c2 := sB.c2
  have hnl := hns.len
  clear h hb sB hSB hTB hns

  rw [does_other d (by decide) (by decide) (by decide)]
  have HTL := tk_len ns
  have HMT := hide (mkd_take ns 8)
  have HML := mkd_len ns 8
  have HM8 : Hid ((tk ns).length + 8 = (mkd ns 8).length) := by show _ = _; unfold mkd; simp
  have CP := hide fun (W : World) (hW : IsAt W ia ib io ns) => copied_any ia ib io ic ns hW
  have MK := hide fun (W : World) (hW : IsAt W ia ib io ns) => marked_any ia ib io ic ns hW
  have HF := hide hf
  have HE := hide he
  have HIN := hide hin
  generalize tk ns = ts at *
  generalize mkd ns 8 = ms at *
  clear hf he hin
  have CP1 := hide (CP.out _ HSN.out)
  go_enter Try.func24, Try.ntmps24
  go_wp2_with fail
  rw [← hW0, ← hB]
  clear hW0 hB
  go_wp2_with fail
  refine Calls.mono CP1.out ?_
  rintro z X1 ⟨v1, rfl, ho1, hb1⟩
  obtain ⟨f1, ao1, b1, cap1, rfl, hI1, f2⟩ := own_is ho1 (by omega)
  have k1 := Kp.of_below hb1 non
  have HB1 := hide (HB0.out.trans (hb1.mono HB0.out.size))
  have HS1 := hide (HSN.out.kp k1 (fun _ f => f))
  have HSB1 := hide (HSB.out.kp k1 (fun f => f))
  have H1 := hide (H.out.below hb1)
  have MK1 := hide (MK.out _ HS1.out)
  have d2 := HSB1.out.c2
  clear f1 f2 ho1 hb1 k1 hI1 CP1 c0 c1 c2
  go_wp2_with fail
  refine Calls.mono MK1.out ?_
  rintro z X2 ⟨v2, rfl, ho2, hb2⟩
  obtain ⟨gf, capf, rfl⟩ := own_g ho2 (by have := HM8.out; omega)
  obtain ⟨f1, aof, bf, capf', ef, hIf, f2⟩ := own_is ho2 (by omega)
  have k2 := Kp.of_below hb2 non
  have HOF := hide ho2
  have hcap : ts.length ≤ capf := by
    rcases ho2.2 with ⟨hv, _⟩ | ⟨g', cap', cur, hv, h1, h2, h3, _⟩
    · cases hv
    · injection hv with _ _ e3
      have := HM8.out
      omega
  have HIF : Hid (IsAt X2 (some ⟨gf, 0, none⟩) gf 0 ms) := by
    injection ef with e1 e2 e3
    have e4 : bf = gf := (f2 gf rfl).symm
    rw [← e1, e4] at hIf
    exact hIf
  have hIt : IsAt X2 (some ⟨gf, 0, none⟩) gf 0 ts := by
    have := HIF.out.take ts.length
    rwa [HMT.out] at this
  have HB2 := hide (HB1.out.trans (hb2.mono HB1.out.size))
  have HS2 := hide (HS1.out.kp k2 (fun _ f => f))
  have HSB2 := hide (HSB1.out.kp k2 (fun f => f))
  have H2 := hide (H1.out.below hb2)
  have HFB : Hid (∀ W, Below X2.heap.size X2 W → IsAt W (some ⟨gf, 0, none⟩) gf 0 ms) := fun W hW => HIF.out.kp (Kp.of_below hW non) (fun _ f => f)
  have hcz : (ts.length : Int) ≤ (capf : Int) := by omega
  have OR := hide (Order_any H2.out.dt HF.out.ft HE.out (some ⟨gf, 0, none⟩) gf 0 capf ts hIt HIN.out (by omega))
  clear f1 f2 ef hIf ho2 hb2 k2 hIt MK1 d2
  go_wp2_with fail
  refine Calls.mono OR.out ?_
  rintro z X3 ⟨g1, rfl, hr1, hl1, hg1, hb3⟩
  have HR1 := hide hr1
  have HL1 := hide hl1
  clear hr1 hl1 hg1
  have k3 := Kp.of_below hb3 non
  have HB3 := hide (HB2.out.trans (hb3.mono HB2.out.size))
  have HX3 := hide hb3
  have HS3 := hide (HS2.out.kp k3 (fun _ f => f))
  have HSB3 := hide (HSB2.out.kp k3 (fun f => f))
  have H3 := hide (H2.out.below hb3)
  have CP2 := hide (CP.out _ HS3.out)
  have d2 := HSB3.out.c2
  clear hb3 k3 OR
  go_wp2_with fail
  refine Calls.mono CP2.out ?_
  rintro z X4 ⟨v4, rfl, ho4, hb4⟩
  obtain ⟨f1, ao4, b4, cap4, rfl, hI4, f2⟩ := own_is ho4 (by omega)
  have k4 := Kp.of_below hb4 non
  have HB4 := hide (HB3.out.trans (hb4.mono HB3.out.size))
  have HX4 := hide (HX3.out.trans (hb4.mono HX3.out.size))
  have HS4 := hide (HS3.out.kp k4 (fun _ f => f))
  have HSB4 := hide (HSB3.out.kp k4 (fun f => f))
  have H4 := hide (H3.out.below hb4)
  have HR4 := hide (HR1.out.kp k4 (fun f => f))
  have RO := hide (rOrder_any H4.out.rf HF.out hq ao4 b4 0 cap4 ts hI4 HIN.out (by omega))
  clear f1 f2 ho4 hb4 k4 hI4 CP2 d2
  go_wp2_with fail
  refine Calls.mono RO.out ?_
  rintro z X5 ⟨v5, rfl, ho5, hb5⟩
  obtain ⟨f1, ao5, b5, cap5, rfl, hI5, f2⟩ := own_is ho5 (by rw [HL1.out]; omega)
  have k5 := Kp.of_below hb5 non
  have HB5 := hide (HB4.out.trans (hb5.mono HB4.out.size))
  have HX5 := hide (HX4.out.trans (hb5.mono HX4.out.size))
  have HS5 := hide (HS4.out.kp k5 (fun _ f => f))
  have HSB5 := hide (HSB4.out.kp k5 (fun f => f))
  have H5 := hide (H4.out.below hb5)
  have SA := same_any (w := X5) _ g1 0 ts.length (ordL d ts) ((HR4.out.kp k5 (fun f => f)).is (by rw [HL1.out]; omega)) ao5 b5 0 cap5 (ordL d ts) hI5
  rw [decide_eq_true rfl, HL1.out] at SA
  have SA := hide SA
  rw [HL1.out]
  clear f1 f2 ho5 hb5 k5 hI5 RO
  go_wp2_with fail
  refine Calls.mono SA.out ?_
  rintro z X6 ⟨rfl, hb6⟩
  have k6 := Kp.of_below hb6 non
  have HB6 := hide (HB5.out.trans (hb6.mono HB5.out.size))
  have HX6 := hide (HX5.out.trans (hb6.mono HX5.out.size))
  have HS6 := hide (HS5.out.kp k6 (fun _ f => f))
  have HSB6 := hide (HSB5.out.kp k6 (fun f => f))
  have H6 := hide (H5.out.below hb6)
  have MK2 := hide (MK.out _ HS6.out)
  have d2 := HSB6.out.c2
  clear hb6 k6 SA
  go_wp2_with fail
  refine Calls.mono (NU.out _ _) ?_
  rintro z Y1 ⟨rfl, rfl⟩
  go_wp2_with fail
  refine Calls.mono MK2.out ?_
  rintro z X7 ⟨v7, rfl, ho7, hb7⟩
  obtain ⟨f1, ao7, b7, cap7, rfl, hI7, f2⟩ := own_is ho7 (by omega)
  have HB7 := hide (HB6.out.trans (hb7.mono HB6.out.size))
  have HX7 := hide (HX6.out.trans (hb7.mono HX6.out.size))
  have H7 := hide (H6.out.below hb7)
  have SA := same_any (w := X7) _ gf 0 capf ms (HFB.out _ HX7.out) ao7 b7 0 cap7 ms hI7
  rw [decide_eq_true rfl] at SA
  have SA := hide SA
  clear f1 f2 ho7 hb7 hI7 MK2 d2
  go_wp2_with fail
  refine Calls.mono SA.out ?_
  rintro z X8 ⟨rfl, hb8⟩
  have HB8 := hide (HB7.out.trans (hb8.mono HB7.out.size))
  have H8 := hide (H7.out.below hb8)
  clear hb8 SA
  go_wp2_with fail
  go_ret
  exact ⟨by first | rfl | simp, TwoDid.pre HB8.out (H8.out.did (Below.refl _ _))⟩
set_option maxHeartbeats 16000000 in
set_option maxRecDepth 100000 in
set_option linter.unusedSimpArgs false in
set_option linter.unusedVariables false in
theorem plays_5b {w : World} {S T : Nat → Prop} {D R : Nat} {d : Dt} (h : Two w S T D R d) {q0 : Nat} (hf : d.upto q0) (he : d.enb) (hq : q0 ≤ 1000000) (nd : Int) (ia : Option Addr) (ib io ic : Nat) (ns : List Int) (hns : IsAt w ia ib io ns) (hin : ¬ ∀ x ∈ tk ns, 0 ≤ x ∧ x < (d.n : Int)) :
    Calls Try.prog 24 #[.pointer (some ⟨D, 0, none⟩), .pointer (some ⟨R, 0, none⟩), .agg #[.int .i64 5, .int .i64 nd, .slice ia ns.length ic]] w fun e w' => e = .returned (.bool true) ∧ TwoDid w w' S T D R (d.does 5 nd) := by
  have hSB : ∀ k, S k → k < w.heap.size := h.dt.lt
  have hTB : ∀ k, T k → k < w.heap.size := h.rf.lt
  obtain ⟨W0, hW0⟩ : ∃ W0, W0 = w.alloc (.cells #[.int .i64 5, .int .i64 nd, .slice ia ns.length ic] 40) := ⟨_, rfl⟩
  obtain ⟨B, hB⟩ : ∃ B, B = w.heap.size := ⟨_, rfl⟩
  have hb : Below w.heap.size w W0 := by rw [hW0]; exact (Below.refl _ _).alloc (Nat.le_refl _) _
  have sB : StB W0 B 5 nd (.slice ia ns.length ic) := by rw [hW0, hB]; exact heap_last _ _
  have H := hide (h.below hb)
  have HSN := hide (hns.kp (Kp.of_below hb non) (fun _ f => f))
  have HB0 := hide hb
  have HSB := hide sB
  have HnB : Hid (¬ S B ∧ ¬ T B) := ⟨fun q => by have := hSB B q; omega, fun q => by have := hTB B q; omega⟩
  have NU := hide fun w n => num_any w n
  have c0 := sB.c0
  have c1 := sB.c1
  have c2 := sB.c2
  have hnl := hns.len
  clear h hb sB hSB hTB hns

  rw [does_other d (by decide) (by decide) (by decide)]
  have HTL := tk_len ns
  have HMT := hide (mkd_take ns 8)
  have HML := mkd_len ns 8
  have HM8 : Hid ((tk ns).length + 8 = (mkd ns 8).length) := by show _ = _; unfold mkd; simp
  have CP := hide fun (W : World) (hW : IsAt W ia ib io ns) => copied_any ia ib io ic ns hW
  have MK := hide fun (W : World) (hW : IsAt W ia ib io ns) => marked_any ia ib io ic ns hW
  have HF := hide hf
  have HE := hide he
  have HIN := hide hin
  generalize tk ns = ts at *
  generalize mkd ns 8 = ms at *
  clear hf he hin
  have CP1 := hide (CP.out _ HSN.out)
  go_enter Try.func24, Try.ntmps24
  go_wp2_with fail
  rw [← hW0, ← hB]
  clear hW0 hB
  go_wp2_with fail
  refine Calls.mono CP1.out ?_
  rintro z X1 ⟨v1, rfl, ho1, hb1⟩
  obtain ⟨f1, ao1, b1, cap1, rfl, hI1, f2⟩ := own_is ho1 (by omega)
  have k1 := Kp.of_below hb1 non
  have HB1 := hide (HB0.out.trans (hb1.mono HB0.out.size))
  have HS1 := hide (HSN.out.kp k1 (fun _ f => f))
  have HSB1 := hide (HSB.out.kp k1 (fun f => f))
  have H1 := hide (H.out.below hb1)
  have MK1 := hide (MK.out _ HS1.out)
  have d2 := HSB1.out.c2
  clear f1 f2 ho1 hb1 k1 hI1 CP1 c0 c1 c2
  go_wp2_with fail
  refine Calls.mono MK1.out ?_
  rintro z X2 ⟨v2, rfl, ho2, hb2⟩
  obtain ⟨gf, capf, rfl⟩ := own_g ho2 (by have := HM8.out; omega)
  obtain ⟨f1, aof, bf, capf', ef, hIf, f2⟩ := own_is ho2 (by omega)
  have k2 := Kp.of_below hb2 non
  have HOF := hide ho2
  have hcap : ts.length ≤ capf := by
    rcases ho2.2 with ⟨hv, _⟩ | ⟨g', cap', cur, hv, h1, h2, h3, _⟩
    · cases hv
    · injection hv with _ _ e3
      have := HM8.out
      omega
  have HIF : Hid (IsAt X2 (some ⟨gf, 0, none⟩) gf 0 ms) := by
    injection ef with e1 e2 e3
    have e4 : bf = gf := (f2 gf rfl).symm
    rw [← e1, e4] at hIf
    exact hIf
  have hIt : IsAt X2 (some ⟨gf, 0, none⟩) gf 0 ts := by
    have := HIF.out.take ts.length
    rwa [HMT.out] at this
  have HB2 := hide (HB1.out.trans (hb2.mono HB1.out.size))
  have HS2 := hide (HS1.out.kp k2 (fun _ f => f))
  have HSB2 := hide (HSB1.out.kp k2 (fun f => f))
  have H2 := hide (H1.out.below hb2)
  have HFB : Hid (∀ W, Below X2.heap.size X2 W → IsAt W (some ⟨gf, 0, none⟩) gf 0 ms) := fun W hW => HIF.out.kp (Kp.of_below hW non) (fun _ f => f)
  have hcz : (ts.length : Int) ≤ (capf : Int) := by omega
  have OR := hide (Order_bad H2.out.dt HF.out.ft (some ⟨gf, 0, none⟩) gf 0 capf ts hIt HIN.out)
  clear f1 f2 ef hIf ho2 hb2 k2 hIt MK1 d2
  go_wp2_with fail
  refine Calls.mono OR.out ?_
  rintro z X3 ⟨rfl, hb3⟩
  have k3 := Kp.of_below hb3 non
  have HB3 := hide (HB2.out.trans (hb3.mono HB2.out.size))
  have HX3 := hide hb3
  have HS3 := hide (HS2.out.kp k3 (fun _ f => f))
  have HSB3 := hide (HSB2.out.kp k3 (fun f => f))
  have H3 := hide (H2.out.below hb3)
  have CP2 := hide (CP.out _ HS3.out)
  have d2 := HSB3.out.c2
  clear hb3 k3 OR
  go_wp2_with fail
  refine Calls.mono CP2.out ?_
  rintro z X4 ⟨v4, rfl, ho4, hb4⟩
  obtain ⟨f1, ao4, b4, cap4, rfl, hI4, f2⟩ := own_is ho4 (by omega)
  have k4 := Kp.of_below hb4 non
  have HB4 := hide (HB3.out.trans (hb4.mono HB3.out.size))
  have HX4 := hide (HX3.out.trans (hb4.mono HX3.out.size))
  have HS4 := hide (HS3.out.kp k4 (fun _ f => f))
  have HSB4 := hide (HSB3.out.kp k4 (fun f => f))
  have H4 := hide (H3.out.below hb4)
  have RO := hide (rOrder_bad H4.out.rf ao4 b4 0 cap4 ts hI4 HIN.out)
  clear f1 f2 ho4 hb4 k4 hI4 CP2 d2
  go_wp2_with fail
  refine Calls.mono RO.out ?_
  rintro z X5 ⟨rfl, hb5⟩
  have k5 := Kp.of_below hb5 non
  have HB5 := hide (HB4.out.trans (hb5.mono HB4.out.size))
  have HX5 := hide (HX4.out.trans (hb5.mono HX4.out.size))
  have HS5 := hide (HS4.out.kp k5 (fun _ f => f))
  have HSB5 := hide (HSB4.out.kp k5 (fun f => f))
  have H5 := hide (H4.out.below hb5)
  have SA := same_any (w := X5) none 0 0 0 [] ⟨fun q => absurd q (by simp), fun i hi => absurd hi (by simp), Nat.zero_le _⟩ none 0 0 0 [] ⟨fun q => absurd q (by simp), fun i hi => absurd hi (by simp), Nat.zero_le _⟩
  rw [decide_eq_true rfl] at SA
  have SA := hide SA
  clear hb5 k5 RO
  go_wp2_with fail
  refine Calls.mono SA.out ?_
  rintro z X6 ⟨rfl, hb6⟩
  have k6 := Kp.of_below hb6 non
  have HB6 := hide (HB5.out.trans (hb6.mono HB5.out.size))
  have HX6 := hide (HX5.out.trans (hb6.mono HX5.out.size))
  have HS6 := hide (HS5.out.kp k6 (fun _ f => f))
  have HSB6 := hide (HSB5.out.kp k6 (fun f => f))
  have H6 := hide (H5.out.below hb6)
  have MK2 := hide (MK.out _ HS6.out)
  have d2 := HSB6.out.c2
  clear hb6 k6 SA
  go_wp2_with fail
  refine Calls.mono (NU.out _ _) ?_
  rintro z Y1 ⟨rfl, rfl⟩
  go_wp2_with fail
  refine Calls.mono MK2.out ?_
  rintro z X7 ⟨v7, rfl, ho7, hb7⟩
  obtain ⟨f1, ao7, b7, cap7, rfl, hI7, f2⟩ := own_is ho7 (by omega)
  have HB7 := hide (HB6.out.trans (hb7.mono HB6.out.size))
  have HX7 := hide (HX6.out.trans (hb7.mono HX6.out.size))
  have H7 := hide (H6.out.below hb7)
  have SA := same_any (w := X7) _ gf 0 capf ms (HFB.out _ HX7.out) ao7 b7 0 cap7 ms hI7
  rw [decide_eq_true rfl] at SA
  have SA := hide SA
  clear f1 f2 ho7 hb7 hI7 MK2 d2
  go_wp2_with fail
  refine Calls.mono SA.out ?_
  rintro z X8 ⟨rfl, hb8⟩
  have HB8 := hide (HB7.out.trans (hb8.mono HB7.out.size))
  have H8 := hide (H7.out.below hb8)
  clear hb8 SA
  go_wp2_with fail
  go_ret
  exact ⟨by first | rfl | simp, TwoDid.pre HB8.out (H8.out.did (Below.refl _ _))⟩
theorem plays_any {w : World} {S T : Nat → Prop} {D R : Nat} {d : Dt} (h : Two w S T D R d) {q0 : Nat} (hf : d.upto q0) (he : d.enb) (hq : q0 ≤ 1000000) (kd nd : Int) (ia : Option Addr) (ib io ic : Nat) (ns : List Int) (hns : IsAt w ia ib io ns) :
    Calls Try.prog 24 #[.pointer (some ⟨D, 0, none⟩), .pointer (some ⟨R, 0, none⟩), .agg #[.int .i64 kd, .int .i64 nd, .slice ia ns.length ic]] w fun e w' => e = .returned (.bool true) ∧ TwoDid w w' S T D R (d.does kd nd) := by
  by_cases k1 : kd = 1
  · subst k1; exact plays_1 h hf he hq nd ia ib io ic ns hns
  · by_cases k2 : kd = 2
    · subst k2; exact plays_2 h hf he hq nd ia ib io ic ns hns
    · by_cases k3 : kd = 3
      · subst k3; exact plays_3 h hf he hq nd ia ib io ic ns hns
      · by_cases k4 : kd = 4
        · subst k4; exact plays_4 h hf he hq nd ia ib io ic ns hns
        · by_cases k5 : kd = 5
          · subst k5
            by_cases hin : ∀ x ∈ tk ns, 0 ≤ x ∧ x < (d.n : Int)
            · exact plays_5a h hf he hq nd ia ib io ic ns hns hin
            · exact plays_5b h hf he hq nd ia ib io ic ns hns hin
          · exact plays_o h hf he hq kd k1 k2 k3 k4 k5 nd ia ib io ic ns hns
end Go.Proofs.Ytnegdhnmgkpkjaa
namespace Go.Proofs.Ytnegdhnmgkpkjaa
open Go.RowKit
/-- the law's state: both detectors, new blocks all -/
structure PlI (w0 wr : World) (S T : Nat → Prop) (D R : Nat) (d : Dt) : Prop where
  tw : Two wr S T D R d
  s : ∀ k, S k → w0.heap.size ≤ k
  t : ∀ k, T k → w0.heap.size ≤ k
  ks : Kp w0 wr non
theorem PlI.step {w0 wr w' : World} {S T : Nat → Prop} {D R : Nat} {d d' : Dt} (h : PlI w0 wr S T D R d) (hd : TwoDid wr w' S T D R d') : ∃ T', PlI w0 w' S T' D R d' := by
  obtain ⟨T', a1, a2, a3⟩ := hd
  refine ⟨T', a1, h.s, fun k t => ?_, h.ks.trans a3 (fun k e => ?_)⟩
  · rcases a2 k t with q | q
    · exact h.t k q
    · exact Nat.le_trans h.ks.size q
  · rcases e with e | e
    · exact Or.inr (h.s k e)
    · exact Or.inr (h.t k e)
set_option maxHeartbeats 16000000 in
set_option maxRecDepth 100000 in
set_option linter.unusedSimpArgs false in
set_option linter.unusedVariables false in
theorem playsLaw_any (w : World) (a b c : Int) (ao : Option Addr) (sb so cap : Nat) (ia : Nat → Option Addr) (ib io ic : Nat → Nat) (ss : List Stp) (hs : SsAt w ao sb so ia ib io ic ss) :
    Calls Try.prog 7 #[.agg #[.int .i64 a, .int .i64 b, .int .i64 c], .slice ao ss.length cap] w fun e w' => e = .returned (.bool true) ∧ Below w.heap.size w w' := by
  obtain ⟨W0, hW0⟩ : ∃ W0, W0 = w.alloc (.cells #[.int .i64 a, .int .i64 b, .int .i64 c] 23) := ⟨_, rfl⟩
  obtain ⟨U, hU⟩ : ∃ U, U = w.heap.size := ⟨_, rfl⟩
  have hb : Below w.heap.size w W0 := by rw [hW0]; exact (Below.refl _ _).alloc (Nat.le_refl _) _
  have su : SuB W0 U a b c := by rw [hW0, hU]; exact heap_last _ _
  obtain ⟨c0, c1, c2⟩ := su.cs
  have HB0 := hide hb
  have HL := hs.len
  have HSS := hide hs
  clear hb su hs
  by_cases hok : okN a b c
  · have MA := hide (made_any W0 a b c hok)
    have HUP : Hid ((Dt.new a.toNat b c).upto 0 ∧ (Dt.new a.toNat b c).enb) := ⟨(Ba.start (nd := 0) hok).up, fun k => by have := hok.2.2.1; show (0 : Int) ≤ 0 + c; omega⟩
    clear hok
    go_enter Try.func7, Try.ntmps7
    go_wp2_with fail
    rw [← hW0, ← hU]
    clear hW0 hU
    go_wp2_with fail
    refine Calls.mono MA.out ?_
    rintro e W1 ⟨D, S, R, T0, rfl, hD, hR, hB1, hS, hT, hST⟩
    have HI : Hid (PlI w W1 S T0 D R (Dt.new a.toNat b c)) := ⟨⟨hD, hR, hST⟩, fun k e => Nat.le_trans HB0.out.size (hS k e), fun k e => Nat.le_trans HB0.out.size (hT k e), (Kp.of_below HB0.out non).trans (Kp.of_below hB1 non) (fun _ f => f.elim)⟩
    clear hD hR hB1 hS hT hST c0 c1 c2 MA HB0
    go_wp2_with fail
    go_loopw [9] (fun vi wr => ∃ (i : Nat) (d : Dt) (T : Nat → Prop), i ≤ ss.length ∧ i ≤ 2000 ∧ vi = .int .i64 (i : Int) ∧ Hid (PlI w wr S T D R d) ∧ Hid (d.upto i ∧ d.enb)) (fun vi _ => 2000 - (intOf vi).toNat)
    case atStart => exact ⟨0, _, T0, Nat.zero_le _, Nat.zero_le _, rfl, HI.out, HUP.out⟩
    case round =>
      clear HI HUP
      obtain ⟨i, d, T, hi, hi2, rfl, HI, HP⟩ := hrel
      by_cases hil : i < ss.length
      · by_cases hik : i < 2000
        · have q1 : (i : Int) < (ss.length : Int) := by omega
          have q2 : (i : Int) < 2000 := by omega
          obtain rfl := HSS.out.at0 (by omega)
          have hsw := HSS.out.kp HI.out.ks (fun _ f => f.elim)
          have s0 := hsw.c0 i hil
          have s1 := hsw.c1 i hil
          have s2 := hsw.c2 i hil
          have PL := hide (plays_any HI.out.tw HP.out.1 HP.out.2 (by omega) ss[i].kd ss[i].nd (ia i) (ib i) (io i) (ic i) ss[i].ns (hsw.is i hil))
          have UP : Hid ((d.does ss[i].kd ss[i].nd).upto (i + 1) ∧ (d.does ss[i].kd ss[i].nd).enb) := ⟨HP.out.1.does _ _, enb_does HP.out.2 HP.out.1.ft _ _⟩
          clear hsw
          generalize ss[i].kd = kd at *
          generalize ss[i].nd = sn at *
          generalize ss[i].ns.length = sl at *
          generalize ia i = iai at *
          generalize ic i = ici at *
          go_wp2_with fail
          refine Calls.mono PL.out ?_
          rintro q W3 ⟨rfl, h1⟩
          obtain ⟨T', hI'⟩ := HI.out.step h1
          have HI' := hide hI'
          clear h1 hI' PL s0 s1 s2
          go_wp2_with fail
          go_roundw
          case rel => exact ⟨i + 1, _, T', by omega, by omega, by go_num, HI', UP⟩
          case measure => simp [intOf]; omega
        · have q1 : (i : Int) < (ss.length : Int) := by omega
          have q2 : ¬ (i : Int) < 2000 := by omega
          go_wp2_with fail
          go_ret
          exact ⟨rfl, HI.out.ks.below⟩
      · have q1 : ¬ (i : Int) < (ss.length : Int) := by omega
        go_wp2_with fail
        go_ret
        exact ⟨rfl, HI.out.ks.below⟩
  · have MA := hide (made_no W0 a b c hok)
    clear hok
    go_enter Try.func7, Try.ntmps7
    go_wp2_with fail
    rw [← hW0, ← hU]
    clear hW0 hU
    go_wp2_with fail
    refine Calls.mono MA.out ?_
    rintro e W1 ⟨rfl, hB1⟩
    have HB1 := hide (HB0.out.trans (hB1.mono HB0.out.size))
    clear hB1
    go_wp2_with fail
    go_ret
    exact ⟨rfl, HB1.out⟩
end Go.Proofs.Ytnegdhnmgkpkjaa
