import Derived.Test.YtgdjfocnaapooaaDoorGFdAll
namespace Go.Proofs.YtgdjfocnaapooaaDoor
open Go.RowKit
theorem mostK_le (k i : Nat) : mostK k i ≤ mostF i := by unfold mostK; split <;> omega
theorem fit_txt {m : MM} {k i : Nat} (hi : i < 10) (h : fitAt m k i = true) : (m.txt i).size ≤ 9007199254740992 ∧ (m.txt i).size ≤ mostF i := by
  unfold fitAt at h
  simp only [Bool.and_eq_true, decide_eq_true_eq] at h
  have := mostK_le k i
  have := mostF_le i hi
  omega
theorem res_dec (m : MM) (E : Int) (w : World) (b : Nat) (tmps : Array Value) (h2 : tmps.getD 2 undef = .pointer (some ⟨b, 0, none⟩)) (h3 : tmps.getD 3 undef = .int .i64 E) (hO : w.heap[b]? = some (.cells (msgV m) 27)) : (results Tryd.f53 tmps).run Tryd.prog w = .ok (.tuple #[.agg (msgV m), .int .i64 E]) w :=
  res_msg2 Tryd.results53 tmps m w b h2 _ h3 hO
theorem wpList_loadAllG {w : World} {ops : Array Oper} {rest : List Oper} {o : Oper} {a : Act} {Q : Exit → Act → World → Prop} (hw : Region.wanted o (yielded ops a.tmps) = true) (x : Operand) (ho : o.op = .load 72 x) (m : MM) (b : Nat) (hx : a.eval x = .pointer (some ⟨b, 0, none⟩)) (hO : w.heap[b]? = some (.cells (cellsV m) 72))
    (CA : Array Value) (hCA : CA = cellsV m) (h : wpList Tryd.prog ops Q rest (a.put o.dst (.agg CA)) w) : wpList Tryd.prog ops Q (o :: rest) a w := by
  subst hCA
  refine BigFrame.wpList_want hw fun K hK => ?_
  unfold Oper.wp execOp
  simp only [ho, Sem.run_bind, Sem.run_pure, Result.andThen_ok, hx, run_loadAll m w b hO]
  exact hK _ _ h
set_option maxHeartbeats 16000000 in
set_option maxRecDepth 100000 in
set_option linter.unusedSimpArgs false in
theorem decode_mid (s : ByteArray) (w : World) (hT : TabF w) (hT4 : Tab4 5 w) (h : chkE s = 0) (mh : MM) (hr : ByteArray) (hh : rdL headF (mm0 (kndF s)) (s.extract 4 16) = some (mh, hr)) (m : MM) (wh : Bool) (hR : rdV2 (rdL (bodyF (kndF s)) mh (s.extract 20 (s.size - 4))) = .tuple #[.agg (cellsV m), .bool wh]) (hkd : wh = true → m.kind = (kndF s : Int)) :
    Calls Tryd.prog 53 #[.string s] w fun e w' => e = .returned (if wh = true ∧ fitM m = true then .tuple #[.agg (msgV m), .int .i64 0] else .tuple #[.agg (msgV (mm0 0)), .int .i64 56]) ∧ Below w.heap.size w w' := by
  obtain ⟨V, hV⟩ : ∃ V, V = (if wh = true ∧ fitM m = true then Value.tuple #[.agg (msgV m), .int .i64 0] else .tuple #[.agg (msgV (mm0 0)), .int .i64 56]) := ⟨_, rfl⟩
  rw [← hV]
  have V1 : Hid (wh = true ∧ fitM m = true → V = .tuple #[.agg (msgV m), .int .i64 0]) := fun x => by rw [hV, if_pos x]
  have V2 : Hid (¬ (wh = true ∧ fitM m = true) → V = .tuple #[.agg (msgV (mm0 0)), .int .i64 56]) := fun x => by rw [hV, if_neg x]
  clear hV
  obtain ⟨hs24, _, ⟨hk1, hk16⟩, hb4, hsz, _⟩ := chk_lt h
  obtain ⟨W0, hW0⟩ : ∃ W0, W0 = w.alloc (.cells #[.int .i64 0, .int .i64 0, .int .i64 0, .int .i64 0, .int .i64 0, .int .i64 0, .int .i64 0, .int .i64 0, .int .i64 0, .string ⟨#[]⟩, .string ⟨#[]⟩] 27) := ⟨_, rfl⟩
  have b0 : Below w.heap.size w W0 := by rw [hW0]; exact (Below.refl _ w).alloc (Nat.le_refl _) _
  have hM0 : W0.heap[w.heap.size]? = some (.cells (msgV (mm0 0)) 27) := by rw [hW0]; exact heap_last w _
  have s0 : w.heap.size < W0.heap.size := by rw [hW0]; simp
  have hT0 : Tab4 5 W0 := fun j hj => (b0.cell (World.block_lt_of_cell? w _ (hT4 j hj))).trans (hT4 j hj)
  have CH := hide (check_long s (by omega) W0 hT0)
  rw [h] at CH
  have KM : Hid (∀ w', Below W0.heap.size W0 w' → w'.heap[w.heap.size]? = some (.cells (msgV (mm0 0)) 27) ∧ Below w.heap.size w w' ∧ TabF w') := fun w' hb => ⟨(hb.block _ s0).trans hM0, b0.trans (hb.mono (by omega)), hT.below (b0.trans (hb.mono (by omega)))⟩
  have RD : Hid (∀ w', TabF w' → Calls Tryd.prog 68 #[.int .i64 (kndF s : Int), .string (s.extract 4 16), .string (s.extract 20 (s.size - 4))] w' fun e w'' => e = .returned (.tuple #[.agg (cellsV m), .bool wh]) ∧ Below w'.heap.size w' w'') := fun w' hT' => by
    rw [← hR]; exact read_any (kndF s) hk1 hk16 _ _ mh hr hh w' hT'
  have FT : Hid (∀ w', TabF w' → wh = true → Calls Tryd.prog 26 #[.int .i64 (kndF s : Int), .agg (cellsV m)] w' fun e w'' => e = .returned (.bool (fitM m)) ∧ Below w'.heap.size w' w'') := fun w' hT' hw => by
    have e := fit_any m (kndF s) hk1 hk16 w' hT'
    rw [show (List.range 10).all (fitAt m (kndF s)) = fitM m by unfold fitM; rw [hkd hw]; rfl] at e
    exact e
  have MS : Hid (∀ w', wh = true → fitM m = true → Calls Tryd.prog 69 #[.int .i64 (kndF s : Int), .agg (cellsV m)] w' fun e w'' => e = .returned (.agg (msgV m)) ∧ Below w'.heap.size w' w'') := fun w' hw hf => by
    have hfa : ∀ i, i < 10 → fitAt m (kndF s) i = true := fitM_all (by unfold fitM at hf; rw [hkd hw] at hf; exact hf)
    have f8 : m.key.size ≤ 255 := (fit_txt (i := 8) (by omega) (hfa 8 (by omega))).2
    have f9 : m.val.size ≤ 4096 := (fit_txt (i := 9) (by omega) (hfa 9 (by omega))).2
    have e := message_any m (by omega) (by omega) w'
    rw [hkd hw] at e
    exact e
  have K3 := knd_at s (Nat.lt_of_lt_of_le (by decide) hs24)
  have hkb : kndF s < 256 := by omega
  have hs5 : s.size ≤ 5000 := by omega
  have hse : (s.size : Int) - 4 = ((s.size - 4 : Nat) : Int) := by omega
  clear hT0 hM0 b0 hT4 hT hR hh h hb4 hsz hkd
  go_enter Tryd.func53, Tryd.ntmps53
  go_upto_region 1 with fail
  rw [← hW0]
  clear hW0
  go_wp2_with fail
  refine Calls.mono CH.out ?_
  rintro e w1 ⟨rfl, b1⟩
  obtain ⟨hM1, hb1, hT1⟩ := KM.out _ b1
  have B1 := hide b1
  have T1 := hide hT1
  clear b1 hb1 hM1 CH hT1
  go_upto_region 5 with fail
  generalize kndF s = k at *
  refine wp_region_held_drew (S := fun _ => True) (by kernel_rfl) trivial (fun hHeld => ?_)
  refine wpAnyH_take (i := 0) (v := (.int .i64 (k : Int))) rfl (by kernel_rfl) (by kernel_rfl) (by kernel_rfl) (fun _ _ _ h => h) (Or.inl ⟨by rfl, ?_⟩) (by assumption) ?_
  · intro w' hSw
    (try dsimp only at hSw)
    go_simp <;> first | exact i64_in (by omega) (by omega) | exact u32_in (by omega) (by omega) | exact u32_add _ _ | (rw [Int.tmod_eq_emod_of_nonneg (by omega)]; omega) | (rw [Int.tdiv_eq_ediv_of_nonneg (by omega)]; omega) | omega
  (try simp only [Act.put, List.setIfInBounds_toArray, List.set_cons_zero, List.set_cons_succ])
  refine wpAnyH_take (i := 1) (v := (.string s)) rfl (by kernel_rfl) (by kernel_rfl) (by kernel_rfl) (fun _ _ _ h => h) (Or.inl ⟨by rfl, ?_⟩) (by assumption) ?_
  · intro w' hSw
    (try dsimp only at hSw)
    go_simp <;> first | exact i64_in (by omega) (by omega) | exact u32_in (by omega) (by omega) | exact u32_add _ _ | (rw [Int.tmod_eq_emod_of_nonneg (by omega)]; omega) | (rw [Int.tdiv_eq_ediv_of_nonneg (by omega)]; omega) | omega
  (try simp only [Act.put, List.setIfInBounds_toArray, List.set_cons_zero, List.set_cons_succ])
  refine wpAnyH_take (i := 2) (v := (.string (s.extract 4 16))) rfl (by kernel_rfl) (by kernel_rfl) (by kernel_rfl) (fun _ _ _ h => h) (Or.inl ⟨by rfl, ?_⟩) (by assumption) ?_
  · intro w' hSw
    (try dsimp only at hSw)
    (go_simp; (try (intro hq; exfalso; omega)))
  (try simp only [Act.put, List.setIfInBounds_toArray, List.set_cons_zero, List.set_cons_succ])
  refine wpAnyH_take (i := 3) (v := (.string s)) rfl (by kernel_rfl) (by kernel_rfl) (by kernel_rfl) (fun _ _ _ h => h) (Or.inl ⟨by rfl, ?_⟩) (by assumption) ?_
  · intro w' hSw
    (try dsimp only at hSw)
    go_simp <;> first | exact i64_in (by omega) (by omega) | exact u32_in (by omega) (by omega) | exact u32_add _ _ | (rw [Int.tmod_eq_emod_of_nonneg (by omega)]; omega) | (rw [Int.tdiv_eq_ediv_of_nonneg (by omega)]; omega) | omega
  (try simp only [Act.put, List.setIfInBounds_toArray, List.set_cons_zero, List.set_cons_succ])
  refine wpAnyH_take (i := 4) (v := (.string s)) rfl (by kernel_rfl) (by kernel_rfl) (by kernel_rfl) (fun _ _ _ h => h) (Or.inl ⟨by rfl, ?_⟩) (by assumption) ?_
  · intro w' hSw
    (try dsimp only at hSw)
    go_simp <;> first | exact i64_in (by omega) (by omega) | exact u32_in (by omega) (by omega) | exact u32_add _ _ | (rw [Int.tmod_eq_emod_of_nonneg (by omega)]; omega) | (rw [Int.tdiv_eq_ediv_of_nonneg (by omega)]; omega) | omega
  (try simp only [Act.put, List.setIfInBounds_toArray, List.set_cons_zero, List.set_cons_succ])
  refine wpAnyH_take (i := 5) (v := (.int .i64 (s.size : Int))) rfl (by kernel_rfl) (by kernel_rfl) (by kernel_rfl) (fun _ _ _ h => h) (Or.inl ⟨by rfl, ?_⟩) (by assumption) ?_
  · intro w' hSw
    (try dsimp only at hSw)
    go_simp <;> first | exact i64_in (by omega) (by omega) | exact u32_in (by omega) (by omega) | exact u32_add _ _ | (rw [Int.tmod_eq_emod_of_nonneg (by omega)]; omega) | (rw [Int.tdiv_eq_ediv_of_nonneg (by omega)]; omega) | omega
  (try simp only [Act.put, List.setIfInBounds_toArray, List.set_cons_zero, List.set_cons_succ])
  refine wpAnyH_take (i := 6) (v := (.int .i64 ((s.size - 4 : Nat) : Int))) rfl (by kernel_rfl) (by kernel_rfl) (by kernel_rfl) (fun _ _ _ h => h) (Or.inl ⟨by rfl, ?_⟩) (by assumption) ?_
  · intro w' hSw
    (try dsimp only at hSw)
    (go_simp; exact i64_in (by omega) (by omega))
  (try simp only [Act.put, List.setIfInBounds_toArray, List.set_cons_zero, List.set_cons_succ])
  refine wpAnyH_take (i := 7) (v := (.string (s.extract 20 (s.size - 4)))) rfl (by kernel_rfl) (by kernel_rfl) (by kernel_rfl) (fun _ _ _ h => h) (Or.inl ⟨by rfl, ?_⟩) (by assumption) ?_
  · intro w' hSw
    (try dsimp only at hSw)
    (go_simp; (try (intro hq; exfalso; omega)))
  (try simp only [Act.put, List.setIfInBounds_toArray, List.set_cons_zero, List.set_cons_succ])
  generalize s.extract 4 16 = X at *
  generalize s.extract 20 (s.size - 4) = Y at *
  refine wpAnyH_ready (rs := [8, 12]) (by kernel_rfl) (by simp) ?_
  refine AllReadyH.cons rfl (fun K hK => ?_) (AllReadyH.cons rfl (fun K hK => ?_) AllReadyH.nil)
  · go_simp
    refine Calls.mono (RD.out _ (T1.out.below ((Below.refl _ w1).drew))) ?_
    rintro x w2 ⟨rfl, b2⟩
    have bX : Below W0.heap.size W0 w2 := B1.out.trans ((((Below.refl _ w1).drew).trans b2).mono B1.out.size)
    refine hK.out _ _ (trivial) (fun hHeld => ?_)
    clear hK
    (try simp only [Act.put, List.setIfInBounds_toArray, List.set_cons_zero, List.set_cons_succ])
    refine wpAnyH_take (i := 9) (v := (.tuple #[.agg (cellsV m), .bool wh])) rfl (by kernel_rfl) (by kernel_rfl) (by kernel_rfl) (fun _ _ _ h => h) (Or.inl ⟨by rfl, ?_⟩) (by assumption) ?_
    · intro w' hSw
      (try dsimp only at hSw)
      go_simp
    (try simp only [Act.put, List.getElem_toArray, List.getElem_cons_zero, List.getElem_cons_succ, List.setIfInBounds_toArray, List.set_cons_zero, List.set_cons_succ])
    refine wpAnyH_take (i := 10) (v := (.agg (cellsV m))) rfl (by kernel_rfl) (by kernel_rfl) (by kernel_rfl) (fun _ _ _ h => h) (Or.inl ⟨by rfl, ?_⟩) (by assumption) ?_
    · intro w' hSw
      (try dsimp only at hSw)
      go_simp
    (try simp only [Act.put, List.getElem_toArray, List.getElem_cons_zero, List.getElem_cons_succ, List.setIfInBounds_toArray, List.set_cons_zero, List.set_cons_succ])
    refine wpAnyH_take (i := 11) (v := (.bool wh)) rfl (by kernel_rfl) (by kernel_rfl) (by kernel_rfl) (fun _ _ _ h => h) (Or.inl ⟨by rfl, ?_⟩) (by assumption) ?_
    · intro w' hSw
      (try dsimp only at hSw)
      go_simp
    (try simp only [Act.put, List.getElem_toArray, List.getElem_cons_zero, List.getElem_cons_succ, List.setIfInBounds_toArray, List.set_cons_zero, List.set_cons_succ])
    refine wpAnyH_ready (rs := [12]) (by kernel_rfl) (by simp) ?_
    refine AllReadyH.cons rfl (fun K hK => ?_) AllReadyH.nil
    go_simp
    refine hK.out _ _ (trivial) (fun hHeld => ?_)
    clear hK
    (try simp only [Act.put, List.setIfInBounds_toArray, List.set_cons_zero, List.set_cons_succ])
    have HZ : Hid ((w2.alloc (.cells (cellsV (mm0 0)) 72)).heap[w2.heap.size]? = some (.cells (cellsV (mm0 0)) 72)) := heap_last _ _
    have BZ := hide (below_row (bX.alloc (o := .cells (cellsV (mm0 0)) 72) bX.size) bX.size (cellsV m))
    have HA := hide (setRow_heap _ _ _ (cellsV m) _ _ HZ.out)
    refine wpAnyH_ready (rs := [13]) (by kernel_rfl) (by simp) ?_
    refine AllReadyH.cons rfl (fun K hK => ?_) AllReadyH.nil
    rw [if_pos (by kernel_rfl)]
    refine wp_store_row 72 (.tmp 6) (.tmp 27) rfl w2.heap.size (cellsV m) rfl rfl 72 (cellsV (mm0 0)) HZ.out cells_info rfl (cells_one m) ?_
    refine hK.out _ _ (trivial) (fun hHeld => ?_)
    clear hK
    (try simp only [Act.put, List.setIfInBounds_toArray, List.set_cons_zero, List.set_cons_succ])
    refine wpAnyH_ready (rs := [14]) (by kernel_rfl) (by simp) ?_
    refine AllReadyH.cons rfl (fun K hK => ?_) AllReadyH.nil
    go_simp
    refine hK.out _ _ (trivial) (fun hHeld => ?_)
    clear hK
    (try simp only [Act.put, List.setIfInBounds_toArray, List.set_cons_zero, List.set_cons_succ])
    refine wpAnyH_done (by kernel_rfl) ?_ _
    clear hHeld
    have KZ : Hid (∀ w5, Below ((w2.alloc (.cells (cellsV (mm0 0)) 72)).setRow w2.heap.size (cellsV m)).heap.size ((w2.alloc (.cells (cellsV (mm0 0)) 72)).setRow w2.heap.size (cellsV m)) w5 → w5.heap[w.heap.size]? = some (.cells (msgV (mm0 0)) 27) ∧ Below w.heap.size w w5 ∧ w5.heap[w2.heap.size]? = some (.cells (cellsV m) 72)) := fun w5 b5 => by
      have := KM.out _ (BZ.out.trans (b5.mono BZ.out.size))
      exact ⟨this.1, this.2.1, (b5.block _ (Array.getElem?_eq_some_iff.1 HA.out).1).trans HA.out⟩
    have hA := HA.out
    obtain ⟨hMz, hbz, htz⟩ := KM.out _ BZ.out
    have HBz := hide hbz
    have hTz := hide htz
    clear hbz htz HA HZ BZ bX
    change Exit.then _ _ _ _ ((w2.alloc (.cells (cellsV (mm0 0)) 72)).setRow w2.heap.size (cellsV m))
    generalize (w2.alloc (.cells (cellsV (mm0 0)) 72)).setRow w2.heap.size (cellsV m) = WZ at *
    cases wh with
    | false =>
      have E2 := hide (V2.out (fun x => by simp at x))
      clear FT MS V1 V2
      go_wp2_with (first | (refine wpList_build0 rfl rfl ?_) | (refine wpList_storeMsg rfl (.tmp 2) (.tmp 37) rfl w.heap.size rfl (mm0 0) (mm0 0) rfl hMz ?_))
      refine bodyPost_ret (v := .tuple #[.agg (msgV (mm0 0)), .int .i64 56]) (res_dec (mm0 0) 56 _ w.heap.size _ rfl rfl (setRow_heap _ _ _ _ _ _ hMz)) rfl ⟨by rw [E2.out], ?_⟩
      exact below_row HBz.out (Nat.le_refl _) _
    | true =>
      have FC := hide (FT.out _ hTz.out (by first | rfl | trivial))
      go_wp2_with (refine wpList_loadAllG rfl (.tmp 6) rfl m _ rfl hA _ rfl ?_)
      refine Calls.mono FC.out ?_
      rintro e w5 ⟨rfl, b5⟩
      obtain ⟨hM5, hB5, hA5⟩ := KZ.out _ b5
      have HB5 := hide hB5
      clear FT FC b5 hB5 hA hMz
      cases hf : fitM m with
      | false =>
        have E2 := hide (V2.out (fun x => by rw [hf] at x; simp at x))
        clear MS V1 V2 hf
        go_wp2_with (first | (refine wpList_build0 rfl rfl ?_) | (refine wpList_storeMsg rfl (.tmp 2) (.tmp 37) rfl w.heap.size rfl (mm0 0) (mm0 0) rfl hM5 ?_))
        refine bodyPost_ret (v := .tuple #[.agg (msgV (mm0 0)), .int .i64 56]) (res_dec (mm0 0) 56 _ w.heap.size _ rfl rfl (setRow_heap _ _ _ _ _ _ hM5)) rfl ⟨by rw [E2.out], ?_⟩
        exact below_row HB5.out (Nat.le_refl _) _
      | true =>
        have E1 := hide (V1.out ⟨by first | rfl | trivial, hf⟩)
        have MC := hide (MS.out w5 (by first | rfl | trivial) hf)
        clear V1 V2 hf
        go_wp2_with (refine wpList_loadAll rfl (.tmp 6) rfl m _ rfl hA5 _ rfl ?_)
        refine Calls.mono MC.out ?_
        rintro e w6 ⟨rfl, b6⟩
        have hM6 : w6.heap[w.heap.size]? = some (.cells (msgV (mm0 0)) 27) := (b6.block _ (Array.getElem?_eq_some_iff.1 hM5).1).trans hM5
        have HB6 := hide (HB5.out.trans (b6.mono HB5.out.size))
        clear MS MC b6 hM5 hA5
        go_wp2_with (refine wpList_storeMsg rfl (.tmp 2) (.tmp 40) rfl w.heap.size rfl m (mm0 0) rfl hM6 ?_)
        refine bodyPost_ret (v := .tuple #[.agg (msgV m), .int .i64 0]) (res_dec m 0 _ w.heap.size _ rfl rfl (setRow_heap _ _ _ _ _ _ hM6)) rfl ⟨by rw [E1.out], ?_⟩
        exact below_row HB6.out (Nat.le_refl _) _
  · go_simp
    have bX : Below W0.heap.size W0 (w1.drew.alloc (.cells (cellsV (mm0 0)) 72)) := B1.out.drew.alloc B1.out.size _
    have hX : (w1.drew.alloc (.cells (cellsV (mm0 0)) 72)).heap[w1.heap.size]? = some (.cells (cellsV (mm0 0)) 72) := heap_last w1.drew _
    have RX := hide (RD.out _ (KM.out _ bX).2.2)
    refine hK.out _ _ (trivial) (fun hHeld => ?_)
    clear hK
    (try simp only [Act.put, List.setIfInBounds_toArray, List.set_cons_zero, List.set_cons_succ])
    refine wpAnyH_ready (rs := [8]) (by kernel_rfl) (by simp) ?_
    refine AllReadyH.cons rfl (fun K hK => ?_) AllReadyH.nil
    go_simp
    refine Calls.mono RX.out ?_
    rintro x w2 ⟨rfl, b2⟩
    have HZ := hide ((b2.block _ (Array.getElem?_eq_some_iff.1 hX).1).trans hX)
    have BZ := hide (below_row (bX.trans (b2.mono bX.size)) B1.out.size (cellsV m))
    have HA := hide (setRow_heap _ _ _ (cellsV m) _ _ HZ.out)
    refine hK.out _ _ (trivial) (fun hHeld => ?_)
    clear hK
    (try simp only [Act.put, List.setIfInBounds_toArray, List.set_cons_zero, List.set_cons_succ])
    refine wpAnyH_take (i := 9) (v := (.tuple #[.agg (cellsV m), .bool wh])) rfl (by kernel_rfl) (by kernel_rfl) (by kernel_rfl) (fun _ _ _ h => h) (Or.inl ⟨by rfl, ?_⟩) (by assumption) ?_
    · intro w' hSw
      (try dsimp only at hSw)
      go_simp
    (try simp only [Act.put, List.getElem_toArray, List.getElem_cons_zero, List.getElem_cons_succ, List.setIfInBounds_toArray, List.set_cons_zero, List.set_cons_succ])
    refine wpAnyH_take (i := 10) (v := (.agg (cellsV m))) rfl (by kernel_rfl) (by kernel_rfl) (by kernel_rfl) (fun _ _ _ h => h) (Or.inl ⟨by rfl, ?_⟩) (by assumption) ?_
    · intro w' hSw
      (try dsimp only at hSw)
      go_simp
    (try simp only [Act.put, List.getElem_toArray, List.getElem_cons_zero, List.getElem_cons_succ, List.setIfInBounds_toArray, List.set_cons_zero, List.set_cons_succ])
    refine wpAnyH_take (i := 11) (v := (.bool wh)) rfl (by kernel_rfl) (by kernel_rfl) (by kernel_rfl) (fun _ _ _ h => h) (Or.inl ⟨by rfl, ?_⟩) (by assumption) ?_
    · intro w' hSw
      (try dsimp only at hSw)
      go_simp
    (try simp only [Act.put, List.getElem_toArray, List.getElem_cons_zero, List.getElem_cons_succ, List.setIfInBounds_toArray, List.set_cons_zero, List.set_cons_succ])
    refine wpAnyH_ready (rs := [13]) (by kernel_rfl) (by simp) ?_
    refine AllReadyH.cons rfl (fun K hK => ?_) AllReadyH.nil
    rw [if_pos (by kernel_rfl)]
    refine wp_store_row 72 (.tmp 6) (.tmp 27) rfl w1.heap.size (cellsV m) rfl rfl 72 (cellsV (mm0 0)) HZ.out cells_info rfl (cells_one m) ?_
    refine hK.out _ _ (trivial) (fun hHeld => ?_)
    clear hK
    (try simp only [Act.put, List.setIfInBounds_toArray, List.set_cons_zero, List.set_cons_succ])
    refine wpAnyH_ready (rs := [14]) (by kernel_rfl) (by simp) ?_
    refine AllReadyH.cons rfl (fun K hK => ?_) AllReadyH.nil
    go_simp
    refine hK.out _ _ (trivial) (fun hHeld => ?_)
    clear hK
    (try simp only [Act.put, List.setIfInBounds_toArray, List.set_cons_zero, List.set_cons_succ])
    refine wpAnyH_done (by kernel_rfl) ?_ _
    clear hHeld
    have KZ : Hid (∀ w5, Below (w2.setRow w1.heap.size (cellsV m)).heap.size (w2.setRow w1.heap.size (cellsV m)) w5 → w5.heap[w.heap.size]? = some (.cells (msgV (mm0 0)) 27) ∧ Below w.heap.size w w5 ∧ w5.heap[w1.heap.size]? = some (.cells (cellsV m) 72)) := fun w5 b5 => by
      have := KM.out _ (BZ.out.trans (b5.mono BZ.out.size))
      exact ⟨this.1, this.2.1, (b5.block _ (Array.getElem?_eq_some_iff.1 HA.out).1).trans HA.out⟩
    have hA := HA.out
    obtain ⟨hMz, hbz, htz⟩ := KM.out _ BZ.out
    have HBz := hide hbz
    have hTz := hide htz
    clear hbz htz HA HZ BZ bX
    change Exit.then _ _ _ _ (w2.setRow w1.heap.size (cellsV m))
    generalize w2.setRow w1.heap.size (cellsV m) = WZ at *
    cases wh with
    | false =>
      have E2 := hide (V2.out (fun x => by simp at x))
      clear FT MS V1 V2
      go_wp2_with (first | (refine wpList_build0 rfl rfl ?_) | (refine wpList_storeMsg rfl (.tmp 2) (.tmp 37) rfl w.heap.size rfl (mm0 0) (mm0 0) rfl hMz ?_))
      refine bodyPost_ret (v := .tuple #[.agg (msgV (mm0 0)), .int .i64 56]) (res_dec (mm0 0) 56 _ w.heap.size _ rfl rfl (setRow_heap _ _ _ _ _ _ hMz)) rfl ⟨by rw [E2.out], ?_⟩
      exact below_row HBz.out (Nat.le_refl _) _
    | true =>
      have FC := hide (FT.out _ hTz.out (by first | rfl | trivial))
      go_wp2_with (refine wpList_loadAllG rfl (.tmp 6) rfl m _ rfl hA _ rfl ?_)
      refine Calls.mono FC.out ?_
      rintro e w5 ⟨rfl, b5⟩
      obtain ⟨hM5, hB5, hA5⟩ := KZ.out _ b5
      have HB5 := hide hB5
      clear FT FC b5 hB5 hA hMz
      cases hf : fitM m with
      | false =>
        have E2 := hide (V2.out (fun x => by rw [hf] at x; simp at x))
        clear MS V1 V2 hf
        go_wp2_with (first | (refine wpList_build0 rfl rfl ?_) | (refine wpList_storeMsg rfl (.tmp 2) (.tmp 37) rfl w.heap.size rfl (mm0 0) (mm0 0) rfl hM5 ?_))
        refine bodyPost_ret (v := .tuple #[.agg (msgV (mm0 0)), .int .i64 56]) (res_dec (mm0 0) 56 _ w.heap.size _ rfl rfl (setRow_heap _ _ _ _ _ _ hM5)) rfl ⟨by rw [E2.out], ?_⟩
        exact below_row HB5.out (Nat.le_refl _) _
      | true =>
        have E1 := hide (V1.out ⟨by first | rfl | trivial, hf⟩)
        have MC := hide (MS.out w5 (by first | rfl | trivial) hf)
        clear V1 V2 hf
        go_wp2_with (refine wpList_loadAll rfl (.tmp 6) rfl m _ rfl hA5 _ rfl ?_)
        refine Calls.mono MC.out ?_
        rintro e w6 ⟨rfl, b6⟩
        have hM6 : w6.heap[w.heap.size]? = some (.cells (msgV (mm0 0)) 27) := (b6.block _ (Array.getElem?_eq_some_iff.1 hM5).1).trans hM5
        have HB6 := hide (HB5.out.trans (b6.mono HB5.out.size))
        clear MS MC b6 hM5 hA5
        go_wp2_with (refine wpList_storeMsg rfl (.tmp 2) (.tmp 40) rfl w.heap.size rfl m (mm0 0) rfl hM6 ?_)
        refine bodyPost_ret (v := .tuple #[.agg (msgV m), .int .i64 0]) (res_dec m 0 _ w.heap.size _ rfl rfl (setRow_heap _ _ _ _ _ _ hM6)) rfl ⟨by rw [E1.out], ?_⟩
        exact below_row HB6.out (Nat.le_refl _) _
end Go.Proofs.YtgdjfocnaapooaaDoor
namespace Go.Proofs.YtgdjfocnaapooaaDoor
open Go.RowKit
/-- Decode -/
theorem decode_any (s : ByteArray) (w : World) (hT : TabF w) (hT4 : Tab4 5 w) :
    Calls Tryd.prog 53 #[.string s] w fun e w' => e = .returned (decV s) ∧ Below w.heap.size w w' := by
  by_cases h : chkE s = 0
  · obtain ⟨hs24, _, ⟨hk1, hk16⟩, hb4, hsz, _⟩ := chk_lt h
    obtain ⟨mh, hr, hh, _⟩ := rdHead (kndF s) (s.extract 4 16) (by rw [ByteArray.size_extract]; omega)
    have eA : rdAll s = rdL (bodyF (kndF s)) mh (s.extract 20 (s.size - 4)) := by unfold rdAll; rw [hh]
    cases hb : rdAll s with
    | none =>
      have e := decode_mid s w hT hT4 h mh hr hh (mm0 0) false (by rw [← eA, hb]; rfl) (fun x => by simp at x)
      have eV : decV s = .tuple #[.agg (msgV (mm0 0)), .int .i64 56] := by unfold decV decM decE; rw [if_pos h, if_pos h, hb]; rfl
      rw [if_neg (fun x => by simp at x)] at e
      rw [eV]
      exact e
    | some x =>
      obtain ⟨m, r⟩ := x
      have e := decode_mid s w hT hT4 h mh hr hh m r.toList.isEmpty (by rw [← eA, hb]; rfl) (fun _ => rdAll_kind hk16 hb)
      have eV : decV s = (if r.toList.isEmpty = true ∧ fitM m = true then Value.tuple #[.agg (msgV m), .int .i64 0] else .tuple #[.agg (msgV (mm0 0)), .int .i64 56]) := by
        unfold decV decM decE
        rw [if_pos h, if_pos h, hb]
        unfold okAll
        dsimp only
        split <;> rfl
      rw [eV]
      exact e
  · exact decode_bad s w hT4 h
theorem decE_cases (s : ByteArray) : (decE s = 0 ∧ ∃ m, decM s = some m) ∨ (51 ≤ decE s ∧ decE s ≤ 56 ∧ decM s = none) := by
  unfold decE decM
  by_cases h : chkE s = 0
  · rw [if_pos h, if_pos h]
    cases ho : okAll (rdAll s) with
    | none => exact .inr ⟨by decide, by decide, rfl⟩
    | some m => exact .inl ⟨rfl, m, rfl⟩
  · rw [if_neg h, if_neg h]
    refine .inr ⟨?_, ?_, rfl⟩ <;> (unfold chkE at h ⊢; repeat (first | (split at h <;> split <;> simp_all; done) | split | omega | decide))
theorem ext_mid {s : ByteArray} {a b : Nat} {A B C : List UInt8} (hs : s.data.toList = A ++ (B ++ C)) (ha : A.length = a) (hb : a + B.length = b) : s.extract a b = strOf B := by
  rw [← strOf_toList (s.extract a b), slice_str, hs, List.drop_left' ha, show b - a = B.length by omega, List.take_left' rfl]
theorem app_none (s : ByteArray) : s ++ (⟨#[]⟩ : ByteArray) = s := ByteArray.append_empty
theorem isEmpty_iff {r : ByteArray} : r.toList.isEmpty = true ↔ r.size = 0 := by
  have h := eq_beq r ⟨#[]⟩
  have e : (⟨#[]⟩ : ByteArray).toList = [] := by decide +kernel
  rw [e] at h
  have h2 : (r.toList == []) = r.toList.isEmpty := by cases r.toList <;> rfl
  rw [h2] at h
  rw [h, decide_eq_true_eq]
  constructor
  · intro x; rw [x]; rfl
  · intro x; exact ByteArray.ext (Array.eq_empty_of_size_eq_zero x)
def bndF (i : Nat) : Nat := widF i + if isTx i = true then mostF i else 0
theorem bodyF_bnd : ∀ k, k ≤ 16 → ((bodyF k).map bndF).sum ≤ 4383 := by decide +kernel
theorem fldB_len (m : MM) (k i : Nat) (hi : i < 10) (h : fitAt m k i = true) : (fldL m i).length ≤ bndF i := by
  have := (fit_txt hi h).2
  unfold fldL bndF
  split
  · rw [List.length_append, dig_len, size_data]; omega
  · rw [dig_len]; omega
theorem flat_bnd (m : MM) (k : Nat) : ∀ l : List Nat, (∀ i ∈ l, i < 10 ∧ fitAt m k i = true) → (l.flatMap (fldL m)).length ≤ (l.map bndF).sum := by
  intro l
  induction l with
  | nil => intro _; exact Nat.le_refl _
  | cons i l ih =>
    intro h
    rw [List.flatMap_cons, List.length_append, List.map_cons, List.sum_cons]
    have h1 := fldB_len m k i (h i List.mem_cons_self).1 (h i List.mem_cons_self).2
    have h2 := ih (fun j hj => h j (List.mem_cons_of_mem _ hj))
    omega
theorem head_len (m : MM) : (headF.flatMap (fldL m)).length = 12 := by
  show (fldL m 0 ++ (fldL m 1 ++ (fldL m 2 ++ []))).length = 12
  have e0 : (fldL m 0).length = 2 := dig_len _ _
  have e1 : (fldL m 1).length = 2 := dig_len _ _
  have e2 : (fldL m 2).length = 8 := dig_len _ _
  simp only [List.length_append, e0, e1, e2, List.length_nil]
theorem bodyF_nodup : ∀ k, k ≤ 16 → (bodyF k).Nodup := by decide +kernel
theorem le4_len (c : Nat) : (le4 c).length = 4 := rfl
theorem encS_ok {m : MM} (hk : 1 ≤ m.kind ∧ m.kind ≤ 16) (hf : fitM m = true) : encS m = strOf (textL m) ++ strOf (le4 (crcN 0 (textL m))) := by unfold encS; rw [if_pos hk, if_pos hf]
theorem encE_ok {m : MM} (hk : 1 ≤ m.kind ∧ m.kind ≤ 16) (hf : fitM m = true) : encE m = 0 := by unfold encE; rw [if_pos hk, if_pos hf]
/-- a frame's bytes, part by part -/
theorem enc_parts (m : MM) (k : Nat) (h1 : 1 ≤ k) (h16 : k ≤ 16) (hk : m.kind = (k : Int)) (hf : fitM m = true) : (encS m).data.toList = [71, 82, 1, UInt8.ofNat k] ++ (headF.flatMap (fldL m) ++ (dig 4 (bodyL m).length ++ (bodyL m ++ le4 (crcN 0 (textL m))))) := by
  rw [encS_ok (by omega) hf, ByteArray.data_append, Array.toList_append, strOf_data, strOf_data]
  conv => lhs; arg 1; unfold textL headL5
  rw [hk, Int.toNat_natCast]
  simp only [List.append_assoc]
/-- what Encode writes is decoded -/
theorem dec_fwd (m : MM) (k : Nat) (h1 : 1 ≤ k) (h16 : k ≤ 16) (hk : m.kind = (k : Int)) (hf : fitM m = true) : decM (encS m) = some m ∧ decE (encS m) = 0 := by
  have hfa : ∀ i, i < 10 → fitAt m k i = true := fitM_all (by unfold fitM at hf; rw [hk] at hf; exact hf)
  have hlt := bodyF_lt k h16
  have eB : bodyL m = (bodyF k).flatMap (fldL m) := by unfold bodyL; rw [hk]; rfl
  have hbl : (bodyL m).length ≤ 4383 := by
    rw [eB]
    exact Nat.le_trans (flat_bnd m k (bodyF k) (fun i hi => ⟨(hlt i hi).2, hfa i (hlt i hi).2⟩)) (bodyF_bnd k h16)
  have hp := enc_parts m k h1 h16 hk hf
  have hh := head_len m
  have hsz : (encS m).size = 24 + (bodyL m).length := by
    rw [← size_data, hp]
    simp only [List.length_append, hh, dig_len, le4_len, List.length_cons, List.length_nil]
    omega
  have x1 : (encS m).extract 0 3 = magF := by
    have e : (encS m).extract 0 3 = strOf [71, 82, 1] := ext_mid (A := []) (B := [71, 82, 1]) (C := [UInt8.ofNat k] ++ (headF.flatMap (fldL m) ++ (dig 4 (bodyL m).length ++ (bodyL m ++ le4 (crcN 0 (textL m)))))) (by rw [hp]; rfl) rfl rfl
    rw [e]; rfl
  have x2 : (encS m).extract 4 16 = strOf (headF.flatMap (fldL m)) := ext_mid hp rfl (by rw [hh])
  have x3 : bszF (encS m) = (bodyL m).length := by
    unfold bszF
    have e : (encS m).data.toList = ([71, 82, 1, UInt8.ofNat k] ++ headF.flatMap (fldL m)) ++ (dig 4 (bodyL m).length ++ (bodyL m ++ le4 (crcN 0 (textL m)))) := by rw [hp, List.append_assoc]
    rw [e, List.drop_left' (by rw [List.length_append, hh]; rfl), List.take_left' (dig_len _ _), val_dig _ _ (by omega)]
  have x4 : (encS m).extract 20 ((encS m).size - 4) = strOf (bodyL m) := by
    refine ext_mid (A := ([71, 82, 1, UInt8.ofNat k] ++ headF.flatMap (fldL m)) ++ dig 4 (bodyL m).length) (C := le4 (crcN 0 (textL m))) ?_ ?_ ?_
    · rw [hp]; simp only [List.append_assoc]
    · simp only [List.length_append, hh, dig_len]; rfl
    · rw [hsz]; omega
  have x5 : kndF (encS m) = k := by
    unfold kndF
    rw [hp]
    show (UInt8.ofNat k).toNat = k
    rw [UInt8.toNat_ofNat']
    omega
  have ht : (textL m).length = 20 + (bodyL m).length := by
    unfold textL headL5
    simp only [List.length_append, hh, dig_len, List.length_cons, List.length_nil]
  have es : (encS m).data.toList = textL m ++ le4 (crcN 0 (textL m)) := by rw [encS_ok (by omega) hf, ByteArray.data_append, Array.toList_append, strOf_data, strOf_data]
  have x6 : (encS m).extract 0 ((encS m).size - 4) = strOf (textL m) := ext_mid (A := []) (C := le4 (crcN 0 (textL m))) (by rw [es]; rfl) rfl (by rw [hsz]; omega)
  have x7 : (encS m).extract ((encS m).size - 4) (encS m).size = strOf (le4 (crcN 0 (textL m))) := ext_mid (A := textL m) (C := []) (by rw [es, List.append_nil]) (by rw [hsz]; omega) (by rw [le4_len, hsz]; omega)
  have hc : chkE (encS m) = 0 := by
    refine chk_ok (by omega) x1 (by rw [x5]; exact ⟨h1, h16⟩) (by rw [x3]; omega) ?_
    unfold sumOk
    rw [x6, x7, strOf_data, decide_eq_true rfl]
  have hm : ∀ i, mostK k i ≤ mostF i := mostK_le k
  have r1 : rdL headF (mm0 k) (strOf (headF.flatMap (fldL m))) = some (putAll m headF (mm0 k), ⟨#[]⟩) := by
    have := rdL_fwd m k headF (mm0 k) ⟨#[]⟩ (fun i hi => by have := headF_lt i hi; omega) (fun i hi => hfa i (by have := headF_lt i hi; omega)) hm
    rwa [app_none] at this
  have r2 : rdL (bodyF k) (putAll m headF (mm0 k)) (strOf (bodyL m)) = some (putAll m (bodyF k) (putAll m headF (mm0 k)), ⟨#[]⟩) := by
    have := rdL_fwd m k (bodyF k) (putAll m headF (mm0 k)) ⟨#[]⟩ (fun i hi => (hlt i hi).2) (fun i hi => hfa i (hlt i hi).2) hm
    rw [← eB] at this
    rwa [app_none] at this
  have em : putAll m (bodyF k) (putAll m headF (mm0 k)) = m := by
    refine MM.ext10 (by rw [putAll_kind, putAll_kind, hk]; rfl) fun j hj => ?_
    obtain ⟨a1, a2⟩ := putAll_at m (bodyF k) (putAll m headF (mm0 k)) (fun i hi => (hlt i hi).2) j hj
    obtain ⟨b1, b2⟩ := putAll_at m headF (mm0 k) (fun i hi => by have := headF_lt i hi; omega) j hj
    rw [a1, a2, b1, b2]
    by_cases c1 : j ∈ bodyF k
    · rw [if_pos c1, if_pos c1]; exact ⟨rfl, rfl⟩
    · rw [if_neg c1, if_neg c1]
      by_cases c2 : j ∈ headF
      · rw [if_pos c2, if_pos c2]; exact ⟨rfl, rfl⟩
      · rw [if_neg c2, if_neg c2]
        have hfj := hfa j hj
        have h3 : ¬ j < 3 := fun x => c2 (by have : j = 0 ∨ j = 1 ∨ j = 2 := by omega
                                             rcases this with rfl | rfl | rfl <;> decide)
        have hz : mostK k j = 0 := by unfold mostK; rw [if_neg (by rintro (x | x); exact h3 x; exact c1 x)]
        unfold fitAt at hfj
        simp only [Bool.and_eq_true, decide_eq_true_eq, hz] at hfj
        have z1 : m.num j = 0 := by omega
        have z2 : m.txt j = ⟨#[]⟩ := ByteArray.ext (Array.eq_empty_of_size_eq_zero (by show (m.txt j).size = 0; omega))
        rw [z1, z2]
        rcases ten_cases hj with rfl | rfl | rfl | rfl | rfl | rfl | rfl | rfl | rfl | rfl <;> exact ⟨rfl, rfl⟩
  have ho : okAll (rdAll (encS m)) = some m := by
    unfold rdAll
    rw [x5, x2, r1]
    dsimp only
    rw [x4, r2, em]
    unfold okAll
    dsimp only
    rw [if_pos ⟨isEmpty_iff.2 rfl, hf⟩]
  unfold decM decE
  rw [if_pos hc, if_pos hc, ho]
  exact ⟨rfl, rfl⟩
end Go.Proofs.YtgdjfocnaapooaaDoor
namespace Go.Proofs.YtgdjfocnaapooaaDoor
open Go.RowKit
theorem fldL_congr {a b : MM} {i : Nat} (h : a.num i = b.num i ∧ a.txt i = b.txt i) : fldL a i = fldL b i := by
  unfold fldL; rw [h.1, h.2]
theorem flat_congr {a b : MM} : ∀ l : List Nat, (∀ i ∈ l, a.num i = b.num i ∧ a.txt i = b.txt i) → l.flatMap (fldL a) = l.flatMap (fldL b) := by
  intro l
  induction l with
  | nil => intro _; rfl
  | cons i l ih => intro h; rw [List.flatMap_cons, List.flatMap_cons, fldL_congr (h i List.mem_cons_self), ih (fun j hj => h j (List.mem_cons_of_mem _ hj))]
theorem bytes3 {s : ByteArray} (hs : 4 ≤ s.size) (h : s.extract 0 3 = magF) : s.data.toList.take 4 = [71, 82, 1, UInt8.ofNat (kndF s)] := by
  have e : s.data.toList.take 3 = [71, 82, 1] := by
    have := congrArg (fun x : ByteArray => x.data.toList) h
    rw [slice_str, List.drop_zero] at this
    exact this
  have h3 : 3 < s.data.toList.length := by rw [size_data]; omega
  rw [show (4 : Nat) = 3 + 1 from rfl, List.take_succ_eq_append_getElem h3, e]
  have : s.data.toList[3] = UInt8.ofNat (kndF s) := by
    unfold kndF
    rw [List.getD_eq_getElem?_getD, List.getElem?_eq_getElem h3]
    simp
  rw [this]
  rfl
/-- what is decoded is what Encode writes -/
theorem dec_back {s : ByteArray} {m : MM} (h : decM s = some m) : (1 ≤ m.kind ∧ m.kind ≤ 16) ∧ fitM m = true ∧ encS m = s := by
  unfold decM at h
  by_cases hc : chkE s = 0
  case neg => rw [if_neg hc] at h; simp at h
  rw [if_pos hc] at h
  obtain ⟨hs24, x1, ⟨hk1, hk16⟩, hb4, hsz, hsum⟩ := chk_lt hc
  cases hr : rdAll s with
  | none => rw [hr] at h; simp [okAll] at h
  | some x =>
    obtain ⟨m', r⟩ := x
    rw [hr] at h
    unfold okAll at h
    dsimp only at h
    split at h
    case isFalse => simp at h
    case isTrue hif =>
      obtain ⟨hr0, hf⟩ := hif
      simp only [Option.some.injEq] at h
      subst h
      have hkd := rdAll_kind hk16 hr
      have hlt := bodyF_lt (kndF s) hk16
      have hfa : ∀ i, i < 10 → fitAt m' (kndF s) i = true := fitM_all (by unfold fitM at hf; rw [hkd] at hf; exact hf)
      have hn : ∀ i, i < 10 → 0 ≤ m'.num i := fun i hi => (fit_at (hfa i hi)).1
      obtain ⟨mh, hrr, hh, hz⟩ := rdHead (kndF s) (s.extract 4 16) (by rw [ByteArray.size_extract]; omega)
      have hb : rdL (bodyF (kndF s)) mh (s.extract 20 (s.size - 4)) = some (m', r) := by
        unfold rdAll at hr; rw [hh] at hr; exact hr
      have kp := (rdL_keep _ _ _ _ _ (fun i hi => (hlt i hi).2) hb).2
      have hd : ∀ i ∈ headF, m'.num i = mh.num i ∧ m'.txt i = mh.txt i := fun i hi => by
        have h3 := headF_lt i hi
        exact kp i (by omega) (fun x => by have := (hlt i x).1; omega)
      have e1 := rdL_back _ _ _ _ _ (fun i hi => by have := headF_lt i hi; omega) (by decide) hh (fun i hi => by rw [← (hd i hi).1]; exact hn i (by have := headF_lt i hi; omega))
      have e2 := rdL_back _ _ _ _ _ (fun i hi => (hlt i hi).2) (bodyF_nodup _ hk16) hb (fun i hi => hn i (hlt i hi).2)
      have r0 : r.data.toList = [] := List.eq_nil_of_length_eq_zero (by rw [size_data]; exact isEmpty_iff.1 hr0)
      have r1 : hrr.data.toList = [] := List.eq_nil_of_length_eq_zero (by rw [size_data]; exact hz)
      rw [r0, List.append_nil] at e2
      rw [r1, List.append_nil, ← flat_congr headF hd] at e1
      have eB : bodyL m' = (s.extract 20 (s.size - 4)).data.toList := by
        unfold bodyL; rw [hkd, Int.toNat_natCast, e2]
      have lB : (bodyL m').length = bszF s := by rw [eB, size_data, ByteArray.size_extract]; omega
      have e3 : dig 4 (bodyL m').length = (s.data.toList.drop 16).take 4 := by
        rw [lB]
        unfold bszF
        have l4 : ((s.data.toList.drop 16).take 4).length = 4 := by rw [List.length_take, List.length_drop, size_data]; omega
        have := dig_val ((s.data.toList.drop 16).take 4)
        rw [l4] at this
        exact this
      have eT : textL m' = s.data.toList.take (s.size - 4) := by
        unfold textL headL5
        rw [hkd, Int.toNat_natCast, ← bytes3 (by omega) x1, ← e1, e3, eB, slice_str, slice_str]
        have d1 : s.data.toList.take 16 = s.data.toList.take 4 ++ (s.data.toList.drop 4).take 12 := by
          rw [show (16 : Nat) = 4 + 12 from rfl, List.take_add]
        have d2 : s.data.toList.take 20 = s.data.toList.take 16 ++ (s.data.toList.drop 16).take 4 := by
          rw [show (20 : Nat) = 16 + 4 from rfl, List.take_add]
        have d3 : s.data.toList.take (s.size - 4) = s.data.toList.take 20 ++ (s.data.toList.drop 20).take (s.size - 4 - 20) := by
          conv => lhs; rw [show s.size - 4 = 20 + (s.size - 4 - 20) by omega, List.take_add]
        rw [d3, d2, d1]
      have kk : 1 ≤ m'.kind ∧ m'.kind ≤ 16 := by rw [hkd]; omega
      refine ⟨kk, hf, ?_⟩
      rw [encS_ok kk hf]
      unfold sumOk at hsum
      have hs' := of_decide_eq_true hsum
      rw [slice_str, List.drop_zero, Nat.sub_zero, ← eT] at hs'
      rw [← hs', eT]
      rw [← strOf_toList (strOf (s.data.toList.take (s.size - 4)) ++ s.extract (s.size - 4) s.size), ByteArray.data_append, Array.toList_append, strOf_data]
      rw [← toList_split s (s.size - 4) (by omega), strOf_toList]
end Go.Proofs.YtgdjfocnaapooaaDoor
namespace Go.Proofs.YtgdjfocnaapooaaDoor
open Go.RowKit
/-- the frame with which a text begins: its size and its message -/
def firstP (t : ByteArray) : Option (Nat × MM) :=
  if t.size < 24 ∨ t.size < 24 + bszF t then none else
  match decM (t.extract 0 (24 + bszF t)) with
  | none => none
  | some m => some (24 + bszF t, m)
/-- the frame that begins at a place -/
def nextP (s : ByteArray) (i : Nat) : Option (Nat × MM) := firstP (s.extract i s.size)
theorem firstP_size {t : ByteArray} {n : Nat} {m : MM} (h : firstP t = some (n, m)) : 24 ≤ n ∧ n ≤ t.size ∧ n ≤ 4407 ∧ decM (t.extract 0 n) = some m := by
  unfold firstP at h
  split at h
  · simp at h
  · rename_i hs
    split at h
    · simp at h
    · rename_i m' hm
      simp only [Option.some.injEq, Prod.mk.injEq] at h
      obtain ⟨rfl, rfl⟩ := h
      refine ⟨by omega, by omega, ?_, hm⟩
      have hc : chkE (t.extract 0 (24 + bszF t)) = 0 := by
        by_cases hc : chkE (t.extract 0 (24 + bszF t)) = 0
        · exact hc
        · unfold decM at hm; rw [if_neg hc] at hm; cases hm
      obtain ⟨_, _, _, hb, hz, _⟩ := chk_lt hc
      rw [ByteArray.size_extract] at hz
      omega
/-- the frames of a stream from a place on -/
def splitF (s : ByteArray) : Nat → Nat → List (Nat × Nat × MM)
  | 0, _ => []
  | f + 1, i => if i < s.size then match nextP s i with
    | none => splitF s f (i + 1)
    | some (n, m) => (i, n, m) :: splitF s f (i + n)
    else []
theorem splitF_end (s : ByteArray) (f i : Nat) (h : s.size ≤ i) : splitF s f i = [] := by
  cases f with
  | zero => rfl
  | succ f => unfold splitF; rw [if_neg (by omega)]
theorem splitF_fuel (s : ByteArray) : ∀ f i g, s.size ≤ i + f → s.size ≤ i + g → splitF s f i = splitF s g i := by
  intro f
  induction f with
  | zero => intro i g h _; rw [splitF_end s 0 i (by omega), splitF_end s g i (by omega)]
  | succ f ih =>
    intro i g hf hg
    cases g with
    | zero => rw [splitF_end s _ i (by omega), splitF_end s _ i (by omega)]
    | succ g =>
      unfold splitF
      by_cases hi : i < s.size
      · rw [if_pos hi, if_pos hi]
        cases hn : nextP s i with
        | none => exact ih (i + 1) g (by omega) (by omega)
        | some x =>
          obtain ⟨n, m⟩ := x
          have := firstP_size hn
          simp only
          rw [ih (i + n) g (by omega) (by omega)]
      · rw [if_neg hi, if_neg hi]
def splitP (s : ByteArray) (i : Nat) : List (Nat × Nat × MM) := splitF s (s.size - i) i
theorem splitP_end {s : ByteArray} {i : Nat} (h : s.size ≤ i) : splitP s i = [] := splitF_end s _ i h
theorem splitP_none {s : ByteArray} {i : Nat} (h : i < s.size) (hn : nextP s i = none) : splitP s i = splitP s (i + 1) := by
  unfold splitP
  obtain ⟨f, hf⟩ : ∃ f, s.size - i = f + 1 := ⟨s.size - i - 1, by omega⟩
  rw [hf]
  conv => lhs; unfold splitF
  rw [if_pos h, hn]
  simp only
  exact splitF_fuel s _ _ _ (by omega) (by omega)
theorem splitP_some {s : ByteArray} {i n : Nat} {m : MM} (h : i < s.size) (hn : nextP s i = some (n, m)) : splitP s i = (i, n, m) :: splitP s (i + n) := by
  have := firstP_size hn
  unfold splitP
  obtain ⟨f, hf⟩ : ∃ f, s.size - i = f + 1 := ⟨s.size - i - 1, by omega⟩
  rw [hf]
  conv => lhs; unfold splitF
  rw [if_pos h, hn]
  simp only
  rw [splitF_fuel s f (i + n) (s.size - (i + n)) (by omega) (by omega)]
end Go.Proofs.YtgdjfocnaapooaaDoor
