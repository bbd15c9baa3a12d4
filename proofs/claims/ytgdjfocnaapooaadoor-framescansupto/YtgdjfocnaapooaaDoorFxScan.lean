import Derived.Test.YtgdjfocnaapooaaDoorFxRest
namespace Go.Proofs.YtgdjfocnaapooaaDoor
open Go.RowKit Go.Shelf
attribute [local go_sem] Oper.semAt_some
attribute [local go_sem] eqlNil1
set_option maxHeartbeats 16000000 in
set_option maxRecDepth 100000 in
set_option linter.unusedSimpArgs false in
/-- FrameScans, of streams that a machine may hold -/
theorem frameScans_any (t : ByteArray) (stop : Int) (ht : t.size ≤ 800000000000) (w : World) (hT : TabF w) (hR : TabR w) (_h6 : 6 ≤ w.heap.size) (hT4 : Tab4 5 w) :
    Calls Tryd.prog 4 #[.string t, .int .i64 stop] w fun e w' => e = .returned (.bool true) ∧ Below w.heap.size w w' := by
  have KT : Hid (∀ w', Below w.heap.size w w' → TabF w' ∧ TabR w' ∧ Tab4 5 w') := fun w' hb => ⟨hT.below hb, hR.below hb, fun j hj => (hb.cell (World.block_lt_of_cell? w _ (hT4 j hj))).trans (hT4 j hj)⟩
  have hz := hd_size
  have hzs : (encS hdM ++ t).size ≤ 900000000000 := by rw [ByteArray.size_append]; omega
  have HD : Hid (∀ w', TabR w' → Calls Tryd.prog 15 #[.string t] w' fun e w'' => e = .returned (.string (encS hdM ++ t)) ∧ Below w'.heap.size w' w'') := fun w' h => headed_any t (by omega) w' h
  have hP0 : 0 < (splitP (encS hdM ++ t) 0).length := by
    have e1 := split_all (encS hdM ++ t)
    rw [splT_some (first_enc hdM 11 (by omega) (by omega) rfl hdM_fit t)] at e1
    have e2 := congrArg List.length e1
    rw [List.length_map, List.length_cons] at e2
    omega
  generalize encS hdM ++ t = S at *
  clear hT hR hT4 hz
  refine (callsIn_wide (n := 12)).1 ?_
  refine callsIn_of_wp_marks Tryd.func4 rfl trivial ?_ rfl
  simp only [Tryd.ntmps4, List.size_toArray, List.length_cons, List.length_nil, Nat.reduceAdd, Nat.reduceSub, Array.replicate_succ, Array.replicate_zero, List.push_toArray, List.append_toArray, List.nil_append, List.cons_append]
  gi_wp2_with fail
  have bS0 := (Boxed.new w 3 (.int .i64 stop)).alloc (.cells #[.bool false] 4)
  have bR0 := Boxed.new (w.alloc (.cells #[.int .i64 stop] 3)) 4 (.bool false)
  have hB0 : Below w.heap.size w ((w.alloc (.cells #[.int .i64 stop] 3)).alloc (.cells #[.bool false] 4)) := ((Below.refl _ w).alloc (Nat.le_refl _) _).alloc (by simp) _
  have hs0 : ((w.alloc (.cells #[.int .i64 stop] 3)).alloc (.cells #[.bool false] 4)).heap.size = w.heap.size + 2 := by simp
  simp only [World.size_alloc] at bR0
  generalize (w.alloc (.cells #[.int .i64 stop] 3)).alloc (.cells #[.bool false] 4) = w0 at *
  refine ⟨trivial, (callsIn_wide.2 (HD.out _ (KT.out _ hB0).2.1)).mono ?_⟩
  rintro e w1 ⟨rfl, b1⟩
  have bS1 := box_below bS0 b1
  have bR1 := box_below bR0 b1
  have hB1 := hB0.trans (b1.mono hB0.size)
  have hs1 := b1.size
  clear bS0 bR0 hB0 b1 HD
  gi_wp2_with fail
  refine ⟨trivial, (callsIn_wide.2 (rsplit_any S hzs w1 (KT.out _ hB1).2.1)).mono ?_⟩
  rintro e w2 ⟨vp, rfl, op, b2⟩
  have bS2 := box_below bS1 b2
  have bR2 := box_below bR1 b2
  have hB2 := hB1.trans (b2.mono hB1.size)
  have hs2 := b2.size
  obtain ⟨pb, pc, hvp, kp⟩ := own_pie op
  subst hvp
  obtain ⟨pg, hpg, hpl0, hpc0⟩ := kp hP0
  subst hpg
  clear bS1 bR1 hB1 b2 kp hpl0 hpc0
  gi_wp2_with fail
  refine ⟨trivial, (callsIn_wide.2 (scan_any S _)).mono ?_⟩
  rintro e w3 ⟨rfl, rfl⟩
  gi_wp2_with fail
  obtain ⟨PL, hPL⟩ : ∃ PL, (splitP S 0).length = PL := ⟨_, rfl⟩
  have a1 : Below w2.heap.size w2 (w2.alloc (.cells #[.slice (some ⟨pg, 0, none⟩) (splitP S 0).length pc] 35)) := (Below.refl _ _).alloc (Nat.le_refl _) _
  have a2 := a1.alloc (by simp) (.cells #[.string S] 9)
  have a3 := a2.alloc (by simp; omega) (.cells #[.func (.func 35) #[] #[.pointer (some ⟨w2.heap.size + 1, 0, none⟩)]] 43)
  have a4 := a3.alloc (by simp; omega) (.cells #[.int .i64 0] 3)
  have ENV0 : ScEnv w (w.heap.size + 1) w2.heap.size (w2.heap.size + 1) (w2.heap.size + 1 + 1) stop S w1.heap.size (.slice (some ⟨pg, 0, none⟩) (splitP S 0).length pc) ((((w2.alloc (.cells #[.slice (some ⟨pg, 0, none⟩) (splitP S 0).length pc] 35)).alloc (.cells #[.string S] 9)).alloc (.cells #[.func (.func 35) #[] #[.pointer (some ⟨w2.heap.size + 1, 0, none⟩)]] 43)).alloc (.cells #[.int .i64 0] 3)) := by
    refine ⟨box_below bS2 a4, box_below bR2 a4, ⟨_, (((Boxed.new w2 _ _).alloc _).alloc _).alloc _, own_belowS op a4, rfl⟩, ?_, ?_, hB2.trans (a4.mono hB2.size)⟩
    · have := ((Boxed.new (w2.alloc (.cells #[.slice (some ⟨pg, 0, none⟩) (splitP S 0).length pc] 35)) 9 (.string S)).alloc (.cells #[.func (.func 35) #[] #[.pointer (some ⟨w2.heap.size + 1, 0, none⟩)]] 43)).alloc (.cells #[.int .i64 0] 3)
      simpa only [World.size_alloc] using this
    · have := (Boxed.new ((w2.alloc (.cells #[.slice (some ⟨pg, 0, none⟩) (splitP S 0).length pc] 35)).alloc (.cells #[.string S] 9)) 43 (.func (.func 35) #[] #[.pointer (some ⟨w2.heap.size + 1, 0, none⟩)])).alloc (.cells #[.int .i64 0] 3)
      simpa only [World.size_alloc] using this
  have BN0 : Boxed ((((w2.alloc (.cells #[.slice (some ⟨pg, 0, none⟩) (splitP S 0).length pc] 35)).alloc (.cells #[.string S] 9)).alloc (.cells #[.func (.func 35) #[] #[.pointer (some ⟨w2.heap.size + 1, 0, none⟩)]] 43)).alloc (.cells #[.int .i64 0] 3)) (w2.heap.size + 1 + 1 + 1) 3 (.int .i64 0) := by
    have := Boxed.new (((w2.alloc (.cells #[.slice (some ⟨pg, 0, none⟩) (splitP S 0).length pc] 35)).alloc (.cells #[.string S] 9)).alloc (.cells #[.func (.func 35) #[] #[.pointer (some ⟨w2.heap.size + 1, 0, none⟩)]] 43)) 3 (.int .i64 0)
    simpa only [World.size_alloc] using this
  have hsW : ((((w2.alloc (.cells #[.slice (some ⟨pg, 0, none⟩) (splitP S 0).length pc] 35)).alloc (.cells #[.string S] 9)).alloc (.cells #[.func (.func 35) #[] #[.pointer (some ⟨w2.heap.size + 1, 0, none⟩)]] 43)).alloc (.cells #[.int .i64 0] 3)).heap.size = w2.heap.size + 1 + 1 + 1 + 1 := by simp
  clear a1 a2 a3 a4 bS2 bR2 hB2 op
  generalize (((w2.alloc (.cells #[.slice (some ⟨pg, 0, none⟩) (splitP S 0).length pc] 35)).alloc (.cells #[.string S] 9)).alloc (.cells #[.func (.func 35) #[] #[.pointer (some ⟨w2.heap.size + 1, 0, none⟩)]] 43)).alloc (.cells #[.int .i64 0] 3) = W0 at *
  have o1 : w.heap.size < w.heap.size + 1 := by omega
  have o2 : w.heap.size + 1 < w2.heap.size := by omega
  have o3 : w2.heap.size < w2.heap.size + 1 := by omega
  have o4 : w2.heap.size + 1 < w2.heap.size + 1 + 1 := by omega
  have o5 : w2.heap.size + 1 + 1 < w2.heap.size + 1 + 1 + 1 := by omega
  have o6 : w2.heap.size + 1 + 1 + 1 < W0.heap.size := by omega
  clear hs0 hs1 hs2 hsW
  generalize w1.heap.size = bb at *
  generalize w2.heap.size + 1 + 1 + 1 = bN at *
  generalize w2.heap.size + 1 + 1 = bScan at *
  generalize w2.heap.size + 1 = bTxt at *
  generalize w2.heap.size = bWant at *
  generalize w.heap.size + 1 = bRes at *
  rw [hPL] at ENV0 ⊢
  have HT : ∀ W1 : World, Below w.heap.size w W1 → ∀ W', Below w.heap.size W1 W' → TabF W' ∧ Tab4 5 W' := fun W1 h1 W' hb => ⟨(KT.out _ (h1.trans hb)).1, (KT.out _ (h1.trans hb)).2.2⟩
  have hQL : (scanQ S 0).length = PL := by rw [scan_len, hPL]
  have hPl : PL ≤ 900000000000 := by have := splitP_len S; omega
  rename_i K hKr
  have REST : Hid (∀ (D : Nat) (n0 : Nat) (W : World), W0.heap.size ≤ D → ScEnv w bRes bWant bTxt bScan stop S bb (.slice (some ⟨pg, 0, none⟩) PL pc) W → Boxed W bN 3 (.int .i64 (n0 : Int)) → (n0 = PL ∨ (n0 : Int) = stop) → W.heap[D]? = some (.deferred (some [])) → K { tmps := #[.string t, .int .i64 stop, undef, .pointer (some ⟨w.heap.size, 0, none⟩), .pointer (some ⟨bRes, 0, none⟩), .string S, .pointer (some ⟨bWant, 0, none⟩), .pointer (some ⟨bScan, 0, none⟩), .pointer (some ⟨bN, 0, none⟩), undef, undef, undef, undef, undef, undef, undef, .string t, .string S, .string S, .slice (some ⟨pg, 0, none⟩) PL pc, .string S, .func (.func 35) #[] #[.pointer (some ⟨bTxt, 0, none⟩)], .func (.func 35) #[] #[.pointer (some ⟨bTxt, 0, none⟩)], .bool false, .func (.func 35) #[] #[.pointer (some ⟨bTxt, 0, none⟩)], undef, undef, undef, undef, undef, undef, undef, undef, undef, undef, undef, undef, undef, undef, undef, undef, undef, undef, undef, undef, undef, undef, undef, undef, undef, undef, undef, undef, undef, undef, undef, undef, undef, undef, undef, undef, undef, undef, undef, undef, undef, undef, undef, undef, undef, undef, undef, undef, undef, undef, undef, undef, undef, undef, undef, undef, undef, undef, undef, undef, undef, undef, undef, undef, undef, undef, undef, undef, undef, undef, undef, undef, undef, undef, undef, undef, undef, undef, undef, undef, undef, undef, undef, undef, undef, undef, undef, undef, undef, undef, undef, undef, undef, undef, undef, undef, undef, undef, undef, undef], defers := [{ target := .collected D, args := #[] }] } W) := by
    intro D n0 W hD hE hN hn hK
    exact hKr _ _ (scans_rest t S stop w W0 bRes bWant bTxt bScan bN bb pg pc PL hzs hP0 hPL o1 o2 o3 o4 o5 o6 HT hQL hPl D n0 W hD hE hN hn hK)
  clear hKr
  refine wpIn_rangeFunc_ownH (F := Fence.wide) (α := FrAt S) rfl (by omega) (gf := 35) (lb := #[.pointer (some ⟨bTxt, 0, none⟩)]) rfl trivial (enters_of Tryd.func35 (by kernel_rfl) rfl)
    (scan1_stops 11 (by omega) bTxt w.heap.size S hzs W0 ENV0.bel.size ENV0.txt.cell (HT W0 ENV0.bel)) kpS_t (kpS_b ENV0.bel.size) (Below.refl _ _) (fun _ => rfl)
    (fun pre W => (ScEnv w bRes bWant bTxt bScan stop S bb (.slice (some ⟨pg, 0, none⟩) PL pc) W ∧ Boxed W bN 3 (.int .i64 (pre.length : Int))) ∧ pre <+: scanQ S 0)
    (fun c pre W => (c = .exit 0 ∧ (ScEnv w bRes bWant bTxt bScan stop S bb (.slice (some ⟨pg, 0, none⟩) PL pc) W ∧ Boxed W bN 3 (.int .i64 (pre.length : Int))) ∧ (pre.length : Int) = stop) ∨ (c = .ret ∧ ¬ pre <+: scanQ S 0))
    (fun s X Y row hs hg hr => ⟨⟨hs.1.1.keep hg (fun r e => ⟨Nat.le_trans ENV0.bel.size (hr r e).1, (hr r e).2⟩), boxed_own _ _ (fun _ : Unit => _) () X Y row hs.1.2 hg (fun r e => (hr r e).2)⟩, hs.2⟩)
    (fun c s X Y row hs hg hr => hs.elim (fun h => .inl ⟨h.1, ⟨h.2.1.1.keep hg (fun r e => ⟨Nat.le_trans ENV0.bel.size (hr r e).1, (hr r e).2⟩), boxed_own _ _ (fun _ : Unit => _) () X Y row h.2.1.2 hg (fun r e => (hr r e).2)⟩, h.2.2⟩) .inr)
    ⟨⟨ENV0, BN0⟩, List.nil_prefix⟩
    (fun x a' W => ∃ Bx, bN < Bx ∧ W.heap[Bx]? = some (.cells (msgV x.1.2) 27) ∧ a' = { tmps := #[.string t, .int .i64 stop, undef, .pointer (some ⟨w.heap.size, 0, none⟩), .pointer (some ⟨bRes, 0, none⟩), .string S, .pointer (some ⟨bWant, 0, none⟩), .pointer (some ⟨bScan, 0, none⟩), .pointer (some ⟨bN, 0, none⟩), .int .i64 (x.1.1 : Int), .pointer (some ⟨Bx, 0, none⟩), undef, undef, undef, undef, undef, .string t, .string S, .string S, .slice (some ⟨pg, 0, none⟩) PL pc, .string S, .func (.func 35) #[] #[.pointer (some ⟨bTxt, 0, none⟩)], .func (.func 35) #[] #[.pointer (some ⟨bTxt, 0, none⟩)], .bool false, .func (.func 35) #[] #[.pointer (some ⟨bTxt, 0, none⟩)], .int .i64 (x.1.1 : Int), .agg (msgV x.1.2), undef, undef, undef, undef, undef, undef, undef, undef, undef, undef, undef, undef, undef, undef, undef, undef, undef, undef, undef, undef, undef, undef, undef, undef, undef, undef, undef, undef, undef, undef, undef, undef, undef, undef, undef, undef, undef, undef, undef, undef, undef, undef, undef, undef, undef, undef, undef, undef, undef, undef, undef, undef, undef, undef, undef, undef, undef, undef, undef, undef, undef, undef, undef, undef, undef, undef, undef, undef, undef, undef, undef, undef, undef, undef, undef, undef, undef, undef, undef, undef, undef, undef, undef, undef, undef, undef, undef, undef, undef, undef, undef, undef, undef, undef, undef, undef, undef, undef], defers := [] })
    (fun x a' _ X Y row hs hg hr => by obtain ⟨Bx, h1, h2, h3⟩ := hs; exact ⟨Bx, h1, msgBox_kept h2 hg (fun r e => (hr r e).2), h3⟩)
    ?assign ?body ?done ?stop
  case assign =>
    rintro l pre x W K' ⟨⟨hE, hN⟩, hpre⟩ hK
    obtain ⟨WX, eX, hX, bX1, _⟩ := laid_new (Below.refl _ W) x.1.2
    have HK := hide hK
    have hs3 := hN.lt
    clear hK
    gi_wp2_with (refine wpListIn_storeMsg rfl (.tmp 10) (.tmp 26) rfl W.heap.size rfl x.1.2 (mm0 0) rfl (heap_last _ _) ?_)
    rw [← eX]
    exact HK.out _ _ (keeps_below bX1) (kpS_below bX1) ⟨⟨hE.below bX1, box_below hN bX1⟩, hpre⟩ ⟨W.heap.size, hs3, hX, rfl⟩
  case body =>
    rintro l pre x a' W hl ⟨r, hr⟩ ⟨⟨hE, hN⟩, hpre⟩ ⟨Bx, hBx, bX, rfl⟩ hlt
    rw [hQL] at hlt
    have hEs := hE.bel.size
    obtain ⟨hxi, hxn⟩ := x.2
    have PI := pref_iff hpre (by rw [hQL]; exact hlt) x
    have hqs : pre.length < (splitP S 0).length := by rw [hPL]; exact hlt
    have PA := pie_at (q := pre.length) (by rw [hQL]; exact hlt) hqs
    obtain ⟨xi, hex⟩ : ∃ xi, x.1.1 = xi := ⟨_, rfl⟩
    obtain ⟨xm, hem⟩ : ∃ xm, x.1.2 = xm := ⟨_, rfl⟩
    obtain ⟨⟨pi, pn, pm⟩, hpe⟩ : ∃ p, p = (splitP S 0)[pre.length] := ⟨_, rfl⟩
    have SAME : Hid (pre ++ [x] <+: scanQ S 0 ↔ xi = pi ∧ xm = pm) := by
      show _ ↔ _
      rw [PI, ← hex, ← hem]
      rw [← hpe] at PA
      unfold toP at PA
      simp only [Prod.mk.injEq] at PA
      obtain ⟨p1, _, p3⟩ := PA
      rw [p1, p3]
      constructor
      · rintro rfl; exact ⟨rfl, rfl⟩
      · rintro ⟨e1, e2⟩; exact Subtype.ext (Prod.ext e1 e2)
    rw [hem] at bX
    obtain ⟨vpp, w1', w2', w3'⟩ := hE.wnt
    subst w3'
    have bD : Below W.heap.size W W.drew := (Below.refl _ W).drew
    have ED := hE.below bD
    have ND := box_below hN bD
    have XD := blk_keep bX bD
    have RD : W.drew.rangeAt pg (pre.length * 13) (pieL (pi, pn, pm)) := by
      obtain ⟨vq, u1, u2, u3⟩ := ED.wnt
      subst u3
      obtain ⟨ba, cp, e1, kk⟩ := own_pie u2
      obtain ⟨g, hg1, _, hg3⟩ := kk (by omega)
      rw [hg1, hPL] at e1
      simp only [Value.slice.injEq, Option.some.injEq, Addr.mk.injEq, and_true, true_and] at e1
      have e1' : pg = g := e1.1
      rw [e1', hpe]
      exact pcs_range hg3 _ hqs
    have S0 : W.drew.cell? ⟨bN, 0, none⟩ = some (.int .i64 (pre.length : Int)) ∧ W.drew.cell? ⟨bWant, 0, none⟩ = some (.slice (some ⟨pg, 0, none⟩) PL pc) ∧ W.drew.rangeAt Bx 0 (msgV xm).toList ∧ W.drew.cell? ⟨pg, pre.length * 13, none⟩ = some (.int .i64 (pi : Int)) ∧ W.drew.rangeAt pg (pre.length * 13 + 2) (msgV pm).toList := by
      obtain ⟨vq, u1, u2, u3⟩ := ED.wnt
      subst u3
      refine ⟨ND.cell, u1.cell, msg_range XD, RD 0 _ rfl, fun j u hj => ?_⟩
      have := RD (2 + j) u (by rw [show pieL (pi, pn, pm) = .int .i64 (pi : Int) :: .int .i64 (pn : Int) :: (msgV pm).toList from rfl, Nat.add_comm 2 j]; exact hj)
      rw [show pre.length * 13 + 2 + j = pre.length * 13 + (2 + j) by omega]; exact this
    simp only [hex, hem]
    clear hex hem hpe PA PI hqs w1' w2' RD hxi hxn
    have kD : KeepsFrom W0.heap.size W W.drew := keeps_below bD
    have pD : w.heap.size ≤ W.heap.size → KpS w.heap.size bTxt S W W.drew := kpS_below bD
    obtain ⟨Q, hQ⟩ : ∃ Q, pre.length = Q := ⟨_, rfl⟩
    have hQ1 : (pre ++ [x]).length = Q + 1 := by rw [List.length_append, hQ]; rfl
    rw [hQ] at hN ND S0 hlt
    have hge : decide ((PL : Int) ≤ (Q : Int)) = false := decide_eq_false (by omega)
    have hli : (Q : Int) < (PL : Int) := by omega
    have OUT : Hid (¬ (xi = pi ∧ xm = pm) → ¬ (pre ++ [x]) <+: scanQ S 0) := fun h e => h (SAME.out.1 e)
    have GO : Hid (xi = pi ∧ xm = pm → (pre ++ [x]) <+: scanQ S 0) := fun h => SAME.out.2 h
    have EN : Hid ((((pre ++ [x]).length : Nat) : Int) = (Q : Int) + 1) := by show _ = _; rw [hQ1]; omega
    clear hQ hQ1 hpre SAME hE hN bX hr
    gi_wp2_with fail
    by_cases hxe : xi = pi
    case neg =>
      have hxp : ((xi : Int) != (pi : Int)) = true := bne_iff_ne.2 (by omega)
      refine wpIn_region_round (S := fun X => X.cell? ⟨bN, 0, none⟩ = some (.int .i64 (Q : Int)) ∧ X.cell? ⟨bWant, 0, none⟩ = some (.slice (some ⟨pg, 0, none⟩) PL pc) ∧ X.rangeAt Bx 0 (msgV xm).toList ∧ X.cell? ⟨pg, Q * 13, none⟩ = some (.int .i64 (pi : Int)) ∧ X.rangeAt pg (Q * 13 + 2) (msgV pm).toList) (by kernel_rfl) (by kernel_rfl) (fun _ _ h => h) S0 (fun hHeld => ?_)
      refine wpAnyH_take (i := 0) (v := (.int .i64 (Q : Int))) rfl (by kernel_rfl) (by kernel_rfl) (by kernel_rfl) (fun _ _ _ h => h) (Or.inl ⟨by rfl, ?_⟩) (by assumption) ?_
      · intro w' hSw
        (try dsimp only at hSw)
        (obtain ⟨h1, h2, h3, h4, h5⟩ := hSw; go_simp)
      (try simp only [Act.put, List.setIfInBounds_toArray, List.set_cons_zero, List.set_cons_succ])
      refine wpAnyH_take (i := 1) (v := (.slice (some ⟨pg, 0, none⟩) PL pc)) rfl (by kernel_rfl) (by kernel_rfl) (by kernel_rfl) (fun _ _ _ h => h) (Or.inl ⟨by rfl, ?_⟩) (by assumption) ?_
      · intro w' hSw
        (try dsimp only at hSw)
        (obtain ⟨h1, h2, h3, h4, h5⟩ := hSw; go_simp)
      (try simp only [Act.put, List.setIfInBounds_toArray, List.set_cons_zero, List.set_cons_succ])
      refine wpAnyH_take (i := 2) (v := (.int .i64 (PL : Int))) rfl (by kernel_rfl) (by kernel_rfl) (by kernel_rfl) (fun _ _ _ h => h) (Or.inl ⟨by rfl, ?_⟩) (by assumption) ?_
      · intro w' hSw
        (try dsimp only at hSw)
        go_simp <;> first | exact i64_in (by omega) (by omega) | exact u32_in (by omega) (by omega) | exact u32_add _ _ | (rw [Int.tmod_eq_emod_of_nonneg (by omega)]; omega) | (rw [Int.tdiv_eq_ediv_of_nonneg (by omega)]; omega) | omega
      (try simp only [Act.put, List.setIfInBounds_toArray, List.set_cons_zero, List.set_cons_succ])
      refine wpAnyH_take (i := 3) (v := (.bool false)) rfl (by kernel_rfl) (by kernel_rfl) (by kernel_rfl) (fun _ _ _ h => h) (Or.inl ⟨by rfl, ?_⟩) (by assumption) ?_
      · intro w' hSw
        (try dsimp only at hSw)
        (go_simp <;> first | omega | simp [hge])
      (try simp only [Act.put, List.setIfInBounds_toArray, List.set_cons_zero, List.set_cons_succ])
      refine wpAnyH_take (i := 4) (v := (.bool false)) rfl (by kernel_rfl) (by kernel_rfl) (by kernel_rfl) (fun _ _ _ h => h) (Or.inl ⟨by rfl, ?_⟩) (by assumption) ?_
      · intro w' hSw
        (try dsimp only at hSw)
        go_simp <;> first | exact i64_in (by omega) (by omega) | exact u32_in (by omega) (by omega) | exact u32_add _ _ | (rw [Int.tmod_eq_emod_of_nonneg (by omega)]; omega) | (rw [Int.tdiv_eq_ediv_of_nonneg (by omega)]; omega) | omega
      (try simp only [Act.put, List.setIfInBounds_toArray, List.set_cons_zero, List.set_cons_succ])
      refine wpAnyH_take (i := 5) (v := (.int .i64 (xi : Int))) rfl (by kernel_rfl) (by kernel_rfl) (by kernel_rfl) (fun _ _ _ h => h) (Or.inl ⟨by kernel_rfl, ?_⟩) (by assumption) ?_
      · intro w' hSw
        (try dsimp only at hSw)
        go_simp
      (try simp only [Act.put, List.setIfInBounds_toArray, List.set_cons_zero, List.set_cons_succ])
      refine wpAnyH_take (i := 6) (v := (.slice (some ⟨pg, 0, none⟩) PL pc)) rfl (by kernel_rfl) (by kernel_rfl) (by kernel_rfl) (fun _ _ _ h => h) (Or.inl ⟨by kernel_rfl, ?_⟩) (by assumption) ?_
      · intro w' hSw
        (try dsimp only at hSw)
        (obtain ⟨h1, h2, h3, h4, h5⟩ := hSw; go_simp)
      (try simp only [Act.put, List.setIfInBounds_toArray, List.set_cons_zero, List.set_cons_succ])
      refine wpAnyH_take (i := 7) (v := (.int .i64 (Q : Int))) rfl (by kernel_rfl) (by kernel_rfl) (by kernel_rfl) (fun _ _ _ h => h) (Or.inl ⟨by kernel_rfl, ?_⟩) (by assumption) ?_
      · intro w' hSw
        (try dsimp only at hSw)
        (obtain ⟨h1, h2, h3, h4, h5⟩ := hSw; go_simp)
      (try simp only [Act.put, List.setIfInBounds_toArray, List.set_cons_zero, List.set_cons_succ])
      refine wpAnyH_take (i := 8) (v := (.pointer (some ⟨pg, Q * 13, none⟩))) rfl (by kernel_rfl) (by kernel_rfl) (by kernel_rfl) (fun _ _ _ h => h) (Or.inl ⟨by kernel_rfl, ?_⟩) (by assumption) ?_
      · intro w' hSw
        (try dsimp only at hSw)
        (go_simp <;> omega)
      (try simp only [Act.put, List.setIfInBounds_toArray, List.set_cons_zero, List.set_cons_succ])
      refine wpAnyH_take (i := 9) (v := (.pointer (some ⟨pg, Q * 13, none⟩))) rfl (by kernel_rfl) (by kernel_rfl) (by kernel_rfl) (fun _ _ _ h => h) (Or.inl ⟨by kernel_rfl, ?_⟩) (by assumption) ?_
      · intro w' hSw
        (try dsimp only at hSw)
        go_simp
      (try simp only [Act.put, List.setIfInBounds_toArray, List.set_cons_zero, List.set_cons_succ])
      refine wpAnyH_take (i := 10) (v := (.int .i64 (pi : Int))) rfl (by kernel_rfl) (by kernel_rfl) (by kernel_rfl) (fun _ _ _ h => h) (Or.inl ⟨by kernel_rfl, ?_⟩) (by assumption) ?_
      · intro w' hSw
        (try dsimp only at hSw)
        (obtain ⟨h1, h2, h3, h4, h5⟩ := hSw; go_simp)
      (try simp only [Act.put, List.setIfInBounds_toArray, List.set_cons_zero, List.set_cons_succ])
      refine wpAnyH_take (i := 11) (v := (.bool true)) rfl (by kernel_rfl) (by kernel_rfl) (by kernel_rfl) (fun _ _ _ h => h) (Or.inl ⟨by kernel_rfl, ?_⟩) (by assumption) ?_
      · intro w' hSw
        (try dsimp only at hSw)
        (go_simp <;> simp [hxp])
      (try simp only [Act.put, List.setIfInBounds_toArray, List.set_cons_zero, List.set_cons_succ])
      refine wpAnyH_take (i := 12) (v := (.bool true)) rfl (by kernel_rfl) (by kernel_rfl) (by kernel_rfl) (fun _ _ _ h => h) (Or.inl ⟨by rfl, ?_⟩) (by assumption) ?_
      · intro w' hSw
        (try dsimp only at hSw)
        go_simp <;> first | exact i64_in (by omega) (by omega) | exact u32_in (by omega) (by omega) | exact u32_add _ _ | (rw [Int.tmod_eq_emod_of_nonneg (by omega)]; omega) | (rw [Int.tdiv_eq_ediv_of_nonneg (by omega)]; omega) | omega
      (try simp only [Act.put, List.setIfInBounds_toArray, List.set_cons_zero, List.set_cons_succ])
      refine wpAnyH_take (i := 13) (v := (.bool true)) rfl (by kernel_rfl) (by kernel_rfl) (by kernel_rfl) (fun _ _ _ h => h) (Or.inl ⟨by rfl, ?_⟩) (by assumption) ?_
      · intro w' hSw
        (try dsimp only at hSw)
        go_simp <;> first | exact i64_in (by omega) (by omega) | exact u32_in (by omega) (by omega) | exact u32_add _ _ | (rw [Int.tmod_eq_emod_of_nonneg (by omega)]; omega) | (rw [Int.tdiv_eq_ediv_of_nonneg (by omega)]; omega) | omega
      (try simp only [Act.put, List.setIfInBounds_toArray, List.set_cons_zero, List.set_cons_succ])
      refine wpAnyH_take (i := 14) (v := undef) rfl (by kernel_rfl) (by kernel_rfl) (by kernel_rfl) (fun _ _ _ h => h) (Or.inr ⟨by kernel_rfl, rfl⟩) (by assumption) ?_
      (try simp only [Act.put, List.setIfInBounds_toArray, List.set_cons_zero, List.set_cons_succ])
      refine wpAnyH_take (i := 15) (v := undef) rfl (by kernel_rfl) (by kernel_rfl) (by kernel_rfl) (fun _ _ _ h => h) (Or.inr ⟨by kernel_rfl, rfl⟩) (by assumption) ?_
      (try simp only [Act.put, List.setIfInBounds_toArray, List.set_cons_zero, List.set_cons_succ])
      refine wpAnyH_take (i := 16) (v := undef) rfl (by kernel_rfl) (by kernel_rfl) (by kernel_rfl) (fun _ _ _ h => h) (Or.inr ⟨by kernel_rfl, rfl⟩) (by assumption) ?_
      (try simp only [Act.put, List.setIfInBounds_toArray, List.set_cons_zero, List.set_cons_succ])
      refine wpAnyH_take (i := 17) (v := undef) rfl (by kernel_rfl) (by kernel_rfl) (by kernel_rfl) (fun _ _ _ h => h) (Or.inr ⟨by kernel_rfl, rfl⟩) (by assumption) ?_
      (try simp only [Act.put, List.setIfInBounds_toArray, List.set_cons_zero, List.set_cons_succ])
      refine wpAnyH_take (i := 18) (v := undef) rfl (by kernel_rfl) (by kernel_rfl) (by kernel_rfl) (fun _ _ _ h => h) (Or.inr ⟨by kernel_rfl, rfl⟩) (by assumption) ?_
      (try simp only [Act.put, List.setIfInBounds_toArray, List.set_cons_zero, List.set_cons_succ])
      refine wpAnyH_take (i := 19) (v := undef) rfl (by kernel_rfl) (by kernel_rfl) (by kernel_rfl) (fun _ _ _ h => h) (Or.inr ⟨by kernel_rfl, rfl⟩) (by assumption) ?_
      (try simp only [Act.put, List.setIfInBounds_toArray, List.set_cons_zero, List.set_cons_succ])
      refine wpAnyH_take (i := 20) (v := undef) rfl (by kernel_rfl) (by kernel_rfl) (by kernel_rfl) (fun _ _ _ h => h) (Or.inr ⟨by kernel_rfl, rfl⟩) (by assumption) ?_
      (try simp only [Act.put, List.setIfInBounds_toArray, List.set_cons_zero, List.set_cons_succ])
      refine wpAnyH_ready (rs := [21]) (by kernel_rfl) (by simp) ?_
      refine AllReadyH.cons rfl (fun K hK => ?_) AllReadyH.nil
      go_simp
      refine hK.out _ _ (hHeld) (fun hHeld => ?_)
      clear hK
      (try simp only [Act.put, List.setIfInBounds_toArray, List.set_cons_zero, List.set_cons_succ])
      refine wpAnyH_done (by kernel_rfl) ?_ _
      clear hHeld
      have cR := ED.res.cell
      have fR := ED.res.frozen
      generalize W.drew = WD at *
      gi_wp2_with fail
      exact ⟨kD.trans ((KeepsOthers.setCell _ _ _).from _), .inr ⟨rfl, OUT.out (fun h => hxe h.1)⟩⟩
    case pos =>
      have hxp : ((xi : Int) != (pi : Int)) = false := by rw [hxe]; simp
      refine wpIn_region_round (S := fun X => X.cell? ⟨bN, 0, none⟩ = some (.int .i64 (Q : Int)) ∧ X.cell? ⟨bWant, 0, none⟩ = some (.slice (some ⟨pg, 0, none⟩) PL pc) ∧ X.rangeAt Bx 0 (msgV xm).toList ∧ X.cell? ⟨pg, Q * 13, none⟩ = some (.int .i64 (pi : Int)) ∧ X.rangeAt pg (Q * 13 + 2) (msgV pm).toList) (by kernel_rfl) (by kernel_rfl) (fun _ _ h => h) S0 (fun hHeld => ?_)
      refine wpAnyH_take (i := 0) (v := (.int .i64 (Q : Int))) rfl (by kernel_rfl) (by kernel_rfl) (by kernel_rfl) (fun _ _ _ h => h) (Or.inl ⟨by rfl, ?_⟩) (by assumption) ?_
      · intro w' hSw
        (try dsimp only at hSw)
        (obtain ⟨h1, h2, h3, h4, h5⟩ := hSw; go_simp)
      (try simp only [Act.put, List.setIfInBounds_toArray, List.set_cons_zero, List.set_cons_succ])
      refine wpAnyH_take (i := 1) (v := (.slice (some ⟨pg, 0, none⟩) PL pc)) rfl (by kernel_rfl) (by kernel_rfl) (by kernel_rfl) (fun _ _ _ h => h) (Or.inl ⟨by rfl, ?_⟩) (by assumption) ?_
      · intro w' hSw
        (try dsimp only at hSw)
        (obtain ⟨h1, h2, h3, h4, h5⟩ := hSw; go_simp)
      (try simp only [Act.put, List.setIfInBounds_toArray, List.set_cons_zero, List.set_cons_succ])
      refine wpAnyH_take (i := 2) (v := (.int .i64 (PL : Int))) rfl (by kernel_rfl) (by kernel_rfl) (by kernel_rfl) (fun _ _ _ h => h) (Or.inl ⟨by rfl, ?_⟩) (by assumption) ?_
      · intro w' hSw
        (try dsimp only at hSw)
        go_simp <;> first | exact i64_in (by omega) (by omega) | exact u32_in (by omega) (by omega) | exact u32_add _ _ | (rw [Int.tmod_eq_emod_of_nonneg (by omega)]; omega) | (rw [Int.tdiv_eq_ediv_of_nonneg (by omega)]; omega) | omega
      (try simp only [Act.put, List.setIfInBounds_toArray, List.set_cons_zero, List.set_cons_succ])
      refine wpAnyH_take (i := 3) (v := (.bool false)) rfl (by kernel_rfl) (by kernel_rfl) (by kernel_rfl) (fun _ _ _ h => h) (Or.inl ⟨by rfl, ?_⟩) (by assumption) ?_
      · intro w' hSw
        (try dsimp only at hSw)
        (go_simp <;> first | omega | simp [hge])
      (try simp only [Act.put, List.setIfInBounds_toArray, List.set_cons_zero, List.set_cons_succ])
      refine wpAnyH_take (i := 4) (v := (.bool false)) rfl (by kernel_rfl) (by kernel_rfl) (by kernel_rfl) (fun _ _ _ h => h) (Or.inl ⟨by rfl, ?_⟩) (by assumption) ?_
      · intro w' hSw
        (try dsimp only at hSw)
        go_simp <;> first | exact i64_in (by omega) (by omega) | exact u32_in (by omega) (by omega) | exact u32_add _ _ | (rw [Int.tmod_eq_emod_of_nonneg (by omega)]; omega) | (rw [Int.tdiv_eq_ediv_of_nonneg (by omega)]; omega) | omega
      (try simp only [Act.put, List.setIfInBounds_toArray, List.set_cons_zero, List.set_cons_succ])
      refine wpAnyH_take (i := 5) (v := (.int .i64 (xi : Int))) rfl (by kernel_rfl) (by kernel_rfl) (by kernel_rfl) (fun _ _ _ h => h) (Or.inl ⟨by kernel_rfl, ?_⟩) (by assumption) ?_
      · intro w' hSw
        (try dsimp only at hSw)
        go_simp
      (try simp only [Act.put, List.setIfInBounds_toArray, List.set_cons_zero, List.set_cons_succ])
      refine wpAnyH_take (i := 6) (v := (.slice (some ⟨pg, 0, none⟩) PL pc)) rfl (by kernel_rfl) (by kernel_rfl) (by kernel_rfl) (fun _ _ _ h => h) (Or.inl ⟨by kernel_rfl, ?_⟩) (by assumption) ?_
      · intro w' hSw
        (try dsimp only at hSw)
        (obtain ⟨h1, h2, h3, h4, h5⟩ := hSw; go_simp)
      (try simp only [Act.put, List.setIfInBounds_toArray, List.set_cons_zero, List.set_cons_succ])
      refine wpAnyH_take (i := 7) (v := (.int .i64 (Q : Int))) rfl (by kernel_rfl) (by kernel_rfl) (by kernel_rfl) (fun _ _ _ h => h) (Or.inl ⟨by kernel_rfl, ?_⟩) (by assumption) ?_
      · intro w' hSw
        (try dsimp only at hSw)
        (obtain ⟨h1, h2, h3, h4, h5⟩ := hSw; go_simp)
      (try simp only [Act.put, List.setIfInBounds_toArray, List.set_cons_zero, List.set_cons_succ])
      refine wpAnyH_take (i := 8) (v := (.pointer (some ⟨pg, Q * 13, none⟩))) rfl (by kernel_rfl) (by kernel_rfl) (by kernel_rfl) (fun _ _ _ h => h) (Or.inl ⟨by kernel_rfl, ?_⟩) (by assumption) ?_
      · intro w' hSw
        (try dsimp only at hSw)
        (go_simp <;> omega)
      (try simp only [Act.put, List.setIfInBounds_toArray, List.set_cons_zero, List.set_cons_succ])
      refine wpAnyH_take (i := 9) (v := (.pointer (some ⟨pg, Q * 13, none⟩))) rfl (by kernel_rfl) (by kernel_rfl) (by kernel_rfl) (fun _ _ _ h => h) (Or.inl ⟨by kernel_rfl, ?_⟩) (by assumption) ?_
      · intro w' hSw
        (try dsimp only at hSw)
        go_simp
      (try simp only [Act.put, List.setIfInBounds_toArray, List.set_cons_zero, List.set_cons_succ])
      refine wpAnyH_take (i := 10) (v := (.int .i64 (pi : Int))) rfl (by kernel_rfl) (by kernel_rfl) (by kernel_rfl) (fun _ _ _ h => h) (Or.inl ⟨by kernel_rfl, ?_⟩) (by assumption) ?_
      · intro w' hSw
        (try dsimp only at hSw)
        (obtain ⟨h1, h2, h3, h4, h5⟩ := hSw; go_simp)
      (try simp only [Act.put, List.setIfInBounds_toArray, List.set_cons_zero, List.set_cons_succ])
      refine wpAnyH_take (i := 11) (v := (.bool false)) rfl (by kernel_rfl) (by kernel_rfl) (by kernel_rfl) (fun _ _ _ h => h) (Or.inl ⟨by kernel_rfl, ?_⟩) (by assumption) ?_
      · intro w' hSw
        (try dsimp only at hSw)
        (go_simp <;> simp [hxp])
      (try simp only [Act.put, List.setIfInBounds_toArray, List.set_cons_zero, List.set_cons_succ])
      refine wpAnyH_take (i := 12) (v := (.bool false)) rfl (by kernel_rfl) (by kernel_rfl) (by kernel_rfl) (fun _ _ _ h => h) (Or.inl ⟨by rfl, ?_⟩) (by assumption) ?_
      · intro w' hSw
        (try dsimp only at hSw)
        go_simp <;> first | exact i64_in (by omega) (by omega) | exact u32_in (by omega) (by omega) | exact u32_add _ _ | (rw [Int.tmod_eq_emod_of_nonneg (by omega)]; omega) | (rw [Int.tdiv_eq_ediv_of_nonneg (by omega)]; omega) | omega
      (try simp only [Act.put, List.setIfInBounds_toArray, List.set_cons_zero, List.set_cons_succ])
      refine wpAnyH_take (i := 13) (v := (.bool false)) rfl (by kernel_rfl) (by kernel_rfl) (by kernel_rfl) (fun _ _ _ h => h) (Or.inl ⟨by rfl, ?_⟩) (by assumption) ?_
      · intro w' hSw
        (try dsimp only at hSw)
        go_simp <;> first | exact i64_in (by omega) (by omega) | exact u32_in (by omega) (by omega) | exact u32_add _ _ | (rw [Int.tmod_eq_emod_of_nonneg (by omega)]; omega) | (rw [Int.tdiv_eq_ediv_of_nonneg (by omega)]; omega) | omega
      (try simp only [Act.put, List.setIfInBounds_toArray, List.set_cons_zero, List.set_cons_succ])
      refine wpAnyH_take (i := 14) (v := .agg (msgV xm)) rfl (by kernel_rfl) (by kernel_rfl) (by kernel_rfl) (fun _ _ _ h => h) (yieldsIf_load_mid ?hw14 27 (.tmp 10) ?ho14 Bx 0 ?hx14 (msgV xm).toList _ (fun w' h => h.2.2.1) Tryd.underlying27 rfl infoMs11) (by assumption) ?_
      case hw14 => kernel_rfl
      case ho14 => rfl
      case hx14 => kernel_rfl
      (try simp only [Act.put, List.getElem_toArray, List.getElem_cons_zero, List.getElem_cons_succ, List.setIfInBounds_toArray, List.set_cons_zero, List.set_cons_succ])
      refine wpAnyH_take (i := 15) (v := (.slice (some ⟨pg, 0, none⟩) PL pc)) rfl (by kernel_rfl) (by kernel_rfl) (by kernel_rfl) (fun _ _ _ h => h) (Or.inl ⟨by kernel_rfl, ?_⟩) (by assumption) ?_
      · intro w' hSw
        (try dsimp only at hSw)
        (obtain ⟨h1, h2, h3, h4, h5⟩ := hSw; go_simp)
      (try simp only [Act.put, List.setIfInBounds_toArray, List.set_cons_zero, List.set_cons_succ])
      refine wpAnyH_take (i := 16) (v := (.int .i64 (Q : Int))) rfl (by kernel_rfl) (by kernel_rfl) (by kernel_rfl) (fun _ _ _ h => h) (Or.inl ⟨by kernel_rfl, ?_⟩) (by assumption) ?_
      · intro w' hSw
        (try dsimp only at hSw)
        (obtain ⟨h1, h2, h3, h4, h5⟩ := hSw; go_simp)
      (try simp only [Act.put, List.setIfInBounds_toArray, List.set_cons_zero, List.set_cons_succ])
      refine wpAnyH_take (i := 17) (v := (.pointer (some ⟨pg, Q * 13, none⟩))) rfl (by kernel_rfl) (by kernel_rfl) (by kernel_rfl) (fun _ _ _ h => h) (Or.inl ⟨by kernel_rfl, ?_⟩) (by assumption) ?_
      · intro w' hSw
        (try dsimp only at hSw)
        (go_simp <;> omega)
      (try simp only [Act.put, List.setIfInBounds_toArray, List.set_cons_zero, List.set_cons_succ])
      refine wpAnyH_take (i := 18) (v := (.pointer (some ⟨pg, Q * 13 + 2, none⟩))) rfl (by kernel_rfl) (by kernel_rfl) (by kernel_rfl) (fun _ _ _ h => h) (Or.inl ⟨by kernel_rfl, ?_⟩) (by assumption) ?_
      · intro w' hSw
        (try dsimp only at hSw)
        go_simp
      (try simp only [Act.put, List.setIfInBounds_toArray, List.set_cons_zero, List.set_cons_succ])
      refine wpAnyH_take (i := 19) (v := .agg (msgV pm)) rfl (by kernel_rfl) (by kernel_rfl) (by kernel_rfl) (fun _ _ _ h => h) (yieldsIf_load_mid ?hw19 27 (.tmp 45) ?ho19 pg (Q * 13 + 2) ?hx19 (msgV pm).toList _ (fun w' h => h.2.2.2.2) Tryd.underlying27 rfl infoMs11) (by assumption) ?_
      case hw19 => kernel_rfl
      case ho19 => rfl
      case hx19 => kernel_rfl
      (try simp only [Act.put, List.getElem_toArray, List.getElem_cons_zero, List.getElem_cons_succ, List.setIfInBounds_toArray, List.set_cons_zero, List.set_cons_succ])
      refine wpAnyH_take (i := 20) (v := (.bool (!sameM xm pm))) rfl (by kernel_rfl) (by kernel_rfl) (by kernel_rfl) (fun _ _ _ h => h) (Or.inl ⟨by kernel_rfl, ?_⟩) (by assumption) ?_
      · intro w' hSw
        (try dsimp only at hSw)
        exact run_neqM _ _ _ _ _ _ _ _ xm pm (by kernel_rfl) (by kernel_rfl)
      (try simp only [Act.put, List.setIfInBounds_toArray, List.set_cons_zero, List.set_cons_succ])
      refine wpAnyH_ready (rs := [21]) (by kernel_rfl) (by simp) ?_
      refine AllReadyH.cons rfl (fun K hK => ?_) AllReadyH.nil
      go_simp
      refine hK.out _ _ (hHeld) (fun hHeld => ?_)
      clear hK
      (try simp only [Act.put, List.setIfInBounds_toArray, List.set_cons_zero, List.set_cons_succ])
      refine wpAnyH_done (by kernel_rfl) ?_ _
      clear hHeld
      have cR := ED.res.cell
      have fR := ED.res.frozen
      have cN := ND.cell
      have fN := ND.frozen
      have cS := ED.stp.cell
      generalize W.drew = WD at *
      by_cases hxm : xm = pm
      case neg =>
        rw [sameM_no hxm]
        gi_wp2_with fail
        exact ⟨kD.trans ((KeepsOthers.setCell _ _ _).from _), .inr ⟨rfl, OUT.out (fun h => hxm h.2)⟩⟩
      case pos =>
        rw [hxm, sameM_self]
        have nN := ND.set (.int .i64 ((Q : Int) + 1))
        have nE := ED.set ND (by omega) (by omega) (by omega) (by omega) (by omega) (.int .i64 ((Q : Int) + 1))
        have nK := kD.trans ((KeepsOthers.setCell WD ⟨bN, 0, none⟩ (.int .i64 ((Q : Int) + 1))).from W0.heap.size)
        have nB : Below w.heap.size W (WD.setCell ⟨bN, 0, none⟩ (.int .i64 ((Q : Int) + 1))) := (bD.mono (by have := hEs; omega)).setCell (p := ⟨bN, 0, none⟩) (by show w.heap.size ≤ bN; omega) _
        have PX := hide (GO.out ⟨hxe, hxm⟩)
        have cN2 := nN.cell
        have cS2 := nE.stp.cell
        have NK := hide nK
        have NB := hide nB
        have NE := hide nE
        have NN := hide nN
        clear OUT GO nN nE nK nB
        gi_wp2_with fail
        all_goals first
          | exact ⟨NK.out, fun _ => ⟨NB.out, fun _ => NE.out.txt.cell, NB.out.size⟩, ⟨NE.out, by rw [EN.out]; exact NN.out⟩, PX.out⟩
          | exact ⟨NK.out, .inl ⟨rfl, ⟨NE.out, by rw [EN.out]; exact NN.out⟩, by rw [EN.out]; exact eq_of_beq (by assumption)⟩⟩
  case done =>
    rintro D zs W hD rfl ⟨⟨hE, hN⟩, hpre⟩ hK
    rw [hQL] at hN
    exact REST.out D PL W hD hE hN (.inl rfl) hK
  case stop =>
    rintro D c pre W hD hp hI hK
    rcases hI with ⟨rfl, ⟨hE, hN⟩, hs⟩ | ⟨rfl, hno⟩
    · gi_wp2_with fail
      exact REST.out D pre.length W hD hE hN (.inr hs) hK
    · exact absurd hp hno
end Go.Proofs.YtgdjfocnaapooaaDoor
