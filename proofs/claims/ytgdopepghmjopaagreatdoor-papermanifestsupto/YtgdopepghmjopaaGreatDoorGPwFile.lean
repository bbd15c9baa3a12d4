import Derived.Test.YtgdopepghmjopaaGreatDoorGPqWord
import Derived.Test.YtgdopepghmjopaaGreatDoorPxParse
namespace Go.Proofs.YtgdopepghmjopaaGreatDoor
open Go.RowKit Go.Shelf
structure FS (W0 : World) (Q fb : Nat) (tx : ByteArray) (st : Option Nat) (r : RV) (w : World) : Prop where
  old : KbX (fun i => i = Q ∨ i = fb) W0 w
  rd : RfS Q tx st w
  row : RowAt w fb 0 r
  fz : ∀ o, o < 4 → w.frozen? ⟨fb, o, none⟩ = false
theorem FS.call {W0 : World} {Q fb : Nat} {tx : ByteArray} {st st' : Option Nat} {r : RV} {w w' : World} (h : FS W0 Q fb tx st r w) (hn : fb ≠ Q) (hk : Kb Q w w') (hr : RfS Q tx st' w') : FS W0 Q fb tx st' r w' :=
  ⟨h.old.trans (KbX.of hk (.inl rfl)), hr, h.row.kb hk hn, fun o ho => by rw [hk.frozen h.row.lt hn]; exact h.fz o ho⟩
theorem FS.set {W0 : World} {Q fb : Nat} {tx : ByteArray} {st : Option Nat} {r r' : RV} {w : World} (h : FS W0 Q fb tx st r w) (hn : fb ≠ Q) (o : Nat) (v : Value) (hr : RowAt (w.setCell ⟨fb, o, none⟩ v) fb 0 r') : FS W0 Q fb tx st r' (w.setCell ⟨fb, o, none⟩ v) :=
  ⟨h.old.trans (KbX.of (Kb.set fb o w v) (.inr rfl)), h.rd.kb (Kb.set fb o w v) hn.symm, hr, fun i hi => by rw [World.frozen?_setCell]; exact h.fz i hi⟩
theorem rowSet0 {w : World} {fb : Nat} {r : RV} (h : RowAt w fb 0 r) (t : ByteArray) : RowAt (w.setCell ⟨fb, 0, none⟩ (.string t)) fb 0 (t, r.2.1, r.2.2.1, r.2.2.2) := by
  obtain ⟨h0, h1, h2, h3⟩ := h
  have ot : ∀ i, i ≠ 0 → (w.setCell ⟨fb, 0, none⟩ (.string t)).cell? ⟨fb, i, none⟩ = w.cell? ⟨fb, i, none⟩ := fun i hi => World.cell?_setCell_other w _ _ _ (by intro e; injection e with _ e _; exact hi e.symm)
  exact ⟨World.cell?_setCell_same w _ _ h0, by rw [ot _ (by omega)]; exact h1, by rw [ot _ (by omega)]; exact h2, by rw [ot _ (by omega)]; exact h3⟩
theorem rowSet1 {w : World} {fb : Nat} {r : RV} (h : RowAt w fb 0 r) (n : Int) : RowAt (w.setCell ⟨fb, 1, none⟩ (.int .i64 n)) fb 0 (r.1, n, r.2.2.1, r.2.2.2) := by
  obtain ⟨h0, h1, h2, h3⟩ := h
  have ot : ∀ i, i ≠ 1 → (w.setCell ⟨fb, 1, none⟩ (.int .i64 n)).cell? ⟨fb, i, none⟩ = w.cell? ⟨fb, i, none⟩ := fun i hi => World.cell?_setCell_other w _ _ _ (by intro e; injection e with _ e _; exact hi e.symm)
  exact ⟨by rw [ot _ (by omega)]; exact h0, World.cell?_setCell_same w _ _ h1, by rw [ot _ (by omega)]; exact h2, by rw [ot _ (by omega)]; exact h3⟩
theorem rowSet2 {w : World} {fb : Nat} {r : RV} (h : RowAt w fb 0 r) (n : Int) : RowAt (w.setCell ⟨fb, 2, none⟩ (.int .i64 n)) fb 0 (r.1, r.2.1, n, r.2.2.2) := by
  obtain ⟨h0, h1, h2, h3⟩ := h
  have ot : ∀ i, i ≠ 2 → (w.setCell ⟨fb, 2, none⟩ (.int .i64 n)).cell? ⟨fb, i, none⟩ = w.cell? ⟨fb, i, none⟩ := fun i hi => World.cell?_setCell_other w _ _ _ (by intro e; injection e with _ e _; exact hi e.symm)
  exact ⟨by rw [ot _ (by omega)]; exact h0, by rw [ot _ (by omega)]; exact h1, World.cell?_setCell_same w _ _ h2, by rw [ot _ (by omega)]; exact h3⟩
theorem rowSet3 {w : World} {fb : Nat} {r : RV} (h : RowAt w fb 0 r) (t : ByteArray) : RowAt (w.setCell ⟨fb, 3, none⟩ (.string t)) fb 0 (r.1, r.2.1, r.2.2.1, t) := by
  obtain ⟨h0, h1, h2, h3⟩ := h
  have ot : ∀ i, i ≠ 3 → (w.setCell ⟨fb, 3, none⟩ (.string t)).cell? ⟨fb, i, none⟩ = w.cell? ⟨fb, i, none⟩ := fun i hi => World.cell?_setCell_other w _ _ _ (by intro e; injection e with _ e _; exact hi e.symm)
  exact ⟨by rw [ot _ (by omega)]; exact h0, by rw [ot _ (by omega)]; exact h1, by rw [ot _ (by omega)]; exact h2, World.cell?_setCell_same w _ _ h3⟩
/-- what the steps read is the row that stands there -/
theorem row_vals {tx : ByteArray} {a : Nat} {t1 t2 : ByteArray} {n s : Nat} (hok : tabOk (rowFDs 0) (dr tx a) = true)
    (h1 : ∀ q, sLit nS4 tx (some a) = some q → t1 = strOf (wordL (dr tx q)))
    (h2 : ∀ q, sLit bl tx (sWrd tx (sLit nS4 tx (some a))) = some q → n = rnV (dr tx q))
    (h3 : ∀ q, sLit bl tx (sNum tx (sLit bl tx (sWrd tx (sLit nS4 tx (some a))))) = some q → s = rsV false (dr tx q))
    (h4 : ∀ q, sLit bl tx (sByt 4 tx (sLit bl tx (sNum tx (sLit bl tx (sWrd tx (sLit nS4 tx (some a))))))) = some q → rbOk false 16 (dr tx q) = true → t2 = strOf ((unhexL ((dr tx q).take (2 * 16))).getD [])) :
    (t1, (n : Int), (s : Int), t2) = rdRow (dr tx a) := by
  obtain ⟨f0, f1, f2, f3, hf, ⟨a1, a2, a3⟩, ⟨b1, b2, b3⟩, ⟨c1, c2, c3⟩, d1, d2, d3⟩ : ∃ f0 f1 f2 f3, rowFDs 0 = [f0, f1, f2, f3] ∧ (f0.wd = nS4 ∧ f0.sh = 3 ∧ f0.en = bl) ∧ (f1.wd = ⟨#[]⟩ ∧ f1.sh = 0 ∧ f1.en = bl) ∧ (f2.wd = ⟨#[]⟩ ∧ f2.sh = 1 ∧ f2.en = bl) ∧ f3.wd = ⟨#[]⟩ ∧ f3.sh = 2 ∧ f3.en = nl := ⟨_, _, _, _, rfl, ⟨rfl, rfl, rfl⟩, ⟨rfl, rfl, rfl⟩, ⟨rfl, rfl, rfl⟩, rfl, rfl, rfl⟩
  unfold rdRow
  rw [hf] at hok ⊢
  simp only [tabOk, Bool.and_eq_true] at hok
  obtain ⟨k0, k1, k2, k3, -⟩ := hok
  have e0 : (⟨#[]⟩ : ByteArray).size = 0 := rfl
  have p0 : pfx nS4 (dr tx a) = true := by unfold fldOk at k0; rw [Bool.and_eq_true, a1] at k0; exact k0.1
  have v1 : t1 = strOf (wordL ((dr tx a).drop nS4.size)) := by
    have := h1 (a + nS4.size) (by unfold sLit; simp only [Option.bind_some]; rw [if_pos p0])
    rw [this, dr_add]
  have S0 : sLit bl tx (sWrd tx (sLit nS4 tx (some a))) = some (a + fldN f0 (dr tx a)) := by
    have := sF_way (way_word (f := f0) (.inl a2)) tx (some a)
    rw [a1, a3, ← sWrd_g] at this
    rw [this]; unfold sF; simp only [Option.bind_some]; rw [if_pos k0]
  have v2 := h2 _ S0
  rw [dr_add] at v2
  have S1 : sLit bl tx (sNum tx (sLit bl tx (sWrd tx (sLit nS4 tx (some a))))) = some (a + fldN f0 (dr tx a) + fldN f1 ((dr tx a).drop (fldN f0 (dr tx a)))) := by
    have := sF_way (way_num (f := f1) (e := 32) b2 (by rw [b3]; rfl) rfl rfl) tx (some (a + fldN f0 (dr tx a)))
    rw [b1, b3, ← sNum_g, sLit_nil] at this
    rw [S0, this]; unfold sF; simp only [Option.bind_some, dr_add]; rw [if_pos k1]
  have v3 := h3 _ S1
  rw [dr_add, dr_add] at v3
  have S2 : sLit bl tx (sByt 4 tx (sLit bl tx (sNum tx (sLit bl tx (sWrd tx (sLit nS4 tx (some a))))))) = some (a + fldN f0 (dr tx a) + fldN f1 ((dr tx a).drop (fldN f0 (dr tx a))) + fldN f2 (((dr tx a).drop (fldN f0 (dr tx a))).drop (fldN f1 ((dr tx a).drop (fldN f0 (dr tx a)))))) := by
    have := sF_way (way_hex (f := f2) (e := 32) 4 (fun l => by rw [c2]; rfl) (by rw [c3]; rfl) rfl) tx (some (a + fldN f0 (dr tx a) + fldN f1 ((dr tx a).drop (fldN f0 (dr tx a)))))
    rw [c1, c3, ← sByt_g, sLit_nil] at this
    rw [S1, this]; unfold sF; simp only [Option.bind_some, dr_add]; rw [if_pos k2]
  have v4 := h4 _ S2
  rw [dr_add, dr_add, dr_add] at v4
  show (t1, (n : Int), (s : Int), t2) = (rdT f0.sh (fldW f0 (dr tx a)), rdN f1.sh (fldW f1 _), rdN f2.sh (fldW f2 _), rdT f3.sh (fldW f3 _))
  generalize hl1 : (dr tx a).drop (fldN f0 (dr tx a)) = l1 at *
  generalize hl2 : l1.drop (fldN f1 l1) = l2 at *
  generalize hl3 : l2.drop (fldN f2 l2) = l3 at *
  have w1 : fldW f1 l1 = wordL l1 := by unfold fldW; rw [b1, e0, List.drop_zero]
  have w2 : fldW f2 l2 = wordL l2 := by unfold fldW; rw [c1, e0, List.drop_zero]
  have w3 : fldW f3 l3 = wordL l3 := by unfold fldW; rw [d1, e0, List.drop_zero]
  have q1 : (numOk (wordL l1) && pfx bl (l1.drop (wordL l1).length)) = true := by
    unfold fldOk at k1; rw [w1, b1, b2, b3, e0, List.drop_zero, Bool.and_eq_true] at k1; exact k1.2
  have q2 : (sumOk (wordL l2) && pfx bl (l2.drop (wordL l2).length)) = true := by
    unfold fldOk at k2; rw [w2, c1, c2, c3, e0, List.drop_zero, Bool.and_eq_true] at k2; exact k2.2
  have q3 : (hexOk (wordL l3) 16 && pfx nl (l3.drop (wordL l3).length)) = true := by
    unfold fldOk at k3; rw [w3, d1, d2, d3, e0, List.drop_zero, Bool.and_eq_true] at k3; exact k3.2
  have r1 := ((num_same (en := bl) (e := 32) rfl rfl rfl l1).2 q1).2
  have r2 := ((sum_same2 (en := bl) (e := 32) rfl rfl l2).2 q2).2
  have r3 := ((hex_sameN 16 (en := nl) (e := 10) rfl rfl l3).2 q3).2
  have r4 : rbOk false 16 l3 = true := by
    have := q3; rw [(hex_sameN 16 (en := nl) (e := 10) rfl rfl l3).1, Bool.and_eq_true] at this; exact this.1
  rw [w1, w2, w3, a2, b2, c2, d2]
  have x1 : rdT 3 (fldW f0 (dr tx a)) = t1 := by unfold fldW; rw [a1, v1]; rfl
  have x2 : rdN 0 (wordL l1) = (n : Int) := by show (numV (wordL l1) : Int) = _; rw [r1, v2]
  have x3 : rdN 1 (wordL l2) = (s : Int) := by show (sumV (wordL l2) : Int) = _; rw [r2, v3]
  have x4 : rdT 2 (wordL l3) = t2 := by
    show hexV (wordL l3) 16 = _
    rw [v4 r4, r3]
    unfold hexV unS
    have hl : (l3.take (2 * 16)).length = 2 * 16 := by have := rbOk_len r4; rw [List.length_take]; omega
    rw [if_pos hl]
  rw [x1, x2, x3, x4]
set_option maxHeartbeats 8000000 in
set_option maxRecDepth 100000 in
set_option linter.unusedSimpArgs false in
/-- the document's file -/
theorem rfile_any (Q : Nat) (tx : ByteArray) (st : Option Nat) (w : World) (h : RfS Q tx st w) (htx : tx.size < 9223372036854775808) :
    Calls Tryz.prog 68 #[.pointer (some ⟨Q, 0, none⟩)] w fun e w' => ∃ r : RV, e = .returned (.agg #[.string r.1, .int .i64 r.2.1, .int .i64 r.2.2.1, .string r.2.2.2]) ∧ (∀ a, st = some a → tabOk (rowFDs 0) (dr tx a) = true → r = rdRow (dr tx a)) ∧ RfS Q tx (sTab (rowFDs 0) tx st) w' ∧ Kb Q w w' := by
  obtain ⟨W0, hW0⟩ : ∃ W0, W0 = w.alloc (.cells #[.string ⟨#[]⟩, .int .i64 0, .int .i64 0, .string ⟨#[]⟩] 36) := ⟨_, rfl⟩
  have b0 : Below w.heap.size w W0 := by rw [hW0]; exact (Below.refl _ w).alloc (Nat.le_refl _) _
  have s0 : W0.heap.size = w.heap.size + 1 := by rw [hW0]; simp
  have hQl := h.lt
  obtain ⟨W1, hW1⟩ : ∃ W1, W1 = W0.alloc (.cells #[.string ⟨#[]⟩, .int .i64 0, .int .i64 0, .string ⟨#[]⟩] 36) := ⟨_, rfl⟩
  have b1 : Below W0.heap.size W0 W1 := by rw [hW1]; exact (Below.refl _ _).alloc (Nat.le_refl _) _
  have F0 : FS W0 Q (w.heap.size + 1) tx st (⟨#[]⟩, 0, 0, ⟨#[]⟩) W1 := by
    refine ⟨⟨b1.os, b1.tape, b1.output, b1.size, fun i hi _ => b1.block i hi⟩, (h.below b0).below b1, ?_, ?_⟩
    · rw [hW1, ← s0]; exact ⟨by simp, by simp, by simp, by simp⟩
    · intro o ho
      rw [hW1, ← s0]
      match o, ho with
      | 0, _ => simp
      | 1, _ => simp
      | 2, _ => simp
      | 3, _ => simp
  have R0 : Hid (∀ w', KbX (fun i => i = Q ∨ i = w.heap.size + 1) W0 w' → (w'.cell? ⟨w.heap.size, 0, none⟩ = some (.string ⟨#[]⟩) ∧ w'.cell? ⟨w.heap.size, 1, none⟩ = some (.int .i64 0) ∧ w'.cell? ⟨w.heap.size, 2, none⟩ = some (.int .i64 0) ∧ w'.cell? ⟨w.heap.size, 3, none⟩ = some (.string ⟨#[]⟩)) ∧ (w'.frozen? ⟨w.heap.size, 0, none⟩ = false ∧ w'.frozen? ⟨w.heap.size, 1, none⟩ = false ∧ w'.frozen? ⟨w.heap.size, 2, none⟩ = false ∧ w'.frozen? ⟨w.heap.size, 3, none⟩ = false)) := fun w' hk => by
    have hl : w.heap.size < W0.heap.size := by omega
    have hx : ¬ (w.heap.size = Q ∨ w.heap.size = w.heap.size + 1) := by omega
    rw [hk.cell hl hx, hk.cell hl hx, hk.cell hl hx, hk.cell hl hx, hk.frozen hl hx, hk.frozen hl hx, hk.frozen hl hx, hk.frozen hl hx, hW0]
    exact ⟨⟨by simp, by simp, by simp, by simp⟩, by simp, by simp, by simp, by simp⟩
  have FINK : Hid (∀ w', KbX (fun i => i = Q ∨ i = w.heap.size + 1) W0 w' → Kb Q w w') := fun w' hk => ⟨hk.os.trans b0.os, hk.tape.trans b0.tape, hk.output.trans b0.output, Nat.le_trans b0.size hk.size, fun i hi hn => by rw [hk.block i (by omega) (by omega), b0.block i hi]⟩
  have hn : w.heap.size + 1 ≠ Q := by omega
  have LIT := hide (fun (s : ByteArray) (hs : s.size ≤ 1000) (q : Option Nat) (w' : World) (hr : RfS Q tx q w') => stepLit Q s tx q w' hr htx hs)
  have WRD := hide (fun (q : Option Nat) (w' : World) (hr : RfS Q tx q w') => stepWrd Q tx q w' hr htx)
  have NUM := hide (fun (q : Option Nat) (w' : World) (hr : RfS Q tx q w') => stepNum Q tx q w' hr htx)
  have SUM := hide (fun (q : Option Nat) (w' : World) (hr : RfS Q tx q w') => stepSum Q tx q w' hr htx)
  have BYT := hide (fun (q : Option Nat) (w' : World) (hr : RfS Q tx q w') => stepByt Q 16 tx q w' hr htx (by omega) (by omega))
  have VALS := hide (fun (a : Nat) (t1 t2 : ByteArray) (n s : Nat) hok h1 h2 h3 h4 => row_vals (tx := tx) (a := a) (t1 := t1) (t2 := t2) (n := n) (s := s) hok h1 h2 h3 h4)
  have FF := hide F0
  have HN := hide hn
  clear h F0 b0 b1
  go_enter Tryz.func68, Tryz.ntmps68
  go_wp2_with fail
  rw [← hW0, ← hW1]
  clear hW0 hW1 s0
  have Q1 := hide (LIT.out nS4 (by decide) _ _ FF.out.rd)
  unfold nS4 at Q1
  refine Calls.mono Q1.out ?_
  rintro x y1 ⟨rfl, rr, kk⟩
  have F1 := hide (FF.out.call HN.out kk rr)
  clear rr kk Q1 FF
  go_wp2_with fail
  refine Calls.mono (WRD.out _ _ F1.out.rd) ?_
  rintro x y2 ⟨t1, rfl, e1, rr, kk⟩
  have F2 := hide (F1.out.call HN.out kk rr)
  clear rr kk F1
  have G2 := hide (F2.out.set HN.out 0 _ (rowSet0 F2.out.row t1))
  obtain ⟨d0, d1, d2, d3⟩ := F2.out.row
  have fz := F2.out.fz 0 (by omega)
  have hlf := F2.out.row.lt
  go_wp2_with fail
  clear d0 d1 d2 d3 fz hlf F2
  have Q3 := hide (LIT.out bl (by decide) _ _ G2.out.rd)
  unfold bl at Q3
  refine Calls.mono Q3.out ?_
  rintro x y3 ⟨rfl, rr, kk⟩
  have F3 := hide (G2.out.call HN.out kk rr)
  clear rr kk Q3 G2
  go_wp2_with fail
  refine Calls.mono (NUM.out _ _ F3.out.rd) ?_
  rintro x y4 ⟨n, rfl, -, e2, rr, kk⟩
  have F4 := hide (F3.out.call HN.out kk rr)
  clear rr kk F3
  have G4 := hide (F4.out.set HN.out 1 _ (rowSet1 F4.out.row (n : Int)))
  obtain ⟨d0, d1, d2, d3⟩ := F4.out.row
  have fz := F4.out.fz 1 (by omega)
  have hlf := F4.out.row.lt
  go_wp2_with fail
  clear d0 d1 d2 d3 fz hlf F4
  have Q5 := hide (LIT.out bl (by decide) _ _ G4.out.rd)
  unfold bl at Q5
  refine Calls.mono Q5.out ?_
  rintro x y5 ⟨rfl, rr, kk⟩
  have F5 := hide (G4.out.call HN.out kk rr)
  clear rr kk Q5 G4
  go_wp2_with fail
  refine Calls.mono (SUM.out _ _ F5.out.rd) ?_
  rintro x y6 ⟨s, rfl, -, e3, rr, kk⟩
  have F6 := hide (F5.out.call HN.out kk rr)
  clear rr kk F5
  have G6 := hide (F6.out.set HN.out 2 _ (rowSet2 F6.out.row (s : Int)))
  obtain ⟨d0, d1, d2, d3⟩ := F6.out.row
  have fz := F6.out.fz 2 (by omega)
  have hlf := F6.out.row.lt
  go_wp2_with fail
  clear d0 d1 d2 d3 fz hlf F6
  have Q7 := hide (LIT.out bl (by decide) _ _ G6.out.rd)
  unfold bl at Q7
  refine Calls.mono Q7.out ?_
  rintro x y7 ⟨rfl, rr, kk⟩
  have F7 := hide (G6.out.call HN.out kk rr)
  clear rr kk Q7 G6
  go_wp2_with fail
  refine Calls.mono (BYT.out _ _ F7.out.rd) ?_
  rintro x y8 ⟨t2, rfl, e4, rr, kk⟩
  have F8 := hide (F7.out.call HN.out kk rr)
  clear rr kk F7
  have G8 := hide (F8.out.set HN.out 3 _ (rowSet3 F8.out.row t2))
  obtain ⟨d0, d1, d2, d3⟩ := F8.out.row
  have fz := F8.out.fz 3 (by omega)
  have hlf := F8.out.row.lt
  go_wp2_with fail
  clear d0 d1 d2 d3 fz hlf F8
  have Q9 := hide (LIT.out nl (by decide) _ _ G8.out.rd)
  unfold nl at Q9
  refine Calls.mono Q9.out ?_
  rintro x y9 ⟨rfl, rr, kk⟩
  have F9 := hide (G8.out.call HN.out kk rr)
  clear rr kk Q9 G8
  obtain ⟨d0, d1, d2, d3⟩ := F9.out.row
  have hlf := F9.out.row.lt
  obtain ⟨⟨z0, z1, z2, z3⟩, x0, x1, x2, x3⟩ := R0.out _ F9.out.old
  have hlr : w.heap.size < y9.heap.size := lt_of_cell? z0
  dsimp only at d0 d1 d2 d3
  clear LIT WRD NUM SUM BYT R0
  go_wp2_with fail
  refine bodyPost_ret (v := .agg #[.string t1, .int .i64 (n : Int), .int .i64 (s : Int), .string t2]) (by simp [results, Tryz.results68, go_sem, z0, z1, z2, z3]) rfl ⟨(t1, (n : Int), (s : Int), t2), rfl, fun a ha hok => ?_, ?_, ?_⟩
  · subst ha
    exact VALS.out a t1 t2 n s hok e1 e2 e3 e4
  · have hq : Q ≠ w.heap.size := by omega
    have kb := fun (x : World) (o : Nat) (v : Value) => Kb.set w.heap.size o x v
    rw [← sRow_tab]
    exact (((F9.out.rd.kb (kb _ 0 _) hq).kb (kb _ 1 _) hq).kb (kb _ 2 _) hq).kb (kb _ 3 _) hq
  · exact ((((FINK.out _ F9.out.old).late _ _ _ (Nat.le_refl _)).late _ _ _ (Nat.le_refl _)).late _ _ _ (Nat.le_refl _)).late _ _ _ (Nat.le_refl _)
end Go.Proofs.YtgdopepghmjopaaGreatDoor
namespace Go.Proofs.YtgdopepghmjopaaGreatDoor
open Go.RowKit Go.Shelf
theorem sF_some {f : FD} {tx : ByteArray} {a : Nat} (h : fldOk f (dr tx a) = true) : sF f tx (some a) = some (a + fldN f (dr tx a)) := by
  unfold sF; simp only [Option.bind_some]; rw [if_pos h]
theorem sLit_some {s tx : ByteArray} {a : Nat} (h : pfx s (dr tx a) = true) : sLit s tx (some a) = some (a + s.size) := by
  unfold sLit; simp only [Option.bind_some]; rw [if_pos h]
theorem fldOk_pfx {f : FD} {l : List UInt8} (h : fldOk f l = true) : pfx f.wd l = true := by
  unfold fldOk at h; rw [Bool.and_eq_true] at h; exact h.1
theorem val_word {f : FD} {tx t : ByteArray} {a : Nat} (hs : f.sh = 3 ∨ f.sh = 4) (ok : fldOk f (dr tx a) = true) (h : ∀ q, sLit f.wd tx (some a) = some q → t = strOf (wordL (dr tx q))) : t = rdT f.sh (fldW f (dr tx a)) := by
  rw [h _ (sLit_some (fldOk_pfx ok)), dr_add]
  unfold fldW
  rcases hs with hs | hs <;> (rw [hs]; rfl)
theorem val_num {f : FD} {tx : ByteArray} {a n : Nat} {e : UInt8} (hs : f.sh = 0) (he : f.en.data.toList = [e]) (hse : isSep e = true) (hde : isDig e = false) (ok : fldOk f (dr tx a) = true) (h : ∀ q, sLit f.wd tx (some a) = some q → n = rnV (dr tx q)) : (n : Int) = rdN f.sh (fldW f (dr tx a)) := by
  rw [h _ (sLit_some (fldOk_pfx ok)), dr_add]
  unfold fldOk at ok
  rw [Bool.and_eq_true, hs] at ok
  have := ((num_same he hse hde ((dr tx a).drop f.wd.size)).2 ok.2).2
  rw [hs]
  show _ = (numV (wordL ((dr tx a).drop f.wd.size)) : Int)
  rw [this]
theorem val_sum {f : FD} {tx : ByteArray} {a n : Nat} {e : UInt8} (hs : f.sh = 1) (he : f.en.data.toList = [e]) (hse : isSep e = true) (ok : fldOk f (dr tx a) = true) (h : ∀ q, sLit f.wd tx (some a) = some q → n = rsV false (dr tx q)) : (n : Int) = rdN f.sh (fldW f (dr tx a)) := by
  rw [h _ (sLit_some (fldOk_pfx ok)), dr_add]
  unfold fldOk at ok
  rw [Bool.and_eq_true, hs] at ok
  have := ((sum_same2 he hse ((dr tx a).drop f.wd.size)).2 ok.2).2
  rw [hs]
  show _ = (sumV (wordL ((dr tx a).drop f.wd.size)) : Int)
  rw [this]
def wSt : ByteArray := ⟨#[115, 116, 111, 114, 101, 32]⟩
def wVe : ByteArray := ⟨#[118, 101, 114, 115, 105, 111, 110, 32]⟩
def wNo : ByteArray := ⟨#[110, 111, 100, 101, 32]⟩
def wFi : ByteArray := ⟨#[102, 105, 108, 101, 115, 32]⟩
def wWh : ByteArray := ⟨#[119, 104, 111, 108, 101, 32]⟩
theorem nS0_eq : nS0 = manTitle ++ wSt := by apply ba_eq; simp only [ba_app]; rfl
theorem mS1_eq : mS1 = nl ++ wVe := by apply ba_eq; simp only [ba_app]; rfl
theorem mS2_eq : mS2 = nl ++ wNo := by apply ba_eq; simp only [ba_app]; rfl
theorem nS3_eq : nS3 = nl ++ wFi := by apply ba_eq; simp only [ba_app]; rfl
theorem nS6_eq : nS6 = nl ++ wWh := by apply ba_eq; simp only [ba_app]; rfl
/-- the four steps of the head -/
theorem head_steps (tx : ByteArray) (st : Option Nat) : ∃ f0 f1 f2 f3, headFDs 0 0 = [f0, f1, f2, f3] ∧ (f0.sh = 4 ∧ f1.sh = 0 ∧ f2.sh = 0 ∧ f3.sh = 0) ∧ (f1.en = nl ∧ f2.en = nl ∧ f3.en = nl)
    ∧ sLit nS0 tx st = sLit f0.wd tx (sLit manTitle tx st)
    ∧ sLit mS1 tx (sWrd tx (sLit nS0 tx st)) = sLit f1.wd tx (sF f0 tx (sLit manTitle tx st))
    ∧ sLit mS2 tx (sNum tx (sLit mS1 tx (sWrd tx (sLit nS0 tx st)))) = sLit f2.wd tx (sF f1 tx (sF f0 tx (sLit manTitle tx st)))
    ∧ sLit nS3 tx (sNum tx (sLit mS2 tx (sNum tx (sLit mS1 tx (sWrd tx (sLit nS0 tx st)))))) = sLit f3.wd tx (sF f2 tx (sF f1 tx (sF f0 tx (sLit manTitle tx st))))
    ∧ sLit nl tx (sNum tx (sLit nS3 tx (sNum tx (sLit mS2 tx (sNum tx (sLit mS1 tx (sWrd tx (sLit nS0 tx st)))))))) = sTab (headFDs 0 0) tx (sLit manTitle tx st) := by
  obtain ⟨f0, f1, f2, f3, hf, ⟨a1, a2, a3⟩, ⟨b1, b2, b3⟩, ⟨c1, c2, c3⟩, d1, d2, d3⟩ : ∃ f0 f1 f2 f3, headFDs 0 0 = [f0, f1, f2, f3] ∧ (f0.wd = wSt ∧ f0.sh = 4 ∧ f0.en = nl) ∧ (f1.wd = wVe ∧ f1.sh = 0 ∧ f1.en = nl) ∧ (f2.wd = wNo ∧ f2.sh = 0 ∧ f2.en = nl) ∧ f3.wd = wFi ∧ f3.sh = 0 ∧ f3.en = nl := ⟨_, _, _, _, rfl, ⟨rfl, rfl, rfl⟩, ⟨rfl, rfl, rfl⟩, ⟨rfl, rfl, rfl⟩, rfl, rfl, rfl⟩
  have k0 := sF_way (way_word (f := f0) (.inr a2)) tx
  have k1 := sF_way (way_num (f := f1) (e := 10) b2 (by rw [b3]; rfl) rfl rfl) tx
  have k2 := sF_way (way_num (f := f2) (e := 10) c2 (by rw [c3]; rfl) rfl rfl) tx
  have k3 := sF_way (way_num (f := f3) (e := 10) d2 (by rw [d3]; rfl) rfl rfl) tx
  simp only [← sWrd_g, ← sNum_g, a3, b3, c3, d3] at k0 k1 k2 k3
  have E0 : sLit nS0 tx st = sLit f0.wd tx (sLit manTitle tx st) := by rw [nS0_eq, sLit_app, a1]
  have E1 : sLit mS1 tx (sWrd tx (sLit nS0 tx st)) = sLit f1.wd tx (sF f0 tx (sLit manTitle tx st)) := by rw [mS1_eq, sLit_app, b1, E0, k0]
  have E2 : sLit mS2 tx (sNum tx (sLit mS1 tx (sWrd tx (sLit nS0 tx st)))) = sLit f2.wd tx (sF f1 tx (sF f0 tx (sLit manTitle tx st))) := by rw [E1, mS2_eq, sLit_app, c1, k1]
  have E3 : sLit nS3 tx (sNum tx (sLit mS2 tx (sNum tx (sLit mS1 tx (sWrd tx (sLit nS0 tx st)))))) = sLit f3.wd tx (sF f2 tx (sF f1 tx (sF f0 tx (sLit manTitle tx st)))) := by rw [E2, nS3_eq, sLit_app, d1, k2]
  refine ⟨f0, f1, f2, f3, hf, ⟨a2, b2, c2, d2⟩, ⟨b3, c3, d3⟩, E0, E1, E2, E3, ?_⟩
  rw [E3, k3, hf, sTab_cons, sTab_cons, sTab_cons, sTab_cons, sTab_nil]
theorem head_vals {tx t : ByteArray} {st : Option Nat} {a n1 n2 n3 : Nat} (hT : sLit manTitle tx st = some a) (hok : tabOk (headFDs 0 0) (dr tx a) = true)
    (h1 : ∀ q, sLit nS0 tx st = some q → t = strOf (wordL (dr tx q)))
    (h2 : ∀ q, sLit mS1 tx (sWrd tx (sLit nS0 tx st)) = some q → n1 = rnV (dr tx q))
    (h3 : ∀ q, sLit mS2 tx (sNum tx (sLit mS1 tx (sWrd tx (sLit nS0 tx st)))) = some q → n2 = rnV (dr tx q))
    (h4 : ∀ q, sLit nS3 tx (sNum tx (sLit mS2 tx (sNum tx (sLit mS1 tx (sWrd tx (sLit nS0 tx st)))))) = some q → n3 = rnV (dr tx q)) :
    (t, (n1 : Int), (n2 : Int), (n3 : Int)) = rdHead (dr tx a) := by
  obtain ⟨f0, f1, f2, f3, hf, ⟨a2, b2, c2, d2⟩, ⟨b3, c3, d3⟩, E0, E1, E2, E3, -⟩ := head_steps tx st
  rw [E0] at h1; rw [E1] at h2; rw [E2] at h3; rw [E3] at h4
  rw [hT] at h1 h2 h3 h4
  unfold rdHead
  rw [hf] at hok ⊢
  simp only [tabOk, Bool.and_eq_true] at hok
  obtain ⟨k0, k1, k2, k3, -⟩ := hok
  simp only [← dr_add] at k1 k2 k3
  rw [sF_some k0] at h2 h3 h4
  rw [sF_some k1] at h3 h4
  rw [sF_some k2] at h4
  have v0 := val_word (.inr a2) k0 h1
  have v1 := val_num (e := 10) b2 (by rw [b3]; rfl) rfl rfl k1 h2
  have v2 := val_num (e := 10) c2 (by rw [c3]; rfl) rfl rfl k2 h3
  have v3 := val_num (e := 10) d2 (by rw [d3]; rfl) rfl rfl k3 h4
  rw [v0, v1, v2, v3]
  simp only [dr_add]
  rfl
/-- the two steps of the tail -/
theorem tail_steps (tx : ByteArray) (st : Option Nat) : ∃ f0 f1, tailFDs 0 = [f0, f1] ∧ (f0.sh = 0 ∧ f1.sh = 1) ∧ (f0.en = nl ∧ f1.en = nl)
    ∧ sLit nS5 tx st = sLit f0.wd tx st
    ∧ sLit nS6 tx (sNum tx (sLit nS5 tx st)) = sLit f1.wd tx (sF f0 tx st)
    ∧ sLit nl tx (sByt 4 tx (sLit nS6 tx (sNum tx (sLit nS5 tx st)))) = sTab (tailFDs 0) tx st := by
  obtain ⟨f0, f1, hf, ⟨a1, a2, a3⟩, b1, b2, b3⟩ : ∃ f0 f1, tailFDs 0 = [f0, f1] ∧ (f0.wd = nS5 ∧ f0.sh = 0 ∧ f0.en = nl) ∧ f1.wd = wWh ∧ f1.sh = 1 ∧ f1.en = nl := ⟨_, _, rfl, ⟨rfl, rfl, rfl⟩, rfl, rfl, rfl⟩
  have k0 := sF_way (way_num (f := f0) (e := 10) a2 (by rw [a3]; rfl) rfl rfl) tx
  have k1 := sF_way (way_hex (f := f1) (e := 10) 4 (fun l => by rw [b2]; rfl) (by rw [b3]; rfl) rfl) tx
  simp only [← sByt_g, ← sNum_g, a3, b3] at k0 k1
  have E0 : sLit nS5 tx st = sLit f0.wd tx st := by rw [a1]
  have E1 : sLit nS6 tx (sNum tx (sLit nS5 tx st)) = sLit f1.wd tx (sF f0 tx st) := by rw [nS6_eq, sLit_app, b1, E0, k0]
  refine ⟨f0, f1, hf, ⟨a2, b2⟩, ⟨a3, b3⟩, E0, E1, ?_⟩
  rw [E1, k1, hf, sTab_cons, sTab_cons, sTab_nil]
theorem tail_vals {tx : ByteArray} {a n1 n2 : Nat} (hok : tabOk (tailFDs 0) (dr tx a) = true)
    (h1 : ∀ q, sLit nS5 tx (some a) = some q → n1 = rnV (dr tx q))
    (h2 : ∀ q, sLit nS6 tx (sNum tx (sLit nS5 tx (some a))) = some q → n2 = rsV false (dr tx q)) :
    ((n1 : Int), (n2 : Int)) = rdTail (dr tx a) := by
  obtain ⟨f0, f1, hf, ⟨a2, b2⟩, ⟨a3, b3⟩, E0, E1, -⟩ := tail_steps tx (some a)
  rw [E0] at h1; rw [E1] at h2
  unfold rdTail
  rw [hf] at hok ⊢
  simp only [tabOk, Bool.and_eq_true] at hok
  obtain ⟨k0, k1, -⟩ := hok
  simp only [← dr_add] at k1
  rw [sF_some k0] at h2
  have v0 := val_num (e := 10) a2 (by rw [a3]; rfl) rfl rfl k0 h1
  have v1 := val_sum (e := 10) b2 (by rw [b3]; rfl) rfl k1 h2
  rw [v0, v1]
  simp only [dr_add]
  rfl
theorem rowsAt_step (tx : ByteArray) (a k : Nat) : (rowsAt tx a (k + 1)).map (·.2) = sTab (rowFDs 0) tx ((rowsAt tx a k).map (·.2)) := by
  rw [rowsAt]
  cases h : rowsAt tx a k with
  | none => rfl
  | some x =>
    obtain ⟨l, q⟩ := x
    unfold sTab
    simp only [Option.map_some, Option.bind_some]
    show Option.map _ (if tabOk (rowFDs 0) (dr tx q) = true then _ else _) = _
    split <;> rfl
theorem rowsAt_row {tx : ByteArray} {a k q : Nat} {l : List RV} (h : rowsAt tx a k = some (l, q)) (hok : tabOk (rowFDs 0) (dr tx q) = true) : rowsAt tx a (k + 1) = some (l ++ [rdRow (dr tx q)], q + tabN (rowFDs 0) (dr tx q)) := by
  rw [rowsAt, h]
  exact if_pos hok
theorem sTab_some {ts : List FD} {tx : ByteArray} {st : Option Nat} {b : Nat} (h : sTab ts tx st = some b) : ∃ a, st = some a ∧ tabOk ts (dr tx a) = true ∧ b = a + tabN ts (dr tx a) := by
  cases st with
  | none => cases h
  | some a =>
    unfold sTab at h
    simp only [Option.bind_some] at h
    split at h
    · rename_i hk; exact ⟨a, rfl, hk, by injection h with h; exact h.symm⟩
    · cases h
/-- where the document's reader stands at a manifest's end -/
def rpS (tx : ByteArray) (m : Nat) : Option Nat := sTab (tailFDs 0) tx ((sTab (headFDs 0 0) tx (sLit manTitle tx (some 0))).bind fun a => (rowsAt tx a m).map (·.2))
theorem rpS_eq (tx : ByteArray) (m : Nat) (hm : ∀ a, sTab (headFDs 0 0) tx (sLit manTitle tx (some 0)) = some a → m = pmN tx) : rpS tx m = if pmForm tx then some (pmA3 tx) else none := by
  unfold rpS pmForm
  have d0 : dr tx 0 = tx.data.toList := rfl
  cases hp : pfx manTitle tx.data.toList with
  | false =>
    have : sLit manTitle tx (some 0) = none := by unfold sLit; simp only [Option.bind_some, d0, hp]; rfl
    rw [this]; rfl
  | true =>
    have e0 : sLit manTitle tx (some 0) = some manTitle.size := by rw [sLit_some (by rw [d0]; exact hp), Nat.zero_add]
    rw [e0] at hm ⊢
    cases hh : tabOk (headFDs 0 0) (tx.data.toList.drop manTitle.size) with
    | false =>
      have : sTab (headFDs 0 0) tx (some manTitle.size) = none := by unfold sTab; simp only [Option.bind_some]; exact if_neg (by rw [show dr tx manTitle.size = tx.data.toList.drop manTitle.size from rfl, hh]; simp)
      rw [this]; rfl
    | true =>
      have e1 : sTab (headFDs 0 0) tx (some manTitle.size) = some (pmA1 tx) := by unfold sTab; simp only [Option.bind_some]; exact if_pos hh
      have em := hm _ e1
      rw [e1, em]
      simp only [Option.bind_some]
      have er : rowsAt tx (pmA1 tx) (pmN tx) = pmR tx := rfl
      rw [er]
      have ea : pmA2 tx = ((pmR tx).map (·.2)).getD 0 := rfl
      unfold pmA3
      generalize pmA2 tx = a2 at *
      cases hr : pmR tx with
      | none => rfl
      | some x =>
        rw [hr] at ea
        have ea : a2 = x.2 := ea
        subst ea
        simp only [Option.map_some, Option.isSome_some, Bool.true_and]
        unfold sTab
        simp only [Option.bind_some]
        rfl
end Go.Proofs.YtgdopepghmjopaaGreatDoor
namespace Go.Proofs.YtgdopepghmjopaaGreatDoor
open Go.RowKit Go.Shelf
def lastE (tx : ByteArray) : Option Nat → Int
  | some a => clsE tx a
  | none => 40
theorem rowsAt_ok {tx : ByteArray} {a k q q' : Nat} {l l' : List RV} (h : rowsAt tx a k = some (l, q)) (h' : rowsAt tx a (k + 1) = some (l', q')) : tabOk (rowFDs 0) (dr tx q) = true := by
  have hs := rowsAt_step tx a k
  rw [h, h'] at hs
  obtain ⟨b, e, hk, -⟩ := sTab_some hs.symm
  injection e with e
  subst e
  exact hk
def sHead (tx : ByteArray) : Option Nat := sLit nl tx (sNum tx (sLit nS3 tx (sNum tx (sLit mS2 tx (sNum tx (sLit mS1 tx (sWrd tx (sLit nS0 tx (some 0)))))))))
theorem title_at {tx : ByteArray} {a : Nat} (h : sLit manTitle tx (some 0) = some a) : a = manTitle.size := by
  unfold sLit at h
  simp only [Option.bind_some] at h
  split at h
  · injection h with h; rw [← h, Nat.zero_add]
  · cases h
/-- what the document's ParseManifest has read is what the program's has -/
theorem rp_done {tx t1 : ByteArray} {st : Option Nat} {n1 n2 n3 n5 n6 : Nat} {rs : List RV}
    (hJ : (sHead tx).bind (fun a => (rowsAt tx a n3).map (·.2)) = st)
    (hR : ∀ a l q, sHead tx = some a → rowsAt tx a n3 = some (l, q) → rs = l)
    (e1 : ∀ q, sLit nS0 tx (some 0) = some q → t1 = strOf (wordL (dr tx q)))
    (e2 : ∀ q, sLit mS1 tx (sWrd tx (sLit nS0 tx (some 0))) = some q → n1 = rnV (dr tx q))
    (e3 : ∀ q, sLit mS2 tx (sNum tx (sLit mS1 tx (sWrd tx (sLit nS0 tx (some 0))))) = some q → n2 = rnV (dr tx q))
    (e4 : ∀ q, sLit nS3 tx (sNum tx (sLit mS2 tx (sNum tx (sLit mS1 tx (sWrd tx (sLit nS0 tx (some 0))))))) = some q → n3 = rnV (dr tx q))
    (e5 : ∀ q, sLit nS5 tx st = some q → n5 = rnV (dr tx q))
    (e6 : ∀ q, sLit nS6 tx (sNum tx (sLit nS5 tx st)) = some q → n6 = rsV false (dr tx q)) :
    (pmE tx = if lastE tx (sLit nl tx (sByt 4 tx (sLit nS6 tx (sNum tx (sLit nS5 tx st))))) = 0 then mfE ⟨t1, (n1 : Int), (n2 : Int), rs, (n5 : Int), (n6 : Int)⟩ else lastE tx (sLit nl tx (sByt 4 tx (sLit nS6 tx (sNum tx (sLit nS5 tx st))))))
    ∧ (lastE tx (sLit nl tx (sByt 4 tx (sLit nS6 tx (sNum tx (sLit nS5 tx st))))) = 0 → pmM tx = ⟨t1, (n1 : Int), (n2 : Int), rs, (n5 : Int), (n6 : Int)⟩ ∧ rs.length ≤ tx.size) := by
  obtain ⟨_, _, _, _, _, _, _, _, _, _, _, HE⟩ := head_steps tx (some 0)
  obtain ⟨_, _, _, _, _, _, _, TE⟩ := tail_steps tx st
  have HH : sHead tx = sTab (headFDs 0 0) tx (sLit manTitle tx (some 0)) := HE
  have hh : ∀ a, sHead tx = some a → a = pmA1 tx ∧ (t1, (n1 : Int), (n2 : Int), (n3 : Int)) = pmH tx ∧ a ≤ tx.size := fun a ha => by
    rw [HH] at ha
    obtain ⟨b, h1, h2, h3⟩ := sTab_some ha
    have hv := head_vals h1 h2 e1 e2 e3 e4
    have hb := title_at h1
    subst hb
    have hN := tabN_le _ _ h2
    have hp : manTitle.size ≤ tx.size := by
      have hq : pfx manTitle tx.data.toList = true := by
        cases hz : pfx manTitle tx.data.toList with
        | true => rfl
        | false =>
          have : sLit manTitle tx (some 0) = none := by unfold sLit; simp only [Option.bind_some, show dr tx 0 = tx.data.toList from rfl, hz]; rfl
          rw [this] at h1; cases h1
      have := pfx_le hq; rwa [size_data] at this
    rw [show dr tx manTitle.size = tx.data.toList.drop manTitle.size from rfl] at hN h3
    have hN' := hN
    rw [List.length_drop, size_data] at hN'
    exact ⟨h3, hv, by omega⟩
  have hn : ∀ a, sHead tx = some a → n3 = pmN tx := fun a ha => by
    have := (hh a ha).2.1
    unfold pmN
    rw [← this]
    simp
  have hS : sLit nl tx (sByt 4 tx (sLit nS6 tx (sNum tx (sLit nS5 tx st)))) = if pmForm tx then some (pmA3 tx) else none := by
    rw [TE, ← hJ, ← rpS_eq tx n3 (fun a ha => hn a (by rw [HH]; exact ha)), HH]
    rfl
  cases hf : pmForm tx with
  | false =>
    rw [hf] at hS
    rw [hS]
    refine ⟨?_, fun h => absurd h (by simp [lastE])⟩
    unfold pmE
    rw [hf]
    simp [lastE]
  | true =>
    rw [hf] at hS
    have hS2 := hS
    rw [TE] at hS2
    obtain ⟨a, ha, hok, -⟩ := sTab_some hS2
    have key : pmM tx = ⟨t1, (n1 : Int), (n2 : Int), rs, (n5 : Int), (n6 : Int)⟩ ∧ rs.length ≤ tx.size := by
      rw [ha] at e5 e6 hJ
      have tv := tail_vals hok e5 e6
      cases hx : sHead tx with
      | none => rw [hx] at hJ; cases hJ
      | some b =>
        obtain ⟨q1, q2, q3⟩ := hh b hx
        have q4 := hn b hx
        rw [hx] at hJ
        simp only [Option.bind_some] at hJ
        cases hr : rowsAt tx b n3 with
        | none => rw [hr] at hJ; cases hJ
        | some y =>
          obtain ⟨l, q⟩ := y
          rw [hr] at hJ
          simp only [Option.map_some, Option.some.injEq] at hJ
          subst hJ
          have hl := hR b l q hx hr
          subst hl
          obtain ⟨g1, g2, g3⟩ := rowsAt_le q3 _ _ _ hr
          rw [q1, q4] at hr
          have r1 : pmR tx = some (rs, q) := hr
          have r2 : pmA2 tx = q := by unfold pmA2; rw [r1]; rfl
          have r3 : pmRs tx = rs := by unfold pmRs; rw [r1]; rfl
          have r4 : pmT tx = ((n5 : Int), (n6 : Int)) := by unfold pmT; rw [r2]; exact tv.symm
          refine ⟨?_, by omega⟩
          unfold pmM
          rw [r3, r4, ← q2]
    rw [hS]
    refine ⟨?_, fun _ => key⟩
    unfold pmE
    rw [hf, key.1]
    rfl
end Go.Proofs.YtgdopepghmjopaaGreatDoor
