import Derived.Test.YtfpalfpfijcpbaaGreatDoorPaReads
namespace Go.Proofs.YtfpalfpfijcpbaaGreatDoor
open Go.RowKit Go.Shelf
/-- the world behind a setter -/
def setW (w : World) (rb off : Nat) (x : Value) (n : Int) (t : ByteArray) : World := (w.setCell ⟨rb, off, none⟩ x).alloc (.cells #[.int .i64 n, .string t] 120)
theorem setW_kb (w : World) (rb off : Nat) (x : Value) (n : Int) (t : ByteArray) : Kb rb w (setW w rb off x n t) := (Kb.set rb off w x).trans (Kb.of ((Below.refl _ _).alloc (Nat.le_refl _) _))
theorem setW_same {w : World} {rb off : Nat} {x y : Value} {n : Int} {t : ByteArray} (h : w.cell? ⟨rb, off, none⟩ = some y) : (setW w rb off x n t).cell? ⟨rb, off, none⟩ = some x := by
  have hl := lt_of_cell? h
  unfold setW
  rw [((Below.refl _ (w.setCell ⟨rb, off, none⟩ x)).alloc (Nat.le_refl _) _).cell (by simpa using hl)]
  exact World.cell?_setCell_same w _ _ h
theorem setW_other {w : World} {rb off b o : Nat} {x y : Value} {n : Int} {t : ByteArray} (h : w.cell? ⟨b, o, none⟩ = some y) (hn : b ≠ rb ∨ o ≠ off) : (setW w rb off x n t).cell? ⟨b, o, none⟩ = some y := by
  have hl := lt_of_cell? h
  unfold setW
  rw [((Below.refl _ (w.setCell ⟨rb, off, none⟩ x)).alloc (Nat.le_refl _) _).cell (by simpa using hl)]
  exact (World.cell?_setCell_other w _ _ _ (by rcases hn with q | q <;> simp <;> omega)).trans h
theorem setW_frozen {w : World} {rb off b o : Nat} {x : Value} {n : Int} {t : ByteArray} (hl : b < w.heap.size) : (setW w rb off x n t).frozen? ⟨b, o, none⟩ = w.frozen? ⟨b, o, none⟩ := by
  unfold setW
  rw [((Below.refl _ (w.setCell ⟨rb, off, none⟩ x)).alloc (Nat.le_refl _) _).frozen (by simpa using hl), World.frozen?_setCell]
theorem TabAt.kb {b R : Nat} {w w' : World} {ts : List FD} (h : TabAt b w ts) (hl : b < w.heap.size) (hn : b ≠ R) (hk : Kb R w w') : TabAt b w' ts := fun i hi j v hv => by
  rw [hk.cell hl hn]; exact h i hi j v hv
/-- the sum's own state -/
def sumSt (vs : List Val) : Int := match vs with | [] => 0 | v :: _ => v.1
def SumSt (w0 : World) (R sb bx tb : Nat) (wd : ByteArray) (vs : List Val) (w : World) : Prop := Kb R w0 w ∧ (TabAt tb w [sumFD wd bx] ∧ tb < w.heap.size) ∧ w.cell? ⟨bx, 0, none⟩ = some (.pointer (some ⟨sb, 0, none⟩)) ∧ w.cell? ⟨sb, 0, none⟩ = some (.int .i64 (sumSt vs)) ∧ w.frozen? ⟨sb, 0, none⟩ = false
theorem SumSt.ok {w0 : World} {R sb bx tb : Nat} {wd : ByteArray} (h1 : R ≠ sb) (h2 : bx ≠ R) (h3 : tb ≠ R) : StW R sb (SumSt w0 R sb bx tb wd) :=
  ⟨fun vs w w' h k => ⟨h.1.trans k, ⟨h.2.1.1.kb h.2.1.2 h3 k, Nat.lt_of_lt_of_le h.2.1.2 k.size⟩, by rw [k.cell (lt_of_cell? h.2.2.1) h2]; exact h.2.2.1, by rw [k.cell (lt_of_cell? h.2.2.2.1) h1.symm]; exact h.2.2.2.1, by rw [k.frozen (lt_of_cell? h.2.2.2.1) h1.symm]; exact h.2.2.2.2⟩, fun vs w h => lt_of_cell? h.2.2.2.1, h1⟩
theorem SumSt.sets {w0 : World} {R sb bx tb : Nat} {wd : ByteArray} (h4 : w0.heap.size ≤ sb) (h5 : bx ≠ sb) (h6 : tb ≠ sb) : ∀ i (h : i < [sumFD wd bx].length) vs, vs.length = i → SetsAs [sumFD wd bx][i] sb vs (SumSt w0 R sb bx tb wd) := by
  intro i hi vs hv v w hs
  obtain rfl : i = 0 := by simpa using hi
  obtain rfl : vs = [] := List.length_eq_zero_iff.1 hv
  obtain ⟨s1, s2, s3, s4, s5⟩ := hs
  refine (set_sumTable_0 bx sb 0 v.1 v.2 w (lt_of_cell? s3) (lt_of_cell? s4) s3 s4 s5).mono fun e w' ⟨e1, e2⟩ => ⟨e1, ?_, ?_⟩
  · have e3 : w' = setW w sb 0 (.int .i64 v.1) v.1 v.2 := e2
    subst e3
    refine ⟨?_, ⟨s2.1.kb s2.2 h6 (setW_kb _ _ _ _ _ _), Nat.lt_of_lt_of_le s2.2 (setW_kb _ _ _ _ _ _).size⟩, setW_other s3 (.inl h5), setW_same s4, by rw [setW_frozen (lt_of_cell? s4)]; exact s5⟩
    exact (s1.late _ _ _ h4).trans (Kb.of ((Below.refl _ _).alloc (Nat.le_refl _) _))
  · rw [e2]; exact setW_kb _ _ _ _ _ _
theorem Tab4.kb {g R : Nat} {w w' : World} (h : Tab4 g w) (hk : Kb R w w') (hn : g ≠ R) : Tab4 g w' := fun j hj => by rw [hk.cell h.lt hn]; exact h j hj
theorem Tab4.ne {g R : Nat} {w : World} {tx : ByteArray} {a : Nat} (h : Tab4 g w) (hr : RdAt R tx a w) : g ≠ R := by
  intro e
  have q1 := h 0 (by omega)
  have q2 := hr.1
  rw [e] at q1
  rw [q1] at q2
  cases q2
def headS (tx : ByteArray) (a : Nat) : ByteArray := tx.extract 0 a
theorem headS_data (tx : ByteArray) (a : Nat) : (headS tx a).data.toList = tx.data.toList.take a := by unfold headS; rw [Lib.extract_data]; simp
/-- is there a sum; does it fit -/
def unsOk (wd tx : ByteArray) (a : Nat) : Bool := fldOk (sumFD wd 0) (tx.data.toList.drop a)
def unsFit (wd tx : ByteArray) (a : Nat) : Bool := unsOk wd tx a && decide ((fldV (sumFD wd 0) (tx.data.toList.drop a)).1 = (crcN 0 (tx.data.toList.take a) : Int))
def unsN (wd tx : ByteArray) (a : Nat) : Nat := fldN (sumFD wd 0) (tx.data.toList.drop a)
theorem beq_dec (a b : Int) : (a == b) = decide (a = b) := by rw [Bool.eq_iff_iff]; simp
set_option maxHeartbeats 4000000 in
set_option maxRecDepth 100000 in
set_option linter.unusedSimpArgs false in
theorem unseal_any (R : Nat) (tx wd : ByteArray) (a : Nat) (w : World) (hr : RdAt R tx a w) (ha : a ≤ tx.size) (htx : tx.size < 9223372036854775808) (hT4 : Tab4 0 w) :
    Calls Tryz.prog 101 #[.pointer (some ⟨R, 0, none⟩), .string wd] w fun e w' => e = .returned (.tuple #[.bool (unsOk wd tx a), .bool (unsFit wd tx a)]) ∧ (unsOk wd tx a = true → RdAt R tx (a + unsN wd tx a) w') ∧ (∃ a', RdAt R tx a' w') ∧ Kb R w w' := by
  have HR := hide hr
  have hRl := hr.lt
  have hGne := hT4.ne hr
  have HT := hide hT4
  have HB := hide (headS_data tx a)
  have hbs : (headS tx a).size ≤ tx.size := by unfold headS; rw [ByteArray.size_extract]; omega
  obtain ⟨h1, h2, h3⟩ := hr
  clear hT4
  have hXe : headS tx a = tx.extract 0 a := rfl
  obtain ⟨UO, hUO⟩ : ∃ UO, UO = unsOk wd tx a := ⟨_, rfl⟩
  obtain ⟨UF', hUF⟩ : ∃ UF, UF = unsFit wd tx a := ⟨_, rfl⟩
  obtain ⟨UN, hUN⟩ : ∃ UN, UN = unsN wd tx a := ⟨_, rfl⟩
  rw [← hUO, ← hUF, ← hUN]
  have HUO := hide hUO
  have HUF := hide hUF
  have HUN := hide hUN
  clear hUO hUF hUN
  go_enter Tryz.func101, Tryz.ntmps101
  go_wp2_with fail
  go_quiet (fail)
  have Q0 := hide (kb_drewN R w nq)
  have R0 := hide (HR.out.drewN nq)
  have T0 := hide (HT.out.kb Q0.out hGne)
  generalize w.drewN nq = wq at *
  rw [← hXe]
  generalize headS tx a = X at *
  clear h1 h2 h3 hXe HT HR
  obtain ⟨W1, hW1⟩ : ∃ W1, W1 = wq.alloc (.cells #[.int .i64 0] 3) := ⟨_, rfl⟩
  have b1 : Below wq.heap.size wq W1 := by rw [hW1]; exact (Below.refl _ _).alloc (Nat.le_refl _) _
  have s1 : W1.heap.size = wq.heap.size + 1 := by rw [hW1]; simp
  have T := hide (sumTable_any wq.heap.size wd W1)
  have hs2 := sumW_size wd wq.heap.size W1
  have b2 := sumW_below wd wq.heap.size W1
  have bb : Below wq.heap.size wq (sumW wd wq.heap.size W1) := b1.trans (b2.mono b1.size)
  have hRq : R < wq.heap.size := R0.out.lt
  have SS : SumSt wq R wq.heap.size W1.heap.size (W1.heap.size + 1) wd [] (sumW wd wq.heap.size W1) := by
    refine ⟨Kb.of bb, ⟨sumW_tab wd wq.heap.size W1, by omega⟩, sumW_box wd wq.heap.size W1, ?_, ?_⟩
    · rw [b2.cell (by show wq.heap.size < _; omega), hW1]; simp [sumSt]
    · rw [b2.frozen (by show wq.heap.size < _; omega), hW1]; simp
  have RD := hide (read_any [sumFD wd W1.heap.size] (W1.heap.size + 1) 1 R wq.heap.size tx a (SumSt wq R wq.heap.size W1.heap.size (W1.heap.size + 1) wd) (SumSt.ok (by omega) (by omega) (by omega)) (by simp) (fun vs w' h => h.2.1.1) (SumSt.sets (Nat.le_refl _) (by omega) (by omega)) (fun i hi => by
      obtain rfl : i = 0 := by simpa using hi
      exact enters_of Tryz.func149 (by kernel_rfl) rfl) (fun i hi => by
      obtain rfl : i = 0 := by simpa using hi
      exact reads_sum) (sumW wd wq.heap.size W1) SS (R0.out.below bb) ha htx)
  have E1 : Hid (tabOk [sumFD wd W1.heap.size] (tx.data.toList.drop a) = unsOk wd tx a ∧ tabN [sumFD wd W1.heap.size] (tx.data.toList.drop a) = unsN wd tx a ∧ tabVs [sumFD wd W1.heap.size] (tx.data.toList.drop a) = [fldV (sumFD wd 0) (tx.data.toList.drop a)]) := ⟨by rw [tabOk_one]; rfl, by rw [tabN_one]; rfl, rfl⟩
  rw [E1.out.1, E1.out.2.1, E1.out.2.2, ← HUO.out, ← HUN.out] at RD
  have UF : Hid (UF' = (UO && decide ((fldV (sumFD wd 0) (tx.data.toList.drop a)).1 = (crcN 0 X.data.toList : Int)))) := by
    show _ = _; rw [HUF.out, HUO.out]; unfold unsFit; rw [HB.out]
  have K0 := hide Q0.out
  clear SS bb b2 b1 hs2 E1 s1 HB
  clear HUO HUF HUN
  generalize hVV : (fldV (sumFD wd 0) (tx.data.toList.drop a)) = VV at *
  clear hVV
  go_wp2_with fail
  rw [← hW1]
  clear hW1
  refine Calls.mono T.out ?_
  rintro e w2 ⟨rfl, rfl⟩
  go_wp2_with fail
  refine Calls.mono RD.out ?_
  rintro e w3 ⟨rfl, d1, d2⟩
  obtain ⟨vsL, aL, sL, rL⟩ := d2
  have R3 := hide rL
  have K3 := hide (K0.out.trans sL.1)
  have T3 := hide (T0.out.kb sL.1 hGne)
  cases hU : UO with
  | false =>
    have e2 : Hid (UF' = false) := by show _ = _; rw [UF.out, hU]; rfl
    clear d1 sL rL RD T T0
    go_wp2_with fail
    go_ret2
    refine ⟨?_, ?_, ⟨_, R3.out⟩, K3.out⟩
    · rw [e2.out, hU]; rfl
    · intro h; rw [hU] at h; cases h
  | true =>
    obtain ⟨s4, r4⟩ := d1 hU
    have c4 : w3.cell? ⟨wq.heap.size, 0, none⟩ = some (.int .i64 VV.1) := s4.2.2.2.1
    have R4 := hide r4
    have E2 : Hid (UF' = (VV.1 == (crcN 0 X.data.toList : Int))) := by
      show _ = _; rw [UF.out, hU, beq_dec]; rfl
    have CR := hide (fun (w' : World) (b' : Nat) (hc : w'.cell? ⟨b', 0, none⟩ = some (.string X)) (hg : Tab4 0 w') => crc_any (some ⟨b', 0, none⟩) b' 0 1 [X] w' (fun _ => rfl) (by
      intro j x hj
      obtain rfl : j = 0 := by have := (List.getElem?_eq_some_iff.1 hj).1; simpa using this
      simp at hj; subst hj; exact hc) (by simp) (by intro x hx; simp at hx; subst hx; omega) hg)
    rw [cat_one] at CR
    generalize crcN 0 X.data.toList = CC at *
    clear d1 sL rL RD T T0 s4 r4
    go_wp2_with fail
    have KS : Hid (∀ w', Below w3.heap.size w3 w' → w'.cell? ⟨wq.heap.size, 0, none⟩ = some (.int .i64 VV.1)) := fun w' hb => by rw [hb.cell (by exact lt_of_cell? c4)]; exact c4
    refine wp_region_held_drew (S := fun w' => w'.cell? ⟨wq.heap.size, 0, none⟩ = some (.int .i64 VV.1)) (by kernel_rfl) (KS.out _ (Below.refl _ w3).drew) (fun hHeld => ?_)
    have b4 : Below w3.heap.size w3 (w3.drew.alloc (.cells #[.string X] 9)) := (Below.refl _ w3).drew.alloc (Nat.le_refl _) _
    have CR4 := hide (CR.out (w3.drew.alloc (.cells #[.string X] 9)) w3.heap.size (by rw [World.cell?_alloc_at _ _ _ _ (by rfl)]; rfl) (T3.out.below b4 T3.out.lt))
    have B4 := hide b4
    clear b4 CR
    refine wpAnyH_take (i := 0) (v := (.int .i64 VV.1)) rfl (by kernel_rfl) (by kernel_rfl) (by kernel_rfl) (fun _ _ _ h => h) (Or.inl ⟨by rfl, ?_⟩) (by assumption) ?_
    · intro w' hSw
      (try dsimp only at hSw)
      go_simp <;> first | exact i64_in (by omega) (by omega) | exact u32_in (by omega) (by omega) | exact u32_add _ _ | (rw [Int.tmod_eq_emod_of_nonneg (by omega)]; omega) | (rw [Int.tdiv_eq_ediv_of_nonneg (by omega)]; omega) | omega
    (try simp only [Act.put, List.setIfInBounds_toArray, List.set_cons_zero, List.set_cons_succ])
    refine wpAnyH_take (i := 1) (v := (.string X)) rfl (by kernel_rfl) (by kernel_rfl) (by kernel_rfl) (fun _ _ _ h => h) (Or.inl ⟨by rfl, ?_⟩) (by assumption) ?_
    · intro w' hSw
      (try dsimp only at hSw)
      go_simp <;> first | exact i64_in (by omega) (by omega) | exact u32_in (by omega) (by omega) | exact u32_add _ _ | (rw [Int.tmod_eq_emod_of_nonneg (by omega)]; omega) | (rw [Int.tdiv_eq_ediv_of_nonneg (by omega)]; omega) | omega
    (try simp only [Act.put, List.setIfInBounds_toArray, List.set_cons_zero, List.set_cons_succ])
    refine wpAnyH_ready (rs := [2]) (by kernel_rfl) (by simp) ?_
    refine AllReadyH.cons rfl (fun K hK => ?_) AllReadyH.nil
    go_simp
    refine hK.out _ _ (KS.out _ B4.out) (fun hHeld => ?_)
    clear hK
    (try simp only [Act.put, List.setIfInBounds_toArray, List.set_cons_zero, List.set_cons_succ])
    refine wpAnyH_ready (rs := [3]) (by kernel_rfl) (by simp) ?_
    refine AllReadyH.cons rfl (fun K hK => ?_) AllReadyH.nil
    go_simp
    refine Calls.mono CR4.out ?_
    rintro e w5 ⟨rfl, rfl⟩
    refine hK.out _ _ (KS.out _ B4.out) (fun hHeld => ?_)
    clear hK
    (try simp only [Act.put, List.setIfInBounds_toArray, List.set_cons_zero, List.set_cons_succ])
    refine wpAnyH_take (i := 4) (v := (.bool (VV.1 == (CC : Int)))) rfl (by kernel_rfl) (by kernel_rfl) (by kernel_rfl) (fun _ _ _ h => h) (Or.inl ⟨by rfl, ?_⟩) (by assumption) ?_
    · intro w' hSw
      (try dsimp only at hSw)
      go_simp <;> first | exact i64_in (by omega) (by omega) | exact u32_in (by omega) (by omega) | exact u32_add _ _ | (rw [Int.tmod_eq_emod_of_nonneg (by omega)]; omega) | (rw [Int.tdiv_eq_ediv_of_nonneg (by omega)]; omega) | omega
    (try simp only [Act.put, List.setIfInBounds_toArray, List.set_cons_zero, List.set_cons_succ])
    refine wpAnyH_take (i := 5) (v := (.bool true)) rfl (by kernel_rfl) (by kernel_rfl) (by kernel_rfl) (fun _ _ _ h => h) (Or.inl ⟨by rfl, ?_⟩) (by assumption) ?_
    · intro w' hSw
      (try dsimp only at hSw)
      go_simp <;> first | exact i64_in (by omega) (by omega) | exact u32_in (by omega) (by omega) | exact u32_add _ _ | (rw [Int.tmod_eq_emod_of_nonneg (by omega)]; omega) | (rw [Int.tdiv_eq_ediv_of_nonneg (by omega)]; omega) | omega
    (try simp only [Act.put, List.setIfInBounds_toArray, List.set_cons_zero, List.set_cons_succ])
    refine wpAnyH_ready (rs := [6]) (by kernel_rfl) (by simp) ?_
    refine AllReadyH.cons rfl (fun K hK => ?_) AllReadyH.nil
    go_simp
    refine hK.out _ _ (KS.out _ B4.out) (fun hHeld => ?_)
    clear hK
    (try simp only [Act.put, List.setIfInBounds_toArray, List.set_cons_zero, List.set_cons_succ])
    refine wpAnyH_done (by kernel_rfl) ?_ _
    go_wp2_with fail
    go_ret2
    refine ⟨?_, ?_, ⟨_, R4.out.below B4.out⟩, K3.out.trans (Kb.of B4.out)⟩
    · rw [hU, E2.out]; rfl
    · intro h; exact R4.out.below B4.out
/-- what close answers -/
def clsE (tx : ByteArray) (a : Nat) : Int := if unsOk sumWd tx a && decide (a + unsN sumWd tx a = tx.size) then (if unsFit sumWd tx a then 0 else 41) else 40
set_option maxHeartbeats 4000000 in
set_option maxRecDepth 100000 in
theorem close_any (R : Nat) (tx : ByteArray) (a : Nat) (w : World) (hr : RdAt R tx a w) (ha : a ≤ tx.size) (htx : tx.size < 9223372036854775808) (hT4 : Tab4 0 w) :
    Calls Tryz.prog 52 #[.pointer (some ⟨R, 0, none⟩)] w fun e w' => e = .returned (.int .i64 (clsE tx a)) ∧ Kb R w w' := by
  have C := hide (unseal_any R tx sumWd a w hr ha htx hT4)
  obtain ⟨CE, hCE⟩ : ∃ CE, CE = clsE tx a := ⟨_, rfl⟩
  rw [← hCE]
  unfold clsE at hCE
  have HL : Hid (unsOk sumWd tx a = true → a + unsN sumWd tx a ≤ tx.size) := fun h => by
    have := fldN_le h
    rw [List.length_drop, size_data] at this
    show a + fldN (sumFD sumWd 0) _ ≤ _
    omega
  have HCE := hide hCE
  clear hCE hr hT4
  generalize unsOk sumWd tx a = UO at *
  generalize unsFit sumWd tx a = UF at *
  generalize unsN sumWd tx a = UN at *
  unfold sumWd at C
  cases hU : UO with
  | false =>
    have e1 : Hid (CE = 40) := by show _ = _; rw [HCE.out, hU]; rfl
    rw [hU] at C
    go_enter Tryz.func52, Tryz.ntmps52
    go_wp2_with fail
    refine Calls.mono C.out ?_
    rintro e w1 ⟨rfl, d1, d2, k1⟩
    go_wp2_with fail
    go_ret
    exact ⟨congrArg (fun z => Ending.returned (.int .i64 z)) e1.out.symm, k1⟩
  | true =>
    have hn := HL.out hU
    rw [hU] at C
    by_cases hz : a + UN = tx.size
    · have hre : Hid ((restS tx (a + UN)) = ⟨#[]⟩) := by
        show _ = _
        rw [← strOf_toList (restS tx (a + UN)), restS_data, List.drop_of_length_le (by rw [size_data]; omega)]; rfl
      cases hF : UF with
      | true =>
        have e1 : Hid (CE = 0) := by show _ = _; rw [HCE.out, hU, hF, decide_eq_true hz]; rfl
        rw [hF] at C
        go_enter Tryz.func52, Tryz.ntmps52
        go_wp2_with fail
        refine Calls.mono C.out ?_
        rintro e w1 ⟨rfl, d1, d2, k1⟩
        have RS := hide (rest_any R tx (a + UN) w1 (d1 trivial) hn)
        rw [hre.out] at RS
        go_wp2_with fail
        refine Calls.mono RS.out ?_
        rintro e w2 ⟨rfl, n2, rfl⟩
        go_wp2_with fail
        go_ret
        exact ⟨congrArg (fun z => Ending.returned (.int .i64 z)) e1.out.symm, k1.trans (kb_drewN R _ n2)⟩
      | false =>
        have e1 : Hid (CE = 41) := by show _ = _; rw [HCE.out, hU, hF, decide_eq_true hz]; rfl
        rw [hF] at C
        go_enter Tryz.func52, Tryz.ntmps52
        go_wp2_with fail
        refine Calls.mono C.out ?_
        rintro e w1 ⟨rfl, d1, d2, k1⟩
        have RS := hide (rest_any R tx (a + UN) w1 (d1 trivial) hn)
        rw [hre.out] at RS
        go_wp2_with fail
        refine Calls.mono RS.out ?_
        rintro e w2 ⟨rfl, n2, rfl⟩
        go_wp2_with fail
        go_ret
        exact ⟨congrArg (fun z => Ending.returned (.int .i64 z)) e1.out.symm, k1.trans (kb_drewN R _ n2)⟩
    · have e1 : Hid (CE = 40) := by show _ = _; rw [HCE.out, hU, decide_eq_false hz]; rfl
      have hne : (restS tx (a + UN)).toList.isEmpty = false := by
        rw [toList_data, restS_data, List.isEmpty_eq_false_iff]
        intro h
        have := congrArg List.length h
        rw [List.length_drop, size_data] at this
        simp at this
        omega
      go_enter Tryz.func52, Tryz.ntmps52
      go_wp2_with fail
      refine Calls.mono C.out ?_
      rintro e w1 ⟨rfl, d1, d2, k1⟩
      have RS := hide (rest_any R tx (a + UN) w1 (d1 trivial) hn)
      go_wp2_with fail
      refine Calls.mono RS.out ?_
      rintro e w2 ⟨rfl, n2, rfl⟩
      go_wp2_with fail
      go_ret
      exact ⟨congrArg (fun z => Ending.returned (.int .i64 z)) e1.out.symm, k1.trans (kb_drewN R _ n2)⟩
end Go.Proofs.YtfpalfpfijcpbaaGreatDoor
namespace Go.Proofs.YtfpalfpfijcpbaaGreatDoor
open Go.RowKit Go.Shelf
/-- the place behind the rows -/
def rpA (title tx : ByteArray) (ts : List FD) : Nat := title.size + tabN ts (tx.data.toList.drop title.size)
def rpForm (title tx : ByteArray) (ts : List FD) : Bool := pfx title tx.data.toList && tabOk ts (tx.data.toList.drop title.size)
def rpE (title tx : ByteArray) (ts : List FD) (ok : Bool) : Int := if rpForm title tx ts then (if clsE tx (rpA title tx ts) = 0 then (if ok then 0 else 42) else clsE tx (rpA title tx ts)) else 40
def rpVs (title tx : ByteArray) (ts : List FD) : List Val := tabVs ts (tx.data.toList.drop title.size)
theorem ret_i64 {a b : Int} (h : a = b) : Ending.returned (.int .i64 b) = .returned (.int .i64 a) := by rw [h]
set_option maxHeartbeats 4000000 in
set_option maxRecDepth 100000 in
theorem readPaper_any (title tx : ByteArray) (b cap rb : Nat) (ts : List FD) (St : List Val → World → Prop) (w : World) (ok : StW w.heap.size rb St) (hlen : ts.length ≤ 64) (hT : ∀ vs w, St vs w → TabAt b w ts ∧ b < w.heap.size)
    (hset : ∀ i (h : i < ts.length) vs, vs.length = i → SetsAs ts[i] rb vs St) (hen : ∀ i (h : i < ts.length), Enters Tryz.prog ts[i].sf) (hrd : ∀ i (h : i < ts.length), ReadsAs ts[i].sh)
    (hge : ∀ i (h : i < ts.length), Enters Tryz.prog ts[i].gf) (nv : Nat → Int) (tv : Nat → ByteArray) (okf : Nat → Bool) (hgets : ∀ w', St (rpVs title tx ts) w' → ∀ i (h : i < ts.length), GetsAt w' ts[i] (nv i) (tv i)) (hal : ∀ i (h : i < ts.length), AllowsIs ts[i] (nv i) (tv i) (okf i))
    (hs : St [] w) (htx : tx.size < 9223372036854775808) (hT4 : ∀ vs w, St vs w → Tab4 0 w) :
    Calls Tryz.prog 36 #[.string tx, .string title, .slice (some ⟨b, 0, none⟩) ts.length cap] w fun e w' => e = .returned (.int .i64 (rpE title tx ts (allB ts.length okf))) ∧ (rpE title tx ts (allB ts.length okf) = 0 → St (rpVs title tx ts) w') ∧ ∃ vs, St vs w' := by
  obtain ⟨W0, hW0⟩ : ∃ W0, W0 = w.alloc (.cells #[.string tx, .int .i64 0] 92) := ⟨_, rfl⟩
  have b0 : Below w.heap.size w W0 := by rw [hW0]; exact (Below.refl _ w).alloc (Nat.le_refl _) _
  have r0 : RdAt w.heap.size tx 0 W0 := by rw [hW0]; exact ⟨by simp, by simp, by simp⟩
  have s0 := ok.kb _ _ _ hs (Kb.of b0)
  have C1 := hide (skip_any w.heap.size tx title 0 W0 r0 (Nat.zero_le _) htx)
  rw [List.drop_zero] at C1
  obtain ⟨RE, hRE⟩ : ∃ RE, RE = rpE title tx ts (allB ts.length okf) := ⟨_, rfl⟩
  rw [← hRE]
  have KB := hide ok.kb
  have S0 := hide s0
  cases hp : pfx title tx.data.toList with
  | false =>
    have e1 : Hid (RE = 40) := by show _ = _; rw [hRE]; unfold rpE rpForm; rw [hp]; rfl
    rw [hp] at C1
    clear hRE ok hT hset hen hrd hge hgets hal hs s0 r0 hT4 b0
    go_enter Tryz.func36, Tryz.ntmps36
    go_wp2_with fail
    rw [← hW0]
    clear hW0
    refine Calls.mono C1.out ?_
    rintro e w1 ⟨rfl, r1, k1⟩
    have S1 := hide (KB.out _ _ _ S0.out k1)
    clear r1 k1 C1
    go_wp2_with fail
    go_ret
    refine ⟨ret_i64 e1.out, ?_, _, S1.out⟩
    intro h; rw [e1.out] at h; cases h
  | true =>
    rw [hp] at C1
    have hA : skA title tx 0 = title.size := by unfold skA; rw [List.drop_zero, hp]; simp
    rw [hA] at C1
    have htl : title.size ≤ tx.size := by have := pfx_le hp; rwa [size_data] at this
    have C2 := hide (fun w' (h1 : St [] w') (h2 : RdAt w.heap.size tx title.size w') => read_any ts b cap w.heap.size rb tx title.size St ok hlen (fun vs w h => (hT vs w h).1) hset hen hrd w' h1 h2 htl htx)
    cases hf : tabOk ts (tx.data.toList.drop title.size) with
    | false =>
      have e1 : Hid (RE = 40) := by show _ = _; rw [hRE]; unfold rpE rpForm; rw [hp, hf]; rfl
      rw [hf] at C2
      clear hRE ok hT hset hen hrd hge hgets hal hs s0 r0 hT4 b0
      go_enter Tryz.func36, Tryz.ntmps36
      go_wp2_with fail
      rw [← hW0]
      clear hW0
      refine Calls.mono C1.out ?_
      rintro e w1 ⟨rfl, r1, k1⟩
      have S1 := hide (KB.out _ _ _ S0.out k1)
      have D2 := hide (C2.out w1 S1.out r1)
      clear r1 k1 C1 C2
      go_wp2_with fail
      refine Calls.mono D2.out ?_
      rintro e w2 ⟨rfl, d1, vs2, a2, s2, r2⟩
      have S2 := hide s2
      clear d1 s2 r2 D2
      go_wp2_with fail
      go_ret
      refine ⟨ret_i64 e1.out, ?_, _, S2.out⟩
      intro h; rw [e1.out] at h; cases h
    | true =>
      have hN := tabN_le _ _ hf
      rw [List.length_drop, size_data] at hN
      have haA : rpA title tx ts ≤ tx.size := by unfold rpA; omega
      have E1 : Hid (RE = (if clsE tx (rpA title tx ts) = 0 then (if allB ts.length okf then 0 else 42) else clsE tx (rpA title tx ts))) := by show _ = _; rw [hRE]; unfold rpE rpForm; rw [hp, hf]; rfl
      have C3 := hide (fun w' (h1 : RdAt w.heap.size tx (rpA title tx ts) w') (h2 : Tab4 0 w') => close_any w.heap.size tx (rpA title tx ts) w' h1 haA htx h2)
      have C4 := hide (fun w' (h1 : St (rpVs title tx ts) w') => fit_any b cap ts w' nv tv okf (by omega) (hT _ _ h1).1 (hT _ _ h1).2 hge (hgets w' h1) hal)
      have T0 := hide hT4
      have HT := hide (fun vs w h => hT vs w h)
      rw [hf] at C2
      have HV : Hid (tabVs ts (tx.data.toList.drop title.size) = rpVs title tx ts ∧ title.size + tabN ts (tx.data.toList.drop title.size) = rpA title tx ts) := ⟨rfl, rfl⟩
      rw [HV.out.1, HV.out.2] at C2
      clear hRE ok hT hset hen hrd hge hgets hal hs s0 r0 hT4 b0 hN HV
      generalize rpVs title tx ts = VS at *
      generalize rpA title tx ts = A at *
      generalize allB ts.length okf = AB at *
      by_cases hcl : clsE tx A = 0
      · rw [hcl] at C3 E1
        cases hAB : AB with
        | true =>
          have e1 : Hid (RE = 0) := by show _ = _; rw [E1.out, hAB]; rfl
          rw [hAB] at C4
          go_enter Tryz.func36, Tryz.ntmps36
          go_wp2_with fail
          rw [← hW0]
          clear hW0
          refine Calls.mono C1.out ?_
          rintro e w1 ⟨rfl, r1, k1⟩
          have S1 := hide (KB.out _ _ _ S0.out k1)
          have D2 := hide (C2.out w1 S1.out r1)
          clear r1 k1 C1 C2
          go_wp2_with fail
          refine Calls.mono D2.out ?_
          rintro e w2 ⟨rfl, d1, d2⟩
          obtain ⟨s2, r2⟩ := d1 trivial
          have S2 := hide s2
          have D3 := hide (C3.out w2 r2 (T0.out _ _ s2))
          clear d1 d2 s2 r2 D2 C3
          go_wp2_with fail
          refine Calls.mono D3.out ?_
          rintro e w3 ⟨rfl, k3⟩
          have S3 := hide (KB.out _ _ _ S2.out k3)
          have D4 := hide (C4.out w3 S3.out)
          clear k3 D3 C4
          go_wp2_with fail
          refine Calls.mono D4.out ?_
          rintro e w4 ⟨rfl, b4⟩
          have S4 := hide (KB.out _ _ _ S3.out (Kb.of b4))
          clear b4 D4
          go_wp2_with fail
          go_ret
          refine ⟨ret_i64 e1.out, ?_, _, S4.out⟩
          intro h; exact S4.out
        | false =>
          have e1 : Hid (RE = 42) := by show _ = _; rw [E1.out, hAB]; rfl
          rw [hAB] at C4
          go_enter Tryz.func36, Tryz.ntmps36
          go_wp2_with fail
          rw [← hW0]
          clear hW0
          refine Calls.mono C1.out ?_
          rintro e w1 ⟨rfl, r1, k1⟩
          have S1 := hide (KB.out _ _ _ S0.out k1)
          have D2 := hide (C2.out w1 S1.out r1)
          clear r1 k1 C1 C2
          go_wp2_with fail
          refine Calls.mono D2.out ?_
          rintro e w2 ⟨rfl, d1, d2⟩
          obtain ⟨s2, r2⟩ := d1 trivial
          have S2 := hide s2
          have D3 := hide (C3.out w2 r2 (T0.out _ _ s2))
          clear d1 d2 s2 r2 D2 C3
          go_wp2_with fail
          refine Calls.mono D3.out ?_
          rintro e w3 ⟨rfl, k3⟩
          have S3 := hide (KB.out _ _ _ S2.out k3)
          have D4 := hide (C4.out w3 S3.out)
          clear k3 D3 C4
          go_wp2_with fail
          refine Calls.mono D4.out ?_
          rintro e w4 ⟨rfl, b4⟩
          have S4 := hide (KB.out _ _ _ S3.out (Kb.of b4))
          clear b4 D4
          go_wp2_with fail
          go_ret
          refine ⟨ret_i64 e1.out, ?_, _, S4.out⟩
          intro h; rw [e1.out] at h; cases h
      · have e1 : Hid (RE = clsE tx A) := by show _ = _; rw [E1.out, if_neg hcl]
        go_enter Tryz.func36, Tryz.ntmps36
        go_wp2_with fail
        rw [← hW0]
        clear hW0
        refine Calls.mono C1.out ?_
        rintro e w1 ⟨rfl, r1, k1⟩
        have S1 := hide (KB.out _ _ _ S0.out k1)
        have D2 := hide (C2.out w1 S1.out r1)
        clear r1 k1 C1 C2
        go_wp2_with fail
        refine Calls.mono D2.out ?_
        rintro e w2 ⟨rfl, d1, d2⟩
        obtain ⟨s2, r2⟩ := d1 trivial
        have S2 := hide s2
        have D3 := hide (C3.out w2 r2 (T0.out _ _ s2))
        clear d1 d2 s2 r2 D2 C3
        go_wp2_with fail
        refine Calls.mono D3.out ?_
        rintro e w3 ⟨rfl, k3⟩
        have S3 := hide (KB.out _ _ _ S2.out k3)
        clear k3 D3 C4
        go_wp2_with fail
        go_ret
        refine ⟨ret_i64 e1.out, ?_, _, S3.out⟩
        intro h; rw [e1.out] at h; exact absurd h hcl
end Go.Proofs.YtfpalfpfijcpbaaGreatDoor
