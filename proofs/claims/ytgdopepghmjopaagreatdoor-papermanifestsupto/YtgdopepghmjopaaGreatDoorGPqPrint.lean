import Derived.Test.YtgdopepghmjopaaGreatDoorGPwFields
import Derived.Test.YtgdopepghmjopaaGreatDoorGDaAlg
import Derived.Test.YtgdopepghmjopaaGreatDoorGPxReads
namespace Go.Proofs.YtgdopepghmjopaaGreatDoor
open Go.RowKit Go.Shelf
def mS0 : ByteArray := ⟨#[103, 114, 97, 110, 97, 114, 121, 32, 109, 101, 116, 97, 32, 49, 10, 115, 116, 111, 114, 101, 32]⟩
def mS1 : ByteArray := ⟨#[10, 118, 101, 114, 115, 105, 111, 110, 32]⟩
def mS2 : ByteArray := ⟨#[10, 110, 111, 100, 101, 32]⟩
def mS3 : ByteArray := ⟨#[10, 112, 97, 114, 116, 115, 32]⟩
def mS4 : ByteArray := ⟨#[10, 114, 101, 112, 108, 105, 99, 97, 115, 32]⟩
def mS5 : ByteArray := ⟨#[10, 119, 105, 100, 116, 104, 32]⟩
def mS6 : ByteArray := ⟨#[10, 99, 104, 117, 110, 107, 115, 32]⟩
def mS7 : ByteArray := ⟨#[10, 114, 111, 119, 115, 32]⟩
end Go.Proofs.YtgdopepghmjopaaGreatDoor
namespace Go.Proofs.YtgdopepghmjopaaGreatDoor
open Go.RowKit Go.Shelf
theorem KbX.trans {X : Nat → Prop} {a b c : World} (h : KbX X a b) (k : KbX X b c) : KbX X a c := ⟨k.os.trans h.os, k.tape.trans h.tape, k.output.trans h.output, Nat.le_trans h.size k.size, fun i hi hn => (k.block i (Nat.lt_of_lt_of_le hi h.size) hn).trans (h.block i hi hn)⟩
theorem vT_get2 (vs : List Val) (v : Val) (i : Nat) : (((vs ++ [v])[i]?).map (·.2)).getD ⟨#[]⟩ = if i = vs.length then v.2 else ((vs[i]?).map (·.2)).getD ⟨#[]⟩ := by
  rcases Nat.lt_trichotomy i vs.length with h | h | h
  · rw [List.getElem?_append_left h, if_neg (by omega)]
  · rw [List.getElem?_append_right (by omega), if_pos h, h]; simp
  · rw [List.getElem?_eq_none (by simp; omega), if_neg (by omega), List.getElem?_eq_none (by omega)]
def headOf (vs : List Val) : HV := (((vs[0]?.map (·.2)).getD ⟨#[]⟩), vN vs 1, vN vs 2, vN vs 3)
theorem setW_keep {w : World} {rb off o : Nat} {x : Value} {n : Int} {t : ByteArray} (hl : rb < w.heap.size) (h : o ≠ off) : (setW w rb off x n t).cell? ⟨rb, o, none⟩ = w.cell? ⟨rb, o, none⟩ := by
  unfold setW
  rw [((Below.refl _ (w.setCell ⟨rb, off, none⟩ x)).alloc (Nat.le_refl _) _).cell (by simpa using hl)]
  exact World.cell?_setCell_other w _ _ _ (by intro e; injection e with _ e _; exact h e.symm)
structure HeadSt (w0 : World) (R rb cb bm bc tb : Nat) (vs : List Val) (w : World) : Prop where
  old : KbX (fun x => x = R ∨ x = rb ∨ x = cb) w0 w
  tab : TabAt tb w (headFDs bm bc)
  tlt : tb < w.heap.size
  box : w.cell? ⟨bm, 0, none⟩ = some (.pointer (some ⟨rb, 0, none⟩)) ∧ w.cell? ⟨bc, 0, none⟩ = some (.pointer (some ⟨cb, 0, none⟩))
  rcd : HeadAt w rb cb (headOf vs)
  keep : ∀ o, 3 ≤ o ∧ o < 6 → w.cell? ⟨rb, o, none⟩ = w0.cell? ⟨rb, o, none⟩
  kfrz : ∀ o, w.frozen? ⟨rb, o, none⟩ = w0.frozen? ⟨rb, o, none⟩
  frz : w.frozen? ⟨rb, 0, none⟩ = false ∧ w.frozen? ⟨rb, 1, none⟩ = false ∧ w.frozen? ⟨rb, 2, none⟩ = false ∧ w.frozen? ⟨cb, 0, none⟩ = false
theorem HeadSt.ok {w0 : World} {R rb cb bm bc tb : Nat} (hr : rb ≠ R) (hc : cb ≠ R) (hm : bm ≠ R) (hb : bc ≠ R) (ht : tb ≠ R) : StWX R (fun x => x = rb ∨ x = cb) (HeadSt w0 R rb cb bm bc tb) := by
  refine ⟨fun vs w w' h k => ?_, fun vs w h x hx => ?_, fun h => h.elim (fun e => hr e.symm) (fun e => hc e.symm)⟩
  · have lr := h.rcd.lt.1
    have lc := h.rcd.lt.2
    have lm := lt_of_cell? h.box.1
    have lb := lt_of_cell? h.box.2
    obtain ⟨q0, q1, q2, q3⟩ := h.rcd
    obtain ⟨f0, f1, f2, f3⟩ := h.frz
    exact ⟨h.old.trans (KbX.of k (.inl rfl)), h.tab.kb h.tlt ht k, Nat.lt_of_lt_of_le h.tlt k.size, ⟨by rw [k.cell lm hm]; exact h.box.1, by rw [k.cell lb hb]; exact h.box.2⟩, ⟨by rw [k.cell lr hr]; exact q0, by rw [k.cell lr hr]; exact q1, by rw [k.cell lr hr]; exact q2, by rw [k.cell lc hc]; exact q3⟩, fun o ho => by rw [k.cell lr hr]; exact h.keep o ho, fun o => by rw [k.frozen lr hr]; exact h.kfrz o, ⟨by rw [k.frozen lr hr]; exact f0, by rw [k.frozen lr hr]; exact f1, by rw [k.frozen lr hr]; exact f2, by rw [k.frozen lc hc]; exact f3⟩⟩
  · rcases hx with e | e
    · rw [e]; exact h.rcd.lt.1
    · rw [e]; exact h.rcd.lt.2
theorem HeadSt.sets {w0 : World} {R rb cb bm bc tb : Nat} (hrc : rb ≠ cb) (hm : bm ≠ rb) (hmc : bm ≠ cb) (hb : bc ≠ rb) (hbc : bc ≠ cb) (htc : tb ≠ cb) (ht : tb ≠ rb) : ∀ i (h : i < (headFDs bm bc).length) vs, vs.length = i → SetsX (headFDs bm bc)[i] (fun x => x = rb ∨ x = cb) vs (HeadSt w0 R rb cb bm bc tb) := by
  intro i hi vs hv v w hs
  have lr := hs.rcd.lt.1
  have lc := hs.rcd.lt.2
  have lm := lt_of_cell? hs.box.1
  have lb := lt_of_cell? hs.box.2
  obtain ⟨q0, q1, q2, q3⟩ := hs.rcd
  obtain ⟨f0, f1, f2, f3⟩ := hs.frz
  match i, hi, hv with
  | 0, _, hv =>
    refine (set_headTable_0 bm rb _ v.1 v.2 w lm lr hs.box.1 q0 f0).mono fun e w' ⟨e1, e2⟩ => ?_
    have e3 : w' = (setW w rb 0 (.string v.2) v.1 v.2) := e2
    subst e3
    have k := setW_kb w rb 0 (.string v.2) v.1 v.2
    have hof0 : (((vs ++ [v])[0]?).map (·.2)).getD ⟨#[]⟩ = if 0 = vs.length then v.2 else ((vs[0]?).map (·.2)).getD ⟨#[]⟩ := vT_get2 vs v 0
    have hof1 : vN (vs ++ [v]) 1 = if 1 = vs.length then v.1 else vN vs 1 := vN_app vs v 1
    have hof2 : vN (vs ++ [v]) 2 = if 2 = vs.length then v.1 else vN vs 2 := vN_app vs v 2
    have hof3 : vN (vs ++ [v]) 3 = if 3 = vs.length then v.1 else vN vs 3 := vN_app vs v 3
    exact ⟨e1, ⟨hs.old.trans (KbX.of k (.inr (.inl rfl))), hs.tab.kb hs.tlt ht k, Nat.lt_of_lt_of_le hs.tlt k.size, ⟨setW_other hs.box.1 (.inl hm), setW_other hs.box.2 (.inl hb)⟩, ⟨by show _ = some (Value.string ((((vs ++ [v])[0]?).map (·.2)).getD ⟨#[]⟩)); rw [hof0, if_pos hv.symm]; exact setW_same q0, by show _ = some (Value.int .i64 (vN (vs ++ [v]) 1)); rw [hof1, if_neg (by omega)]; exact setW_other q1 (.inr (by omega)), by show _ = some (Value.int .i64 (vN (vs ++ [v]) 2)); rw [hof2, if_neg (by omega)]; exact setW_other q2 (.inr (by omega)), by show _ = some (Value.int .i64 (vN (vs ++ [v]) 3)); rw [hof3, if_neg (by omega)]; exact setW_other q3 (.inl hrc.symm)⟩, fun o ho => by rw [← hs.keep o ho]; exact setW_keep lr (by omega), fun o => by rw [setW_frozen lr]; exact hs.kfrz o, ⟨by rw [setW_frozen lr]; exact f0, by rw [setW_frozen lr]; exact f1, by rw [setW_frozen lr]; exact f2, by rw [setW_frozen lc]; exact f3⟩⟩, KbX.of k (.inl rfl)⟩
  | 1, _, hv =>
    refine (set_headTable_1 bm rb _ v.1 v.2 w lm lr hs.box.1 q1 f1).mono fun e w' ⟨e1, e2⟩ => ?_
    have e3 : w' = (setW w rb 1 (.int .i64 v.1) v.1 v.2) := e2
    subst e3
    have k := setW_kb w rb 1 (.int .i64 v.1) v.1 v.2
    have hof0 : (((vs ++ [v])[0]?).map (·.2)).getD ⟨#[]⟩ = if 0 = vs.length then v.2 else ((vs[0]?).map (·.2)).getD ⟨#[]⟩ := vT_get2 vs v 0
    have hof1 : vN (vs ++ [v]) 1 = if 1 = vs.length then v.1 else vN vs 1 := vN_app vs v 1
    have hof2 : vN (vs ++ [v]) 2 = if 2 = vs.length then v.1 else vN vs 2 := vN_app vs v 2
    have hof3 : vN (vs ++ [v]) 3 = if 3 = vs.length then v.1 else vN vs 3 := vN_app vs v 3
    exact ⟨e1, ⟨hs.old.trans (KbX.of k (.inr (.inl rfl))), hs.tab.kb hs.tlt ht k, Nat.lt_of_lt_of_le hs.tlt k.size, ⟨setW_other hs.box.1 (.inl hm), setW_other hs.box.2 (.inl hb)⟩, ⟨by show _ = some (Value.string ((((vs ++ [v])[0]?).map (·.2)).getD ⟨#[]⟩)); rw [hof0, if_neg (by omega)]; exact setW_other q0 (.inr (by omega)), by show _ = some (Value.int .i64 (vN (vs ++ [v]) 1)); rw [hof1, if_pos hv.symm]; exact setW_same q1, by show _ = some (Value.int .i64 (vN (vs ++ [v]) 2)); rw [hof2, if_neg (by omega)]; exact setW_other q2 (.inr (by omega)), by show _ = some (Value.int .i64 (vN (vs ++ [v]) 3)); rw [hof3, if_neg (by omega)]; exact setW_other q3 (.inl hrc.symm)⟩, fun o ho => by rw [← hs.keep o ho]; exact setW_keep lr (by omega), fun o => by rw [setW_frozen lr]; exact hs.kfrz o, ⟨by rw [setW_frozen lr]; exact f0, by rw [setW_frozen lr]; exact f1, by rw [setW_frozen lr]; exact f2, by rw [setW_frozen lc]; exact f3⟩⟩, KbX.of k (.inl rfl)⟩
  | 2, _, hv =>
    refine (set_headTable_2 bm rb _ v.1 v.2 w lm lr hs.box.1 q2 f2).mono fun e w' ⟨e1, e2⟩ => ?_
    have e3 : w' = (setW w rb 2 (.int .i64 v.1) v.1 v.2) := e2
    subst e3
    have k := setW_kb w rb 2 (.int .i64 v.1) v.1 v.2
    have hof0 : (((vs ++ [v])[0]?).map (·.2)).getD ⟨#[]⟩ = if 0 = vs.length then v.2 else ((vs[0]?).map (·.2)).getD ⟨#[]⟩ := vT_get2 vs v 0
    have hof1 : vN (vs ++ [v]) 1 = if 1 = vs.length then v.1 else vN vs 1 := vN_app vs v 1
    have hof2 : vN (vs ++ [v]) 2 = if 2 = vs.length then v.1 else vN vs 2 := vN_app vs v 2
    have hof3 : vN (vs ++ [v]) 3 = if 3 = vs.length then v.1 else vN vs 3 := vN_app vs v 3
    exact ⟨e1, ⟨hs.old.trans (KbX.of k (.inr (.inl rfl))), hs.tab.kb hs.tlt ht k, Nat.lt_of_lt_of_le hs.tlt k.size, ⟨setW_other hs.box.1 (.inl hm), setW_other hs.box.2 (.inl hb)⟩, ⟨by show _ = some (Value.string ((((vs ++ [v])[0]?).map (·.2)).getD ⟨#[]⟩)); rw [hof0, if_neg (by omega)]; exact setW_other q0 (.inr (by omega)), by show _ = some (Value.int .i64 (vN (vs ++ [v]) 1)); rw [hof1, if_neg (by omega)]; exact setW_other q1 (.inr (by omega)), by show _ = some (Value.int .i64 (vN (vs ++ [v]) 2)); rw [hof2, if_pos hv.symm]; exact setW_same q2, by show _ = some (Value.int .i64 (vN (vs ++ [v]) 3)); rw [hof3, if_neg (by omega)]; exact setW_other q3 (.inl hrc.symm)⟩, fun o ho => by rw [← hs.keep o ho]; exact setW_keep lr (by omega), fun o => by rw [setW_frozen lr]; exact hs.kfrz o, ⟨by rw [setW_frozen lr]; exact f0, by rw [setW_frozen lr]; exact f1, by rw [setW_frozen lr]; exact f2, by rw [setW_frozen lc]; exact f3⟩⟩, KbX.of k (.inl rfl)⟩
  | 3, _, hv =>
    refine (set_headTable_3 bc cb _ v.1 v.2 w lb lc hs.box.2 q3 f3).mono fun e w' ⟨e1, e2⟩ => ?_
    have e3 : w' = (setW w cb 0 (.int .i64 v.1) v.1 v.2) := e2
    subst e3
    have k := setW_kb w cb 0 (.int .i64 v.1) v.1 v.2
    have hof0 : (((vs ++ [v])[0]?).map (·.2)).getD ⟨#[]⟩ = if 0 = vs.length then v.2 else ((vs[0]?).map (·.2)).getD ⟨#[]⟩ := vT_get2 vs v 0
    have hof1 : vN (vs ++ [v]) 1 = if 1 = vs.length then v.1 else vN vs 1 := vN_app vs v 1
    have hof2 : vN (vs ++ [v]) 2 = if 2 = vs.length then v.1 else vN vs 2 := vN_app vs v 2
    have hof3 : vN (vs ++ [v]) 3 = if 3 = vs.length then v.1 else vN vs 3 := vN_app vs v 3
    exact ⟨e1, ⟨hs.old.trans (KbX.of k (.inr (.inr rfl))), hs.tab.kb hs.tlt htc k, Nat.lt_of_lt_of_le hs.tlt k.size, ⟨setW_other hs.box.1 (.inl hmc), setW_other hs.box.2 (.inl hbc)⟩, ⟨by show _ = some (Value.string ((((vs ++ [v])[0]?).map (·.2)).getD ⟨#[]⟩)); rw [hof0, if_neg (by omega)]; exact setW_other q0 (.inl hrc), by show _ = some (Value.int .i64 (vN (vs ++ [v]) 1)); rw [hof1, if_neg (by omega)]; exact setW_other q1 (.inl hrc), by show _ = some (Value.int .i64 (vN (vs ++ [v]) 2)); rw [hof2, if_neg (by omega)]; exact setW_other q2 (.inl hrc), by show _ = some (Value.int .i64 (vN (vs ++ [v]) 3)); rw [hof3, if_pos hv.symm]; exact setW_same q3⟩, fun o ho => by rw [← hs.keep o ho]; exact (setW_kb _ _ _ _ _ _).cell lr hrc, fun o => by rw [setW_frozen lr]; exact hs.kfrz o, ⟨by rw [setW_frozen lr]; exact f0, by rw [setW_frozen lr]; exact f1, by rw [setW_frozen lr]; exact f2, by rw [setW_frozen lc]; exact f3⟩⟩, KbX.of k (.inr rfl)⟩
def rdHead (l : List UInt8) : HV := headOf (tabVs (headFDs 0 0) l)
theorem headRead_any (R rb cb : Nat) (tx : ByteArray) (a : Nat) (w : World) (h : HeadAt w rb cb (⟨#[]⟩, 0, 0, 0)) (hf : w.frozen? ⟨rb, 0, none⟩ = false ∧ w.frozen? ⟨rb, 1, none⟩ = false ∧ w.frozen? ⟨rb, 2, none⟩ = false ∧ w.frozen? ⟨cb, 0, none⟩ = false) (hr : RdAt R tx a w) (hne : rb ≠ R) (hnc : cb ≠ R) (hrc : rb ≠ cb) (ha : a ≤ tx.size) (htx : tx.size < 9223372036854775808) :
    Calls Tryz.prog 62 #[.pointer (some ⟨R, 0, none⟩), .slice (some ⟨w.heap.size + 1 + 1, 0, none⟩) 4 4] (headW rb cb w) fun e w' => e = .returned (.bool (tabOk (headFDs 0 0) (tx.data.toList.drop a))) ∧ (tabOk (headFDs 0 0) (tx.data.toList.drop a) = true → HeadAt w' rb cb (rdHead (tx.data.toList.drop a)) ∧ RdAt R tx (a + tabN (headFDs 0 0) (tx.data.toList.drop a)) w') ∧ KbX (fun x => x = R ∨ x = rb ∨ x = cb) w w' ∧ (∀ o, 3 ≤ o ∧ o < 6 → w'.cell? ⟨rb, o, none⟩ = w.cell? ⟨rb, o, none⟩) ∧ (∀ o, w'.frozen? ⟨rb, o, none⟩ = w.frozen? ⟨rb, o, none⟩) ∧ ∃ a', RdAt R tx a' w' := by
  have b := headW_below rb cb w
  have z := headW_size rb cb w
  have hR := hr.lt
  have lr := h.lt.1
  have lc := h.lt.2
  have S0 : HeadSt w R rb cb w.heap.size (w.heap.size + 1) (w.heap.size + 1 + 1) [] (headW rb cb w) := by
    obtain ⟨f0, f1, f2, f3⟩ := hf
    exact ⟨KbX.of (Kb.of (R := R) b) (.inl rfl), tabW2_tab _ _ _ _ _ _, by omega, tabW2_box _ _ _ _ _ _, h.below b, fun o ho => b.cell (by exact lr), fun o => b.frozen (by exact lr), ⟨by rw [b.frozen (by exact lr)]; exact f0, by rw [b.frozen (by exact lr)]; exact f1, by rw [b.frozen (by exact lr)]; exact f2, by rw [b.frozen (by exact lc)]; exact f3⟩⟩
  obtain ⟨g1, g2, g3⟩ := tab_sig (headFDs w.heap.size (w.heap.size + 1)) (headFDs 0 0) (tx.data.toList.drop a) rfl
  have := readX_any (headFDs w.heap.size (w.heap.size + 1)) (w.heap.size + 1 + 1) 4 R (fun x => x = rb ∨ x = cb) tx a (HeadSt w R rb cb w.heap.size (w.heap.size + 1) (w.heap.size + 1 + 1)) (HeadSt.ok hne hnc (by omega) (by omega) (by omega)) (by show 4 ≤ 64; omega) (fun vs w h => h.tab) (HeadSt.sets hrc (by omega) (by omega) (by omega) (by omega) (by omega) (by omega)) (headFD_senters _ _) (headFD_reads _ _) (headW rb cb w) S0 (hr.below b) ha htx
  rw [g1, g2, g3] at this
  exact this.mono fun e w' ⟨e1, e2, vs, a', s, r⟩ => ⟨e1, fun h => ⟨(e2 h).1.rcd, (e2 h).2⟩, s.old, s.keep, s.kfrz, a', r⟩
end Go.Proofs.YtgdopepghmjopaaGreatDoor
namespace Go.Proofs.YtgdopepghmjopaaGreatDoor
open Go.RowKit Go.Shelf
def tailOf (vs : List Val) : TV := (vN vs 0, vN vs 1)
structure TailSt (w0 : World) (R rb bm tb : Nat) (vs : List Val) (w : World) : Prop where
  old : KbX (fun x => x = R ∨ x = rb) w0 w
  tab : TabAt tb w (tailFDs bm)
  tlt : tb < w.heap.size
  box : w.cell? ⟨bm, 0, none⟩ = some (.pointer (some ⟨rb, 0, none⟩))
  rcd : TailAt w rb (tailOf vs)
  keep : ∀ o, o < 4 → w.cell? ⟨rb, o, none⟩ = w0.cell? ⟨rb, o, none⟩
  kfrz : ∀ o, w.frozen? ⟨rb, o, none⟩ = w0.frozen? ⟨rb, o, none⟩
  frz : w.frozen? ⟨rb, 4, none⟩ = false ∧ w.frozen? ⟨rb, 5, none⟩ = false
theorem TailSt.ok {w0 : World} {R rb bm tb : Nat} (hr : rb ≠ R) (hm : bm ≠ R) (ht : tb ≠ R) : StWX R (fun x => x = rb) (TailSt w0 R rb bm tb) := by
  refine ⟨fun vs w w' h k => ?_, fun vs w h x hx => ?_, fun h => hr h.symm⟩
  · have lr := h.rcd.lt
    have lm := lt_of_cell? h.box
    obtain ⟨q0, q1⟩ := h.rcd
    obtain ⟨f0, f1⟩ := h.frz
    exact ⟨h.old.trans (KbX.of k (.inl rfl)), h.tab.kb h.tlt ht k, Nat.lt_of_lt_of_le h.tlt k.size, by rw [k.cell lm hm]; exact h.box, ⟨by rw [k.cell lr hr]; exact q0, by rw [k.cell lr hr]; exact q1⟩, fun o ho => by rw [k.cell lr hr]; exact h.keep o ho, fun o => by rw [k.frozen lr hr]; exact h.kfrz o, ⟨by rw [k.frozen lr hr]; exact f0, by rw [k.frozen lr hr]; exact f1⟩⟩
  · 
    rw [hx]; exact h.rcd.lt
theorem TailSt.sets {w0 : World} {R rb bm tb : Nat} (hm : bm ≠ rb) (ht : tb ≠ rb) : ∀ i (h : i < (tailFDs bm).length) vs, vs.length = i → SetsX (tailFDs bm)[i] (fun x => x = rb) vs (TailSt w0 R rb bm tb) := by
  intro i hi vs hv v w hs
  have lr := hs.rcd.lt
  have lm := lt_of_cell? hs.box
  obtain ⟨q0, q1⟩ := hs.rcd
  obtain ⟨f0, f1⟩ := hs.frz
  match i, hi, hv with
  | 0, _, hv =>
    refine (set_tailTable_0 bm rb _ v.1 v.2 w lm lr hs.box q0 f0).mono fun e w' ⟨e1, e2⟩ => ?_
    have e3 : w' = (setW w rb 4 (.int .i64 v.1) v.1 v.2) := e2
    subst e3
    have k := setW_kb w rb 4 (.int .i64 v.1) v.1 v.2
    have hof0 : vN (vs ++ [v]) 0 = if 0 = vs.length then v.1 else vN vs 0 := vN_app vs v 0
    have hof1 : vN (vs ++ [v]) 1 = if 1 = vs.length then v.1 else vN vs 1 := vN_app vs v 1
    exact ⟨e1, ⟨hs.old.trans (KbX.of k (.inr rfl)), hs.tab.kb hs.tlt ht k, Nat.lt_of_lt_of_le hs.tlt k.size, setW_other hs.box (.inl hm), ⟨by show _ = some (Value.int .i64 (vN (vs ++ [v]) 0)); rw [hof0, if_pos hv.symm]; exact setW_same q0, by show _ = some (Value.int .i64 (vN (vs ++ [v]) 1)); rw [hof1, if_neg (by omega)]; exact setW_other q1 (.inr (by omega))⟩, fun o ho => by rw [← hs.keep o ho]; exact setW_keep lr (by omega), fun o => by rw [setW_frozen lr]; exact hs.kfrz o, ⟨by rw [setW_frozen lr]; exact f0, by rw [setW_frozen lr]; exact f1⟩⟩, KbX.of k (rfl)⟩
  | 1, _, hv =>
    refine (set_tailTable_1 bm rb _ v.1 v.2 w lm lr hs.box q1 f1).mono fun e w' ⟨e1, e2⟩ => ?_
    have e3 : w' = (setW w rb 5 (.int .i64 v.1) v.1 v.2) := e2
    subst e3
    have k := setW_kb w rb 5 (.int .i64 v.1) v.1 v.2
    have hof0 : vN (vs ++ [v]) 0 = if 0 = vs.length then v.1 else vN vs 0 := vN_app vs v 0
    have hof1 : vN (vs ++ [v]) 1 = if 1 = vs.length then v.1 else vN vs 1 := vN_app vs v 1
    exact ⟨e1, ⟨hs.old.trans (KbX.of k (.inr rfl)), hs.tab.kb hs.tlt ht k, Nat.lt_of_lt_of_le hs.tlt k.size, setW_other hs.box (.inl hm), ⟨by show _ = some (Value.int .i64 (vN (vs ++ [v]) 0)); rw [hof0, if_neg (by omega)]; exact setW_other q0 (.inr (by omega)), by show _ = some (Value.int .i64 (vN (vs ++ [v]) 1)); rw [hof1, if_pos hv.symm]; exact setW_same q1⟩, fun o ho => by rw [← hs.keep o ho]; exact setW_keep lr (by omega), fun o => by rw [setW_frozen lr]; exact hs.kfrz o, ⟨by rw [setW_frozen lr]; exact f0, by rw [setW_frozen lr]; exact f1⟩⟩, KbX.of k (rfl)⟩
def rdTail (l : List UInt8) : TV := tailOf (tabVs (tailFDs 0) l)
theorem tailRead_any (R rb : Nat) (tx : ByteArray) (a : Nat) (w : World) (h : TailAt w rb (0, 0)) (hf : w.frozen? ⟨rb, 4, none⟩ = false ∧ w.frozen? ⟨rb, 5, none⟩ = false) (hr : RdAt R tx a w) (hne : rb ≠ R) (ha : a ≤ tx.size) (htx : tx.size < 9223372036854775808) :
    Calls Tryz.prog 62 #[.pointer (some ⟨R, 0, none⟩), .slice (some ⟨w.heap.size + 1, 0, none⟩) 2 2] (tailW rb w) fun e w' => e = .returned (.bool (tabOk (tailFDs 0) (tx.data.toList.drop a))) ∧ (tabOk (tailFDs 0) (tx.data.toList.drop a) = true → TailAt w' rb (rdTail (tx.data.toList.drop a)) ∧ RdAt R tx (a + tabN (tailFDs 0) (tx.data.toList.drop a)) w') ∧ KbX (fun x => x = R ∨ x = rb) w w' ∧ (∀ o, o < 4 → w'.cell? ⟨rb, o, none⟩ = w.cell? ⟨rb, o, none⟩) ∧ (∀ o, w'.frozen? ⟨rb, o, none⟩ = w.frozen? ⟨rb, o, none⟩) ∧ ∃ a', RdAt R tx a' w' := by
  have b := tailW_below rb w
  have z := tailW_size rb w
  have hR := hr.lt
  have lr := h.lt
  have S0 : TailSt w R rb w.heap.size (w.heap.size + 1) [] (tailW rb w) := by
    obtain ⟨f0, f1⟩ := hf
    exact ⟨KbX.of (Kb.of (R := R) b) (.inl rfl), tabW_tab _ _ _ _, by omega, tabW_box _ _ _ _, h.below b, fun o ho => b.cell (by exact lr), fun o => b.frozen (by exact lr), ⟨by rw [b.frozen (by exact lr)]; exact f0, by rw [b.frozen (by exact lr)]; exact f1⟩⟩
  obtain ⟨g1, g2, g3⟩ := tab_sig (tailFDs w.heap.size) (tailFDs 0) (tx.data.toList.drop a) rfl
  have := readX_any (tailFDs w.heap.size) (w.heap.size + 1) 2 R (fun x => x = rb) tx a (TailSt w R rb w.heap.size (w.heap.size + 1)) (TailSt.ok hne (by omega) (by omega)) (by show 2 ≤ 64; omega) (fun vs w h => h.tab) (TailSt.sets (by omega) (by omega)) (tailFD_senters _) (tailFD_reads _) (tailW rb w) S0 (hr.below b) ha htx
  rw [g1, g2, g3] at this
  exact this.mono fun e w' ⟨e1, e2, vs, a', s, r⟩ => ⟨e1, fun h => ⟨(e2 h).1.rcd, (e2 h).2⟩, s.old, s.keep, s.kfrz, a', r⟩
end Go.Proofs.YtgdopepghmjopaaGreatDoor
