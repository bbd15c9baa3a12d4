import Derived.Test.YtaclbffacnoddaaGreatDoorPaPP2
import Derived.Test.YtaclbffacnoddaaGreatDoorPmMeta
namespace Go.Proofs.YtaclbffacnoddaaGreatDoor
open Go.RowKit Go.Shelf
/-- the i-th text of what was read -/
def vT (vs : List Val) (i : Nat) : ByteArray := (vs[i]?.map (·.2)).getD ⟨#[]⟩
theorem vT_app (vs : List Val) (v : Val) (i : Nat) : vT (vs ++ [v]) i = if i = vs.length then v.2 else vT vs i := by
  unfold vT
  rcases Nat.lt_trichotomy i vs.length with h | h | h
  · rw [List.getElem?_append_left h, if_neg (by omega)]
  · rw [List.getElem?_append_right (by omega), if_pos h, h]; simp
  · rw [List.getElem?_eq_none (by simp; omega), if_neg (by omega), List.getElem?_eq_none (by omega)]
structure MetaSt (w0 : World) (rb bx tb : Nat) (vs : List Val) (w : World) : Prop where
  old : Below w0.heap.size w0 w
  tab : TabAt tb w (metaFDs bx)
  tlt : tb < w.heap.size
  box : w.cell? ⟨bx, 0, none⟩ = some (.pointer (some ⟨rb, 0, none⟩))
  rcd : MetaAt w rb (vT vs 0) (vN vs)
  frz : ∀ o, o < 8 → w.frozen? ⟨rb, o, none⟩ = false
theorem MetaAt.lt {w : World} {rb : Nat} {st : ByteArray} {n : Nat → Int} (h : MetaAt w rb st n) : rb < w.heap.size := lt_of_cell? h.1
theorem MetaAt.kb {w w' : World} {R rb : Nat} {st : ByteArray} {n : Nat → Int} (h : MetaAt w rb st n) (hk : Kb R w w') (hn : rb ≠ R) : MetaAt w' rb st n := by
  have hl := h.lt
  exact ⟨by rw [hk.cell hl hn]; exact h.1, fun i h1 h2 => by rw [hk.cell hl hn]; exact h.2 i h1 h2⟩
theorem MetaSt.ok {w0 : World} {R rb bx tb : Nat} (hR : w0.heap.size ≤ R) (h1 : R ≠ rb) (h2 : bx ≠ R) (h3 : tb ≠ R) : StW R rb (MetaSt w0 rb bx tb) :=
  ⟨fun vs w w' h k => ⟨k.below h.old hR h.old.size, h.tab.kb h.tlt h3 k, Nat.lt_of_lt_of_le h.tlt k.size, by rw [k.cell (lt_of_cell? h.box) h2]; exact h.box, h.rcd.kb k h1.symm, fun o ho => by rw [k.frozen h.rcd.lt h1.symm]; exact h.frz o ho⟩, fun vs w h => h.rcd.lt, h1⟩
theorem metaSet {w0 w : World} {rb bx tb : Nat} {vs : List Val} {v : Val} {off : Nat} {x : Value} (h : MetaSt w0 rb bx tb vs w) (hl : w0.heap.size ≤ rb) (hb : bx ≠ rb) (ht : tb ≠ rb) (ho : off = vs.length) (hx : x = if off = 0 then .string v.2 else .int .i64 v.1) : MetaSt w0 rb bx tb (vs ++ [v]) (setW w rb off x v.1 v.2) ∧ Kb rb w (setW w rb off x v.1 v.2) := by
  have k := setW_kb w rb off x v.1 v.2
  refine ⟨⟨k.below h.old hl h.old.size, h.tab.kb h.tlt ht k, Nat.lt_of_lt_of_le h.tlt k.size, setW_other h.box (.inl hb), ?_, fun o ho => by rw [setW_frozen h.rcd.lt]; exact h.frz o ho⟩, k⟩
  obtain ⟨q0, q⟩ := h.rcd
  refine ⟨?_, fun i h1 h2 => ?_⟩
  · rw [vT_app, ← ho]
    by_cases hi : 0 = off
    · rw [if_pos hi]; subst hi; rw [if_pos rfl] at hx; subst hx; exact setW_same q0
    · rw [if_neg hi]; exact setW_other q0 (.inr hi)
  · rw [vN_app, ← ho]
    by_cases hi : i = off
    · rw [if_pos hi]; subst hi; rw [if_neg (by omega)] at hx; subst hx; exact setW_same (q i h1 h2)
    · rw [if_neg hi]; exact setW_other (q i h1 h2) (.inr hi)
theorem MetaSt.sets {w0 : World} {rb bx tb : Nat} (hl : w0.heap.size ≤ rb) (hb : bx ≠ rb) (ht : tb ≠ rb) : ∀ i (h : i < (metaFDs bx).length) vs, vs.length = i → SetsAs (metaFDs bx)[i] rb vs (MetaSt w0 rb bx tb) := by
  intro i hi vs hv v w hs
  have hx := lt_of_cell? hs.box
  have hr := hs.rcd.lt
  obtain ⟨q0, q⟩ := hs.rcd
  match i, hi, hv with
  | 0, _, hv => exact (set_metaTable_0 bx rb _ v.1 v.2 w hx hr hs.box q0 (hs.frz 0 (by omega))).mono fun e w' ⟨e1, e2⟩ => ⟨e1, by rw [e2]; exact metaSet hs hl hb ht hv.symm rfl⟩
  | 1, _, hv => exact (set_metaTable_1 bx rb _ v.1 v.2 w hx hr hs.box (q 1 (by omega) (by omega)) (hs.frz 1 (by omega))).mono fun e w' ⟨e1, e2⟩ => ⟨e1, by rw [e2]; exact metaSet hs hl hb ht hv.symm rfl⟩
  | 2, _, hv => exact (set_metaTable_2 bx rb _ v.1 v.2 w hx hr hs.box (q 2 (by omega) (by omega)) (hs.frz 2 (by omega))).mono fun e w' ⟨e1, e2⟩ => ⟨e1, by rw [e2]; exact metaSet hs hl hb ht hv.symm rfl⟩
  | 3, _, hv => exact (set_metaTable_3 bx rb _ v.1 v.2 w hx hr hs.box (q 3 (by omega) (by omega)) (hs.frz 3 (by omega))).mono fun e w' ⟨e1, e2⟩ => ⟨e1, by rw [e2]; exact metaSet hs hl hb ht hv.symm rfl⟩
  | 4, _, hv => exact (set_metaTable_4 bx rb _ v.1 v.2 w hx hr hs.box (q 4 (by omega) (by omega)) (hs.frz 4 (by omega))).mono fun e w' ⟨e1, e2⟩ => ⟨e1, by rw [e2]; exact metaSet hs hl hb ht hv.symm rfl⟩
  | 5, _, hv => exact (set_metaTable_5 bx rb _ v.1 v.2 w hx hr hs.box (q 5 (by omega) (by omega)) (hs.frz 5 (by omega))).mono fun e w' ⟨e1, e2⟩ => ⟨e1, by rw [e2]; exact metaSet hs hl hb ht hv.symm rfl⟩
  | 6, _, hv => exact (set_metaTable_6 bx rb _ v.1 v.2 w hx hr hs.box (q 6 (by omega) (by omega)) (hs.frz 6 (by omega))).mono fun e w' ⟨e1, e2⟩ => ⟨e1, by rw [e2]; exact metaSet hs hl hb ht hv.symm rfl⟩
  | 7, _, hv => exact (set_metaTable_7 bx rb _ v.1 v.2 w hx hr hs.box (q 7 (by omega) (by omega)) (hs.frz 7 (by omega))).mono fun e w' ⟨e1, e2⟩ => ⟨e1, by rw [e2]; exact metaSet hs hl hb ht hv.symm rfl⟩
theorem metaFD_senters (bx : Nat) : ∀ i (h : i < (metaFDs bx).length), Enters Tryz.prog (metaFDs bx)[i].sf := by
  intro i hi
  match i, hi with
  | 0, _ => exact enters_of Tryz.func34 (by kernel_rfl) rfl
  | 1, _ => exact enters_of Tryz.func36 (by kernel_rfl) rfl
  | 2, _ => exact enters_of Tryz.func38 (by kernel_rfl) rfl
  | 3, _ => exact enters_of Tryz.func40 (by kernel_rfl) rfl
  | 4, _ => exact enters_of Tryz.func42 (by kernel_rfl) rfl
  | 5, _ => exact enters_of Tryz.func44 (by kernel_rfl) rfl
  | 6, _ => exact enters_of Tryz.func46 (by kernel_rfl) rfl
  | 7, _ => exact enters_of Tryz.func48 (by kernel_rfl) rfl
theorem metaFD_reads (bx : Nat) : ∀ i (h : i < (metaFDs bx).length), ReadsAs (metaFDs bx)[i].sh := by
  intro i hi
  match i, hi with
  | 0, _ => exact reads_word
  | 1, _ => exact reads_num
  | 2, _ => exact reads_num
  | 3, _ => exact reads_num
  | 4, _ => exact reads_num
  | 5, _ => exact reads_num
  | 6, _ => exact reads_num
  | 7, _ => exact reads_num
/-- what ParseMeta answers -/
def metaVs (tx : ByteArray) : List Val := rpVs metaTitle tx (metaFDs 0)
def metaPE (tx : ByteArray) : Int := rpE metaTitle tx (metaFDs 0) (metaOk (vT (metaVs tx) 0) (vN (metaVs tx)))
def metaPT (tx : ByteArray) : ByteArray := if metaPE tx = 0 then vT (metaVs tx) 0 else ⟨#[]⟩
def metaPV (tx : ByteArray) (i : Nat) : Int := if metaPE tx = 0 then vN (metaVs tx) i else 0
theorem metaVs_size (tx : ByteArray) : (vT (metaVs tx) 0).size ≤ tx.size := by
  have e : vT (metaVs tx) 0 = strOf (fldW (metaFDs 0)[0] (tx.data.toList.drop metaTitle.size)) := rfl
  rw [e, strOf_size]
  unfold fldW
  refine Nat.le_trans (wordL_le _) ?_
  rw [List.length_drop, List.length_drop, size_data]
  omega
set_option maxHeartbeats 4000000 in
set_option maxRecDepth 100000 in
theorem parseMeta_any (tx : ByteArray) (w : World) (htx : tx.size < 9223372036854775808) (hT4 : Tab4 0 w) :
    Calls Tryz.prog 7 #[.string tx] w fun x w' => x = .returned (.tuple #[.agg (metaCells (metaPT tx) (metaPV tx)), .int .i64 (metaPE tx)]) ∧ Below w.heap.size w w' := by
  obtain ⟨Wr, hWr⟩ : ∃ Wr, Wr = w.alloc (.cells #[.string ⟨#[]⟩, .int .i64 0, .int .i64 0, .int .i64 0, .int .i64 0, .int .i64 0, .int .i64 0, .int .i64 0] 23) := ⟨_, rfl⟩
  have sr : Wr.heap.size = w.heap.size + 1 := by rw [hWr]; simp
  have br : Below w.heap.size w Wr := by rw [hWr]; exact (Below.refl _ w).alloc (Nat.le_refl _) _
  obtain ⟨W0, hW0⟩ : ∃ W0, W0 = Wr.alloc (.cells #[.string ⟨#[]⟩, .int .i64 0, .int .i64 0, .int .i64 0, .int .i64 0, .int .i64 0, .int .i64 0, .int .i64 0] 23) := ⟨_, rfl⟩
  have b0 : Below Wr.heap.size Wr W0 := by rw [hW0]; exact (Below.refl _ _).alloc (Nat.le_refl _) _
  have s0 : W0.heap.size = Wr.heap.size + 1 := by rw [hW0]; simp
  have r0 : MetaAt W0 Wr.heap.size (vT [] 0) (vN []) := by
    rw [hW0]
    refine ⟨by simp [vT], fun i h1 h2 => ?_⟩
    match i, h1, h2 with
    | 1, _, _ => simp [vN]
    | 2, _, _ => simp [vN]
    | 3, _, _ => simp [vN]
    | 4, _, _ => simp [vN]
    | 5, _, _ => simp [vN]
    | 6, _, _ => simp [vN]
    | 7, _, _ => simp [vN]
  have f0 : ∀ o, o < 8 → W0.frozen? ⟨Wr.heap.size, o, none⟩ = false := by
    rw [hW0]; intro o ho
    match o, ho with
    | 0, _ => simp
    | 1, _ => simp
    | 2, _ => simp
    | 3, _ => simp
    | 4, _ => simp
    | 5, _ => simp
    | 6, _ => simp
    | 7, _ => simp
  have T := hide (metaTable_any Wr.heap.size W0)
  obtain ⟨W1, hW1⟩ : ∃ W1, W1 = tabW 54 Wr.heap.size (metaFDs W0.heap.size) W0 := ⟨_, rfl⟩
  have b1 : Below W0.heap.size W0 W1 := by rw [hW1]; exact tabW_below _ _ _ _
  have s1 : W1.heap.size = W0.heap.size + 2 := by rw [hW1]; exact tabW_size _ _ _ _
  have S1 : MetaSt Wr Wr.heap.size W0.heap.size (W0.heap.size + 1) [] W1 := by
    refine ⟨b0.trans (b1.mono b0.size), by rw [hW1]; exact tabW_tab _ _ _ _, by omega, by rw [hW1]; exact tabW_box _ _ _ _, ?_, fun o ho => ?_⟩
    · exact r0.kb (Kb.of (R := W1.heap.size) b1) (by omega)
    · rw [b1.frozen (by show Wr.heap.size < _; omega)]; exact f0 o ho
  obtain ⟨gE, gV⟩ := rp_sig metaTitle tx (metaOk (vT (metaVs tx) 0) (vN (metaVs tx))) (show (metaFDs W0.heap.size).map FD.sig = (metaFDs 0).map FD.sig from rfl)
  have hT4r := hT4.below br hT4.lt
  have hmz := metaVs_size tx
  have C : Hid (Calls Tryz.prog 22 #[.string tx, .string metaTitle, .slice (some ⟨W0.heap.size + 1, 0, none⟩) 8 8] W1 fun e w' => e = .returned (.int .i64 (metaPE tx)) ∧ (metaPE tx = 0 → MetaSt Wr Wr.heap.size W0.heap.size (W0.heap.size + 1) (metaVs tx) w') ∧ ∃ vs, MetaSt Wr Wr.heap.size W0.heap.size (W0.heap.size + 1) vs w') := by
    have := readPaper_any metaTitle tx (W0.heap.size + 1) 8 Wr.heap.size (metaFDs W0.heap.size) (MetaSt Wr Wr.heap.size W0.heap.size (W0.heap.size + 1)) W1 (MetaSt.ok (by omega) (by omega) (by omega) (by omega)) (by show 8 ≤ 64; omega) (fun vs w h => ⟨h.tab, h.tlt⟩) (MetaSt.sets (Nat.le_refl _) (by omega) (by omega)) (metaFD_senters _) (metaFD_reads _) (metaFD_enters _) (metaN (vN (metaVs tx))) (metaT (vT (metaVs tx) 0)) (metaOkI (vT (metaVs tx) 0) (vN (metaVs tx)))
      (fun w' h => by rw [gV] at h; exact metaFD_gets _ _ _ _ w' (lt_of_cell? h.box) h.rcd.lt h.box h.rcd) (metaFD_allows _ _ _ (by omega)) S1 htx (fun vs w h => hT4r.below h.old hT4r.lt)
    rw [show allB (metaFDs W0.heap.size).length (metaOkI (vT (metaVs tx) 0) (vN (metaVs tx))) = metaOk (vT (metaVs tx) 0) (vN (metaVs tx)) from metaOk_all _ _, gE, gV] at this
    exact this
  have RS : Hid (∀ w', Below Wr.heap.size Wr w' → (w'.cell? ⟨w.heap.size, 0, none⟩ = some (.string ⟨#[]⟩) ∧ w'.cell? ⟨w.heap.size, 1, none⟩ = some (.int .i64 0) ∧ w'.cell? ⟨w.heap.size, 2, none⟩ = some (.int .i64 0) ∧ w'.cell? ⟨w.heap.size, 3, none⟩ = some (.int .i64 0) ∧ w'.cell? ⟨w.heap.size, 4, none⟩ = some (.int .i64 0) ∧ w'.cell? ⟨w.heap.size, 5, none⟩ = some (.int .i64 0) ∧ w'.cell? ⟨w.heap.size, 6, none⟩ = some (.int .i64 0) ∧ w'.cell? ⟨w.heap.size, 7, none⟩ = some (.int .i64 0)) ∧ (w'.frozen? ⟨w.heap.size, 0, none⟩ = false ∧ w'.frozen? ⟨w.heap.size, 1, none⟩ = false ∧ w'.frozen? ⟨w.heap.size, 2, none⟩ = false ∧ w'.frozen? ⟨w.heap.size, 3, none⟩ = false ∧ w'.frozen? ⟨w.heap.size, 4, none⟩ = false ∧ w'.frozen? ⟨w.heap.size, 5, none⟩ = false ∧ w'.frozen? ⟨w.heap.size, 6, none⟩ = false ∧ w'.frozen? ⟨w.heap.size, 7, none⟩ = false) ∧ w.heap.size < w'.heap.size) := fun w' hb => by
    have hl : w.heap.size < Wr.heap.size := by omega
    rw [hb.cell (by exact hl), hb.cell (by exact hl), hb.cell (by exact hl), hb.cell (by exact hl), hb.cell (by exact hl), hb.cell (by exact hl), hb.cell (by exact hl), hb.cell (by exact hl), hb.frozen (by exact hl), hb.frozen (by exact hl), hb.frozen (by exact hl), hb.frozen (by exact hl), hb.frozen (by exact hl), hb.frozen (by exact hl), hb.frozen (by exact hl), hb.frozen (by exact hl)]
    refine ⟨?_, ?_, Nat.lt_of_lt_of_le hl hb.size⟩
    · rw [hWr]; exact ⟨by simp, by simp, by simp, by simp, by simp, by simp, by simp, by simp⟩
    · rw [hWr]; exact ⟨by simp, by simp, by simp, by simp, by simp, by simp, by simp, by simp⟩
  have BR := hide br
  unfold metaTitle at C
  have hsr : Wr.heap.size = w.heap.size + 1 := sr
  rw [hsr] at T hW1
  clear gE gV hT4r S1 s1 b1 f0 r0 s0 b0 br hT4 sr hmz
  unfold metaCells
  have PV2 : Hid (metaPE tx = 0 → metaPT tx = vT (metaVs tx) 0 ∧ metaPV tx 1 = vN (metaVs tx) 1 ∧ metaPV tx 2 = vN (metaVs tx) 2 ∧ metaPV tx 3 = vN (metaVs tx) 3 ∧ metaPV tx 4 = vN (metaVs tx) 4 ∧ metaPV tx 5 = vN (metaVs tx) 5 ∧ metaPV tx 6 = vN (metaVs tx) 6 ∧ metaPV tx 7 = vN (metaVs tx) 7) := fun h => by
    unfold metaPT metaPV; simp only [if_pos h]; exact ⟨trivial, trivial, trivial, trivial, trivial, trivial, trivial, trivial⟩
  have PZ2 : Hid (¬ metaPE tx = 0 → metaPT tx = ⟨#[]⟩ ∧ metaPV tx 1 = 0 ∧ metaPV tx 2 = 0 ∧ metaPV tx 3 = 0 ∧ metaPV tx 4 = 0 ∧ metaPV tx 5 = 0 ∧ metaPV tx 6 = 0 ∧ metaPV tx 7 = 0) := fun h => by
    unfold metaPT metaPV; simp only [if_neg h]; exact ⟨trivial, trivial, trivial, trivial, trivial, trivial, trivial, trivial⟩
  generalize metaPE tx = PE at *
  generalize metaPT tx = A0 at *
  generalize metaPV tx 1 = A1 at *
  generalize metaPV tx 2 = A2 at *
  generalize metaPV tx 3 = A3 at *
  generalize metaPV tx 4 = A4 at *
  generalize metaPV tx 5 = A5 at *
  generalize metaPV tx 6 = A6 at *
  generalize metaPV tx 7 = A7 at *
  generalize metaVs tx = VS at *
  have HSR := hide hsr
  clear hsr
  by_cases hz : PE = 0
  · subst hz
    obtain ⟨p0, p1, p2, p3, p4, p5, p6, p7⟩ := PV2.out rfl
    go_enter Tryz.func7, Tryz.ntmps7
    go_wp2_with fail
    rw [← hWr, ← hW0]
    clear hWr hW0
    refine Calls.mono T.out ?_
    rintro x w2 ⟨rfl, rfl⟩
    rw [← hW1]
    clear hW1
    go_wp2_with fail
    refine Calls.mono C.out ?_
    rintro x w3 ⟨rfl, d1, d2⟩
    have s3 := d1 trivial
    obtain ⟨⟨z0, z1, z2, z3, z4, z5, z6, z7⟩, ⟨f0, f1, f2, f3, f4, f5, f6, f7⟩, hl3⟩ := RS.out w3 s3.old
    obtain ⟨q0, qq⟩ := s3.rcd
    rw [HSR.out, ← p0] at q0
    have q1 := qq 1 (by omega) (by omega)
    rw [HSR.out, ← p1] at q1
    have q2 := qq 2 (by omega) (by omega)
    rw [HSR.out, ← p2] at q2
    have q3 := qq 3 (by omega) (by omega)
    rw [HSR.out, ← p3] at q3
    have q4 := qq 4 (by omega) (by omega)
    rw [HSR.out, ← p4] at q4
    have q5 := qq 5 (by omega) (by omega)
    rw [HSR.out, ← p5] at q5
    have q6 := qq 6 (by omega) (by omega)
    rw [HSR.out, ← p6] at q6
    have q7 := qq 7 (by omega) (by omega)
    rw [HSR.out, ← p7] at q7
    have B3 := hide (BR.out.trans (s3.old.mono BR.out.size))
    clear qq d1 d2 C T RS p0 p1 p2 p3 p4 p5 p6 p7 PV2 PZ2 s3
    go_wp2_with fail
    refine bodyPost_ret (v := .tuple #[.agg #[.string A0, .int .i64 A1, .int .i64 A2, .int .i64 A3, .int .i64 A4, .int .i64 A5, .int .i64 A6, .int .i64 A7], .int .i64 0]) (by simp [results, Tryz.results7, go_sem, z0, z1, z2, z3, z4, z5, z6, z7]) rfl ⟨rfl, ?_⟩
    exact (((((((B3.out.setCell (Nat.le_refl _) _).setCell (Nat.le_refl _) _).setCell (Nat.le_refl _) _).setCell (Nat.le_refl _) _).setCell (Nat.le_refl _) _).setCell (Nat.le_refl _) _).setCell (Nat.le_refl _) _).setCell (Nat.le_refl _) _
  · obtain ⟨p0, p1, p2, p3, p4, p5, p6, p7⟩ := PZ2.out hz
    subst p0 p1 p2 p3 p4 p5 p6 p7
    have hz2 : (PE == 0) = false := by simpa using hz
    go_enter Tryz.func7, Tryz.ntmps7
    go_wp2_with fail
    rw [← hWr, ← hW0]
    clear hWr hW0
    refine Calls.mono T.out ?_
    rintro x w2 ⟨rfl, rfl⟩
    rw [← hW1]
    clear hW1
    go_wp2_with fail
    refine Calls.mono C.out ?_
    rintro x w3 ⟨rfl, d1, vs2, s3⟩
    obtain ⟨⟨z0, z1, z2, z3, z4, z5, z6, z7⟩, ⟨f0, f1, f2, f3, f4, f5, f6, f7⟩, hl3⟩ := RS.out w3 s3.old
    have B3 := hide (BR.out.trans (s3.old.mono BR.out.size))
    clear d1 C T RS PV2 PZ2 s3
    go_wp2_with fail
    refine bodyPost_ret (v := .tuple #[.agg #[.string ⟨#[]⟩, .int .i64 0, .int .i64 0, .int .i64 0, .int .i64 0, .int .i64 0, .int .i64 0, .int .i64 0], .int .i64 PE]) (by simp [results, Tryz.results7, go_sem, z0, z1, z2, z3, z4, z5, z6, z7]) rfl ⟨rfl, ?_⟩
    exact (((((((B3.out.setCell (Nat.le_refl _) _).setCell (Nat.le_refl _) _).setCell (Nat.le_refl _) _).setCell (Nat.le_refl _) _).setCell (Nat.le_refl _) _).setCell (Nat.le_refl _) _).setCell (Nat.le_refl _) _).setCell (Nat.le_refl _) _
end Go.Proofs.YtaclbffacnoddaaGreatDoor
