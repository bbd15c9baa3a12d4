import Derived.Test.YtfpalfpfijcpbaaGreatDoorGPaPtr
import Derived.Test.YtfpalfpfijcpbaaGreatDoorGPmAcc
import Derived.Test.YtfpalfpfijcpbaaGreatDoorGPaWrit
namespace Go.Proofs.YtfpalfpfijcpbaaGreatDoor
open Go.RowKit Go.Shelf
/-- the i-th text of what was read -/
def vT (vs : List Val) (i : Nat) : ByteArray := (vs[i]?.map (·.2)).getD ⟨#[]⟩
theorem vT_app (vs : List Val) (v : Val) (i : Nat) : vT (vs ++ [v]) i = if i = vs.length then v.2 else vT vs i := by
  unfold vT
  rcases Nat.lt_trichotomy i vs.length with h | h | h
  · rw [List.getElem?_append_left h, if_neg (by omega)]
  · rw [List.getElem?_append_right (by omega), if_pos h, h]; simp
  · rw [List.getElem?_eq_none (by simp; omega), if_neg (by omega), List.getElem?_eq_none (by omega)]
structure MetaSt (w0 : World) (rb bx tb : Nat) (vs : List Val) (w : World) : Prop where
  old : Below w0.heap.size w0 w
  tab : TabAt tb w (metaFDs bx)
  tlt : tb < w.heap.size
  box : w.cell? ⟨bx, 0, none⟩ = some (.pointer (some ⟨rb, 0, none⟩))
  rcd : MetaAt w rb (vT vs 0) (vN vs)
  frz : ∀ o, o < 8 → w.frozen? ⟨rb, o, none⟩ = false
theorem MetaAt.lt {w : World} {rb : Nat} {st : ByteArray} {n : Nat → Int} (h : MetaAt w rb st n) : rb < w.heap.size := lt_of_cell? h.1
theorem MetaAt.kb {w w' : World} {R rb : Nat} {st : ByteArray} {n : Nat → Int} (h : MetaAt w rb st n) (hk : Kb R w w') (hn : rb ≠ R) : MetaAt w' rb st n := by
  have hl := h.lt
  exact ⟨by rw [hk.cell hl hn]; exact h.1, fun i h1 h2 => by rw [hk.cell hl hn]; exact h.2 i h1 h2⟩
theorem MetaSt.ok {w0 : World} {R rb bx tb : Nat} (hR : w0.heap.size ≤ R) (h1 : R ≠ rb) (h2 : bx ≠ R) (h3 : tb ≠ R) : StW R rb (MetaSt w0 rb bx tb) :=
  ⟨fun vs w w' h k => ⟨k.below h.old hR h.old.size, h.tab.kb h.tlt h3 k, Nat.lt_of_lt_of_le h.tlt k.size, by rw [k.cell (lt_of_cell? h.box) h2]; exact h.box, h.rcd.kb k h1.symm, fun o ho => by rw [k.frozen h.rcd.lt h1.symm]; exact h.frz o ho⟩, fun vs w h => h.rcd.lt, h1⟩
theorem metaSet {w0 w : World} {rb bx tb : Nat} {vs : List Val} {v : Val} {off : Nat} {x : Value} (h : MetaSt w0 rb bx tb vs w) (hl : w0.heap.size ≤ rb) (hb : bx ≠ rb) (ht : tb ≠ rb) (ho : off = vs.length) (hx : x = if off = 0 then .string v.2 else .int .i64 v.1) : MetaSt w0 rb bx tb (vs ++ [v]) (setW w rb off x v.1 v.2) ∧ Kb rb w (setW w rb off x v.1 v.2) := by
  have k := setW_kb w rb off x v.1 v.2
  refine ⟨⟨k.below h.old hl h.old.size, h.tab.kb h.tlt ht k, Nat.lt_of_lt_of_le h.tlt k.size, setW_other h.box (.inl hb), ?_, fun o ho => by rw [setW_frozen h.rcd.lt]; exact h.frz o ho⟩, k⟩
  obtain ⟨q0, q⟩ := h.rcd
  refine ⟨?_, fun i h1 h2 => ?_⟩
  · rw [vT_app, ← ho]
    by_cases hi : 0 = off
    · rw [if_pos hi]; subst hi; rw [if_pos rfl] at hx; subst hx; exact setW_same q0
    · rw [if_neg hi]; exact setW_other q0 (.inr hi)
  · rw [vN_app, ← ho]
    by_cases hi : i = off
    · rw [if_pos hi]; subst hi; rw [if_neg (by omega)] at hx; subst hx; exact setW_same (q i h1 h2)
    · rw [if_neg hi]; exact setW_other (q i h1 h2) (.inr hi)
theorem MetaSt.sets {w0 : World} {rb bx tb : Nat} (hl : w0.heap.size ≤ rb) (hb : bx ≠ rb) (ht : tb ≠ rb) : ∀ i (h : i < (metaFDs bx).length) vs, vs.length = i → SetsAs (metaFDs bx)[i] rb vs (MetaSt w0 rb bx tb) := by
  intro i hi vs hv v w hs
  have hx := lt_of_cell? hs.box
  have hr := hs.rcd.lt
  obtain ⟨q0, q⟩ := hs.rcd
  match i, hi, hv with
  | 0, _, hv => exact (set_metaTable_0 bx rb _ v.1 v.2 w hx hr hs.box q0 (hs.frz 0 (by omega))).mono fun e w' ⟨e1, e2⟩ => ⟨e1, by rw [e2]; exact metaSet hs hl hb ht hv.symm rfl⟩
  | 1, _, hv => exact (set_metaTable_1 bx rb _ v.1 v.2 w hx hr hs.box (q 1 (by omega) (by omega)) (hs.frz 1 (by omega))).mono fun e w' ⟨e1, e2⟩ => ⟨e1, by rw [e2]; exact metaSet hs hl hb ht hv.symm rfl⟩
  | 2, _, hv => exact (set_metaTable_2 bx rb _ v.1 v.2 w hx hr hs.box (q 2 (by omega) (by omega)) (hs.frz 2 (by omega))).mono fun e w' ⟨e1, e2⟩ => ⟨e1, by rw [e2]; exact metaSet hs hl hb ht hv.symm rfl⟩
  | 3, _, hv => exact (set_metaTable_3 bx rb _ v.1 v.2 w hx hr hs.box (q 3 (by omega) (by omega)) (hs.frz 3 (by omega))).mono fun e w' ⟨e1, e2⟩ => ⟨e1, by rw [e2]; exact metaSet hs hl hb ht hv.symm rfl⟩
  | 4, _, hv => exact (set_metaTable_4 bx rb _ v.1 v.2 w hx hr hs.box (q 4 (by omega) (by omega)) (hs.frz 4 (by omega))).mono fun e w' ⟨e1, e2⟩ => ⟨e1, by rw [e2]; exact metaSet hs hl hb ht hv.symm rfl⟩
  | 5, _, hv => exact (set_metaTable_5 bx rb _ v.1 v.2 w hx hr hs.box (q 5 (by omega) (by omega)) (hs.frz 5 (by omega))).mono fun e w' ⟨e1, e2⟩ => ⟨e1, by rw [e2]; exact metaSet hs hl hb ht hv.symm rfl⟩
  | 6, _, hv => exact (set_metaTable_6 bx rb _ v.1 v.2 w hx hr hs.box (q 6 (by omega) (by omega)) (hs.frz 6 (by omega))).mono fun e w' ⟨e1, e2⟩ => ⟨e1, by rw [e2]; exact metaSet hs hl hb ht hv.symm rfl⟩
  | 7, _, hv => exact (set_metaTable_7 bx rb _ v.1 v.2 w hx hr hs.box (q 7 (by omega) (by omega)) (hs.frz 7 (by omega))).mono fun e w' ⟨e1, e2⟩ => ⟨e1, by rw [e2]; exact metaSet hs hl hb ht hv.symm rfl⟩
theorem metaFD_senters (bx : Nat) : ∀ i (h : i < (metaFDs bx).length), Enters Tryz.prog (metaFDs bx)[i].sf := by
  intro i hi
  match i, hi with
  | 0, _ => exact enters_of Tryz.func64 (by kernel_rfl) rfl
  | 1, _ => exact enters_of Tryz.func66 (by kernel_rfl) rfl
  | 2, _ => exact enters_of Tryz.func68 (by kernel_rfl) rfl
  | 3, _ => exact enters_of Tryz.func70 (by kernel_rfl) rfl
  | 4, _ => exact enters_of Tryz.func72 (by kernel_rfl) rfl
  | 5, _ => exact enters_of Tryz.func74 (by kernel_rfl) rfl
  | 6, _ => exact enters_of Tryz.func76 (by kernel_rfl) rfl
  | 7, _ => exact enters_of Tryz.func78 (by kernel_rfl) rfl
theorem metaFD_reads (bx : Nat) : ∀ i (h : i < (metaFDs bx).length), ReadsAs (metaFDs bx)[i].sh := by
  intro i hi
  match i, hi with
  | 0, _ => exact reads_word
  | 1, _ => exact reads_num
  | 2, _ => exact reads_num
  | 3, _ => exact reads_num
  | 4, _ => exact reads_num
  | 5, _ => exact reads_num
  | 6, _ => exact reads_num
  | 7, _ => exact reads_num
/-- what ParseMeta answers -/
def metaVs (tx : ByteArray) : List Val := rpVs metaTitle tx (metaFDs 0)
def metaPE (tx : ByteArray) : Int := rpE metaTitle tx (metaFDs 0) (metaOk (vT (metaVs tx) 0) (vN (metaVs tx)))
def metaPT (tx : ByteArray) : ByteArray := if metaPE tx = 0 then vT (metaVs tx) 0 else ⟨#[]⟩
def metaPV (tx : ByteArray) (i : Nat) : Int := if metaPE tx = 0 then vN (metaVs tx) i else 0
theorem metaVs_size (tx : ByteArray) : (vT (metaVs tx) 0).size ≤ tx.size := by
  have e : vT (metaVs tx) 0 = strOf (fldW (metaFDs 0)[0] (tx.data.toList.drop metaTitle.size)) := rfl
  rw [e, strOf_size]
  unfold fldW
  refine Nat.le_trans (wordL_le _) ?_
  rw [List.length_drop, List.length_drop, size_data]
  omega
set_option maxHeartbeats 4000000 in
set_option maxRecDepth 100000 in
theorem parseMeta_any (tx : ByteArray) (w : World) (htx : tx.size < 9223372036854775808) (hT4 : Tab4 0 w) :
    Calls Tryz.prog 11 #[.string tx] w fun x w' => x = .returned (.tuple #[.agg (metaCells (metaPT tx) (metaPV tx)), .int .i64 (metaPE tx)]) ∧ Below w.heap.size w w' := by
  obtain ⟨Wr, hWr⟩ : ∃ Wr, Wr = w.alloc (.cells #[.string ⟨#[]⟩, .int .i64 0, .int .i64 0, .int .i64 0, .int .i64 0, .int .i64 0, .int .i64 0, .int .i64 0] 23) := ⟨_, rfl⟩
  have sr : Wr.heap.size = w.heap.size + 1 := by rw [hWr]; simp
  have br : Below w.heap.size w Wr := by rw [hWr]; exact (Below.refl _ w).alloc (Nat.le_refl _) _
  obtain ⟨W0, hW0⟩ : ∃ W0, W0 = Wr.alloc (.cells #[.string ⟨#[]⟩, .int .i64 0, .int .i64 0, .int .i64 0, .int .i64 0, .int .i64 0, .int .i64 0, .int .i64 0] 23) := ⟨_, rfl⟩
  have b0 : Below Wr.heap.size Wr W0 := by rw [hW0]; exact (Below.refl _ _).alloc (Nat.le_refl _) _
  have s0 : W0.heap.size = Wr.heap.size + 1 := by rw [hW0]; simp
  have r0 : MetaAt W0 Wr.heap.size (vT [] 0) (vN []) := by
    rw [hW0]
    refine ⟨by simp [vT], fun i h1 h2 => ?_⟩
    match i, h1, h2 with
    | 1, _, _ => simp [vN]
    | 2, _, _ => simp [vN]
    | 3, _, _ => simp [vN]
    | 4, _, _ => simp [vN]
    | 5, _, _ => simp [vN]
    | 6, _, _ => simp [vN]
    | 7, _, _ => simp [vN]
  have f0 : ∀ o, o < 8 → W0.frozen? ⟨Wr.heap.size, o, none⟩ = false := by
    rw [hW0]; intro o ho
    match o, ho with
    | 0, _ => simp
    | 1, _ => simp
    | 2, _ => simp
    | 3, _ => simp
    | 4, _ => simp
    | 5, _ => simp
    | 6, _ => simp
    | 7, _ => simp
  have T := hide (metaTable_any Wr.heap.size W0)
  obtain ⟨W1, hW1⟩ : ∃ W1, W1 = tabW 75 Wr.heap.size (metaFDs W0.heap.size) W0 := ⟨_, rfl⟩
  have b1 : Below W0.heap.size W0 W1 := by rw [hW1]; exact tabW_below _ _ _ _
  have s1 : W1.heap.size = W0.heap.size + 2 := by rw [hW1]; exact tabW_size _ _ _ _
  have S1 : MetaSt Wr Wr.heap.size W0.heap.size (W0.heap.size + 1) [] W1 := by
    refine ⟨b0.trans (b1.mono b0.size), by rw [hW1]; exact tabW_tab _ _ _ _, by omega, by rw [hW1]; exact tabW_box _ _ _ _, ?_, fun o ho => ?_⟩
    · exact r0.kb (Kb.of (R := W1.heap.size) b1) (by omega)
    · rw [b1.frozen (by show Wr.heap.size < _; omega)]; exact f0 o ho
  obtain ⟨gE, gV⟩ := rp_sig metaTitle tx (metaOk (vT (metaVs tx) 0) (vN (metaVs tx))) (show (metaFDs W0.heap.size).map FD.sig = (metaFDs 0).map FD.sig from rfl)
  have hT4r := hT4.below br hT4.lt
  have hmz := metaVs_size tx
  have C : Hid (Calls Tryz.prog 36 #[.string tx, .string metaTitle, .slice (some ⟨W0.heap.size + 1, 0, none⟩) 8 8] W1 fun e w' => e = .returned (.int .i64 (metaPE tx)) ∧ (metaPE tx = 0 → MetaSt Wr Wr.heap.size W0.heap.size (W0.heap.size + 1) (metaVs tx) w') ∧ ∃ vs, MetaSt Wr Wr.heap.size W0.heap.size (W0.heap.size + 1) vs w') := by
    have := readPaper_any metaTitle tx (W0.heap.size + 1) 8 Wr.heap.size (metaFDs W0.heap.size) (MetaSt Wr Wr.heap.size W0.heap.size (W0.heap.size + 1)) W1 (MetaSt.ok (by omega) (by omega) (by omega) (by omega)) (by show 8 ≤ 64; omega) (fun vs w h => ⟨h.tab, h.tlt⟩) (MetaSt.sets (Nat.le_refl _) (by omega) (by omega)) (metaFD_senters _) (metaFD_reads _) (metaFD_enters _) (metaN (vN (metaVs tx))) (metaT (vT (metaVs tx) 0)) (metaOkI (vT (metaVs tx) 0) (vN (metaVs tx)))
      (fun w' h => by rw [gV] at h; exact metaFD_gets _ _ _ _ w' (lt_of_cell? h.box) h.rcd.lt h.box h.rcd) (metaFD_allows _ _ _ (by omega)) S1 htx (fun vs w h => hT4r.below h.old hT4r.lt)
    rw [show allB (metaFDs W0.heap.size).length (metaOkI (vT (metaVs tx) 0) (vN (metaVs tx))) = metaOk (vT (metaVs tx) 0) (vN (metaVs tx)) from metaOk_all _ _, gE, gV] at this
    exact this
  have RS : Hid (∀ w', Below Wr.heap.size Wr w' → (w'.cell? ⟨w.heap.size, 0, none⟩ = some (.string ⟨#[]⟩) ∧ w'.cell? ⟨w.heap.size, 1, none⟩ = some (.int .i64 0) ∧ w'.cell? ⟨w.heap.size, 2, none⟩ = some (.int .i64 0) ∧ w'.cell? ⟨w.heap.size, 3, none⟩ = some (.int .i64 0) ∧ w'.cell? ⟨w.heap.size, 4, none⟩ = some (.int .i64 0) ∧ w'.cell? ⟨w.heap.size, 5, none⟩ = some (.int .i64 0) ∧ w'.cell? ⟨w.heap.size, 6, none⟩ = some (.int .i64 0) ∧ w'.cell? ⟨w.heap.size, 7, none⟩ = some (.int .i64 0)) ∧ (w'.frozen? ⟨w.heap.size, 0, none⟩ = false ∧ w'.frozen? ⟨w.heap.size, 1, none⟩ = false ∧ w'.frozen? ⟨w.heap.size, 2, none⟩ = false ∧ w'.frozen? ⟨w.heap.size, 3, none⟩ = false ∧ w'.frozen? ⟨w.heap.size, 4, none⟩ = false ∧ w'.frozen? ⟨w.heap.size, 5, none⟩ = false ∧ w'.frozen? ⟨w.heap.size, 6, none⟩ = false ∧ w'.frozen? ⟨w.heap.size, 7, none⟩ = false) ∧ w.heap.size < w'.heap.size) := fun w' hb => by
    have hl : w.heap.size < Wr.heap.size := by omega
    rw [hb.cell (by exact hl), hb.cell (by exact hl), hb.cell (by exact hl), hb.cell (by exact hl), hb.cell (by exact hl), hb.cell (by exact hl), hb.cell (by exact hl), hb.cell (by exact hl), hb.frozen (by exact hl), hb.frozen (by exact hl), hb.frozen (by exact hl), hb.frozen (by exact hl), hb.frozen (by exact hl), hb.frozen (by exact hl), hb.frozen (by exact hl), hb.frozen (by exact hl)]
    refine ⟨?_, ?_, Nat.lt_of_lt_of_le hl hb.size⟩
    · rw [hWr]; exact ⟨by simp, by simp, by simp, by simp, by simp, by simp, by simp, by simp⟩
    · rw [hWr]; exact ⟨by simp, by simp, by simp, by simp, by simp, by simp, by simp, by simp⟩
  have BR := hide br
  unfold metaTitle at C
  have hsr : Wr.heap.size = w.heap.size + 1 := sr
  rw [hsr] at T hW1
  clear gE gV hT4r S1 s1 b1 f0 r0 s0 b0 br hT4 sr hmz
  unfold metaCells
  have PV2 : Hid (metaPE tx = 0 → metaPT tx = vT (metaVs tx) 0 ∧ metaPV tx 1 = vN (metaVs tx) 1 ∧ metaPV tx 2 = vN (metaVs tx) 2 ∧ metaPV tx 3 = vN (metaVs tx) 3 ∧ metaPV tx 4 = vN (metaVs tx) 4 ∧ metaPV tx 5 = vN (metaVs tx) 5 ∧ metaPV tx 6 = vN (metaVs tx) 6 ∧ metaPV tx 7 = vN (metaVs tx) 7) := fun h => by
    unfold metaPT metaPV; simp only [if_pos h]; exact ⟨trivial, trivial, trivial, trivial, trivial, trivial, trivial, trivial⟩
  have PZ2 : Hid (¬ metaPE tx = 0 → metaPT tx = ⟨#[]⟩ ∧ metaPV tx 1 = 0 ∧ metaPV tx 2 = 0 ∧ metaPV tx 3 = 0 ∧ metaPV tx 4 = 0 ∧ metaPV tx 5 = 0 ∧ metaPV tx 6 = 0 ∧ metaPV tx 7 = 0) := fun h => by
    unfold metaPT metaPV; simp only [if_neg h]; exact ⟨trivial, trivial, trivial, trivial, trivial, trivial, trivial, trivial⟩
  generalize metaPE tx = PE at *
  generalize metaPT tx = A0 at *
  generalize metaPV tx 1 = A1 at *
  generalize metaPV tx 2 = A2 at *
  generalize metaPV tx 3 = A3 at *
  generalize metaPV tx 4 = A4 at *
  generalize metaPV tx 5 = A5 at *
  generalize metaPV tx 6 = A6 at *
  generalize metaPV tx 7 = A7 at *
  generalize metaVs tx = VS at *
  have HSR := hide hsr
  clear hsr
  by_cases hz : PE = 0
  · subst hz
    obtain ⟨p0, p1, p2, p3, p4, p5, p6, p7⟩ := PV2.out rfl
    go_enter Tryz.func11, Tryz.ntmps11
    go_wp2_with fail
    rw [← hWr, ← hW0]
    clear hWr hW0
    refine Calls.mono T.out ?_
    rintro x w2 ⟨rfl, rfl⟩
    rw [← hW1]
    clear hW1
    go_wp2_with fail
    refine Calls.mono C.out ?_
    rintro x w3 ⟨rfl, d1, d2⟩
    have s3 := d1 trivial
    obtain ⟨⟨z0, z1, z2, z3, z4, z5, z6, z7⟩, ⟨f0, f1, f2, f3, f4, f5, f6, f7⟩, hl3⟩ := RS.out w3 s3.old
    obtain ⟨q0, qq⟩ := s3.rcd
    rw [HSR.out, ← p0] at q0
    have q1 := qq 1 (by omega) (by omega)
    rw [HSR.out, ← p1] at q1
    have q2 := qq 2 (by omega) (by omega)
    rw [HSR.out, ← p2] at q2
    have q3 := qq 3 (by omega) (by omega)
    rw [HSR.out, ← p3] at q3
    have q4 := qq 4 (by omega) (by omega)
    rw [HSR.out, ← p4] at q4
    have q5 := qq 5 (by omega) (by omega)
    rw [HSR.out, ← p5] at q5
    have q6 := qq 6 (by omega) (by omega)
    rw [HSR.out, ← p6] at q6
    have q7 := qq 7 (by omega) (by omega)
    rw [HSR.out, ← p7] at q7
    have B3 := hide (BR.out.trans (s3.old.mono BR.out.size))
    clear qq d1 d2 C T RS p0 p1 p2 p3 p4 p5 p6 p7 PV2 PZ2 s3
    go_wp2_with fail
    refine bodyPost_ret (v := .tuple #[.agg #[.string A0, .int .i64 A1, .int .i64 A2, .int .i64 A3, .int .i64 A4, .int .i64 A5, .int .i64 A6, .int .i64 A7], .int .i64 0]) (by simp [results, Tryz.results11, go_sem, z0, z1, z2, z3, z4, z5, z6, z7]) rfl ⟨rfl, ?_⟩
    exact (((((((B3.out.setCell (Nat.le_refl _) _).setCell (Nat.le_refl _) _).setCell (Nat.le_refl _) _).setCell (Nat.le_refl _) _).setCell (Nat.le_refl _) _).setCell (Nat.le_refl _) _).setCell (Nat.le_refl _) _).setCell (Nat.le_refl _) _
  · obtain ⟨p0, p1, p2, p3, p4, p5, p6, p7⟩ := PZ2.out hz
    subst p0 p1 p2 p3 p4 p5 p6 p7
    have hz2 : (PE == 0) = false := by simpa using hz
    go_enter Tryz.func11, Tryz.ntmps11
    go_wp2_with fail
    rw [← hWr, ← hW0]
    clear hWr hW0
    refine Calls.mono T.out ?_
    rintro x w2 ⟨rfl, rfl⟩
    rw [← hW1]
    clear hW1
    go_wp2_with fail
    refine Calls.mono C.out ?_
    rintro x w3 ⟨rfl, d1, vs2, s3⟩
    obtain ⟨⟨z0, z1, z2, z3, z4, z5, z6, z7⟩, ⟨f0, f1, f2, f3, f4, f5, f6, f7⟩, hl3⟩ := RS.out w3 s3.old
    have B3 := hide (BR.out.trans (s3.old.mono BR.out.size))
    clear d1 C T RS PV2 PZ2 s3
    go_wp2_with fail
    refine bodyPost_ret (v := .tuple #[.agg #[.string ⟨#[]⟩, .int .i64 0, .int .i64 0, .int .i64 0, .int .i64 0, .int .i64 0, .int .i64 0, .int .i64 0], .int .i64 PE]) (by simp [results, Tryz.results11, go_sem, z0, z1, z2, z3, z4, z5, z6, z7]) rfl ⟨rfl, ?_⟩
    exact (((((((B3.out.setCell (Nat.le_refl _) _).setCell (Nat.le_refl _) _).setCell (Nat.le_refl _) _).setCell (Nat.le_refl _) _).setCell (Nat.le_refl _) _).setCell (Nat.le_refl _) _).setCell (Nat.le_refl _) _).setCell (Nat.le_refl _) _
end Go.Proofs.YtfpalfpfijcpbaaGreatDoor
namespace Go.Proofs.YtfpalfpfijcpbaaGreatDoor
open Go.RowKit Go.Shelf
set_option maxHeartbeats 1000000 in
set_option maxRecDepth 100000 in
theorem get_noteTable_0 (bx rb : Nat) (n : Int) (w : World) (hx : bx < w.heap.size) (hr : rb < w.heap.size) (h1 : w.cell? ⟨bx, 0, none⟩ = some (.pointer (some ⟨rb, 0, none⟩))) (h2 : w.cell? ⟨rb, 0, none⟩ = some (.int .i64 n)) :
    Calls Tryz.prog 87 #[.pointer (some ⟨bx, 0, none⟩)] w fun e w' => e = .returned (.agg #[.int .i64 n, .string ⟨#[]⟩]) ∧ Below w.heap.size w w' := by
  go_enter Tryz.func87, Tryz.ntmps87
  go_wp2
  exact bodyPost_ret (v := .agg #[.int .i64 n, .string ⟨#[]⟩]) (by simp [results, Tryz.results87, go_sem]) rfl ⟨rfl, (Below.refl _ _).alloc (Nat.le_refl _) _⟩
set_option maxHeartbeats 1000000 in
set_option maxRecDepth 100000 in
theorem set_noteTable_0 (bx rb : Nat) (n : Int) (m : Int) (t : ByteArray) (w : World) (hx : bx < w.heap.size) (hr : rb < w.heap.size) (h1 : w.cell? ⟨bx, 0, none⟩ = some (.pointer (some ⟨rb, 0, none⟩))) (h2 : w.cell? ⟨rb, 0, none⟩ = some (.int .i64 n)) (h3 : w.frozen? ⟨rb, 0, none⟩ = false) :
    Calls Tryz.prog 88 #[.agg #[.int .i64 m, .string t], .pointer (some ⟨bx, 0, none⟩)] w fun e w' => e = .returned (.tuple #[]) ∧ w' = (w.setCell ⟨rb, 0, none⟩ (.int .i64 m)).alloc (.cells #[.int .i64 m, .string t] 120) := by
  go_enter Tryz.func88, Tryz.ntmps88
  go_wp2
  go_end0
  exact ⟨rfl, rfl⟩
set_option maxHeartbeats 1000000 in
set_option maxRecDepth 100000 in
theorem get_noteTable_1 (bx rb : Nat) (n : Int) (w : World) (hx : bx < w.heap.size) (hr : rb < w.heap.size) (h1 : w.cell? ⟨bx, 0, none⟩ = some (.pointer (some ⟨rb, 0, none⟩))) (h2 : w.cell? ⟨rb, 1, none⟩ = some (.int .i64 n)) :
    Calls Tryz.prog 89 #[.pointer (some ⟨bx, 0, none⟩)] w fun e w' => e = .returned (.agg #[.int .i64 n, .string ⟨#[]⟩]) ∧ Below w.heap.size w w' := by
  go_enter Tryz.func89, Tryz.ntmps89
  go_wp2
  exact bodyPost_ret (v := .agg #[.int .i64 n, .string ⟨#[]⟩]) (by simp [results, Tryz.results89, go_sem]) rfl ⟨rfl, (Below.refl _ _).alloc (Nat.le_refl _) _⟩
set_option maxHeartbeats 1000000 in
set_option maxRecDepth 100000 in
theorem set_noteTable_1 (bx rb : Nat) (n : Int) (m : Int) (t : ByteArray) (w : World) (hx : bx < w.heap.size) (hr : rb < w.heap.size) (h1 : w.cell? ⟨bx, 0, none⟩ = some (.pointer (some ⟨rb, 0, none⟩))) (h2 : w.cell? ⟨rb, 1, none⟩ = some (.int .i64 n)) (h3 : w.frozen? ⟨rb, 1, none⟩ = false) :
    Calls Tryz.prog 90 #[.agg #[.int .i64 m, .string t], .pointer (some ⟨bx, 0, none⟩)] w fun e w' => e = .returned (.tuple #[]) ∧ w' = (w.setCell ⟨rb, 1, none⟩ (.int .i64 m)).alloc (.cells #[.int .i64 m, .string t] 120) := by
  go_enter Tryz.func90, Tryz.ntmps90
  go_wp2
  go_end0
  exact ⟨rfl, rfl⟩
set_option maxHeartbeats 1000000 in
set_option maxRecDepth 100000 in
theorem get_noteTable_2 (bx rb : Nat) (n : Int) (w : World) (hx : bx < w.heap.size) (hr : rb < w.heap.size) (h1 : w.cell? ⟨bx, 0, none⟩ = some (.pointer (some ⟨rb, 0, none⟩))) (h2 : w.cell? ⟨rb, 2, none⟩ = some (.int .i64 n)) :
    Calls Tryz.prog 91 #[.pointer (some ⟨bx, 0, none⟩)] w fun e w' => e = .returned (.agg #[.int .i64 n, .string ⟨#[]⟩]) ∧ Below w.heap.size w w' := by
  go_enter Tryz.func91, Tryz.ntmps91
  go_wp2
  exact bodyPost_ret (v := .agg #[.int .i64 n, .string ⟨#[]⟩]) (by simp [results, Tryz.results91, go_sem]) rfl ⟨rfl, (Below.refl _ _).alloc (Nat.le_refl _) _⟩
set_option maxHeartbeats 1000000 in
set_option maxRecDepth 100000 in
theorem set_noteTable_2 (bx rb : Nat) (n : Int) (m : Int) (t : ByteArray) (w : World) (hx : bx < w.heap.size) (hr : rb < w.heap.size) (h1 : w.cell? ⟨bx, 0, none⟩ = some (.pointer (some ⟨rb, 0, none⟩))) (h2 : w.cell? ⟨rb, 2, none⟩ = some (.int .i64 n)) (h3 : w.frozen? ⟨rb, 2, none⟩ = false) :
    Calls Tryz.prog 92 #[.agg #[.int .i64 m, .string t], .pointer (some ⟨bx, 0, none⟩)] w fun e w' => e = .returned (.tuple #[]) ∧ w' = (w.setCell ⟨rb, 2, none⟩ (.int .i64 m)).alloc (.cells #[.int .i64 m, .string t] 120) := by
  go_enter Tryz.func92, Tryz.ntmps92
  go_wp2
  go_end0
  exact ⟨rfl, rfl⟩
set_option maxHeartbeats 1000000 in
set_option maxRecDepth 100000 in
theorem get_noteTable_3 (bx rb : Nat) (n : Int) (w : World) (hx : bx < w.heap.size) (hr : rb < w.heap.size) (h1 : w.cell? ⟨bx, 0, none⟩ = some (.pointer (some ⟨rb, 0, none⟩))) (h2 : w.cell? ⟨rb, 3, none⟩ = some (.int .i64 n)) :
    Calls Tryz.prog 93 #[.pointer (some ⟨bx, 0, none⟩)] w fun e w' => e = .returned (.agg #[.int .i64 n, .string ⟨#[]⟩]) ∧ Below w.heap.size w w' := by
  go_enter Tryz.func93, Tryz.ntmps93
  go_wp2
  exact bodyPost_ret (v := .agg #[.int .i64 n, .string ⟨#[]⟩]) (by simp [results, Tryz.results93, go_sem]) rfl ⟨rfl, (Below.refl _ _).alloc (Nat.le_refl _) _⟩
set_option maxHeartbeats 1000000 in
set_option maxRecDepth 100000 in
theorem set_noteTable_3 (bx rb : Nat) (n : Int) (m : Int) (t : ByteArray) (w : World) (hx : bx < w.heap.size) (hr : rb < w.heap.size) (h1 : w.cell? ⟨bx, 0, none⟩ = some (.pointer (some ⟨rb, 0, none⟩))) (h2 : w.cell? ⟨rb, 3, none⟩ = some (.int .i64 n)) (h3 : w.frozen? ⟨rb, 3, none⟩ = false) :
    Calls Tryz.prog 94 #[.agg #[.int .i64 m, .string t], .pointer (some ⟨bx, 0, none⟩)] w fun e w' => e = .returned (.tuple #[]) ∧ w' = (w.setCell ⟨rb, 3, none⟩ (.int .i64 m)).alloc (.cells #[.int .i64 m, .string t] 120) := by
  go_enter Tryz.func94, Tryz.ntmps94
  go_wp2
  go_end0
  exact ⟨rfl, rfl⟩
end Go.Proofs.YtfpalfpfijcpbaaGreatDoor
namespace Go.Proofs.YtfpalfpfijcpbaaGreatDoor
open Go.RowKit Go.Shelf
def bl : ByteArray := ⟨#[32]⟩
def noteFDs (bx : Nat) : List FD := [⟨⟨#[]⟩, 0, 1, 4, 87, 88, bxv bx, bl⟩, ⟨⟨#[]⟩, 0, 0, 9007199254740992, 89, 90, bxv bx, bl⟩, ⟨⟨#[]⟩, 0, 0, 9007199254740992, 91, 92, bxv bx, bl⟩, ⟨⟨#[]⟩, 1, 0, 4294967295, 93, 94, bxv bx, bl⟩]
set_option maxHeartbeats 2000000 in
set_option maxRecDepth 100000 in
theorem noteTable_any (rb : Nat) (w : World) :
    Calls Tryz.prog 38 #[.pointer (some ⟨rb, 0, none⟩)] w fun e w' => e = .returned (.slice (some ⟨w.heap.size + 1, 0, none⟩) 4 4) ∧ w' = tabW 80 rb (noteFDs w.heap.size) w := by
  have hmf : ∀ (fn : Fn) (first cap : Array Value) (w : World), (Instr.makeFunc fn first cap).run Tryz.prog w = .ok (.func fn first cap) w := fun _ _ _ _ => rfl
  go_enter Tryz.func38, Tryz.ntmps38
  go_wp2_with fail
  go_ret
  exact ⟨rfl, rfl⟩
/-- a note's four numbers -/
def noteV (c p e s : Int) : Nat → Int
  | 0 => c
  | 1 => p
  | 2 => e
  | _ => s
def noteLo : Nat → Int
  | 0 => 1
  | _ => 0
def noteHi : Nat → Int
  | 0 => 4
  | 1 => 9007199254740992
  | 2 => 9007199254740992
  | _ => 4294967295
def noteOkI (c p e s : Int) (i : Nat) : Bool := inR (noteV c p e s i) (noteLo i) (noteHi i)
def noteOk (c p e s : Int) : Bool := inR c 1 4 && inR p 0 9007199254740992 && inR e 0 9007199254740992 && inR s 0 4294967295
theorem noteOk_all (c p e s : Int) : allB 4 (noteOkI c p e s) = noteOk c p e s := by
  unfold allB noteOk
  simp [List.range, List.range.loop, noteOkI, noteV, noteLo, noteHi, Bool.and_assoc]
/-- what a note's fields print as -/
def noteO (c p e s : Int) : Nat → ByteArray
  | 0 => itS c
  | 1 => itS p
  | 2 => itS e
  | _ => strOf (hexL (be4 s.toNat))
/-- a note's line without its sum -/
def noteL (c p e s : Int) : List UInt8 := [] ++ Lib.itoa c ++ [32] ++ ([] ++ Lib.itoa p ++ [32]) ++ ([] ++ Lib.itoa e ++ [32]) ++ ([] ++ hexL (be4 s.toNat) ++ [32])
theorem noteL_wr (bx : Nat) (c p e s : Int) : wrL (noteFDs bx) (noteO c p e s) 4 = noteL c p e s := rfl
theorem noteFD_enters (bx : Nat) : ∀ i (h : i < (noteFDs bx).length), Enters Tryz.prog (noteFDs bx)[i].gf := by
  intro i hi
  match i, hi with
  | 0, _ => exact enters_of Tryz.func87 (by kernel_rfl) rfl
  | 1, _ => exact enters_of Tryz.func89 (by kernel_rfl) rfl
  | 2, _ => exact enters_of Tryz.func91 (by kernel_rfl) rfl
  | 3, _ => exact enters_of Tryz.func93 (by kernel_rfl) rfl
/-- the record of a note, in memory -/
def NoteAt (w : World) (rb : Nat) (c p e s : Int) : Prop := w.cell? ⟨rb, 0, none⟩ = some (.int .i64 c) ∧ w.cell? ⟨rb, 1, none⟩ = some (.int .i64 p) ∧ w.cell? ⟨rb, 2, none⟩ = some (.int .i64 e) ∧ w.cell? ⟨rb, 3, none⟩ = some (.int .i64 s)
theorem noteFD_gets (rb bx : Nat) (c p e s : Int) (w : World) (hx : bx < w.heap.size) (hr : rb < w.heap.size) (h1 : w.cell? ⟨bx, 0, none⟩ = some (.pointer (some ⟨rb, 0, none⟩))) (h2 : NoteAt w rb c p e s) : ∀ i (h : i < (noteFDs bx).length), GetsAt w (noteFDs bx)[i] (noteV c p e s i) ⟨#[]⟩ := by
  intro i hi w' hw
  have z := hw.size
  obtain ⟨q0, q1, q2, q3⟩ := h2
  have hb : w'.cell? ⟨bx, 0, none⟩ = some (.pointer (some ⟨rb, 0, none⟩)) := by rw [hw.cell (by exact hx)]; exact h1
  match i, hi with
  | 0, _ => exact get_noteTable_0 bx rb c w' (by omega) (by omega) hb (by rw [hw.cell (by exact hr)]; exact q0)
  | 1, _ => exact get_noteTable_1 bx rb p w' (by omega) (by omega) hb (by rw [hw.cell (by exact hr)]; exact q1)
  | 2, _ => exact get_noteTable_2 bx rb e w' (by omega) (by omega) hb (by rw [hw.cell (by exact hr)]; exact q2)
  | 3, _ => exact get_noteTable_3 bx rb s w' (by omega) (by omega) hb (by rw [hw.cell (by exact hr)]; exact q3)
theorem noteFD_allows (bx : Nat) (c p e s : Int) : ∀ i (h : i < (noteFDs bx).length), AllowsIs (noteFDs bx)[i] (noteV c p e s i) ⟨#[]⟩ (noteOkI c p e s i) := by
  intro i hi w'
  match i, hi with
  | 0, _ => exact allows_num 0 (.inl rfl) c 1 4 _ w'
  | 1, _ => exact allows_num 0 (.inl rfl) p 0 9007199254740992 _ w'
  | 2, _ => exact allows_num 0 (.inl rfl) e 0 9007199254740992 _ w'
  | 3, _ => exact allows_num 1 (.inr rfl) s 0 4294967295 _ w'
theorem noteOk_sum {c p e s : Int} (h : noteOk c p e s = true) : ∃ n : Nat, n < 4294967296 ∧ s = (n : Int) := by
  unfold noteOk inR at h
  simp only [Bool.and_eq_true, decide_eq_true_eq] at h
  exact ⟨s.toNat, by omega, by omega⟩
theorem noteFD_prints (bx : Nat) (c p e s : Int) (hc : I64 c) (hp : I64 p) (he : I64 e) (hok : noteOk c p e s = true) (w : World) (hP : Pow w) : ∀ i (h : i < (noteFDs bx).length), PrintsAt w (noteFDs bx)[i] (noteV c p e s i) ⟨#[]⟩ (noteO c p e s i) := by
  obtain ⟨n, hn, rfl⟩ := noteOk_sum hok
  intro i hi w' hw
  match i, hi with
  | 0, _ => exact print_num c _ w' hc.1 hc.2 (hP.below hw)
  | 1, _ => exact print_num p _ w' hp.1 hp.2 (hP.below hw)
  | 2, _ => exact print_num e _ w' he.1 he.2 (hP.below hw)
  | 3, _ => exact print_sum n hn _ w'
theorem noteFD_small (bx : Nat) : ∀ i (h : i < (noteFDs bx).length), (noteFDs bx)[i].wd.size ≤ 1000 ∧ (noteFDs bx)[i].en.size ≤ 1000 := by
  intro i hi
  match i, hi with
  | 0, _ => exact ⟨Nat.le_of_ble_eq_true rfl, Nat.le_of_ble_eq_true rfl⟩
  | 1, _ => exact ⟨Nat.le_of_ble_eq_true rfl, Nat.le_of_ble_eq_true rfl⟩
  | 2, _ => exact ⟨Nat.le_of_ble_eq_true rfl, Nat.le_of_ble_eq_true rfl⟩
  | 3, _ => exact ⟨Nat.le_of_ble_eq_true rfl, Nat.le_of_ble_eq_true rfl⟩
theorem noteO_len (c p e s : Int) (hc : I64 c) (hp : I64 p) (he : I64 e) : ∀ i, (noteO c p e s i).size ≤ 20
  | 0 => by show (itS c).size ≤ 20; unfold itS; rw [strOf_size]; exact itoa_len c hc.1 hc.2
  | 1 => by show (itS p).size ≤ 20; unfold itS; rw [strOf_size]; exact itoa_len p hp.1 hp.2
  | 2 => by show (itS e).size ≤ 20; unfold itS; rw [strOf_size]; exact itoa_len e he.1 he.2
  | _ + 3 => by show (strOf (hexL (be4 s.toNat))).size ≤ 20; rw [strOf_size, hexL_len]; simp [be4]
/-- a note's line -/
def noteS (c p e s : Int) : ByteArray := if noteOk c p e s then strOf (noteL c p e s) ++ strOf (sealL ⟨#[]⟩ (crcN 0 (noteL c p e s))) else ⟨#[]⟩
def noteE (c p e s : Int) : Int := if noteOk c p e s then 0 else 42
set_option maxHeartbeats 2000000 in
set_option maxRecDepth 100000 in
theorem printNote_any (c p e s : Int) (hc : I64 c) (hp : I64 p) (he : I64 e) (w : World) (hP : Pow w) (hT4 : Tab4 0 w) :
    Calls Tryz.prog 17 #[.agg #[.int .i64 c, .int .i64 p, .int .i64 e, .int .i64 s]] w fun x w' => x = .returned (.tuple #[.string (noteS c p e s), .int .i64 (noteE c p e s)]) ∧ Below w.heap.size w w' := by
  obtain ⟨W0, hW0⟩ : ∃ W0, W0 = w.alloc (.cells #[.int .i64 c, .int .i64 p, .int .i64 e, .int .i64 s] 27) := ⟨_, rfl⟩
  have b0 : Below w.heap.size w W0 := by rw [hW0]; exact (Below.refl _ w).alloc (Nat.le_refl _) _
  have s0 : W0.heap.size = w.heap.size + 1 := by rw [hW0]; simp
  have r0 : NoteAt W0 w.heap.size c p e s := by rw [hW0]; exact ⟨by simp, by simp, by simp, by simp⟩
  have T := hide (noteTable_any w.heap.size W0)
  obtain ⟨W1, hW1⟩ : ∃ W1, W1 = tabW 80 w.heap.size (noteFDs W0.heap.size) W0 := ⟨_, rfl⟩
  have b1 : Below W0.heap.size W0 W1 := by rw [hW1]; exact tabW_below _ _ _ _
  have s1 : W1.heap.size = W0.heap.size + 2 := by rw [hW1]; exact tabW_size _ _ _ _
  have t1 : TabAt (W0.heap.size + 1) W1 (noteFDs W0.heap.size) := by rw [hW1]; exact tabW_tab _ _ _ _
  have x1 : W1.cell? ⟨W0.heap.size, 0, none⟩ = some (.pointer (some ⟨w.heap.size, 0, none⟩)) := by rw [hW1]; exact tabW_box _ _ _ _
  have r1 : NoteAt W1 w.heap.size c p e s := by
    obtain ⟨q0, q1, q2, q3⟩ := r0
    have hl : w.heap.size < W0.heap.size := by omega
    exact ⟨by rw [b1.cell (by exact hl)]; exact q0, by rw [b1.cell (by exact hl)]; exact q1, by rw [b1.cell (by exact hl)]; exact q2, by rw [b1.cell (by exact hl)]; exact q3⟩
  have bb := b0.trans (b1.mono b0.size)
  have G := noteFD_gets w.heap.size W0.heap.size c p e s W1 (by omega) (by omega) x1 r1
  have hT41 := hT4.below bb hT4.lt
  have C := hide (fit_any (W0.heap.size + 1) 4 (noteFDs W0.heap.size) W1 (noteV c p e s) (fun _ => ⟨#[]⟩) (noteOkI c p e s) (by show 4 ≤ _; omega) t1 (by omega) (noteFD_enters _) G (noteFD_allows _ c p e s))
  rw [show allB (noteFDs W0.heap.size).length (noteOkI c p e s) = noteOk c p e s from noteOk_all c p e s] at C
  have BB := hide bb
  by_cases hok : noteOk c p e s = true
  · have W := hide (fun w1 (b1 : Below W1.heap.size W1 w1) => written_any (W0.heap.size + 1) 4 (noteFDs W0.heap.size) w1 (noteV c p e s) (fun _ => ⟨#[]⟩) (noteO c p e s) 20 (by omega) (by show 4 ≤ 64; omega) (t1.below (by omega) b1) (by have := b1.size; omega) (noteFD_enters _) (fun i h => (G i h).below b1) (fun i h => (noteFD_prints _ c p e s hc hp he hok W1 (hP.below bb) i h).below b1) (noteFD_small _) (noteO_len c p e s hc hp he))
    have hl := wrL_len (noteFDs W0.heap.size) (noteO c p e s) 20 (noteFD_small _) (noteO_len c p e s hc hp he) 4 (Nat.le_refl _)
    rw [noteL_wr] at hl
    have S := hide (fun w1 (b1 : Below W1.heap.size W1 w1) => sealed_any (strOf (noteL c p e s)) ⟨#[]⟩ w1 (by rw [strOf_size]; omega) (by decide) (hT41.below b1 hT41.lt))
    rw [show (strOf (noteL c p e s)).data.toList = noteL c p e s from strOf_data _] at S
    have e1 : noteS c p e s = strOf (noteL c p e s) ++ strOf (sealL ⟨#[]⟩ (crcN 0 (noteL c p e s))) := by unfold noteS; rw [if_pos hok]
    have e2 : noteE c p e s = 0 := by unfold noteE; rw [if_pos hok]
    rw [e1, e2]
    rw [hok] at C
    have W' : Hid (∀ w1, Below W1.heap.size W1 w1 → Calls Tryz.prog 41 #[.slice (some ⟨W0.heap.size + 1, 0, none⟩) 4 4] w1 fun e' w' => e' = .returned (.string (strOf (noteL c p e s))) ∧ Below w1.heap.size w1 w') := W.out
    clear e1 e2 hl W hok
    generalize noteL c p e s = L at *
    clear G hP hT4 hT41 r0 r1 t1 x1 b0 b1 bb s1 s0 hc hp he
    go_enter Tryz.func17, Tryz.ntmps17
    go_wp2_with fail
    rw [← hW0]
    clear hW0
    refine Calls.mono T.out ?_
    rintro x w2 ⟨rfl, rfl⟩
    rw [← hW1]
    clear hW1
    go_wp2_with fail
    refine Calls.mono C.out ?_
    rintro x w3 ⟨rfl, b3⟩
    have B3 := hide b3
    have W3 := hide (W'.out w3 b3)
    clear b3 C T W'
    go_wp2_with fail
    refine Calls.mono W3.out ?_
    rintro x w4 ⟨rfl, b4⟩
    have B4 := hide (B3.out.trans (b4.mono B3.out.size))
    have S4 := hide (S.out w4 B4.out)
    clear b4 W3 S
    go_wp2_with fail
    refine Calls.mono S4.out ?_
    rintro x w5 ⟨rfl, b5⟩
    have B5 := hide (BB.out.trans ((B4.out.trans (b5.mono B4.out.size)).mono BB.out.size))
    clear b5 S4
    go_wp2
    go_ret2
    exact ⟨rfl, B5.out⟩
  · have e1 : noteS c p e s = ⟨#[]⟩ := by unfold noteS; rw [if_neg hok]
    have e2 : noteE c p e s = 42 := by unfold noteE; rw [if_neg hok]
    rw [e1, e2]
    rw [show noteOk c p e s = false by simpa using hok] at C
    clear e1 e2 hok
    clear G hP hT4 hT41 r0 r1 t1 x1 b0 b1 bb s1 s0 hc hp he
    go_enter Tryz.func17, Tryz.ntmps17
    go_wp2_with fail
    rw [← hW0]
    clear hW0
    refine Calls.mono T.out ?_
    rintro x w2 ⟨rfl, rfl⟩
    rw [← hW1]
    clear hW1
    go_wp2_with fail
    refine Calls.mono C.out ?_
    rintro x w3 ⟨rfl, b3⟩
    have B3 := hide (BB.out.trans (b3.mono BB.out.size))
    clear b3 C T
    go_wp2
    go_ret2
    exact ⟨rfl, B3.out⟩
end Go.Proofs.YtfpalfpfijcpbaaGreatDoor
