import Derived.Test.YtfpalfpfijcpbaaGreatDoorGPmParse
import Derived.Test.YtfpalfpfijcpbaaGreatDoorGPaPtr
import Derived.Deep.RegionHeld3
namespace Go.Proofs.YtfpalfpfijcpbaaGreatDoor
open Go.RowKit Go.Shelf
structure NoteSt (w0 : World) (rb bx tb : Nat) (vs : List Val) (w : World) : Prop where
  old : Below w0.heap.size w0 w
  tab : TabAt tb w (noteFDs bx)
  tlt : tb < w.heap.size
  box : w.cell? ⟨bx, 0, none⟩ = some (.pointer (some ⟨rb, 0, none⟩))
  rcd : NoteAt w rb (vN vs 0) (vN vs 1) (vN vs 2) (vN vs 3)
  frz : ∀ o, o < 4 → w.frozen? ⟨rb, o, none⟩ = false
theorem NoteAt.lt {w : World} {rb : Nat} {c p e s : Int} (h : NoteAt w rb c p e s) : rb < w.heap.size := lt_of_cell? h.1
theorem NoteAt.kb {w w' : World} {R rb : Nat} {c p e s : Int} (h : NoteAt w rb c p e s) (hk : Kb R w w') (hn : rb ≠ R) : NoteAt w' rb c p e s := by
  have hl := h.lt
  obtain ⟨h0, h1, h2, h3⟩ := h
  exact ⟨by rw [hk.cell hl hn]; exact h0, by rw [hk.cell hl hn]; exact h1, by rw [hk.cell hl hn]; exact h2, by rw [hk.cell hl hn]; exact h3⟩
theorem NoteSt.ok {w0 : World} {R rb bx tb : Nat} (hR : w0.heap.size ≤ R) (h1 : R ≠ rb) (h2 : bx ≠ R) (h3 : tb ≠ R) : StW R rb (NoteSt w0 rb bx tb) :=
  ⟨fun vs w w' h k => ⟨k.below h.old hR h.old.size, h.tab.kb h.tlt h3 k, Nat.lt_of_lt_of_le h.tlt k.size, by rw [k.cell (lt_of_cell? h.box) h2]; exact h.box, h.rcd.kb k h1.symm, fun o ho => by rw [k.frozen h.rcd.lt h1.symm]; exact h.frz o ho⟩, fun vs w h => h.rcd.lt, h1⟩
theorem noteSet {w0 w : World} {rb bx tb : Nat} {vs : List Val} {v : Val} {off : Nat} (h : NoteSt w0 rb bx tb vs w) (hl : w0.heap.size ≤ rb) (hb : bx ≠ rb) (ht : tb ≠ rb) (ho : off = vs.length) (ho4 : off < 4) : NoteSt w0 rb bx tb (vs ++ [v]) (setW w rb off (.int .i64 v.1) v.1 v.2) ∧ Kb rb w (setW w rb off (.int .i64 v.1) v.1 v.2) := by
  have k := setW_kb w rb off (.int .i64 v.1) v.1 v.2
  refine ⟨⟨k.below h.old hl h.old.size, h.tab.kb h.tlt ht k, Nat.lt_of_lt_of_le h.tlt k.size, setW_other h.box (.inl hb), ?_, fun o ho => by rw [setW_frozen h.rcd.lt]; exact h.frz o ho⟩, k⟩
  obtain ⟨q0, q1, q2, q3⟩ := h.rcd
  have e : ∀ i, vN (vs ++ [v]) i = if i = off then v.1 else vN vs i := fun i => by rw [vN_app, ho]
  have step : ∀ i (n : Int), w.cell? ⟨rb, i, none⟩ = some (.int .i64 n) → (setW w rb off (.int .i64 v.1) v.1 v.2).cell? ⟨rb, i, none⟩ = some (.int .i64 (if i = off then v.1 else n)) := fun i n hc => by
    by_cases hi : i = off
    · subst hi; rw [if_pos rfl]; exact setW_same hc
    · rw [if_neg hi]; exact setW_other hc (.inr hi)
  exact ⟨by rw [e]; exact step 0 _ q0, by rw [e]; exact step 1 _ q1, by rw [e]; exact step 2 _ q2, by rw [e]; exact step 3 _ q3⟩
theorem NoteSt.sets {w0 : World} {rb bx tb : Nat} (hl : w0.heap.size ≤ rb) (hb : bx ≠ rb) (ht : tb ≠ rb) : ∀ i (h : i < (noteFDs bx).length) vs, vs.length = i → SetsAs (noteFDs bx)[i] rb vs (NoteSt w0 rb bx tb) := by
  intro i hi vs hv v w hs
  have hx := lt_of_cell? hs.box
  have hr := hs.rcd.lt
  obtain ⟨q0, q1, q2, q3⟩ := hs.rcd
  match i, hi, hv with
  | 0, _, hv => exact (set_noteTable_0 bx rb _ v.1 v.2 w hx hr hs.box q0 (hs.frz 0 (by omega))).mono fun e w' ⟨e1, e2⟩ => ⟨e1, by rw [e2]; exact noteSet hs hl hb ht hv.symm (by omega)⟩
  | 1, _, hv => exact (set_noteTable_1 bx rb _ v.1 v.2 w hx hr hs.box q1 (hs.frz 1 (by omega))).mono fun e w' ⟨e1, e2⟩ => ⟨e1, by rw [e2]; exact noteSet hs hl hb ht hv.symm (by omega)⟩
  | 2, _, hv => exact (set_noteTable_2 bx rb _ v.1 v.2 w hx hr hs.box q2 (hs.frz 2 (by omega))).mono fun e w' ⟨e1, e2⟩ => ⟨e1, by rw [e2]; exact noteSet hs hl hb ht hv.symm (by omega)⟩
  | 3, _, hv => exact (set_noteTable_3 bx rb _ v.1 v.2 w hx hr hs.box q3 (hs.frz 3 (by omega))).mono fun e w' ⟨e1, e2⟩ => ⟨e1, by rw [e2]; exact noteSet hs hl hb ht hv.symm (by omega)⟩
theorem noteFD_senters (bx : Nat) : ∀ i (h : i < (noteFDs bx).length), Enters Tryz.prog (noteFDs bx)[i].sf := by
  intro i hi
  match i, hi with
  | 0, _ => exact enters_of Tryz.func88 (by kernel_rfl) rfl
  | 1, _ => exact enters_of Tryz.func90 (by kernel_rfl) rfl
  | 2, _ => exact enters_of Tryz.func92 (by kernel_rfl) rfl
  | 3, _ => exact enters_of Tryz.func94 (by kernel_rfl) rfl
theorem noteFD_reads (bx : Nat) : ∀ i (h : i < (noteFDs bx).length), ReadsAs (noteFDs bx)[i].sh := by
  intro i hi
  match i, hi with
  | 0, _ => exact reads_num
  | 1, _ => exact reads_num
  | 2, _ => exact reads_num
  | 3, _ => exact reads_sum
/-- what readNote reads, of a text -/
def noteRd (tx : ByteArray) (i : Nat) : Int := vN (tabVs (noteFDs 0) tx.data.toList) i
def ntN (tx : ByteArray) : Nat := tabN (noteFDs 0) tx.data.toList
def ntFit (tx : ByteArray) : Bool := noteOk (noteRd tx 0) (noteRd tx 1) (noteRd tx 2) (noteRd tx 3)
def ntOk (tx : ByteArray) : Bool := tabOk (noteFDs 0) tx.data.toList && (unsFit ⟨#[]⟩ tx (ntN tx) && ntFit tx)
def ntSize (tx : ByteArray) : Nat := if ntOk tx then ntN tx + unsN ⟨#[]⟩ tx (ntN tx) else 0
def ntV (tx : ByteArray) (i : Nat) : Int := if ntOk tx then noteRd tx i else 0
set_option maxHeartbeats 4000000 in
set_option maxRecDepth 100000 in
set_option linter.unusedSimpArgs false in
theorem readNote_any (tx : ByteArray) (w : World) (htx : tx.size < 9223372036854775808) (hT4 : Tab4 0 w) :
    Calls Tryz.prog 42 #[.string tx] w fun x w' => x = .returned (.tuple #[.agg #[.int .i64 (ntV tx 0), .int .i64 (ntV tx 1), .int .i64 (ntV tx 2), .int .i64 (ntV tx 3)], .int .i64 (ntSize tx : Int)]) ∧ Below w.heap.size w w' := by
  obtain ⟨Wr, hWr⟩ : ∃ Wr, Wr = w.alloc (.cells #[.int .i64 0, .int .i64 0, .int .i64 0, .int .i64 0] 27) := ⟨_, rfl⟩
  have sr : Wr.heap.size = w.heap.size + 1 := by rw [hWr]; simp
  have br : Below w.heap.size w Wr := by rw [hWr]; exact (Below.refl _ w).alloc (Nat.le_refl _) _
  obtain ⟨W0, hW0⟩ : ∃ W0, W0 = Wr.alloc (.cells #[.int .i64 0, .int .i64 0, .int .i64 0, .int .i64 0] 27) := ⟨_, rfl⟩
  have b0 : Below Wr.heap.size Wr W0 := by rw [hW0]; exact (Below.refl _ _).alloc (Nat.le_refl _) _
  have s0 : W0.heap.size = Wr.heap.size + 1 := by rw [hW0]; simp
  have r0 : NoteAt W0 Wr.heap.size 0 0 0 0 := by rw [hW0]; exact ⟨by simp, by simp, by simp, by simp⟩
  have f0 : ∀ o, o < 4 → W0.frozen? ⟨Wr.heap.size, o, none⟩ = false := by
    rw [hW0]; intro o ho
    match o, ho with
    | 0, _ => simp
    | 1, _ => simp
    | 2, _ => simp
    | 3, _ => simp
  have T := hide (noteTable_any Wr.heap.size W0)
  obtain ⟨W1, hW1⟩ : ∃ W1, W1 = tabW 80 Wr.heap.size (noteFDs W0.heap.size) W0 := ⟨_, rfl⟩
  have b1 : Below W0.heap.size W0 W1 := by rw [hW1]; exact tabW_below _ _ _ _
  have s1 : W1.heap.size = W0.heap.size + 2 := by rw [hW1]; exact tabW_size _ _ _ _
  have S1 : NoteSt Wr Wr.heap.size W0.heap.size (W0.heap.size + 1) [] W1 := by
    refine ⟨b0.trans (b1.mono b0.size), by rw [hW1]; exact tabW_tab _ _ _ _, by omega, by rw [hW1]; exact tabW_box _ _ _ _, ?_, fun o ho => ?_⟩
    · exact r0.kb (Kb.of (R := W1.heap.size) b1) (by omega)
    · rw [b1.frozen (by show Wr.heap.size < _; omega)]; exact f0 o ho
  obtain ⟨W2, hW2⟩ : ∃ W2, W2 = W1.alloc (.cells #[.string tx, .int .i64 0] 92) := ⟨_, rfl⟩
  have b2 : Below W1.heap.size W1 W2 := by rw [hW2]; exact (Below.refl _ _).alloc (Nat.le_refl _) _
  have r2 : RdAt W1.heap.size tx 0 W2 := by rw [hW2]; exact ⟨by simp, by simp, by simp⟩
  have hst : StW W1.heap.size Wr.heap.size (NoteSt Wr Wr.heap.size W0.heap.size (W0.heap.size + 1)) := NoteSt.ok (by omega) (by omega) (by omega) (by omega)
  have S2 := hst.kb _ _ _ S1 (Kb.of b2)
  have C := hide (read_any (noteFDs W0.heap.size) (W0.heap.size + 1) 4 W1.heap.size Wr.heap.size tx 0 _ hst (by show 4 ≤ 64; omega) (fun vs w h => h.tab) (NoteSt.sets (Nat.le_refl _) (by omega) (by omega)) (noteFD_senters _) (noteFD_reads _) W2 S2 r2 (Nat.zero_le _) htx)
  rw [List.drop_zero, Nat.zero_add] at C
  obtain ⟨g1, g2, g3⟩ := tab_sig (noteFDs W0.heap.size) (noteFDs 0) tx.data.toList rfl
  rw [g1, g2, g3] at C
  have hT4r := hT4.below br hT4.lt
  have HT := hide (fun vs w' (h : NoteSt Wr Wr.heap.size W0.heap.size (W0.heap.size + 1) vs w') => hT4r.below h.old hT4r.lt)
  have KB := hide hst.kb
  -- the place of the answer
  have RS : Hid (∀ w', Below Wr.heap.size Wr w' → (w'.cell? ⟨w.heap.size, 0, none⟩ = some (.int .i64 0) ∧ w'.cell? ⟨w.heap.size, 1, none⟩ = some (.int .i64 0) ∧ w'.cell? ⟨w.heap.size, 2, none⟩ = some (.int .i64 0) ∧ w'.cell? ⟨w.heap.size, 3, none⟩ = some (.int .i64 0)) ∧ (w'.frozen? ⟨w.heap.size, 0, none⟩ = false ∧ w'.frozen? ⟨w.heap.size, 1, none⟩ = false ∧ w'.frozen? ⟨w.heap.size, 2, none⟩ = false ∧ w'.frozen? ⟨w.heap.size, 3, none⟩ = false) ∧ w.heap.size < w'.heap.size) := fun w' hb => by
    have hl : w.heap.size < Wr.heap.size := by omega
    rw [hb.cell (by exact hl), hb.cell (by exact hl), hb.cell (by exact hl), hb.cell (by exact hl), hb.frozen (by exact hl), hb.frozen (by exact hl), hb.frozen (by exact hl), hb.frozen (by exact hl)]
    refine ⟨?_, ?_, Nat.lt_of_lt_of_le hl hb.size⟩
    · rw [hWr]; exact ⟨by simp, by simp, by simp, by simp⟩
    · rw [hWr]; exact ⟨by simp, by simp, by simp, by simp⟩
  have BR := hide br
  have hNle : tabOk (noteFDs 0) tx.data.toList = true → ntN tx ≤ tx.size := fun h => by have := tabN_le _ _ h; rw [size_data] at this; exact this
  have hsr : Wr.heap.size = w.heap.size + 1 := sr
  have hs1 : W1.heap.size = w.heap.size + 4 := by omega
  have U := hide (fun w' (h : tabOk (noteFDs 0) tx.data.toList = true) (h1 : RdAt W1.heap.size tx (ntN tx) w') (h2 : Tab4 0 w') => unseal_any W1.heap.size tx ⟨#[]⟩ (ntN tx) w' h1 (hNle h) htx h2)
  have FT := hide (fun w' (h : NoteSt Wr Wr.heap.size W0.heap.size (W0.heap.size + 1) (tabVs (noteFDs 0) tx.data.toList) w') => fit_any (W0.heap.size + 1) 4 (noteFDs W0.heap.size) w' (noteV (noteRd tx 0) (noteRd tx 1) (noteRd tx 2) (noteRd tx 3)) (fun _ => ⟨#[]⟩) (noteOkI (noteRd tx 0) (noteRd tx 1) (noteRd tx 2) (noteRd tx 3)) (by show 4 ≤ _; omega) h.tab h.tlt (noteFD_enters _) (noteFD_gets _ _ _ _ _ _ w' (lt_of_cell? h.box) h.rcd.lt h.box h.rcd) (noteFD_allows _ _ _ _ _))
  rw [show allB (noteFDs W0.heap.size).length (noteOkI (noteRd tx 0) (noteRd tx 1) (noteRd tx 2) (noteRd tx 3)) = ntFit tx from noteOk_all _ _ _ _] at FT
  have VS : Hid (∀ i, noteRd tx i = vN (tabVs (noteFDs 0) tx.data.toList) i) := fun i => rfl
  have OK : Hid (ntOk tx = (tabOk (noteFDs 0) tx.data.toList && (unsFit ⟨#[]⟩ tx (ntN tx) && ntFit tx))) := rfl
  have UF : Hid (unsFit ⟨#[]⟩ tx (ntN tx) = true → unsOk ⟨#[]⟩ tx (ntN tx) = true) := fun h => by unfold unsFit at h; simp only [Bool.and_eq_true] at h; exact h.1
  have ZV : Hid (ntOk tx = false → ntV tx 0 = 0 ∧ ntV tx 1 = 0 ∧ ntV tx 2 = 0 ∧ ntV tx 3 = 0 ∧ (ntSize tx : Int) = 0) := fun h => by unfold ntV ntSize; simp [h]
  have OV : Hid (ntOk tx = true → ntV tx 0 = noteRd tx 0 ∧ ntV tx 1 = noteRd tx 1 ∧ ntV tx 2 = noteRd tx 2 ∧ ntV tx 3 = noteRd tx 3 ∧ (ntSize tx : Int) = ((ntN tx + unsN ⟨#[]⟩ tx (ntN tx) : Nat) : Int)) := fun h => by unfold ntV ntSize; simp [h]
  obtain ⟨A0, hA0⟩ : ∃ A, A = ntV tx 0 := ⟨_, rfl⟩
  obtain ⟨A1, hA1⟩ : ∃ A, A = ntV tx 1 := ⟨_, rfl⟩
  obtain ⟨A2, hA2⟩ : ∃ A, A = ntV tx 2 := ⟨_, rfl⟩
  obtain ⟨A3, hA3⟩ : ∃ A, A = ntV tx 3 := ⟨_, rfl⟩
  obtain ⟨AS, hAS⟩ : ∃ A, A = (ntSize tx : Int) := ⟨_, rfl⟩
  rw [← hA0, ← hA1, ← hA2, ← hA3, ← hAS] at ZV OV
  rw [← hA0, ← hA1, ← hA2, ← hA3, ← hAS]
  obtain ⟨d0, hd0⟩ : ∃ d, d = noteRd tx 0 := ⟨_, rfl⟩
  obtain ⟨d1, hd1⟩ : ∃ d, d = noteRd tx 1 := ⟨_, rfl⟩
  obtain ⟨d2, hd2⟩ : ∃ d, d = noteRd tx 2 := ⟨_, rfl⟩
  obtain ⟨d3, hd3⟩ : ∃ d, d = noteRd tx 3 := ⟨_, rfl⟩
  rw [← hd0, ← hd1, ← hd2, ← hd3] at OV
  have V4 : Hid (vN (tabVs (noteFDs 0) tx.data.toList) 0 = d0 ∧ vN (tabVs (noteFDs 0) tx.data.toList) 1 = d1 ∧ vN (tabVs (noteFDs 0) tx.data.toList) 2 = d2 ∧ vN (tabVs (noteFDs 0) tx.data.toList) 3 = d3) := ⟨hd0.symm, hd1.symm, hd2.symm, hd3.symm⟩
  clear hd0 hd1 hd2 hd3 hA0 hA1 hA2 hA3 hAS VS
  generalize tabVs (noteFDs 0) tx.data.toList = VL at *
  have RNE : Hid (ntN tx = tabN (noteFDs 0) tx.data.toList) := rfl
  rw [← RNE.out] at C
  generalize ntN tx = N at *
  have hW0s : W0.heap.size = w.heap.size + 2 := by omega
  rw [hsr] at T hW1
  have HSR := hide hsr
  have HS1 := hide hs1
  have HW0 := hide hW0s
  clear RNE g1 g2 g3 hT4r S1 S2 s1 b1 f0 r0 s0 b0 br hT4 sr b2 r2 hst hNle hs1 hW0s hsr
  cases hf : tabOk (noteFDs 0) tx.data.toList with
  | false =>
    rw [hf] at C OK
    obtain ⟨z0, z1, z2, z3, zs⟩ := ZV.out OK.out
    subst z0 z1 z2 z3 zs
    clear ZV OV OK UF V4 U FT
    go_enter Tryz.func42, Tryz.ntmps42
    go_wp2_with fail
    rw [← hWr, ← hW0]
    clear hWr hW0
    refine Calls.mono T.out ?_
    rintro x w2 ⟨rfl, rfl⟩
    rw [← hW1]
    clear hW1
    go_wp2_with fail
    rw [← hW2]
    clear hW2
    refine Calls.mono C.out ?_
    rintro x w3 ⟨rfl, d1, vs3, a3, s3, r3⟩
    obtain ⟨⟨z0, z1, z2, z3⟩, ⟨f0, f1, f2, f3⟩, hl3⟩ := RS.out w3 s3.old
    have B3 := hide (BR.out.trans (s3.old.mono BR.out.size))
    clear d1 C T RS s3 r3
    go_wp2_with fail
    refine bodyPost_ret (v := .tuple #[.agg #[.int .i64 0, .int .i64 0, .int .i64 0, .int .i64 0], .int .i64 0]) (by simp [results, Tryz.results42, go_sem, z0, z1, z2, z3]) rfl ⟨rfl, ?_⟩
    exact (((B3.out.setCell (Nat.le_refl _) _).setCell (Nat.le_refl _) _).setCell (Nat.le_refl _) _).setCell (Nat.le_refl _) _
  | true =>
    rw [hf] at C OK
    cases hu : unsFit ⟨#[]⟩ tx N with
    | false =>
      rw [hu] at OK U
      obtain ⟨z0, z1, z2, z3, zs⟩ := ZV.out OK.out
      subst z0 z1 z2 z3 zs
      clear ZV OV OK UF V4 FT
      go_enter Tryz.func42, Tryz.ntmps42
      go_wp2_with fail
      rw [← hWr, ← hW0]
      clear hWr hW0
      refine Calls.mono T.out ?_
      rintro x w2 ⟨rfl, rfl⟩
      rw [← hW1]
      clear hW1
      go_wp2_with fail
      rw [← hW2]
      clear hW2
      refine Calls.mono C.out ?_
      rintro x w3 ⟨rfl, e3, _⟩
      obtain ⟨s3, r3⟩ := e3 trivial
      have S3 := hide s3
      have U3 := hide (U.out w3 hf r3 (HT.out _ _ s3))
      clear s3 r3 e3 C T U
      go_wp2_with fail
      refine Calls.mono U3.out ?_
      rintro x w4 ⟨rfl, _, _, k4⟩
      have s4 := KB.out _ _ _ S3.out k4
      clear k4 U3 S3
      obtain ⟨⟨z0, z1, z2, z3⟩, ⟨f0, f1, f2, f3⟩, hl5⟩ := RS.out w4 s4.old
      have B5 := hide (BR.out.trans (s4.old.mono BR.out.size))
      clear RS s4
      go_wp2_with fail
      refine bodyPost_ret (v := .tuple #[.agg #[.int .i64 0, .int .i64 0, .int .i64 0, .int .i64 0], .int .i64 0]) (by simp [results, Tryz.results42, go_sem, z0, z1, z2, z3]) rfl ⟨rfl, ?_⟩
      exact (((B5.out.setCell (Nat.le_refl _) _).setCell (Nat.le_refl _) _).setCell (Nat.le_refl _) _).setCell (Nat.le_refl _) _
    | true =>
      have hun := UF.out hu
      rw [hu] at OK U
      have FT2 := FT
      cases hk : ntFit tx with
      | false =>
        rw [hk] at OK FT2
        obtain ⟨z0, z1, z2, z3, zs⟩ := ZV.out OK.out
        subst z0 z1 z2 z3 zs
        clear ZV OV OK UF V4 FT hun
        go_enter Tryz.func42, Tryz.ntmps42
        go_wp2_with fail
        rw [← hWr, ← hW0]
        clear hWr hW0
        refine Calls.mono T.out ?_
        rintro x w2 ⟨rfl, rfl⟩
        rw [← hW1]
        clear hW1
        go_wp2_with fail
        rw [← hW2]
        clear hW2
        refine Calls.mono C.out ?_
        rintro x w3 ⟨rfl, e3, _⟩
        obtain ⟨s3, r3⟩ := e3 trivial
        have S3 := hide s3
        have U3 := hide (U.out w3 hf r3 (HT.out _ _ s3))
        clear s3 r3 e3 C T U
        go_wp2_with fail
        refine Calls.mono U3.out ?_
        rintro x w4 ⟨rfl, _, _, k4⟩
        have S4 := hide (KB.out _ _ _ S3.out k4)
        have F4 := hide (FT2.out w4 S4.out)
        clear k4 U3 S3 FT2
        go_wp2_with fail
        refine Calls.mono F4.out ?_
        rintro x w5 ⟨rfl, b5⟩
        have s5 := KB.out _ _ _ S4.out (Kb.of b5)
        clear b5 F4 S4
        obtain ⟨⟨z0, z1, z2, z3⟩, ⟨f0, f1, f2, f3⟩, hl5⟩ := RS.out w5 s5.old
        have B5 := hide (BR.out.trans (s5.old.mono BR.out.size))
        clear RS s5
        go_wp2_with fail
        refine bodyPost_ret (v := .tuple #[.agg #[.int .i64 0, .int .i64 0, .int .i64 0, .int .i64 0], .int .i64 0]) (by simp [results, Tryz.results42, go_sem, z0, z1, z2, z3]) rfl ⟨rfl, ?_⟩
        exact (((B5.out.setCell (Nat.le_refl _) _).setCell (Nat.le_refl _) _).setCell (Nat.le_refl _) _).setCell (Nat.le_refl _) _
      | true =>
        rw [hk] at OK FT2
        obtain ⟨z0, z1, z2, z3, zs⟩ := OV.out OK.out
        subst z0 z1 z2 z3 zs
        clear ZV OV OK UF FT
        generalize unsN ⟨#[]⟩ tx N = UN at *
        go_enter Tryz.func42, Tryz.ntmps42
        go_wp2_with fail
        rw [← hWr, ← hW0]
        clear hWr hW0
        refine Calls.mono T.out ?_
        rintro x w2 ⟨rfl, rfl⟩
        rw [← hW1]
        clear hW1
        go_wp2_with fail
        rw [← hW2]
        clear hW2
        refine Calls.mono C.out ?_
        rintro x w3 ⟨rfl, e3, _⟩
        obtain ⟨s3, r3⟩ := e3 trivial
        have S3 := hide s3
        have U3 := hide (U.out w3 hf r3 (HT.out _ _ s3))
        clear s3 r3 e3 C T U
        go_wp2_with fail
        refine Calls.mono U3.out ?_
        rintro x w4 ⟨rfl, e4, _, k4⟩
        have R4 := hide (e4 hun)
        have S4 := hide (KB.out _ _ _ S3.out k4)
        have F4 := hide (FT2.out w4 S4.out)
        clear k4 e4 U3 S3 FT2 hun
        go_wp2_with fail
        refine Calls.mono F4.out ?_
        rintro x w5 ⟨rfl, b5⟩
        have s5 := KB.out _ _ _ S4.out (Kb.of b5)
        obtain ⟨p0, p1, p2⟩ := R4.out.below b5
        obtain ⟨q0, q1, q2, q3⟩ := s5.rcd
        obtain ⟨v0, v1, v2, v3⟩ := V4.out
        rw [HSR.out, v0] at q0
        rw [HSR.out, v1] at q1
        rw [HSR.out, v2] at q2
        rw [HSR.out, v3] at q3
        have hs1 := HS1.out
        have HS : Hid (∀ w', Kb w.heap.size w5 w' → (w'.cell? ⟨w.heap.size + 1, 0, none⟩ = some (.int .i64 A0) ∧ w'.cell? ⟨w.heap.size + 1, 1, none⟩ = some (.int .i64 A1) ∧ w'.cell? ⟨w.heap.size + 1, 2, none⟩ = some (.int .i64 A2) ∧ w'.cell? ⟨w.heap.size + 1, 3, none⟩ = some (.int .i64 A3)) ∧ w'.cell? ⟨W1.heap.size, 1, none⟩ = some (.int .i64 ((N + UN : Nat) : Int))) := fun w' hk =>
          ⟨⟨by rw [hk.cell (lt_of_cell? q0) (by omega)]; exact q0, by rw [hk.cell (lt_of_cell? q1) (by omega)]; exact q1, by rw [hk.cell (lt_of_cell? q2) (by omega)]; exact q2, by rw [hk.cell (lt_of_cell? q3) (by omega)]; exact q3⟩, by rw [hk.cell (lt_of_cell? p1) (by omega)]; exact p1⟩
        have KD := hide (Kb.of (R := w.heap.size) (Below.refl _ w5).drew)
        obtain ⟨⟨z0, z1, z2, z3⟩, ⟨f0, f1, f2, f3⟩, hl5⟩ := RS.out w5.drew s5.old.drew
        have B5 := hide (BR.out.trans (s5.old.mono BR.out.size)).drew
        clear b5 F4 S4 R4 V4 v0 v1 v2 v3 RS s5 q0 q1 q2 q3 p0 p1 p2 hs1
        go_wp2_with fail
        refine wp_region_held_drew (S := fun w' => (w'.cell? ⟨w.heap.size + 1, 0, none⟩ = some (.int .i64 A0) ∧ w'.cell? ⟨w.heap.size + 1, 1, none⟩ = some (.int .i64 A1) ∧ w'.cell? ⟨w.heap.size + 1, 2, none⟩ = some (.int .i64 A2) ∧ w'.cell? ⟨w.heap.size + 1, 3, none⟩ = some (.int .i64 A3)) ∧ w'.cell? ⟨W1.heap.size, 1, none⟩ = some (.int .i64 ((N + UN : Nat) : Int))) (by kernel_rfl) (HS.out _ KD.out) (fun hHeld => ?_)
        generalize w5.drew = w5d at *
        refine wpAnyH_take (i := 0) (v := (.agg #[.int .i64 A0, .int .i64 A1, .int .i64 A2, .int .i64 A3])) rfl (by kernel_rfl) (by kernel_rfl) (by kernel_rfl) (fun _ _ _ h => h) (Or.inl ⟨by rfl, ?_⟩) (by assumption) ?_
        · intro w' hSw
          (try dsimp only at hSw)
          (obtain ⟨⟨hS0, hS1, hS2, hS3⟩, hS4⟩ := hSw; go_simp)
        (try simp only [Act.put, List.setIfInBounds_toArray, List.set_cons_zero, List.set_cons_succ])
        refine wpAnyH_take (i := 1) (v := (.pointer (some ⟨W1.heap.size, 1, none⟩))) rfl (by kernel_rfl) (by kernel_rfl) (by kernel_rfl) (fun _ _ _ h => h) (Or.inl ⟨by rfl, ?_⟩) (by assumption) ?_
        · intro w' hSw
          (try dsimp only at hSw)
          go_simp <;> first | exact i64_in (by omega) (by omega) | exact u32_in (by omega) (by omega) | exact u32_add _ _ | (rw [Int.tmod_eq_emod_of_nonneg (by omega)]; omega) | (rw [Int.tdiv_eq_ediv_of_nonneg (by omega)]; omega) | omega
        (try simp only [Act.put, List.setIfInBounds_toArray, List.set_cons_zero, List.set_cons_succ])
        refine wpAnyH_take (i := 2) (v := (.int .i64 ((N + UN : Nat) : Int))) rfl (by kernel_rfl) (by kernel_rfl) (by kernel_rfl) (fun _ _ _ h => h) (Or.inl ⟨by rfl, ?_⟩) (by assumption) ?_
        · intro w' hSw
          (try dsimp only at hSw)
          (obtain ⟨⟨hS0, hS1, hS2, hS3⟩, hS4⟩ := hSw; go_simp)
        (try simp only [Act.put, List.setIfInBounds_toArray, List.set_cons_zero, List.set_cons_succ])
        refine wpAnyH_ready (rs := [3]) (by kernel_rfl) (by simp) ?_
        refine AllReadyH.cons rfl (fun K hK => ?_) AllReadyH.nil
        go_simp
        refine hK.out _ _ (HS.out _ ((((KD.out.trans (Kb.set _ _ _ _)).trans (Kb.set _ _ _ _)).trans (Kb.set _ _ _ _)).trans (Kb.set _ _ _ _))) (fun hHeld => ?_)
        clear hK
        (try simp only [Act.put, List.setIfInBounds_toArray, List.set_cons_zero, List.set_cons_succ])
        refine wpAnyH_ready (rs := [4]) (by kernel_rfl) (by simp) ?_
        refine AllReadyH.cons rfl (fun K hK => ?_) AllReadyH.nil
        go_simp
        refine hK.out _ _ (HS.out _ ((((KD.out.trans (Kb.set _ _ _ _)).trans (Kb.set _ _ _ _)).trans (Kb.set _ _ _ _)).trans (Kb.set _ _ _ _))) (fun hHeld => ?_)
        clear hK
        (try simp only [Act.put, List.setIfInBounds_toArray, List.set_cons_zero, List.set_cons_succ])
        refine wpAnyH_done (by kernel_rfl) ?_ _
        go_wp2_with fail
        refine bodyPost_ret (v := .tuple #[.agg #[.int .i64 A0, .int .i64 A1, .int .i64 A2, .int .i64 A3], .int .i64 ((N + UN : Nat) : Int)]) (by simp [results, Tryz.results42, go_sem, z0, z1, z2, z3]) rfl ⟨rfl, ?_⟩
        exact (((B5.out.setCell (Nat.le_refl _) _).setCell (Nat.le_refl _) _).setCell (Nat.le_refl _) _).setCell (Nat.le_refl _) _
end Go.Proofs.YtfpalfpfijcpbaaGreatDoor
