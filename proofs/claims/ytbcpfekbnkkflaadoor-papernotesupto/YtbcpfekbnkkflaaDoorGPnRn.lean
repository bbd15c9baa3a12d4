import Derived.Test.YtbcpfekbnkkflaaDoorPnRp
import Derived.Test.YtbcpfekbnkkflaaDoorPnRead
import Derived.Test.YtbcpfekbnkkflaaDoorGPaRfQ
import Derived.Laws.AppendOwnNone
import Derived.OwnWalk
namespace Go.Proofs.YtbcpfekbnkkflaaDoor
open Go.RowKit Go.Shelf
/-- the stations of the document's note -/
def m0 (a : Nat) : RpS := ⟨a, false⟩
def m1 (tx : ByteArray) (a : Nat) : RpS := rNum tx (m0 a)
def m2 (tx : ByteArray) (a : Nat) : RpS := rLit bl tx (m1 tx a)
def m3 (tx : ByteArray) (a : Nat) : RpS := rNum tx (m2 tx a)
def m4 (tx : ByteArray) (a : Nat) : RpS := rLit bl tx (m3 tx a)
def m5 (tx : ByteArray) (a : Nat) : RpS := rNum tx (m4 tx a)
def m6 (tx : ByteArray) (a : Nat) : RpS := rLit bl tx (m5 tx a)
/-- what the document's note reads -/
def ntC (tx : ByteArray) (a : Nat) : Int := rVal tx (m0 a)
def ntP (tx : ByteArray) (a : Nat) : Int := rVal tx (m2 tx a)
def ntU (tx : ByteArray) (a : Nat) : Int := rVal tx (m4 tx a)
def ntX (tx : ByteArray) (a : Nat) : Int := (rsV (m6 tx a).bad (tx.data.toList.drop (m6 tx a).a) : Int)
def ntB (tx : ByteArray) (a : Nat) : Bool := rbOk (m6 tx a).bad 4 (tx.data.toList.drop (m6 tx a).a)
def ntT (tx : ByteArray) (a : Nat) : ByteArray := noteS (ntC tx a) (ntP tx a) (ntU tx a) (ntX tx a)
def rtOk (tx : ByteArray) (a : Nat) : Bool := ntB tx a && (noteOk (ntC tx a) (ntP tx a) (ntU tx a) (ntX tx a) && pfx (ntT tx a) (tx.data.toList.drop a))
def rtV (tx : ByteArray) (a : Nat) (v : Int) : Int := if rtOk tx a then v else 0
def rtSize (tx : ByteArray) (a : Nat) : Nat := if rtOk tx a then (ntT tx a).size else 0
theorem NoteAt.lt' {w : World} {rb : Nat} {c p e s : Int} (h : NoteAt w rb c p e s) : rb < w.heap.size := lt_of_cell? h.1
structure NS (Wa : World) (Q rc : Nat) (tx : ByteArray) (st : RpS) (c p e s : Int) (w : World) : Prop where
  old : Kb Q Wa w
  rd : RfAt Q tx st.a st.bad w
  rcd : NoteAt w rc c p e s
  fz : ∀ o, o < 4 → w.frozen? ⟨rc, o, none⟩ = false
theorem NS.kb {Wa : World} {Q rc : Nat} {tx : ByteArray} {st : RpS} {c p e s : Int} {w w' : World} (h : NS Wa Q rc tx st c p e s w) (hk : Kb Q w w') (hn : rc ≠ Q) {st' : RpS} (hr : RfAt Q tx st'.a st'.bad w') : NS Wa Q rc tx st' c p e s w' :=
  ⟨h.old.trans hk, hr, h.rcd.kb hk hn, fun o ho => by rw [hk.frozen h.rcd.lt' hn]; exact h.fz o ho⟩
theorem NS.set {Wa : World} {Q rc : Nat} {tx : ByteArray} {st : RpS} {c p e s : Int} {w : World} (h : NS Wa Q rc tx st c p e s w) (hc : Wa.heap.size ≤ rc) (hn : rc ≠ Q) (o : Nat) (v : Int) : NS Wa Q rc tx st (if o = 0 then v else c) (if o = 1 then v else p) (if o = 2 then v else e) (if o = 3 then v else s) (w.setCell ⟨rc, o, none⟩ (.int .i64 v)) := by
  have k := Kb.set rc o w (.int .i64 v)
  obtain ⟨q0, q1, q2, q3⟩ := h.rcd
  have step : ∀ i (n : Int), w.cell? ⟨rc, i, none⟩ = some (.int .i64 n) → (w.setCell ⟨rc, o, none⟩ (.int .i64 v)).cell? ⟨rc, i, none⟩ = some (.int .i64 (if o = i then v else n)) := fun i n hq => by
    by_cases hi : o = i
    · subst hi; rw [if_pos rfl]; exact World.cell?_setCell_same w _ _ hq
    · rw [if_neg hi]; exact (World.cell?_setCell_other w _ _ _ (by intro e; injection e with _ e _; exact hi e)).trans hq
  have hR : RfAt Q tx st.a st.bad (w.setCell ⟨rc, o, none⟩ (.int .i64 v)) := by
    have hl := h.rd.lt
    obtain ⟨r0, r1, r2, r3, r4⟩ := h.rd
    exact ⟨by rw [k.cell hl hn.symm]; exact r0, by rw [k.cell hl hn.symm]; exact r1, by rw [k.cell hl hn.symm]; exact r2, by rw [k.frozen hl hn.symm]; exact r3, by rw [k.frozen hl hn.symm]; exact r4⟩
  refine ⟨h.old.late rc o _ hc, hR, ⟨step 0 _ q0, step 1 _ q1, step 2 _ q2, step 3 _ q3⟩, fun o' ho => by rw [World.frozen?_setCell]; exact h.fz o' ho⟩
theorem noteS_len (c p e s : Int) (hc : I64 c) (hp : I64 p) (he : I64 e) : (noteS c p e s).size ≤ 100 := by
  unfold noteS
  split
  · have z1 := itoa_len c hc.1 hc.2
    have z2 := itoa_len p hp.1 hp.2
    have z3 := itoa_len e he.1 he.2
    rw [ByteArray.size_append, strOf_size, strOf_size, sealL_len]
    unfold noteL
    simp only [List.length_append, hexL_len, List.length_nil, List.length_cons]
    have : (be4 s.toNat).length = 4 := rfl
    show _ + (0 + 9) ≤ 100
    omega
  · decide
theorem rVal_i64 (tx : ByteArray) (q : RpS) : I64 (rVal tx q) := by
  have h : rnV (tx.data.toList.drop q.a) < 10 ^ 17 := by
    unfold rnV
    split
    · obtain ⟨h1, h2⟩ := numD_take (tx.data.toList.drop q.a)
      have h3 : (numD (tx.data.toList.drop q.a)).length ≤ 17 := by unfold numD; rw [List.length_take]; omega
      have h4 : (numD (tx.data.toList.drop q.a)).length ≤ (tx.data.toList.drop q.a).length := by rw [h1, List.length_take]; omega
      have := valD_lt (tx.data.toList.drop q.a) _ h4 (by rw [← h1]; exact h2)
      rw [← h1] at this
      exact Nat.lt_of_lt_of_le this (Nat.pow_le_pow_right (by omega) h3)
    · decide
  have e : (10 : Nat) ^ 17 = 100000000000000000 := rfl
  unfold I64 rVal
  omega
set_option maxHeartbeats 8000000 in
set_option maxRecDepth 100000 in
set_option linter.unusedSimpArgs false in
/-- the document's note -/
theorem rnote_any (Q : Nat) (tx : ByteArray) (a : Nat) (w : World) (hr : RfAt Q tx a false w) (ha : a ≤ tx.size) (htx : tx.size < 9223372036854775808) (hPQ : ∀ w', Kb Q w w' → Pow w') :
    Calls Tryd.prog 54 #[.pointer (some ⟨Q, 0, none⟩)] w fun x w' => x = .returned (.tuple #[.agg #[.int .i64 (rtV tx a (ntC tx a)), .int .i64 (rtV tx a (ntP tx a)), .int .i64 (rtV tx a (ntU tx a)), .int .i64 (rtV tx a (ntX tx a))], .int .i64 (rtSize tx a : Int)]) ∧ Kb Q w w' := by
  have hQw := hr.lt
  obtain ⟨Wa, hWa⟩ : ∃ Wa, Wa = w.alloc (.cells #[.int .i64 0, .int .i64 0, .int .i64 0, .int .i64 0] 23) := ⟨_, rfl⟩
  have ba : Below w.heap.size w Wa := by rw [hWa]; exact (Below.refl _ w).alloc (Nat.le_refl _) _
  have sa : Wa.heap.size = w.heap.size + 1 := by rw [hWa]; simp
  obtain ⟨W0, hW0⟩ : ∃ W0, W0 = Wa.alloc (.cells #[.int .i64 0, .int .i64 0, .int .i64 0, .int .i64 0] 23) := ⟨_, rfl⟩
  have b0 : Below Wa.heap.size Wa W0 := by rw [hW0]; exact (Below.refl _ _).alloc (Nat.le_refl _) _
  have ra : RfAt Q tx a false Wa := hr.below ba
  have P0 : NS Wa Q Wa.heap.size tx (m0 a) 0 0 0 0 W0 := by
    refine ⟨Kb.of b0, ra.below b0, ?_, ?_⟩
    · rw [hW0]; exact ⟨by simp, by simp, by simp, by simp⟩
    · rw [hW0]; intro o ho
      match o, ho with
      | 0, _ => simp
      | 1, _ => simp
      | 2, _ => simp
      | 3, _ => simp
  rw [sa] at P0
  have RS : Hid (∀ w', Kb Q Wa w' → (w'.cell? ⟨w.heap.size, 0, none⟩ = some (.int .i64 0) ∧ w'.cell? ⟨w.heap.size, 1, none⟩ = some (.int .i64 0) ∧ w'.cell? ⟨w.heap.size, 2, none⟩ = some (.int .i64 0) ∧ w'.cell? ⟨w.heap.size, 3, none⟩ = some (.int .i64 0)) ∧ (w'.frozen? ⟨w.heap.size, 0, none⟩ = false ∧ w'.frozen? ⟨w.heap.size, 1, none⟩ = false ∧ w'.frozen? ⟨w.heap.size, 2, none⟩ = false ∧ w'.frozen? ⟨w.heap.size, 3, none⟩ = false) ∧ w.heap.size < w'.heap.size) := fun w' hb => by
    have hl : w.heap.size < Wa.heap.size := by omega
    have hn : w.heap.size ≠ Q := by omega
    rw [hb.cell hl hn, hb.cell hl hn, hb.cell hl hn, hb.cell hl hn, hb.frozen hl hn, hb.frozen hl hn, hb.frozen hl hn, hb.frozen hl hn]
    refine ⟨?_, ?_, Nat.lt_of_lt_of_le hl hb.size⟩
    · rw [hWa]; exact ⟨by simp, by simp, by simp, by simp⟩
    · rw [hWa]; exact ⟨by simp, by simp, by simp, by simp⟩
  have hq1 : (m1 tx a).a ≤ tx.size := rNum_le ha
  have hq2 : (m2 tx a).a ≤ tx.size := rLit_le hq1
  have hq3 : (m3 tx a).a ≤ tx.size := rNum_le hq2
  have hq4 : (m4 tx a).a ≤ tx.size := rLit_le hq3
  have hq5 : (m5 tx a).a ≤ tx.size := rNum_le hq4
  have hq6 : (m6 tx a).a ≤ tx.size := rLit_le hq5
  have hne : w.heap.size + 1 ≠ Q := by omega
  have hC : Wa.heap.size ≤ w.heap.size + 1 := by omega
  have LIT : Hid (∀ (st : RpS) c p e sq w', st.a ≤ tx.size → NS Wa Q (w.heap.size + 1) tx st c p e sq w' → Calls Tryd.prog 66 #[.pointer (some ⟨Q, 0, none⟩), .string ⟨#[32]⟩] w' fun x w'' => x = .returned (.tuple #[]) ∧ NS Wa Q (w.heap.size + 1) tx (rLit bl tx st) c p e sq w'') := fun st c p e sq w' ha hp => (lit_any _ bl tx st.a st.bad w' hp.rd ha htx (by decide)).mono fun x w'' ⟨h1, h2, h3⟩ => ⟨h1, hp.kb h3 hne h2⟩
  have NUM : Hid (∀ (st : RpS) c p e sq w', st.a ≤ tx.size → NS Wa Q (w.heap.size + 1) tx st c p e sq w' → Calls Tryd.prog 67 #[.pointer (some ⟨Q, 0, none⟩)] w' fun x w'' => x = .returned (.int .i64 (rVal tx st)) ∧ NS Wa Q (w.heap.size + 1) tx (rNum tx st) c p e sq w'') := fun st c p e sq w' ha hp => (number_any _ tx st.a st.bad w' hp.rd ha htx).mono fun x w'' ⟨h1, h2, h3⟩ => ⟨h1, hp.kb h3 hne h2⟩
  have SUM : Hid (∀ (st : RpS) c p e sq w', st.a ≤ tx.size → NS Wa Q (w.heap.size + 1) tx st c p e sq w' → Calls Tryd.prog 79 #[.pointer (some ⟨Q, 0, none⟩)] w' fun x w'' => x = .returned (.int .i64 (rsV st.bad (tx.data.toList.drop st.a) : Int)) ∧ ∃ st', st'.bad = (!rbOk st.bad 4 (tx.data.toList.drop st.a)) ∧ NS Wa Q (w.heap.size + 1) tx st' c p e sq w'') := fun st c p e sq w' ha hp => (rsum_any _ tx st.a st.bad w' hp.rd ha htx).mono fun x w'' ⟨h1, h2, h3, h4⟩ => ⟨h1, by
      cases hb : rbOk st.bad 4 (tx.data.toList.drop st.a) with
      | true => exact ⟨⟨st.a + 8, false⟩, rfl, hp.kb (st' := ⟨st.a + 8, false⟩) h4 hne (h2 hb)⟩
      | false => obtain ⟨a', _, h5⟩ := h3 hb; exact ⟨⟨a', true⟩, rfl, hp.kb (st' := ⟨a', true⟩) h4 hne h5⟩⟩
  have BA := hide ba
  have HN := hide hne
  have HC := hide hC
  have HQW := hide hQw
  have HSA := hide sa
  have N0 := hide (NUM.out (m0 a) 0 0 0 0 W0 ha P0)
  rw [show rNum tx (m0 a) = m1 tx a from rfl, show rVal tx (m0 a) = ntC tx a from rfl] at N0
  obtain ⟨h0, h1, h2, h3, h4⟩ := hr
  have PW : Hid (∀ w', Kb Q Wa w' → Pow w') := fun w' hk => hPQ w' ((Kb.of ba).trans hk)
  clear P0 b0 ba sa hne hC hPQ ra
  go_enter Tryd.func54, Tryd.ntmps54
  go_wp2_with fail
  rw [← hWa, ← hW0]
  clear hWa hW0 h0 h1 h2 h3 h4
  refine Calls.mono N0.out ?_
  rintro x w1 ⟨rfl, P1⟩
  obtain ⟨k0, k1, k2, k3⟩ := P1.rcd
  have fz := P1.fz 0 (by omega)
  have hlt := P1.rcd.lt'
  have PP0 := hide (P1.set HC.out HN.out 0 (ntC tx a))
  clear P1 N0
  have LL0 := hide (LIT.out (m1 tx a) (ntC tx a) 0 0 0 _ hq1 PP0.out)
  rw [show rLit bl tx (m1 tx a) = m2 tx a from rfl] at LL0
  go_wp2_with fail
  refine Calls.mono LL0.out ?_
  rintro x w2 ⟨rfl, P2⟩
  clear k0 k1 k2 k3 fz PP0 hlt
  have N1 := hide (NUM.out (m2 tx a) _ _ _ _ w2 hq2 P2)
  rw [show rNum tx (m2 tx a) = m3 tx a from rfl, show rVal tx (m2 tx a) = ntP tx a from rfl] at N1
  clear P2 LL0
  go_wp2_with fail
  refine Calls.mono N1.out ?_
  rintro x w3 ⟨rfl, P3⟩
  obtain ⟨k0, k1, k2, k3⟩ := P3.rcd
  have fz := P3.fz 1 (by omega)
  have hlt := P3.rcd.lt'
  have PP1 := hide (P3.set HC.out HN.out 1 (ntP tx a))
  clear P3 N1
  have LL1 := hide (LIT.out (m3 tx a) (ntC tx a) (ntP tx a) 0 0 _ hq3 PP1.out)
  rw [show rLit bl tx (m3 tx a) = m4 tx a from rfl] at LL1
  go_wp2_with fail
  refine Calls.mono LL1.out ?_
  rintro x w4 ⟨rfl, P4⟩
  clear k0 k1 k2 k3 fz PP1 hlt
  have N2 := hide (NUM.out (m4 tx a) _ _ _ _ w4 hq4 P4)
  rw [show rNum tx (m4 tx a) = m5 tx a from rfl, show rVal tx (m4 tx a) = ntU tx a from rfl] at N2
  clear P4 LL1
  go_wp2_with fail
  refine Calls.mono N2.out ?_
  rintro x w5 ⟨rfl, P5⟩
  obtain ⟨k0, k1, k2, k3⟩ := P5.rcd
  have fz := P5.fz 2 (by omega)
  have hlt := P5.rcd.lt'
  have PP2 := hide (P5.set HC.out HN.out 2 (ntU tx a))
  clear P5 N2
  have LL2 := hide (LIT.out (m5 tx a) (ntC tx a) (ntP tx a) (ntU tx a) 0 _ hq5 PP2.out)
  rw [show rLit bl tx (m5 tx a) = m6 tx a from rfl] at LL2
  go_wp2_with fail
  refine Calls.mono LL2.out ?_
  rintro x w6 ⟨rfl, P6⟩
  clear k0 k1 k2 k3 fz PP2 hlt
  have N3 := hide (SUM.out (m6 tx a) _ _ _ _ w6 hq6 P6)
  rw [show (rsV (m6 tx a).bad (tx.data.toList.drop (m6 tx a).a) : Int) = ntX tx a from rfl, show rbOk (m6 tx a).bad 4 (tx.data.toList.drop (m6 tx a).a) = ntB tx a from rfl] at N3
  clear P6 LL2 LIT NUM SUM
  go_wp2_with fail
  refine Calls.mono N3.out ?_
  rintro x w7 ⟨rfl, st', hbad, P7⟩
  obtain ⟨k0, k1, k2, k3⟩ := P7.rcd
  have fz := P7.fz 3 (by omega)
  have hlt := P7.rcd.lt'
  have PP3 := hide (P7.set HC.out HN.out 3 (ntX tx a))
  clear P7 N3
  obtain ⟨W8, hW8⟩ : ∃ W8, W8 = w7.setCell ⟨w.heap.size + 1, 3, none⟩ (.int .i64 (ntX tx a)) := ⟨_, rfl⟩
  have P8 : Hid (NS Wa Q (w.heap.size + 1) tx st' (ntC tx a) (ntP tx a) (ntU tx a) (ntX tx a) W8) := by rw [hW8]; exact PP3.out
  obtain ⟨r0, r1, r2, r3, r4⟩ := PP3.out.rd
  obtain ⟨q0, q1, q2, q3⟩ := PP3.out.rcd
  have zs := RS.out _ PP3.out.old
  have KO := hide ((Kb.of (R := Q) BA.out).trans PP3.out.old)
  cases hB : ntB tx a with
  | false =>
    rw [hbad, hB] at r2
    have hok : rtOk tx a = false := by unfold rtOk; rw [hB]; rfl
    have E : Hid (rtV tx a (ntC tx a) = 0 ∧ rtV tx a (ntP tx a) = 0 ∧ rtV tx a (ntU tx a) = 0 ∧ rtV tx a (ntX tx a) = 0 ∧ (rtSize tx a : Int) = 0) := by show _ ∧ _; unfold rtV rtSize; simp [hok]
    obtain ⟨⟨z0, z1, z2, z3⟩, ⟨f0, f1, f2, f3⟩, hl5⟩ := zs
    clear hok hB hbad q0 q1 q2 q3 P8 PP3 RS PW hW8
    go_wp2_with fail
    refine bodyPost_ret (v := .tuple #[.agg #[.int .i64 0, .int .i64 0, .int .i64 0, .int .i64 0], .int .i64 0]) (by simp [results, Tryd.results54, go_sem, z0, z1, z2, z3]) rfl ⟨?_, ?_⟩
    · obtain ⟨e0, e1, e2, e3, e4⟩ := E.out
      rw [e0, e1, e2, e3, e4]
    · exact (((KO.out.late w.heap.size 0 _ (Nat.le_refl _)).late w.heap.size 1 _ (Nat.le_refl _)).late w.heap.size 2 _ (Nat.le_refl _)).late w.heap.size 3 _ (Nat.le_refl _)
  | true =>
    rw [hbad, hB] at r2
    have PN := hide (rprintNote_any (ntC tx a) (ntP tx a) (ntU tx a) (ntX tx a) (rVal_i64 _ _) (rVal_i64 _ _) (rVal_i64 _ _) W8 (PW.out _ P8.out.old))
    have ES : Hid (tx.data.toList.drop a = tx.data.toList.drop a) := rfl
    have OK : Hid (rtOk tx a = (noteOk (ntC tx a) (ntP tx a) (ntU tx a) (ntX tx a) && pfx (ntT tx a) (tx.data.toList.drop a))) := by show _ = _; unfold rtOk; rw [hB]; rfl
    have TE : Hid (ntT tx a = noteS (ntC tx a) (ntP tx a) (ntU tx a) (ntX tx a)) := rfl
    rw [← TE.out] at PN
    have EQ := hide (ext_pfx (ntT tx a) tx a)
    have PL : Hid (pfx (ntT tx a) (tx.data.toList.drop a) = true → a + (ntT tx a).size ≤ tx.size) := fun h => by have := pfx_len ha h; omega
    have ZV : Hid (rtOk tx a = false → rtV tx a (ntC tx a) = 0 ∧ rtV tx a (ntP tx a) = 0 ∧ rtV tx a (ntU tx a) = 0 ∧ rtV tx a (ntX tx a) = 0 ∧ (rtSize tx a : Int) = 0) := fun hok => by unfold rtV rtSize; simp [hok]
    have OV : Hid (rtOk tx a = true → rtV tx a (ntC tx a) = ntC tx a ∧ rtV tx a (ntP tx a) = ntP tx a ∧ rtV tx a (ntU tx a) = ntU tx a ∧ rtV tx a (ntX tx a) = ntX tx a ∧ (rtSize tx a : Int) = ((ntT tx a).size : Int)) := fun hok => by unfold rtV rtSize; simp [hok]
    have NE : Hid (noteE (ntC tx a) (ntP tx a) (ntU tx a) (ntX tx a) = if noteOk (ntC tx a) (ntP tx a) (ntU tx a) (ntX tx a) then 0 else 42) := rfl
    have NL : Hid (noteOk (ntC tx a) (ntP tx a) (ntU tx a) (ntX tx a) = true → (ntT tx a).size ≤ 100) := fun h => noteS_len _ _ _ _ (rVal_i64 _ _) (rVal_i64 _ _) (rVal_i64 _ _)
    go_wp2_with fail
    rw [← hW8]
    refine Calls.mono PN.out ?_
    rintro x w9 ⟨rfl, b9⟩
    have P9 := hide (P8.out.kb (Kb.of b9) HN.out (st' := st') (P8.out.rd.below b9))
    clear b9 PN P8 PP3 hW8 r0 r1 r2 r3 r4 q0 q1 q2 q3 k0 k1 k2 k3 zs KO fz hlt
    obtain ⟨r0, r1, r2, r3, r4⟩ := P9.out.rd
    obtain ⟨q0, q1, q2, q3⟩ := P9.out.rcd
    obtain ⟨⟨z0, z1, z2, z3⟩, ⟨f0, f1, f2, f3⟩, hl5⟩ := RS.out _ P9.out.old
    have KO := hide ((Kb.of (R := Q) BA.out).trans P9.out.old)
    cases hk : noteOk (ntC tx a) (ntP tx a) (ntU tx a) (ntX tx a) with
    | false =>
      rw [hk] at OK
      have E := hide (ZV.out OK.out)
      have ne : noteE (ntC tx a) (ntP tx a) (ntU tx a) (ntX tx a) = 42 := by rw [NE.out, hk]; rfl
      rw [ne]
      clear NE ne hk ZV OV PL EQ TE NL OK P9
      go_wp2_with fail
      refine bodyPost_ret (v := .tuple #[.agg #[.int .i64 0, .int .i64 0, .int .i64 0, .int .i64 0], .int .i64 0]) (by simp [results, Tryd.results54, go_sem, z0, z1, z2, z3]) rfl ⟨?_, ?_⟩
      · obtain ⟨e0, e1, e2, e3, e4⟩ := E.out
        rw [e0, e1, e2, e3, e4]
      · exact (((KO.out.late w.heap.size 0 _ (Nat.le_refl _)).late w.heap.size 1 _ (Nat.le_refl _)).late w.heap.size 2 _ (Nat.le_refl _)).late w.heap.size 3 _ (Nat.le_refl _)
    | true =>
      rw [hk] at OK
      have ne : noteE (ntC tx a) (ntP tx a) (ntU tx a) (ntX tx a) = 0 := by rw [NE.out, hk]; rfl
      rw [ne]
      have hT := NL.out hk
      clear NE ne hk TE NL
      by_cases hl : tx.size - a < (ntT tx a).size
      · have hpf : pfx (ntT tx a) (tx.data.toList.drop a) = false := by
          cases hp : pfx (ntT tx a) (tx.data.toList.drop a) with
          | false => rfl
          | true => have := PL.out hp; omega
        rw [hpf] at OK
        have E := hide (ZV.out OK.out)
        have g1 : decide ((tx.size : Int) - (a : Int) < ((ntT tx a).size : Int)) = true := decide_eq_true (by omega)
        clear hpf ZV OV PL EQ OK P9
        generalize ntT tx a = T at *
        go_wp2_with fail
        refine bodyPost_ret (v := .tuple #[.agg #[.int .i64 0, .int .i64 0, .int .i64 0, .int .i64 0], .int .i64 0]) (by simp [results, Tryd.results54, go_sem, z0, z1, z2, z3]) rfl ⟨?_, ?_⟩
        · obtain ⟨e0, e1, e2, e3, e4⟩ := E.out
          rw [e0, e1, e2, e3, e4]
        · exact (((KO.out.late w.heap.size 0 _ (Nat.le_refl _)).late w.heap.size 1 _ (Nat.le_refl _)).late w.heap.size 2 _ (Nat.le_refl _)).late w.heap.size 3 _ (Nat.le_refl _)
      · have g1 : decide ((tx.size : Int) - (a : Int) < ((ntT tx a).size : Int)) = false := decide_eq_false (by omega)
        have hle : a + (ntT tx a).size ≤ tx.size := by omega
        have hE := EQ.out
        cases hp : pfx (ntT tx a) (tx.data.toList.drop a) with
        | false =>
          rw [hp] at hE OK
          have E := hide (ZV.out OK.out)
          clear hp ZV OV PL EQ OK P9
          generalize ntT tx a = T at *
          go_wp2_with fail
          refine bodyPost_ret (v := .tuple #[.agg #[.int .i64 0, .int .i64 0, .int .i64 0, .int .i64 0], .int .i64 0]) (by simp [results, Tryd.results54, go_sem, z0, z1, z2, z3]) rfl ⟨?_, ?_⟩
          · obtain ⟨e0, e1, e2, e3, e4⟩ := E.out
            rw [e0, e1, e2, e3, e4]
          · exact (((KO.out.late w.heap.size 0 _ (Nat.le_refl _)).late w.heap.size 1 _ (Nat.le_refl _)).late w.heap.size 2 _ (Nat.le_refl _)).late w.heap.size 3 _ (Nat.le_refl _)
        | true =>
          rw [hp] at hE OK
          have E := hide (OV.out OK.out)
          clear hp ZV OV PL EQ OK
          generalize ntT tx a = T at *
          go_wp2_with fail
          refine bodyPost_ret (v := .tuple #[.agg #[.int .i64 (ntC tx a), .int .i64 (ntP tx a), .int .i64 (ntU tx a), .int .i64 (ntX tx a)], .int .i64 (T.size : Int)]) (by simp [results, Tryd.results54, go_sem, z0, z1, z2, z3]) rfl ⟨?_, ?_⟩
          · obtain ⟨e0, e1, e2, e3, e4⟩ := E.out
            rw [e0, e1, e2, e3, e4]
          · exact (((KO.out.late w.heap.size 0 _ (Nat.le_refl _)).late w.heap.size 1 _ (Nat.le_refl _)).late w.heap.size 2 _ (Nat.le_refl _)).late w.heap.size 3 _ (Nat.le_refl _)
end Go.Proofs.YtbcpfekbnkkflaaDoor
namespace Go.Proofs.YtbcpfekbnkkflaaDoor
open Go.RowKit Go.Shelf
abbrev NV := Int × Int × Int × Int
/-- the cells of notes -/
def nc (l : List NV) : List Value := l.flatMap fun n => [.int .i64 n.1, .int .i64 n.2.1, .int .i64 n.2.2.1, .int .i64 n.2.2.2]
theorem nc_append (a b : List NV) : nc (a ++ b) = nc a ++ nc b := by simp [nc]
theorem nc_one (l : List NV) : ∀ u ∈ nc l, u.oneCell' = true := by
  intro u hu
  obtain ⟨p, _, hp⟩ := List.mem_flatMap.1 hu
  simp at hp
  rcases hp with rfl | rfl | rfl | rfl <;> rfl
theorem nc_one_len (n : NV) : (nc [n]).length = 1 * 4 := rfl
theorem nc_at (l : List NV) : ∀ i (h : i < l.length), (nc l)[i * 4]? = some (.int .i64 l[i].1) ∧ (nc l)[i * 4 + 1]? = some (.int .i64 l[i].2.1) ∧ (nc l)[i * 4 + 2]? = some (.int .i64 l[i].2.2.1) ∧ (nc l)[i * 4 + 3]? = some (.int .i64 l[i].2.2.2) := by
  induction l with
  | nil => intro i h; simp at h
  | cons p r ih =>
    intro i h
    cases i with
    | zero => exact ⟨rfl, rfl, rfl, rfl⟩
    | succ i =>
      have := ih i (by simpa using h)
      have e : nc (p :: r) = .int .i64 p.1 :: .int .i64 p.2.1 :: .int .i64 p.2.2.1 :: .int .i64 p.2.2.2 :: nc r := rfl
      rw [e, show (i + 1) * 4 = i * 4 + 1 + 1 + 1 + 1 by omega, show i * 4 + 1 + 1 + 1 + 1 + 1 = i * 4 + 1 + 1 + 1 + 1 + 1 from rfl, show i * 4 + 1 + 1 + 1 + 1 + 2 = i * 4 + 2 + 1 + 1 + 1 + 1 by omega, show i * 4 + 1 + 1 + 1 + 1 + 3 = i * 4 + 3 + 1 + 1 + 1 + 1 by omega]
      simpa using this
theorem own_below {w w' : World} {base e sz n : Nat} {v : Value} {xs : List Value} (h : w.ownsRow base e sz v n xs) (hb : Below w.heap.size w w') : w'.ownsRow base e sz v n xs := by
  refine h.kept (row := none) ⟨hb.os, hb.tape, hb.output, hb.size, fun k hk _ => hb.block k hk⟩ ?_
  rcases hv : v.ownBlock with _ | _
  · exact .inl rfl
  · exact .inr (by simp)
theorem le_alloc {B : Nat} {w : World} {o : Obj} (h : B ≤ w.heap.size) : B ≤ (w.alloc o).heap.size := by simp; omega
theorem infoN : (Tryd.prog.info? 23).map (fun i => (i.zero, i.size, i.bytes)) = some (some (.agg #[.int .i64 0, .int .i64 0, .int .i64 0, .int .i64 0]), 4, 32) := by kernel_rfl
theorem nc_four (n : NV) : nc [n] = (#[.int .i64 n.1, .int .i64 n.2.1, .int .i64 n.2.2.1, .int .i64 n.2.2.2] : Array Value).toList := rfl
theorem cell_note (w : World) (n : NV) : ∀ j u, (nc [n])[j]? = some u → (w.alloc (.cells #[.int .i64 n.1, .int .i64 n.2.1, .int .i64 n.2.2.1, .int .i64 n.2.2.2] 23)).cell? ((⟨w.heap.size, 0, none⟩ : Addr).add j) = some u := by
  rw [nc_four]
  exact (World.ownsRow_lit (base := 0) (e := 23) (size := 4) w _ 1 (by omega) (by unfold maxLen; omega) rfl).cells (g := w.heap.size) rfl
theorem cell_note2 (w : World) (o : Obj) (n : NV) : ∀ j u, (nc [n])[j]? = some u → ((w.alloc o).alloc (.cells #[.int .i64 n.1, .int .i64 n.2.1, .int .i64 n.2.2.1, .int .i64 n.2.2.2] 23)).cell? ((⟨w.heap.size + 1, 0, none⟩ : Addr).add j) = some u := by
  have := cell_note (w.alloc o) n
  rwa [show (w.alloc o).heap.size = w.heap.size + 1 by simp] at this
/-- the note at a place of a text, its line's length -/
def nvAt (tx : ByteArray) (q : Nat) : NV := (ntV (restS tx q) 0, ntV (restS tx q) 1, ntV (restS tx q) 2, ntV (restS tx q) 3)
def nsz (tx : ByteArray) (q : Nat) : Nat := ntSize (restS tx q)
/-- the first k notes, and the place behind them -/
def notesAt (tx : ByteArray) : Nat → Option (List NV × Nat)
  | 0 => some ([], 0)
  | k + 1 => match notesAt tx k with
    | none => none
    | some (l, q) => if nsz tx q = 0 then none else some (l ++ [nvAt tx q], q + nsz tx q)
theorem ntSize_le (tx : ByteArray) : ntSize tx ≤ tx.size := by
  unfold ntSize
  by_cases h : ntOk tx = true
  · rw [if_pos h]
    unfold ntOk at h
    simp only [Bool.and_eq_true] at h
    obtain ⟨h1, h2, _⟩ := h
    have a1 := tabN_le _ _ h1
    rw [size_data] at a1
    unfold unsFit at h2
    simp only [Bool.and_eq_true] at h2
    have a2 := fldN_le h2.1
    rw [List.length_drop, size_data] at a2
    have a1' : ntN tx ≤ tx.size := a1
    unfold unsN
    omega
  · rw [if_neg h]; omega
theorem nsz_le {tx : ByteArray} {q : Nat} (h : q ≤ tx.size) : q + nsz tx q ≤ tx.size := by
  have := ntSize_le (restS tx q)
  rw [restS_size] at this
  unfold nsz; omega
theorem notesAt_le {tx : ByteArray} : ∀ k l q, notesAt tx k = some (l, q) → l.length = k ∧ q ≤ tx.size ∧ k ≤ q := by
  intro k
  induction k with
  | zero => intro l q h; simp [notesAt] at h; obtain ⟨rfl, rfl⟩ := h; simp
  | succ k ih =>
    intro l q h
    rw [notesAt] at h
    split at h
    · cases h
    · rename_i l' q' h'
      obtain ⟨a, b, c⟩ := ih _ _ h'
      by_cases hz : nsz tx q' = 0
      · rw [if_pos hz] at h; cases h
      · rw [if_neg hz] at h
        simp only [Option.some.injEq, Prod.mk.injEq] at h
        obtain ⟨rfl, rfl⟩ := h
        exact ⟨by simp [a], nsz_le b, by omega⟩
theorem notes_step {tx : ByteArray} {k : Nat} {l : List NV} {q : Nat} (h : notesAt tx k = some (l, q)) (hz : nsz tx q ≠ 0) : notesAt tx (k + 1) = some (l ++ [nvAt tx q], q + nsz tx q) := by
  rw [notesAt, h]; simp only; rw [if_neg hz]
theorem notes_none {tx : ByteArray} {k : Nat} {l : List NV} {q : Nat} (h : notesAt tx k = some (l, q)) (hz : nsz tx q = 0) (t : Nat) : notesAt tx (k + 1 + t) = none := by
  induction t with
  | zero => show notesAt tx (k + 1) = none; rw [notesAt, h]; simp only; rw [if_pos hz]
  | succ t ih => rw [show k + 1 + (t + 1) = k + 1 + t + 1 by omega, notesAt, ih]
theorem notes_one {tx : ByteArray} {k k' : Nat} {l l' : List NV} {q q' : Nat} (h : notesAt tx k = some (l, q)) (hz : nsz tx q = 0) (h' : notesAt tx k' = some (l', q')) (hz' : nsz tx q' = 0) : l = l' ∧ q = q' := by
  rcases Nat.lt_trichotomy k k' with c | c | c
  · have := notes_none h hz (k' - (k + 1)); rw [show k + 1 + (k' - (k + 1)) = k' by omega, h'] at this; cases this
  · subst c; rw [h] at h'; cases h'; exact ⟨rfl, rfl⟩
  · have := notes_none h' hz' (k - (k' + 1)); rw [show k' + 1 + (k - (k' + 1)) = k by omega, h] at this; cases this
theorem note_room {k : Nat} (h : k ≤ 1000000000000) : k + 1 ≤ maxLen ∧ (k + 1) * 32 ≤ 140737488355328 := by unfold maxLen; omega
set_option maxHeartbeats 2000000 in
set_option maxRecDepth 100000 in
theorem parseNotes_any (tx : ByteArray) (w : World) (htx : tx.size ≤ 1000000000000) (hT4 : Tab4 0 w) :
    Calls Tryd.prog 12 #[.string tx] w fun e w' => ∃ (v : Value) (k : Nat) (l : List NV) (q : Nat), e = .returned (.tuple #[v, .int .i64 (q : Int)]) ∧ notesAt tx k = some (l, q) ∧ nsz tx q = 0 ∧ w'.ownsRow w.heap.size 23 4 v l.length (nc l) ∧ Below w.heap.size w w' := by
  obtain ⟨i0, hi, hz0, hz1, hz2⟩ := info_parts infoN
  have RN := hide (fun q w' (hb : Below w.heap.size w w') => readNote_any (restS tx q) w' (by rw [restS_size]; omega) (hT4.below hb hT4.lt))
  clear hT4
  go_enter Tryd.func12, Tryd.ntmps12
  go_wp2_with fail
  go_loopw [4, 5] (fun v g wr => ∃ (k : Nat) (l : List NV) (q : Nat), g = .int .i64 (q : Int) ∧ notesAt tx k = some (l, q) ∧ wr.ownsRow w.heap.size 23 4 v l.length (nc l) ∧ Below w.heap.size w wr)
    (fun _ g _ => tx.size - (intOf g).toNat)
  case atStart => exact ⟨0, [], 0, rfl, rfl, World.ownsRow_nil _ _ _ _, Below.refl _ _⟩
  case round =>
    obtain ⟨k, l, q, rfl, hpa, hown, hnx⟩ := hrel
    have hsz := hnx.size
    obtain ⟨hl1, hq1, hk1⟩ := notesAt_le _ _ _ hpa
    have hq2 := nsz_le hq1
    have HPA := hide hpa
    have HNX := hide hnx
    have HOWN := hide hown
    have RQ := hide (RN.out q wr hnx)
    clear hpa hnx hown
    have ER : restS tx q = tx.extract q tx.size := rfl
    by_cases hz : nsz tx q = 0
    · have HZ := hide hz
      unfold nsz at hz
      rw [hz] at RQ
      rw [ER] at RQ
      clear hz hq2
      go_wp2_with fail
      refine Calls.mono RQ.out ?_
      rintro e w1 ⟨rfl, b1⟩
      have B1 := hide (HNX.out.trans (b1.mono hsz))
      have O1 := hide (own_below HOWN.out b1)
      clear b1 RQ
      go_wp2_with fail
      go_ret2
      exact ⟨_, k, l, q, rfl, HPA.out, HZ.out, O1.out.alloc _, B1.out.alloc B1.out.size _⟩
    · have HST := hide (notes_step HPA.out hz)
      have hzp : 0 < nsz tx q := by omega
      have ez : ntSize (restS tx q) = nsz tx q := rfl
      rw [ez] at RQ
      rw [ER] at RQ
      have PV : ∃ n : NV, n = nvAt tx q := ⟨_, rfl⟩
      obtain ⟨n, hn⟩ := PV
      have RQ' : Hid (Calls Tryd.prog 29 #[.string (tx.extract q tx.size)] wr fun x w' => x = .returned (.tuple #[.agg #[.int .i64 n.1, .int .i64 n.2.1, .int .i64 n.2.2.1, .int .i64 n.2.2.2], .int .i64 (nsz tx q : Int)]) ∧ Below wr.heap.size wr w') := by rw [hn]; exact RQ.out
      rw [← hn] at HST
      clear hn RQ ez ER
      generalize nsz tx q = Z at *
      have hzi : ((Z : Int) == 0) = false := by simp; omega
      obtain ⟨hm1, hm2⟩ := note_room (k := l.length) (by omega)
      go_wp2_with fail
      refine Calls.mono RQ'.out ?_
      rintro e w1 ⟨rfl, b1⟩
      have B1' := HNX.out.trans (b1.mono hsz)
      have s1 := B1'.size
      have O1 := hide (own_below HOWN.out b1)
      have B1 := hide B1'
      clear b1 RQ' B1'
      go_wp2_with (at_builtin; refine wpList_append_own _ rfl _ _ 32 rfl w.heap.size 23 i0 (.agg #[.int .i64 0, .int .i64 0, .int .i64 0, .int .i64 0]) 4 32 Tryd.underlying32 hi hz0 hz1 hz2 rfl (by decide) _ _ _ rfl ((O1.out.alloc _).alloc _) ⟨w1.heap.size + 1, 0, none⟩ 1 1 (nc [n]) rfl (nc_one_len n) (cell_note2 w1 _ n) (nc_one _) hm1 hm2 (le_alloc (le_alloc s1)) ?_; intro v2 w2 o2 g2 n2; clear n2)
      go_roundw
      case rel =>
        refine ⟨k + 1, l ++ [n], q + Z, by go_num, HST.out, ?_, ?_⟩
        · rw [nc_append, List.length_append]
          exact o2
        · exact ((B1.out.alloc s1 _).alloc (le_alloc s1) _).grown g2 (le_alloc (le_alloc s1)) (fun j hj => (O1.out.lt j hj).1)
      case measure => simp [intOf]; omega
end Go.Proofs.YtbcpfekbnkkflaaDoor
