import Derived.Test.YtfpalfpfijcpbaaGreatDoorPqPrint
import Derived.Test.YtfpalfpfijcpbaaGreatDoorPqWord
import Derived.Test.YtfpalfpfijcpbaaGreatDoorGPmParse
namespace Go.Proofs.YtfpalfpfijcpbaaGreatDoor
open Go.RowKit Go.Shelf
def rWrd (tx : ByteArray) (q : RpS) : RpS := ⟨q.a + (wordL (tx.data.toList.drop q.a)).length, q.bad || (wordL (tx.data.toList.drop q.a)).isEmpty⟩
theorem rWrd_le {tx : ByteArray} {q : RpS} (h : q.a ≤ tx.size) : (rWrd tx q).a ≤ tx.size := by
  have := wordL_le (tx.data.toList.drop q.a)
  rw [List.length_drop, size_data] at this
  show q.a + (wordL (tx.data.toList.drop q.a)).length ≤ tx.size
  omega
def k1 (tx : ByteArray) : RpS := rLit mS0 tx q0
def k2 (tx : ByteArray) : RpS := rWrd tx (k1 tx)
def k3 (tx : ByteArray) : RpS := rLit mS1 tx (k2 tx)
def k4 (tx : ByteArray) : RpS := rNum tx (k3 tx)
def k5 (tx : ByteArray) : RpS := rLit mS2 tx (k4 tx)
def k6 (tx : ByteArray) : RpS := rNum tx (k5 tx)
def k7 (tx : ByteArray) : RpS := rLit mS3 tx (k6 tx)
def k8 (tx : ByteArray) : RpS := rNum tx (k7 tx)
def k9 (tx : ByteArray) : RpS := rLit mS4 tx (k8 tx)
def k10 (tx : ByteArray) : RpS := rNum tx (k9 tx)
def k11 (tx : ByteArray) : RpS := rLit mS5 tx (k10 tx)
def k12 (tx : ByteArray) : RpS := rNum tx (k11 tx)
def k13 (tx : ByteArray) : RpS := rLit mS6 tx (k12 tx)
def k14 (tx : ByteArray) : RpS := rNum tx (k13 tx)
def k15 (tx : ByteArray) : RpS := rLit mS7 tx (k14 tx)
def k16 (tx : ByteArray) : RpS := rNum tx (k15 tx)
def k17 (tx : ByteArray) : RpS := rLit nl tx (k16 tx)
def mSt (tx : ByteArray) : ByteArray := strOf (wordL (tx.data.toList.drop (k1 tx).a))
def mV (tx : ByteArray) : Nat → Int
  | 1 => rVal tx (k3 tx)
  | 2 => rVal tx (k5 tx)
  | 3 => rVal tx (k7 tx)
  | 4 => rVal tx (k9 tx)
  | 5 => rVal tx (k11 tx)
  | 6 => rVal tx (k13 tx)
  | 7 => rVal tx (k15 tx)
  | _ => 0
/-- the first j numbers, the others 0 -/
def nUp (tx : ByteArray) (j i : Nat) : Int := if i ≤ j then mV tx i else 0
def rmL (tx : ByteArray) : Int := lstE tx (k17 tx).a (k17 tx).bad
def rmErr (tx : ByteArray) : Int := if rmL tx = 0 then metaE (mSt tx) (mV tx) else rmL tx
def rmT (tx : ByteArray) : ByteArray := if rmErr tx = 0 then mSt tx else ⟨#[]⟩
def rmV (tx : ByteArray) (i : Nat) : Int := if rmErr tx = 0 then mV tx i else 0
structure MS (Wa : World) (Q rc : Nat) (tx : ByteArray) (q : RpS) (st : ByteArray) (n : Nat → Int) (w : World) : Prop where
  old : Below Wa.heap.size Wa w
  rd : RfAt Q tx q.a q.bad w
  rcd : MetaAt w rc st n
  fz : ∀ o, o < 8 → w.frozen? ⟨rc, o, none⟩ = false
theorem MS.kb {Wa : World} {Q rc : Nat} {tx : ByteArray} {q : RpS} {st : ByteArray} {n : Nat → Int} {w w' : World} (h : MS Wa Q rc tx q st n w) (hk : Kb Q w w') (hQ : Wa.heap.size ≤ Q) (hn : rc ≠ Q) {q' : RpS} (hr : RfAt Q tx q'.a q'.bad w') : MS Wa Q rc tx q' st n w' :=
  ⟨hk.below h.old hQ h.old.size, hr, h.rcd.kb hk hn, fun o ho => by rw [hk.frozen h.rcd.lt hn]; exact h.fz o ho⟩
theorem rf_set {Q rc : Nat} {tx : ByteArray} {q : RpS} {w : World} (h : RfAt Q tx q.a q.bad w) (hn : rc ≠ Q) (o : Nat) (v : Value) : RfAt Q tx q.a q.bad (w.setCell ⟨rc, o, none⟩ v) := by
  have k := Kb.set rc o w v
  have hl := h.lt
  obtain ⟨r0, r1, r2, r3, r4⟩ := h
  exact ⟨by rw [k.cell hl hn.symm]; exact r0, by rw [k.cell hl hn.symm]; exact r1, by rw [k.cell hl hn.symm]; exact r2, by rw [k.frozen hl hn.symm]; exact r3, by rw [k.frozen hl hn.symm]; exact r4⟩
theorem MS.setT {Wa : World} {Q rc : Nat} {tx : ByteArray} {q : RpS} {st : ByteArray} {n : Nat → Int} {w : World} (h : MS Wa Q rc tx q st n w) (hc : Wa.heap.size ≤ rc) (hn : rc ≠ Q) (t : ByteArray) : MS Wa Q rc tx q t n (w.setCell ⟨rc, 0, none⟩ (.string t)) := by
  have k := Kb.set rc 0 w (.string t)
  refine ⟨k.below h.old hc h.old.size, rf_set h.rd hn 0 _, ⟨World.cell?_setCell_same w _ _ h.rcd.1, fun i h1 h2 => ?_⟩, fun o ho => by rw [World.frozen?_setCell]; exact h.fz o ho⟩
  exact (World.cell?_setCell_other w _ _ _ (by intro e; injection e with _ e _; omega)).trans (h.rcd.2 i h1 h2)
theorem MS.set {Wa : World} {Q rc : Nat} {tx : ByteArray} {q : RpS} {st : ByteArray} {w : World} {j : Nat} (h : MS Wa Q rc tx q st (nUp tx j) w) (hc : Wa.heap.size ≤ rc) (hn : rc ≠ Q) (hj : j + 1 < 8) : MS Wa Q rc tx q st (nUp tx (j + 1)) (w.setCell ⟨rc, j + 1, none⟩ (.int .i64 (mV tx (j + 1)))) := by
  have k := Kb.set rc (j + 1) w (.int .i64 (mV tx (j + 1)))
  refine ⟨k.below h.old hc h.old.size, rf_set h.rd hn _ _, ⟨?_, fun i h1 h2 => ?_⟩, fun o ho => by rw [World.frozen?_setCell]; exact h.fz o ho⟩
  · exact (World.cell?_setCell_other w _ _ _ (by intro e; injection e with _ e _; omega)).trans h.rcd.1
  · by_cases hi : i = j + 1
    · subst hi
      rw [World.cell?_setCell_same w _ _ (h.rcd.2 _ h1 h2)]
      unfold nUp; rw [if_pos (Nat.le_refl _)]
    · rw [World.cell?_setCell_other w _ _ _ (by intro e; injection e with _ e _; omega), h.rcd.2 i h1 h2]
      unfold nUp
      by_cases h3 : i ≤ j
      · rw [if_pos h3, if_pos (by omega)]
      · rw [if_neg h3, if_neg (by omega)]
theorem mV_mN (tx : ByteArray) (st : ByteArray) : metaE st (mV tx) = metaE st (mN (mV tx 1) (mV tx 2) (mV tx 3) (mV tx 4) (mV tx 5) (mV tx 6) (mV tx 7)) := rfl
set_option maxHeartbeats 16000000 in
set_option maxRecDepth 100000 in
/-- the document's ParseMeta -/
theorem rparseMeta_any (tx : ByteArray) (w : World) (htx : tx.size < 9223372036854775808) :
    Calls Tryz.prog 46 #[.string tx] w fun x w' => x = .returned (.tuple #[.agg (metaCells (rmT tx) (rmV tx)), .int .i64 (rmErr tx)]) ∧ Below w.heap.size w w' := by
  obtain ⟨Wa, hWa⟩ : ∃ Wa, Wa = w.alloc (.cells #[.string ⟨#[]⟩, .int .i64 0, .int .i64 0, .int .i64 0, .int .i64 0, .int .i64 0, .int .i64 0, .int .i64 0] 23) := ⟨_, rfl⟩
  have ba : Below w.heap.size w Wa := by rw [hWa]; exact (Below.refl _ w).alloc (Nat.le_refl _) _
  have sa : Wa.heap.size = w.heap.size + 1 := by rw [hWa]; simp
  obtain ⟨Wb, hWb⟩ : ∃ Wb, Wb = Wa.alloc (.cells #[.string tx, .int .i64 0, .bool false] 134) := ⟨_, rfl⟩
  have bb : Below Wa.heap.size Wa Wb := by rw [hWb]; exact (Below.refl _ _).alloc (Nat.le_refl _) _
  have sb : Wb.heap.size = Wa.heap.size + 1 := by rw [hWb]; simp
  have rb : RfAt Wa.heap.size tx 0 false Wb := by rw [hWb]; exact ⟨by simp, by simp, by simp, by simp, by simp⟩
  obtain ⟨W0, hW0⟩ : ∃ W0, W0 = Wb.alloc (.cells #[.string ⟨#[]⟩, .int .i64 0, .int .i64 0, .int .i64 0, .int .i64 0, .int .i64 0, .int .i64 0, .int .i64 0] 23) := ⟨_, rfl⟩
  have b0 : Below Wb.heap.size Wb W0 := by rw [hW0]; exact (Below.refl _ _).alloc (Nat.le_refl _) _
  have s0 : W0.heap.size = Wb.heap.size + 1 := by rw [hW0]; simp
  have P0 : MS Wa Wa.heap.size Wb.heap.size tx q0 ⟨#[]⟩ (nUp tx 0) W0 := by
    refine ⟨bb.trans (b0.mono bb.size), rb.below b0, ⟨?_, fun i h1 h2 => ?_⟩, ?_⟩
    · rw [hW0]; simp
    · rw [hW0]
      unfold nUp
      rw [if_neg (by omega)]
      match i, h1, h2 with
      | 1, _, _ => simp
      | 2, _, _ => simp
      | 3, _, _ => simp
      | 4, _, _ => simp
      | 5, _, _ => simp
      | 6, _, _ => simp
      | 7, _, _ => simp
    · rw [hW0]; intro o ho
      match o, ho with
      | 0, _ => simp
      | 1, _ => simp
      | 2, _ => simp
      | 3, _ => simp
      | 4, _ => simp
      | 5, _ => simp
      | 6, _ => simp
      | 7, _ => simp
  have RS : Hid (∀ w', Below Wa.heap.size Wa w' → (w'.cell? ⟨w.heap.size, 0, none⟩ = some (.string ⟨#[]⟩) ∧ w'.cell? ⟨w.heap.size, 1, none⟩ = some (.int .i64 0) ∧ w'.cell? ⟨w.heap.size, 2, none⟩ = some (.int .i64 0) ∧ w'.cell? ⟨w.heap.size, 3, none⟩ = some (.int .i64 0) ∧ w'.cell? ⟨w.heap.size, 4, none⟩ = some (.int .i64 0) ∧ w'.cell? ⟨w.heap.size, 5, none⟩ = some (.int .i64 0) ∧ w'.cell? ⟨w.heap.size, 6, none⟩ = some (.int .i64 0) ∧ w'.cell? ⟨w.heap.size, 7, none⟩ = some (.int .i64 0)) ∧ (w'.frozen? ⟨w.heap.size, 0, none⟩ = false ∧ w'.frozen? ⟨w.heap.size, 1, none⟩ = false ∧ w'.frozen? ⟨w.heap.size, 2, none⟩ = false ∧ w'.frozen? ⟨w.heap.size, 3, none⟩ = false ∧ w'.frozen? ⟨w.heap.size, 4, none⟩ = false ∧ w'.frozen? ⟨w.heap.size, 5, none⟩ = false ∧ w'.frozen? ⟨w.heap.size, 6, none⟩ = false ∧ w'.frozen? ⟨w.heap.size, 7, none⟩ = false) ∧ w.heap.size < w'.heap.size) := fun w' hb => by
    have hl : w.heap.size < Wa.heap.size := by omega
    rw [hb.cell (by exact hl), hb.cell (by exact hl), hb.cell (by exact hl), hb.cell (by exact hl), hb.cell (by exact hl), hb.cell (by exact hl), hb.cell (by exact hl), hb.cell (by exact hl), hb.frozen (by exact hl), hb.frozen (by exact hl), hb.frozen (by exact hl), hb.frozen (by exact hl), hb.frozen (by exact hl), hb.frozen (by exact hl), hb.frozen (by exact hl), hb.frozen (by exact hl)]
    refine ⟨?_, ?_, Nat.lt_of_lt_of_le hl hb.size⟩
    · rw [hWa]; exact ⟨by simp, by simp, by simp, by simp, by simp, by simp, by simp, by simp⟩
    · rw [hWa]; exact ⟨by simp, by simp, by simp, by simp, by simp, by simp, by simp, by simp⟩
  have hk1 : (k1 tx).a ≤ tx.size := rLit_le (Nat.zero_le _)
  have hk2 : (k2 tx).a ≤ tx.size := rWrd_le hk1
  have hk3 : (k3 tx).a ≤ tx.size := rLit_le hk2
  have hk4 : (k4 tx).a ≤ tx.size := rNum_le hk3
  have hk5 : (k5 tx).a ≤ tx.size := rLit_le hk4
  have hk6 : (k6 tx).a ≤ tx.size := rNum_le hk5
  have hk7 : (k7 tx).a ≤ tx.size := rLit_le hk6
  have hk8 : (k8 tx).a ≤ tx.size := rNum_le hk7
  have hk9 : (k9 tx).a ≤ tx.size := rLit_le hk8
  have hk10 : (k10 tx).a ≤ tx.size := rNum_le hk9
  have hk11 : (k11 tx).a ≤ tx.size := rLit_le hk10
  have hk12 : (k12 tx).a ≤ tx.size := rNum_le hk11
  have hk13 : (k13 tx).a ≤ tx.size := rLit_le hk12
  have hk14 : (k14 tx).a ≤ tx.size := rNum_le hk13
  have hk15 : (k15 tx).a ≤ tx.size := rLit_le hk14
  have hk16 : (k16 tx).a ≤ tx.size := rNum_le hk15
  have hk17 : (k17 tx).a ≤ tx.size := rLit_le hk16
  have hne : w.heap.size + 1 + 1 ≠ w.heap.size + 1 := by omega
  have hQ : Wa.heap.size ≤ w.heap.size + 1 := by omega
  have hC : Wa.heap.size ≤ w.heap.size + 1 + 1 := by omega
  have P0' : MS Wa (w.heap.size + 1) (w.heap.size + 1 + 1) tx q0 ⟨#[]⟩ (nUp tx 0) W0 := by
    have := P0
    rw [sb, sa] at this
    exact this
  have LIT : Hid (∀ (s : ByteArray) (q : RpS) st n w', s.size ≤ 1000 → q.a ≤ tx.size → MS Wa (w.heap.size + 1) (w.heap.size + 1 + 1) tx q st n w' → Calls Tryz.prog 106 #[.pointer (some ⟨w.heap.size + 1, 0, none⟩), .string s] w' fun x w'' => x = .returned (.tuple #[]) ∧ MS Wa (w.heap.size + 1) (w.heap.size + 1 + 1) tx (rLit s tx q) st n w'') := fun s q st n w' hs ha hp => (lit_any _ s tx q.a q.bad w' hp.rd ha htx hs).mono fun x w'' ⟨h1, h2, h3⟩ => ⟨h1, hp.kb h3 hQ hne h2⟩
  have NUM : Hid (∀ (q : RpS) st n w', q.a ≤ tx.size → MS Wa (w.heap.size + 1) (w.heap.size + 1 + 1) tx q st n w' → Calls Tryz.prog 108 #[.pointer (some ⟨w.heap.size + 1, 0, none⟩)] w' fun x w'' => x = .returned (.int .i64 (rVal tx q)) ∧ MS Wa (w.heap.size + 1) (w.heap.size + 1 + 1) tx (rNum tx q) st n w'') := fun q st n w' ha hp => (number_any _ tx q.a q.bad w' hp.rd ha htx).mono fun x w'' ⟨h1, h2, h3⟩ => ⟨h1, hp.kb h3 hQ hne h2⟩
  have WRD : Hid (∀ (q : RpS) st n w', q.a ≤ tx.size → MS Wa (w.heap.size + 1) (w.heap.size + 1 + 1) tx q st n w' → Calls Tryz.prog 107 #[.pointer (some ⟨w.heap.size + 1, 0, none⟩)] w' fun x w'' => x = .returned (.string (strOf (wordL (tx.data.toList.drop q.a)))) ∧ MS Wa (w.heap.size + 1) (w.heap.size + 1 + 1) tx (rWrd tx q) st n w'') := fun q st n w' ha hp => (rword_any _ tx q.a q.bad w' hp.rd ha htx).mono fun x w'' ⟨h1, h2, h3⟩ => ⟨h1, hp.kb h3 hQ hne h2⟩
  have LST : Hid (∀ (q : RpS) st n w', q.a ≤ tx.size → MS Wa (w.heap.size + 1) (w.heap.size + 1 + 1) tx q st n w' → Calls Tryz.prog 109 #[.pointer (some ⟨w.heap.size + 1, 0, none⟩)] w' fun x w'' => x = .returned (.int .i64 (lstE tx q.a q.bad)) ∧ Below Wa.heap.size Wa w'' ∧ MetaAt w'' (w.heap.size + 1 + 1) st n) := fun q st n w' ha hp => (last_any _ tx q.a q.bad w' hp.rd ha htx).mono fun x w'' ⟨h1, h3⟩ => ⟨h1, h3.below hp.old hQ hp.old.size, hp.rcd.kb h3 hne⟩
  have L1 := hide (LIT.out mS0 q0 _ _ W0 (by decide) (Nat.zero_le _) P0')
  rw [show rLit mS0 tx q0 = k1 tx from rfl] at L1
  have BA := hide ba
  have HN := hide hne
  have HC := hide hC
  obtain ⟨LE, hLE⟩ : ∃ LE, LE = rmL tx := ⟨_, rfl⟩
  have ANS : Hid (rmErr tx = (if LE = 0 then metaE (mSt tx) (mV tx) else LE) ∧ (rmErr tx = 0 → rmT tx = mSt tx ∧ rmV tx 1 = mV tx 1 ∧ rmV tx 2 = mV tx 2 ∧ rmV tx 3 = mV tx 3 ∧ rmV tx 4 = mV tx 4 ∧ rmV tx 5 = mV tx 5 ∧ rmV tx 6 = mV tx 6 ∧ rmV tx 7 = mV tx 7) ∧ (¬ rmErr tx = 0 → rmT tx = ⟨#[]⟩ ∧ rmV tx 1 = 0 ∧ rmV tx 2 = 0 ∧ rmV tx 3 = 0 ∧ rmV tx 4 = 0 ∧ rmV tx 5 = 0 ∧ rmV tx 6 = 0 ∧ rmV tx 7 = 0)) := by
    refine ⟨by rw [hLE]; rfl, fun h => ?_, fun h => ?_⟩
    · unfold rmT rmV; simp only [if_pos h]; exact ⟨trivial, trivial, trivial, trivial, trivial, trivial, trivial, trivial⟩
    · unfold rmT rmV; simp only [if_neg h]; exact ⟨trivial, trivial, trivial, trivial, trivial, trivial, trivial, trivial⟩
  unfold metaCells
  generalize rmErr tx = ER at *
  generalize rmT tx = A0 at *
  generalize rmV tx 1 = A1 at *
  generalize rmV tx 2 = A2 at *
  generalize rmV tx 3 = A3 at *
  generalize rmV tx 4 = A4 at *
  generalize rmV tx 5 = A5 at *
  generalize rmV tx 6 = A6 at *
  generalize rmV tx 7 = A7 at *
  have HLE := hide hLE
  clear hLE P0 P0' b0 bb ba rb s0 sa sb hne hC hQ
  unfold mS0 at L1
  go_enter Tryz.func46, Tryz.ntmps46
  go_wp2_with fail
  rw [← hWa, ← hWb, ← hW0]
  clear hWa hWb hW0
  refine Calls.mono L1.out ?_
  rintro x w1 ⟨rfl, P1⟩
  have N0 := hide (WRD.out (k1 tx) _ _ w1 hk1 P1)
  rw [show rWrd tx (k1 tx) = k2 tx from rfl, show strOf (wordL (tx.data.toList.drop (k1 tx).a)) = mSt tx from rfl] at N0
  clear P1 L1
  go_wp2_with fail
  refine Calls.mono N0.out ?_
  rintro x w2 ⟨rfl, P2⟩
  obtain ⟨d0, dd⟩ := P2.rcd
  have fz := P2.fz 0 (by omega)
  have PP0 := hide (P2.setT HC.out HN.out (mSt tx))
  clear P2 N0 dd
  have LL1 := hide (LIT.out mS1 (k2 tx) _ _ _ (by decide) hk2 PP0.out)
  rw [show rLit mS1 tx (k2 tx) = k3 tx from rfl] at LL1
  unfold mS1 at LL1
  go_wp2_with fail
  refine Calls.mono LL1.out ?_
  rintro x w3 ⟨rfl, P3⟩
  clear d0 fz PP0
  have N1 := hide (NUM.out (k3 tx) _ _ w3 hk3 P3)
  rw [show rNum tx (k3 tx) = k4 tx from rfl, show rVal tx (k3 tx) = mV tx 1 from rfl] at N1
  clear P3 LL1
  go_wp2_with fail
  refine Calls.mono N1.out ?_
  rintro x w4 ⟨rfl, P4⟩
  have d0 := P4.rcd.2 1 (by omega) (by omega)
  have fz := P4.fz 1 (by omega)
  have PP1 := hide (P4.set HC.out HN.out (j := 0) (by omega))
  clear P4 N1
  have LL2 := hide (LIT.out mS2 (k4 tx) _ _ _ (by decide) hk4 PP1.out)
  rw [show rLit mS2 tx (k4 tx) = k5 tx from rfl] at LL2
  unfold mS2 at LL2
  go_wp2_with fail
  refine Calls.mono LL2.out ?_
  rintro x w5 ⟨rfl, P5⟩
  clear d0 fz PP1
  have N2 := hide (NUM.out (k5 tx) _ _ w5 hk5 P5)
  rw [show rNum tx (k5 tx) = k6 tx from rfl, show rVal tx (k5 tx) = mV tx 2 from rfl] at N2
  clear P5 LL2
  go_wp2_with fail
  refine Calls.mono N2.out ?_
  rintro x w6 ⟨rfl, P6⟩
  have d0 := P6.rcd.2 2 (by omega) (by omega)
  have fz := P6.fz 2 (by omega)
  have PP2 := hide (P6.set HC.out HN.out (j := 1) (by omega))
  clear P6 N2
  have LL3 := hide (LIT.out mS3 (k6 tx) _ _ _ (by decide) hk6 PP2.out)
  rw [show rLit mS3 tx (k6 tx) = k7 tx from rfl] at LL3
  unfold mS3 at LL3
  go_wp2_with fail
  refine Calls.mono LL3.out ?_
  rintro x w7 ⟨rfl, P7⟩
  clear d0 fz PP2
  have N3 := hide (NUM.out (k7 tx) _ _ w7 hk7 P7)
  rw [show rNum tx (k7 tx) = k8 tx from rfl, show rVal tx (k7 tx) = mV tx 3 from rfl] at N3
  clear P7 LL3
  go_wp2_with fail
  refine Calls.mono N3.out ?_
  rintro x w8 ⟨rfl, P8⟩
  have d0 := P8.rcd.2 3 (by omega) (by omega)
  have fz := P8.fz 3 (by omega)
  have PP3 := hide (P8.set HC.out HN.out (j := 2) (by omega))
  clear P8 N3
  have LL4 := hide (LIT.out mS4 (k8 tx) _ _ _ (by decide) hk8 PP3.out)
  rw [show rLit mS4 tx (k8 tx) = k9 tx from rfl] at LL4
  unfold mS4 at LL4
  go_wp2_with fail
  refine Calls.mono LL4.out ?_
  rintro x w9 ⟨rfl, P9⟩
  clear d0 fz PP3
  have N4 := hide (NUM.out (k9 tx) _ _ w9 hk9 P9)
  rw [show rNum tx (k9 tx) = k10 tx from rfl, show rVal tx (k9 tx) = mV tx 4 from rfl] at N4
  clear P9 LL4
  go_wp2_with fail
  refine Calls.mono N4.out ?_
  rintro x w10 ⟨rfl, P10⟩
  have d0 := P10.rcd.2 4 (by omega) (by omega)
  have fz := P10.fz 4 (by omega)
  have PP4 := hide (P10.set HC.out HN.out (j := 3) (by omega))
  clear P10 N4
  have LL5 := hide (LIT.out mS5 (k10 tx) _ _ _ (by decide) hk10 PP4.out)
  rw [show rLit mS5 tx (k10 tx) = k11 tx from rfl] at LL5
  unfold mS5 at LL5
  go_wp2_with fail
  refine Calls.mono LL5.out ?_
  rintro x w11 ⟨rfl, P11⟩
  clear d0 fz PP4
  have N5 := hide (NUM.out (k11 tx) _ _ w11 hk11 P11)
  rw [show rNum tx (k11 tx) = k12 tx from rfl, show rVal tx (k11 tx) = mV tx 5 from rfl] at N5
  clear P11 LL5
  go_wp2_with fail
  refine Calls.mono N5.out ?_
  rintro x w12 ⟨rfl, P12⟩
  have d0 := P12.rcd.2 5 (by omega) (by omega)
  have fz := P12.fz 5 (by omega)
  have PP5 := hide (P12.set HC.out HN.out (j := 4) (by omega))
  clear P12 N5
  have LL6 := hide (LIT.out mS6 (k12 tx) _ _ _ (by decide) hk12 PP5.out)
  rw [show rLit mS6 tx (k12 tx) = k13 tx from rfl] at LL6
  unfold mS6 at LL6
  go_wp2_with fail
  refine Calls.mono LL6.out ?_
  rintro x w13 ⟨rfl, P13⟩
  clear d0 fz PP5
  have N6 := hide (NUM.out (k13 tx) _ _ w13 hk13 P13)
  rw [show rNum tx (k13 tx) = k14 tx from rfl, show rVal tx (k13 tx) = mV tx 6 from rfl] at N6
  clear P13 LL6
  go_wp2_with fail
  refine Calls.mono N6.out ?_
  rintro x w14 ⟨rfl, P14⟩
  have d0 := P14.rcd.2 6 (by omega) (by omega)
  have fz := P14.fz 6 (by omega)
  have PP6 := hide (P14.set HC.out HN.out (j := 5) (by omega))
  clear P14 N6
  have LL7 := hide (LIT.out mS7 (k14 tx) _ _ _ (by decide) hk14 PP6.out)
  rw [show rLit mS7 tx (k14 tx) = k15 tx from rfl] at LL7
  unfold mS7 at LL7
  go_wp2_with fail
  refine Calls.mono LL7.out ?_
  rintro x w15 ⟨rfl, P15⟩
  clear d0 fz PP6
  have N7 := hide (NUM.out (k15 tx) _ _ w15 hk15 P15)
  rw [show rNum tx (k15 tx) = k16 tx from rfl, show rVal tx (k15 tx) = mV tx 7 from rfl] at N7
  clear P15 LL7
  go_wp2_with fail
  refine Calls.mono N7.out ?_
  rintro x w16 ⟨rfl, P16⟩
  have d0 := P16.rcd.2 7 (by omega) (by omega)
  have fz := P16.fz 7 (by omega)
  have PP7 := hide (P16.set HC.out HN.out (j := 6) (by omega))
  clear P16 N7
  have LL8 := hide (LIT.out nl (k16 tx) _ _ _ (by decide) hk16 PP7.out)
  rw [show rLit nl tx (k16 tx) = k17 tx from rfl] at LL8
  unfold nl at LL8
  go_wp2_with fail
  refine Calls.mono LL8.out ?_
  rintro x w17 ⟨rfl, P17⟩
  clear d0 fz PP7
  have LS := hide (LST.out (k17 tx) _ _ w17 hk17 P17)
  rw [show lstE tx (k17 tx).a (k17 tx).bad = rmL tx from rfl, ← HLE.out] at LS
  clear P17 LL8 LIT NUM LST WRD
  go_wp2_with fail
  refine Calls.mono LS.out ?_
  rintro x wL ⟨rfl, bo, d0, dd⟩
  have d1 : wL.cell? ⟨w.heap.size + 1 + 1, 1, none⟩ = some (.int .i64 (mV tx 1)) := dd 1 (by omega) (by omega)
  have d2 : wL.cell? ⟨w.heap.size + 1 + 1, 2, none⟩ = some (.int .i64 (mV tx 2)) := dd 2 (by omega) (by omega)
  have d3 : wL.cell? ⟨w.heap.size + 1 + 1, 3, none⟩ = some (.int .i64 (mV tx 3)) := dd 3 (by omega) (by omega)
  have d4 : wL.cell? ⟨w.heap.size + 1 + 1, 4, none⟩ = some (.int .i64 (mV tx 4)) := dd 4 (by omega) (by omega)
  have d5 : wL.cell? ⟨w.heap.size + 1 + 1, 5, none⟩ = some (.int .i64 (mV tx 5)) := dd 5 (by omega) (by omega)
  have d6 : wL.cell? ⟨w.heap.size + 1 + 1, 6, none⟩ = some (.int .i64 (mV tx 6)) := dd 6 (by omega) (by omega)
  have d7 : wL.cell? ⟨w.heap.size + 1 + 1, 7, none⟩ = some (.int .i64 (mV tx 7)) := dd 7 (by omega) (by omega)
  have BO := hide bo
  clear LS dd
  by_cases hz : LE = 0
  · subst hz
    have CF := hide (rmetaFields_any (mSt tx) (mV tx 1) (mV tx 2) (mV tx 3) (mV tx 4) (mV tx 5) (mV tx 6) (mV tx 7) wL)
    have hER : ER = metaE (mSt tx) (mN (mV tx 1) (mV tx 2) (mV tx 3) (mV tx 4) (mV tx 5) (mV tx 6) (mV tx 7)) := by rw [ANS.out.1, if_pos rfl, mV_mN]
    rw [← hER] at CF
    have HRL : Hid (w.heap.size + 1 + 1 < wL.heap.size) := lt_of_cell? d0
    clear hER bo
    generalize mSt tx = V0 at *
    generalize mV tx 1 = V1 at *
    generalize mV tx 2 = V2 at *
    generalize mV tx 3 = V3 at *
    generalize mV tx 4 = V4 at *
    generalize mV tx 5 = V5 at *
    generalize mV tx 6 = V6 at *
    generalize mV tx 7 = V7 at *
    by_cases hy : ER = 0
    · subst hy
      obtain ⟨p0, p1, p2, p3, p4, p5, p6, p7⟩ := ANS.out.2.1 rfl
      subst p0 p1 p2 p3 p4 p5 p6 p7
      go_wp2_with fail
      refine Calls.mono CF.out ?_
      rintro x wM ⟨rfl, b11⟩
      have bo2 := BO.out.trans (b11.mono BO.out.size)
      obtain ⟨⟨z0, z1, z2, z3, z4, z5, z6, z7⟩, ⟨f0, f1, f2, f3, f4, f5, f6, f7⟩, hl3⟩ := RS.out wM bo2
      have BF := hide (BA.out.trans (bo2.mono BA.out.size))
      have m0 : wM.cell? ⟨w.heap.size + 1 + 1, 0, none⟩ = some (.string A0) := by rw [b11.cell (by exact HRL.out)]; exact d0
      have m1 : wM.cell? ⟨w.heap.size + 1 + 1, 1, none⟩ = some (.int .i64 A1) := by rw [b11.cell (by exact HRL.out)]; exact d1
      have m2 : wM.cell? ⟨w.heap.size + 1 + 1, 2, none⟩ = some (.int .i64 A2) := by rw [b11.cell (by exact HRL.out)]; exact d2
      have m3 : wM.cell? ⟨w.heap.size + 1 + 1, 3, none⟩ = some (.int .i64 A3) := by rw [b11.cell (by exact HRL.out)]; exact d3
      have m4 : wM.cell? ⟨w.heap.size + 1 + 1, 4, none⟩ = some (.int .i64 A4) := by rw [b11.cell (by exact HRL.out)]; exact d4
      have m5 : wM.cell? ⟨w.heap.size + 1 + 1, 5, none⟩ = some (.int .i64 A5) := by rw [b11.cell (by exact HRL.out)]; exact d5
      have m6 : wM.cell? ⟨w.heap.size + 1 + 1, 6, none⟩ = some (.int .i64 A6) := by rw [b11.cell (by exact HRL.out)]; exact d6
      have m7 : wM.cell? ⟨w.heap.size + 1 + 1, 7, none⟩ = some (.int .i64 A7) := by rw [b11.cell (by exact HRL.out)]; exact d7
      clear b11 bo2 CF d0 d1 d2 d3 d4 d5 d6 d7 RS
      go_wp2_with fail
      refine bodyPost_ret (v := .tuple #[.agg #[.string A0, .int .i64 A1, .int .i64 A2, .int .i64 A3, .int .i64 A4, .int .i64 A5, .int .i64 A6, .int .i64 A7], .int .i64 0]) (by simp [results, Tryz.results46, go_sem, z0, z1, z2, z3, z4, z5, z6, z7]) rfl ⟨rfl, ?_⟩
      exact (((((((BF.out.setCell (Nat.le_refl _) _).setCell (Nat.le_refl _) _).setCell (Nat.le_refl _) _).setCell (Nat.le_refl _) _).setCell (Nat.le_refl _) _).setCell (Nat.le_refl _) _).setCell (Nat.le_refl _) _).setCell (Nat.le_refl _) _
    · obtain ⟨p0, p1, p2, p3, p4, p5, p6, p7⟩ := ANS.out.2.2 hy
      subst p0 p1 p2 p3 p4 p5 p6 p7
      have hy2 : (ER == 0) = false := by simpa using hy
      go_wp2_with fail
      refine Calls.mono CF.out ?_
      rintro x wM ⟨rfl, b11⟩
      have bo2 := BO.out.trans (b11.mono BO.out.size)
      obtain ⟨⟨z0, z1, z2, z3, z4, z5, z6, z7⟩, ⟨f0, f1, f2, f3, f4, f5, f6, f7⟩, hl3⟩ := RS.out wM bo2
      have BF := hide (BA.out.trans (bo2.mono BA.out.size))
      clear b11 bo2 CF d0 d1 d2 d3 d4 d5 d6 d7 RS
      go_wp2_with fail
      refine bodyPost_ret (v := .tuple #[.agg #[.string ⟨#[]⟩, .int .i64 0, .int .i64 0, .int .i64 0, .int .i64 0, .int .i64 0, .int .i64 0, .int .i64 0], .int .i64 ER]) (by simp [results, Tryz.results46, go_sem, z0, z1, z2, z3, z4, z5, z6, z7]) rfl ⟨rfl, ?_⟩
      exact (((((((BF.out.setCell (Nat.le_refl _) _).setCell (Nat.le_refl _) _).setCell (Nat.le_refl _) _).setCell (Nat.le_refl _) _).setCell (Nat.le_refl _) _).setCell (Nat.le_refl _) _).setCell (Nat.le_refl _) _).setCell (Nat.le_refl _) _
  · have hER : ER = LE := by rw [ANS.out.1, if_neg hz]
    obtain ⟨p0, p1, p2, p3, p4, p5, p6, p7⟩ := ANS.out.2.2 (by rw [hER]; exact hz)
    subst p0 p1 p2 p3 p4 p5 p6 p7
    subst hER
    have hy2 : (ER == 0) = false := by simpa using hz
    obtain ⟨⟨z0, z1, z2, z3, z4, z5, z6, z7⟩, ⟨f0, f1, f2, f3, f4, f5, f6, f7⟩, hl3⟩ := RS.out wL bo
    have BF := hide (BA.out.trans (bo.mono BA.out.size))
    clear bo d0 d1 d2 d3 d4 d5 d6 d7 RS
    go_wp2_with fail
    refine bodyPost_ret (v := .tuple #[.agg #[.string ⟨#[]⟩, .int .i64 0, .int .i64 0, .int .i64 0, .int .i64 0, .int .i64 0, .int .i64 0, .int .i64 0], .int .i64 ER]) (by simp [results, Tryz.results46, go_sem, z0, z1, z2, z3, z4, z5, z6, z7]) rfl ⟨rfl, ?_⟩
    exact (((((((BF.out.setCell (Nat.le_refl _) _).setCell (Nat.le_refl _) _).setCell (Nat.le_refl _) _).setCell (Nat.le_refl _) _).setCell (Nat.le_refl _) _).setCell (Nat.le_refl _) _).setCell (Nat.le_refl _) _).setCell (Nat.le_refl _) _
end Go.Proofs.YtfpalfpfijcpbaaGreatDoor
