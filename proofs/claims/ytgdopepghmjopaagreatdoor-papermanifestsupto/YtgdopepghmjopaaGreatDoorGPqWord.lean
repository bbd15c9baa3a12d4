import Derived.Test.YtgdopepghmjopaaGreatDoorGPaRfQ
import Derived.Test.YtgdopepghmjopaaGreatDoorGPqPrint
import Derived.Test.YtgdopepghmjopaaGreatDoorGPnBack
import Derived.Test.YtgdopepghmjopaaGreatDoorPwPrint
namespace Go.Proofs.YtgdopepghmjopaaGreatDoor
open Go.RowKit Go.Shelf
theorem word_at {l : List UInt8} {k : Nat} (h1 : (l.take k).all (fun c => !isSep c) = true) (h2 : k < l.length → ∃ c, l[k]? = some c ∧ isSep c = true) : wordL l = l.take k := by
  unfold wordL
  exact takeWhile_take l k h1 (fun h => by obtain ⟨c, e1, e2⟩ := h2 h; exact ⟨c, e1, by rw [e2]; rfl⟩)
set_option maxHeartbeats 4000000 in
set_option maxRecDepth 100000 in
/-- the document's word -/
theorem rword_any (Q : Nat) (tx : ByteArray) (a : Nat) (bad : Bool) (w : World) (h : RfAt Q tx a bad w) (ha : a ≤ tx.size) (htx : tx.size < 9223372036854775808) :
    Calls Tryz.prog 66 #[.pointer (some ⟨Q, 0, none⟩)] w fun e w' => e = .returned (.string (strOf (wordL (tx.data.toList.drop a)))) ∧ RfAt Q tx (a + (wordL (tx.data.toList.drop a)).length) (bad || (wordL (tx.data.toList.drop a)).isEmpty) w' ∧ Kb Q w w' := by
  have H := hide h
  obtain ⟨h0, h1, h2, h3, h4⟩ := h
  have hll : (tx.data.toList.drop a).length = tx.size - a := by rw [List.length_drop, size_data]
  have hxx : ∀ j, a + j < tx.size → (tx.data.toList.drop a)[j]? = some (tx.get! (a + j)) := fun j hj => by
    rw [List.getElem?_drop, Lib.data_getElem? tx (a + j) hj, get_bang tx (a + j) hj]
  have HEX : Hid (∀ k, a + k ≤ tx.size → strOf ((tx.data.toList.drop a).take k) = tx.extract a (a + k)) := fun k hk => by
    rw [← strOf_toList (tx.extract a (a + k)), Lib.extract_data, Nat.add_sub_cancel_left]
  generalize tx.data.toList.drop a = l at *
  have HX := hide hxx
  clear hxx
  have HN : Hid (∀ k, (l.take k).all (fun c => !isSep c) = true → a + k ≤ tx.size → (k < l.length → ∃ c, l[k]? = some c ∧ isSep c = true) → strOf (wordL l) = tx.extract a (a + k) ∧ (wordL l).length = k ∧ (wordL l).isEmpty = decide (k = 0)) := fun k q1 q2 q3 => by
    have e := word_at q1 q3
    have el : (l.take k).length = k := by rw [List.length_take]; omega
    refine ⟨by rw [e]; exact HEX.out k q2, by rw [e, el], ?_⟩
    rw [e]
    cases k with
    | zero => rfl
    | succ k =>
      rw [decide_eq_false (by omega)]
      cases hd : l.take (k + 1) with
      | nil => rw [hd] at el; simp at el
      | cons x y => rfl
  clear HEX
  go_enter Tryz.func66, Tryz.ntmps66
  go_wp2_with fail
  go_loopw [] (fun wr => ∃ k : Nat, a + k ≤ tx.size ∧ Hid ((l.take k).all (fun c => !isSep c) = true ∧ RfAt Q tx (a + k) bad wr ∧ Kb Q w wr)) (fun wr => tx.size - posIn Q wr)
  case atStart => exact ⟨0, by omega, rfl, H.out, Kb.refl _ _⟩
  case round =>
    obtain ⟨k, hak, H2⟩ := hrel
    obtain ⟨c0, c1, c2, c3, c4⟩ := H2.out.2.1
    have HP : Hid (posIn Q wr = a + k) := H2.out.2.1.pos
    clear h0 h1 h2 h3 h4
    have hcast : ((a + k : Nat) : Int) = (a : Int) + (k : Int) := by omega
    rw [hcast] at c1
    by_cases g1 : a + k < tx.size
    · have f1 : decide ((a : Int) + (k : Int) < (tx.size : Int)) = true := decide_eq_true (by omega)
      have hxs : ∀ w', (Instr.index 9 (.string tx) (.int .i64 ((a : Int) + (k : Int)))).run Tryz.prog w' = .ok (.int .u8 ((tx[a + k]'g1).toNat : Int)) w' := fun w' => by
        rw [← hcast]; exact ix_str w' tx (a + k) g1
      have hxk := HX.out k g1
      rw [get_bang tx (a + k) g1] at hxk
      have HXK := hide hxk
      clear hxk
      generalize (tx[a + k]'g1) = c at *
      cases hsp : isSep c with
      | false =>
        have hc1 : c ≠ 32 := fun e => by rw [e] at hsp; cases hsp
        have hc2 : c ≠ 10 := fun e => by rw [e] at hsp; cases hsp
        have f3 : ((c.toNat : Int) != 32) = true := bne_iff_ne.2 (fun e => hc1 (UInt8.toNat_inj.1 (by show _ = 32; omega)))
        have f4 : ((c.toNat : Int) != 10) = true := bne_iff_ne.2 (fun e => hc2 (UInt8.toNat_inj.1 (by show _ = 10; omega)))
        have HSN : Hid ((l.take (k + 1)).all (fun c => !isSep c) = true) := by
          have hkl : k < l.length := by omega
          have hck : l[k] = c := by have := HXK.out; rw [List.getElem?_eq_getElem hkl] at this; exact Option.some.inj this
          show _ = _
          rw [List.take_succ_eq_append_getElem hkl, List.all_append, H2.out.1, hck]; simp [hsp]
        clear hc1 hc2 hsp
        go_wp2_with fail
        go_quiet (fail)
        have H3 := hide (H2.out.2.1.drewN nq)
        have K3 := hide (H2.out.2.2.trans (kb_drewN Q wr nq))
        obtain ⟨c0, c1, c2, c3, c4⟩ := H3.out
        rw [hcast] at c1
        generalize wr.drewN nq = w1 at *
        have R3 := hide (H3.out.setA (a + (k + 1)))
        have hw : ((a + (k + 1) : Nat) : Int) = (a : Int) + (k : Int) + 1 := by omega
        rw [hw] at R3
        clear H2
        go_wp2_with fail
        go_roundw
        case rel => exact ⟨k + 1, by omega, HSN.out, R3.out, K3.out.trans (Kb.set Q 1 _ _)⟩
        case measure => rw [HP.out, (show posIn Q (w1.setCell ⟨Q, 1, none⟩ (.int .i64 ((a : Int) + (k : Int) + 1))) = a + (k + 1) from R3.out.pos)]; omega
      | true =>
        have EN := hide (HN.out k H2.out.1 hak (fun _ => ⟨c, HXK.out, hsp⟩))
        by_cases hc1 : c = 32
        · have f3 : ((c.toNat : Int) != 32) = false := by rw [hc1]; rfl
          clear hsp hc1
          go_wp2_with fail
          go_quiet (fail)
          have H3 := hide (H2.out.2.1.drewN nq)
          have K3 := hide (H2.out.2.2.trans (kb_drewN Q wr nq))
          obtain ⟨c0, c1, c2, c3, c4⟩ := H3.out
          rw [hcast] at c1
          generalize wr.drewN nq = w1 at *
          have RB := hide (H3.out.setB true)
          by_cases hk0 : k = 0
          · have e0 : ((a : Int) + (k : Int) == (a : Int)) = true := by rw [hk0]; simp
            obtain ⟨d0, d1, d2, d3, d4⟩ := RB.out
            rw [hcast] at d1
            have HK0 := hide hk0
            clear hk0
            go_wp2_with fail
            go_quiet (fail)
            go_wp2_with fail
            go_ret
            refine ⟨ret_s EN.out.1.symm, ?_, K3.out.trans ((Kb.set Q 2 _ _).trans (kb_drewN Q _ nq))⟩
            rw [EN.out.2.1, EN.out.2.2, HK0.out, decide_eq_true rfl, Bool.or_true]
            have := RB.out
            rw [HK0.out] at this
            exact this.drewN nq
          · have e0 : ((a : Int) + (k : Int) == (a : Int)) = false := beq_eq_false_iff_ne.2 (by omega)
            have HK0 := hide hk0
            clear hk0
            go_wp2_with fail
            go_quiet (fail)
            go_wp2_with fail
            go_ret
            refine ⟨ret_s EN.out.1.symm, ?_, K3.out.trans (kb_drewN Q _ nq)⟩
            rw [EN.out.2.1, EN.out.2.2, decide_eq_false HK0.out, Bool.or_false]
            exact H3.out.drewN nq
        · have hc2 : c = 10 := by
            unfold isSep at hsp
            simp at hsp
            rcases hsp with e | e
            · exact absurd e hc1
            · exact e
          have f3 : ((c.toNat : Int) != 32) = true := bne_iff_ne.2 (fun e => hc1 (UInt8.toNat_inj.1 (by show _ = 32; omega)))
          have f4 : ((c.toNat : Int) != 10) = false := by rw [hc2]; rfl
          clear hsp hc1 hc2
          go_wp2_with fail
          go_quiet (fail)
          have H3 := hide (H2.out.2.1.drewN nq)
          have K3 := hide (H2.out.2.2.trans (kb_drewN Q wr nq))
          obtain ⟨c0, c1, c2, c3, c4⟩ := H3.out
          rw [hcast] at c1
          generalize wr.drewN nq = w1 at *
          have RB := hide (H3.out.setB true)
          by_cases hk0 : k = 0
          · have e0 : ((a : Int) + (k : Int) == (a : Int)) = true := by rw [hk0]; simp
            obtain ⟨d0, d1, d2, d3, d4⟩ := RB.out
            rw [hcast] at d1
            have HK0 := hide hk0
            clear hk0
            go_wp2_with fail
            go_quiet (fail)
            go_wp2_with fail
            go_ret
            refine ⟨ret_s EN.out.1.symm, ?_, K3.out.trans ((Kb.set Q 2 _ _).trans (kb_drewN Q _ nq))⟩
            rw [EN.out.2.1, EN.out.2.2, HK0.out, decide_eq_true rfl, Bool.or_true]
            have := RB.out
            rw [HK0.out] at this
            exact this.drewN nq
          · have e0 : ((a : Int) + (k : Int) == (a : Int)) = false := beq_eq_false_iff_ne.2 (by omega)
            have HK0 := hide hk0
            clear hk0
            go_wp2_with fail
            go_quiet (fail)
            go_wp2_with fail
            go_ret
            refine ⟨ret_s EN.out.1.symm, ?_, K3.out.trans (kb_drewN Q _ nq)⟩
            rw [EN.out.2.1, EN.out.2.2, decide_eq_false HK0.out, Bool.or_false]
            exact H3.out.drewN nq
    · have f1 : decide ((a : Int) + (k : Int) < (tx.size : Int)) = false := decide_eq_false (by omega)
      have EN := hide (HN.out k H2.out.1 hak (fun hl => by omega))
      go_wp2_with fail
      go_quiet (fail)
      have H3 := hide (H2.out.2.1.drewN nq)
      have K3 := hide (H2.out.2.2.trans (kb_drewN Q wr nq))
      obtain ⟨c0, c1, c2, c3, c4⟩ := H3.out
      rw [hcast] at c1
      generalize wr.drewN nq = w1 at *
      have RB := hide (H3.out.setB true)
      by_cases hk0 : k = 0
      · have e0 : ((a : Int) + (k : Int) == (a : Int)) = true := by rw [hk0]; simp
        obtain ⟨d0, d1, d2, d3, d4⟩ := RB.out
        rw [hcast] at d1
        have HK0 := hide hk0
        clear hk0
        go_wp2_with fail
        go_quiet (fail)
        go_wp2_with fail
        go_ret
        refine ⟨ret_s EN.out.1.symm, ?_, K3.out.trans ((Kb.set Q 2 _ _).trans (kb_drewN Q _ nq))⟩
        rw [EN.out.2.1, EN.out.2.2, HK0.out, decide_eq_true rfl, Bool.or_true]
        have := RB.out
        rw [HK0.out] at this
        exact this.drewN nq
      · have e0 : ((a : Int) + (k : Int) == (a : Int)) = false := beq_eq_false_iff_ne.2 (by omega)
        have HK0 := hide hk0
        clear hk0
        go_wp2_with fail
        go_quiet (fail)
        go_wp2_with fail
        go_ret
        refine ⟨ret_s EN.out.1.symm, ?_, K3.out.trans (kb_drewN Q _ nq)⟩
        rw [EN.out.2.1, EN.out.2.2, decide_eq_false HK0.out, Bool.or_false]
        exact H3.out.drewN nq
end Go.Proofs.YtgdopepghmjopaaGreatDoor
namespace Go.Proofs.YtgdopepghmjopaaGreatDoor
open Go.RowKit Go.Shelf
def rWrd (tx : ByteArray) (q : RpS) : RpS := ⟨q.a + (wordL (tx.data.toList.drop q.a)).length, q.bad || (wordL (tx.data.toList.drop q.a)).isEmpty⟩
theorem rWrd_le {tx : ByteArray} {q : RpS} (h : q.a ≤ tx.size) : (rWrd tx q).a ≤ tx.size := by
  have := wordL_le (tx.data.toList.drop q.a)
  rw [List.length_drop, size_data] at this
  show q.a + (wordL (tx.data.toList.drop q.a)).length ≤ tx.size
  omega
def k1 (tx : ByteArray) : RpS := rLit mS0 tx q0
def k2 (tx : ByteArray) : RpS := rWrd tx (k1 tx)
def k3 (tx : ByteArray) : RpS := rLit mS1 tx (k2 tx)
def k4 (tx : ByteArray) : RpS := rNum tx (k3 tx)
def k5 (tx : ByteArray) : RpS := rLit mS2 tx (k4 tx)
def k6 (tx : ByteArray) : RpS := rNum tx (k5 tx)
def k7 (tx : ByteArray) : RpS := rLit mS3 tx (k6 tx)
def k8 (tx : ByteArray) : RpS := rNum tx (k7 tx)
def k9 (tx : ByteArray) : RpS := rLit mS4 tx (k8 tx)
def k10 (tx : ByteArray) : RpS := rNum tx (k9 tx)
def k11 (tx : ByteArray) : RpS := rLit mS5 tx (k10 tx)
def k12 (tx : ByteArray) : RpS := rNum tx (k11 tx)
def k13 (tx : ByteArray) : RpS := rLit mS6 tx (k12 tx)
def k14 (tx : ByteArray) : RpS := rNum tx (k13 tx)
def k15 (tx : ByteArray) : RpS := rLit mS7 tx (k14 tx)
def k16 (tx : ByteArray) : RpS := rNum tx (k15 tx)
def k17 (tx : ByteArray) : RpS := rLit nl tx (k16 tx)
def mSt (tx : ByteArray) : ByteArray := strOf (wordL (tx.data.toList.drop (k1 tx).a))
def mV (tx : ByteArray) : Nat → Int
  | 1 => rVal tx (k3 tx)
  | 2 => rVal tx (k5 tx)
  | 3 => rVal tx (k7 tx)
  | 4 => rVal tx (k9 tx)
  | 5 => rVal tx (k11 tx)
  | 6 => rVal tx (k13 tx)
  | 7 => rVal tx (k15 tx)
  | _ => 0
/-- the first j numbers, the others 0 -/
def nUp (tx : ByteArray) (j i : Nat) : Int := if i ≤ j then mV tx i else 0
def rmL (tx : ByteArray) : Int := lstE tx (k17 tx).a (k17 tx).bad
def rmErr (tx : ByteArray) : Int := if rmL tx = 0 then metaE (mSt tx) (mV tx) else rmL tx
def rmT (tx : ByteArray) : ByteArray := if rmErr tx = 0 then mSt tx else ⟨#[]⟩
def rmV (tx : ByteArray) (i : Nat) : Int := if rmErr tx = 0 then mV tx i else 0
structure MS (Wa : World) (Q rc : Nat) (tx : ByteArray) (q : RpS) (st : ByteArray) (n : Nat → Int) (w : World) : Prop where
  old : Below Wa.heap.size Wa w
  rd : RfAt Q tx q.a q.bad w
  rcd : MetaAt w rc st n
  fz : ∀ o, o < 8 → w.frozen? ⟨rc, o, none⟩ = false
theorem MS.kb {Wa : World} {Q rc : Nat} {tx : ByteArray} {q : RpS} {st : ByteArray} {n : Nat → Int} {w w' : World} (h : MS Wa Q rc tx q st n w) (hk : Kb Q w w') (hQ : Wa.heap.size ≤ Q) (hn : rc ≠ Q) {q' : RpS} (hr : RfAt Q tx q'.a q'.bad w') : MS Wa Q rc tx q' st n w' :=
  ⟨hk.below h.old hQ h.old.size, hr, h.rcd.kb hk hn, fun o ho => by rw [hk.frozen h.rcd.lt hn]; exact h.fz o ho⟩
theorem rf_set {Q rc : Nat} {tx : ByteArray} {q : RpS} {w : World} (h : RfAt Q tx q.a q.bad w) (hn : rc ≠ Q) (o : Nat) (v : Value) : RfAt Q tx q.a q.bad (w.setCell ⟨rc, o, none⟩ v) := by
  have k := Kb.set rc o w v
  have hl := h.lt
  obtain ⟨r0, r1, r2, r3, r4⟩ := h
  exact ⟨by rw [k.cell hl hn.symm]; exact r0, by rw [k.cell hl hn.symm]; exact r1, by rw [k.cell hl hn.symm]; exact r2, by rw [k.frozen hl hn.symm]; exact r3, by rw [k.frozen hl hn.symm]; exact r4⟩
theorem MS.setT {Wa : World} {Q rc : Nat} {tx : ByteArray} {q : RpS} {st : ByteArray} {n : Nat → Int} {w : World} (h : MS Wa Q rc tx q st n w) (hc : Wa.heap.size ≤ rc) (hn : rc ≠ Q) (t : ByteArray) : MS Wa Q rc tx q t n (w.setCell ⟨rc, 0, none⟩ (.string t)) := by
  have k := Kb.set rc 0 w (.string t)
  refine ⟨k.below h.old hc h.old.size, rf_set h.rd hn 0 _, ⟨World.cell?_setCell_same w _ _ h.rcd.1, fun i h1 h2 => ?_⟩, fun o ho => by rw [World.frozen?_setCell]; exact h.fz o ho⟩
  exact (World.cell?_setCell_other w _ _ _ (by intro e; injection e with _ e _; omega)).trans (h.rcd.2 i h1 h2)
theorem MS.set {Wa : World} {Q rc : Nat} {tx : ByteArray} {q : RpS} {st : ByteArray} {w : World} {j : Nat} (h : MS Wa Q rc tx q st (nUp tx j) w) (hc : Wa.heap.size ≤ rc) (hn : rc ≠ Q) (hj : j + 1 < 8) : MS Wa Q rc tx q st (nUp tx (j + 1)) (w.setCell ⟨rc, j + 1, none⟩ (.int .i64 (mV tx (j + 1)))) := by
  have k := Kb.set rc (j + 1) w (.int .i64 (mV tx (j + 1)))
  refine ⟨k.below h.old hc h.old.size, rf_set h.rd hn _ _, ⟨?_, fun i h1 h2 => ?_⟩, fun o ho => by rw [World.frozen?_setCell]; exact h.fz o ho⟩
  · exact (World.cell?_setCell_other w _ _ _ (by intro e; injection e with _ e _; omega)).trans h.rcd.1
  · by_cases hi : i = j + 1
    · subst hi
      rw [World.cell?_setCell_same w _ _ (h.rcd.2 _ h1 h2)]
      unfold nUp; rw [if_pos (Nat.le_refl _)]
    · rw [World.cell?_setCell_other w _ _ _ (by intro e; injection e with _ e _; omega), h.rcd.2 i h1 h2]
      unfold nUp
      by_cases h3 : i ≤ j
      · rw [if_pos h3, if_pos (by omega)]
      · rw [if_neg h3, if_neg (by omega)]
theorem mV_mN (tx : ByteArray) (st : ByteArray) : metaE st (mV tx) = metaE st (mN (mV tx 1) (mV tx 2) (mV tx 3) (mV tx 4) (mV tx 5) (mV tx 6) (mV tx 7)) := rfl
end Go.Proofs.YtgdopepghmjopaaGreatDoor
namespace Go.Proofs.YtgdopepghmjopaaGreatDoor
open Go.RowKit Go.Shelf
/-- a reader that is good at a place, or bad somewhere -/
def RfS (Q : Nat) (tx : ByteArray) : Option Nat → World → Prop
  | some a, w => a ≤ tx.size ∧ RfAt Q tx a false w
  | none, w => ∃ a, a ≤ tx.size ∧ RfAt Q tx a true w
theorem RfS.lt {Q : Nat} {tx : ByteArray} {st : Option Nat} {w : World} (h : RfS Q tx st w) : Q < w.heap.size := by
  cases st with
  | some a => exact h.2.lt
  | none => obtain ⟨a, _, h⟩ := h; exact h.lt
theorem RfAt.kb' {Q R : Nat} {tx : ByteArray} {a : Nat} {bad : Bool} {w w' : World} (h : RfAt Q tx a bad w) (hk : Kb R w w') (hn : Q ≠ R) : RfAt Q tx a bad w' := by
  have hl := h.lt
  obtain ⟨r0, r1, r2, r3, r4⟩ := h
  exact ⟨by rw [hk.cell hl hn]; exact r0, by rw [hk.cell hl hn]; exact r1, by rw [hk.cell hl hn]; exact r2, by rw [hk.frozen hl hn]; exact r3, by rw [hk.frozen hl hn]; exact r4⟩
theorem RfS.kb {Q R : Nat} {tx : ByteArray} {st : Option Nat} {w w' : World} (h : RfS Q tx st w) (hk : Kb R w w') (hn : Q ≠ R) : RfS Q tx st w' := by
  cases st with
  | some a => exact ⟨h.1, h.2.kb' hk hn⟩
  | none => obtain ⟨a, ha, h⟩ := h; exact ⟨a, ha, h.kb' hk hn⟩
theorem RfS.below {Q : Nat} {tx : ByteArray} {st : Option Nat} {w w' : World} (h : RfS Q tx st w) (hb : Below w.heap.size w w') : RfS Q tx st w' := by
  cases st with
  | some a => exact ⟨h.1, h.2.below hb⟩
  | none => obtain ⟨a, ha, h⟩ := h; exact ⟨a, ha, h.below hb⟩
def dr (tx : ByteArray) (a : Nat) : List UInt8 := tx.data.toList.drop a
def sLit (s tx : ByteArray) (st : Option Nat) : Option Nat := st.bind fun a => if pfx s (dr tx a) then some (a + s.size) else none
def sWrd (tx : ByteArray) (st : Option Nat) : Option Nat := st.bind fun a => if (wordL (dr tx a)).isEmpty then none else some (a + (wordL (dr tx a)).length)
def sNum (tx : ByteArray) (st : Option Nat) : Option Nat := st.bind fun a => if rnOk (dr tx a) then some (a + (numD (dr tx a)).length) else none
def sByt (n : Nat) (tx : ByteArray) (st : Option Nat) : Option Nat := st.bind fun a => if rbOk false n (dr tx a) then some (a + 2 * n) else none
theorem stepLit (Q : Nat) (s tx : ByteArray) (st : Option Nat) (w : World) (h : RfS Q tx st w) (htx : tx.size < 9223372036854775808) (hs : s.size ≤ 1000) :
    Calls Tryz.prog 65 #[.pointer (some ⟨Q, 0, none⟩), .string s] w fun e w' => e = .returned (.tuple #[]) ∧ RfS Q tx (sLit s tx st) w' ∧ Kb Q w w' := by
  cases st with
  | some a =>
    refine (lit_any Q s tx a false w h.2 h.1 htx hs).mono ?_
    rintro e w' ⟨h1, h2, h3⟩
    refine ⟨h1, ?_, h3⟩
    have hle : rlA s tx a false ≤ tx.size := rlA_le h.1
    unfold rlA rlOk at h2 hle
    unfold sLit dr
    cases hp : pfx s (tx.data.toList.drop a) with
    | true =>
      simp only [hp, Bool.not_false, Bool.true_and, if_true] at h2 hle
      simp only [Option.bind_some, hp, if_true]
      exact ⟨hle, h2⟩
    | false =>
      simp only [hp, Bool.not_false, Bool.and_false] at h2 hle
      simp only [Option.bind_some, hp]
      exact ⟨_, hle, h2⟩
  | none =>
    obtain ⟨a, ha, h⟩ := h
    refine (lit_any Q s tx a true w h ha htx hs).mono ?_
    rintro e w' ⟨h1, h2, h3⟩
    exact ⟨h1, ⟨_, rlA_le ha, h2⟩, h3⟩
theorem stepWrd (Q : Nat) (tx : ByteArray) (st : Option Nat) (w : World) (h : RfS Q tx st w) (htx : tx.size < 9223372036854775808) :
    Calls Tryz.prog 66 #[.pointer (some ⟨Q, 0, none⟩)] w fun e w' => ∃ t, e = .returned (.string t) ∧ (∀ a, st = some a → t = strOf (wordL (dr tx a))) ∧ RfS Q tx (sWrd tx st) w' ∧ Kb Q w w' := by
  have key : ∀ a, a ≤ tx.size → a + (wordL (tx.data.toList.drop a)).length ≤ tx.size := fun a ha => by
    have := wordL_le (tx.data.toList.drop a)
    rw [List.length_drop, size_data] at this
    omega
  cases st with
  | some a =>
    refine (rword_any Q tx a false w h.2 h.1 htx).mono ?_
    rintro e w' ⟨h1, h2, h3⟩
    refine ⟨_, h1, fun a' ha' => by cases ha'; rfl, ?_, h3⟩
    unfold sWrd dr
    cases hp : (wordL (tx.data.toList.drop a)).isEmpty with
    | true =>
      rw [hp] at h2
      simp only [Option.bind_some, hp, if_true]
      exact ⟨_, key a h.1, h2⟩
    | false =>
      rw [hp] at h2
      simp only [Option.bind_some, hp]
      exact ⟨key a h.1, h2⟩
  | none =>
    obtain ⟨a, ha, h⟩ := h
    refine (rword_any Q tx a true w h ha htx).mono ?_
    rintro e w' ⟨h1, h2, h3⟩
    refine ⟨_, h1, (fun a' ha' => (by cases ha')), ⟨_, key a ha, ?_⟩, h3⟩
    simpa using h2
theorem stepNum (Q : Nat) (tx : ByteArray) (st : Option Nat) (w : World) (h : RfS Q tx st w) (htx : tx.size < 9223372036854775808) :
    Calls Tryz.prog 67 #[.pointer (some ⟨Q, 0, none⟩)] w fun e w' => ∃ n : Nat, e = .returned (.int .i64 (n : Int)) ∧ n ≤ 9999999999999999 ∧ (∀ a, st = some a → n = rnV (dr tx a)) ∧ RfS Q tx (sNum tx st) w' ∧ Kb Q w w' := by
  have key : ∀ a, a ≤ tx.size → a + (numD (tx.data.toList.drop a)).length ≤ tx.size := fun a ha => rNum_le (q := ⟨a, false⟩) ha
  have lim : ∀ l : List UInt8, rnV l ≤ 9999999999999999 := fun l => by
    unfold rnV
    split
    · rename_i h0
      unfold rnOk at h0
      simp only [Bool.and_eq_true, decide_eq_true_eq] at h0
      obtain ⟨t1, t2⟩ := numD_take l
      have h1 := valD_lt (numD l) (numD l).length (Nat.le_refl _) (by rw [List.take_length]; exact t2)
      rw [List.take_length] at h1
      have h2 : (10 : Nat) ^ (numD l).length ≤ 10 ^ 16 := Nat.pow_le_pow_right (by omega) h0.1.2
      have h3 : (10 : Nat) ^ 16 = 10000000000000000 := rfl
      omega
    · omega
  cases st with
  | some a =>
    refine (number_any Q tx a false w h.2 h.1 htx).mono ?_
    rintro e w' ⟨h1, h2, h3⟩
    refine ⟨rnV (tx.data.toList.drop a), h1, lim _, fun a' ha' => by cases ha'; rfl, ?_, h3⟩
    unfold sNum dr
    cases hp : rnOk (tx.data.toList.drop a) with
    | true =>
      rw [hp] at h2
      simp only [Option.bind_some, hp, if_true]
      exact ⟨key a h.1, h2⟩
    | false =>
      rw [hp] at h2
      simp only [Option.bind_some, hp]
      exact ⟨_, key a h.1, h2⟩
  | none =>
    obtain ⟨a, ha, h⟩ := h
    refine (number_any Q tx a true w h ha htx).mono ?_
    rintro e w' ⟨h1, h2, h3⟩
    refine ⟨rnV (tx.data.toList.drop a), h1, lim _, (fun a' ha' => (by cases ha')), ⟨_, key a ha, ?_⟩, h3⟩
    simpa using h2
theorem rsV_lt (bad : Bool) (l : List UInt8) : rsV bad l < 4294967296 := by
  unfold rsV
  split
  · rename_i h
    unfold rbOk at h
    simp only [Bool.and_eq_true, decide_eq_true_eq] at h
    obtain ⟨t, ht⟩ := Option.isSome_iff_exists.1 h.2.2
    have hl := unhex_len ht
    rw [List.length_take] at hl
    rw [show l.take 8 = l.take (2 * 4) from rfl, ht]
    show beV t < _
    match t, hl with
    | [], _ => decide
    | [a], _ => have := a.toNat_lt; unfold beV; simp only [List.foldl_cons, List.foldl_nil]; omega
    | [a, b], _ => have := a.toNat_lt; have := b.toNat_lt; unfold beV; simp only [List.foldl_cons, List.foldl_nil]; omega
    | [a, b, c], _ => have := a.toNat_lt; have := b.toNat_lt; have := c.toNat_lt; unfold beV; simp only [List.foldl_cons, List.foldl_nil]; omega
    | [a, b, c, d], _ => have := a.toNat_lt; have := b.toNat_lt; have := c.toNat_lt; have := d.toNat_lt; unfold beV; simp only [List.foldl_cons, List.foldl_nil]; omega
    | _ :: _ :: _ :: _ :: _ :: _, hl => simp at hl; omega
  · omega
theorem rbOk_len {n : Nat} {l : List UInt8} (h : rbOk false n l = true) : 2 * n ≤ l.length := by
  unfold rbOk at h
  simp only [Bool.not_false, Bool.true_and, Bool.and_eq_true, decide_eq_true_eq] at h
  exact h.1
theorem stepSum (Q : Nat) (tx : ByteArray) (st : Option Nat) (w : World) (h : RfS Q tx st w) (htx : tx.size < 9223372036854775808) :
    Calls Tryz.prog 69 #[.pointer (some ⟨Q, 0, none⟩)] w fun e w' => ∃ n : Nat, e = .returned (.int .i64 (n : Int)) ∧ n < 4294967296 ∧ (∀ a, st = some a → n = rsV false (dr tx a)) ∧ RfS Q tx (sByt 4 tx st) w' ∧ Kb Q w w' := by
  cases st with
  | some a =>
    refine (rsum_any Q tx a false w h.2 h.1 htx).mono ?_
    rintro e w' ⟨h1, h2, h3, h4⟩
    refine ⟨_, h1, rsV_lt _ _, fun a' ha' => by cases ha'; rfl, ?_, h4⟩
    unfold sByt dr
    cases hp : rbOk false 4 (tx.data.toList.drop a) with
    | true =>
      have hl := rbOk_len hp
      rw [List.length_drop, size_data] at hl
      simp only [Option.bind_some, hp, if_true]
      exact ⟨by have := h.1; omega, h2 hp⟩
    | false =>
      simp only [Option.bind_some, hp]
      exact h3 hp
  | none =>
    obtain ⟨a, ha, h⟩ := h
    refine (rsum_any Q tx a true w h ha htx).mono ?_
    rintro e w' ⟨h1, h2, h3, h4⟩
    exact ⟨_, h1, rsV_lt _ _, (fun a' ha' => (by cases ha')), h3 rfl, h4⟩
theorem stepByt (Q n : Nat) (tx : ByteArray) (st : Option Nat) (w : World) (h : RfS Q tx st w) (htx : tx.size < 9223372036854775808) (hn : n ≤ 1000) (hn0 : 0 < n) :
    Calls Tryz.prog 90 #[.pointer (some ⟨Q, 0, none⟩), .int .i64 (n : Int)] w fun e w' => ∃ t, e = .returned (.string t) ∧ (∀ a, st = some a → rbOk false n (dr tx a) = true → t = strOf ((unhexL ((dr tx a).take (2 * n))).getD [])) ∧ RfS Q tx (sByt n tx st) w' ∧ Kb Q w w' := by
  cases st with
  | some a =>
    refine (bytes_any Q n tx a false w h.2 h.1 htx hn hn0).mono ?_
    rintro e w' ⟨⟨h1, h2, h3⟩ | ⟨h1, h2, h3⟩, h4⟩
    · refine ⟨_, h2, fun a' ha' _ => by cases ha'; rfl, ?_, h4⟩
      have hl := rbOk_len h1
      rw [List.length_drop, size_data] at hl
      unfold sByt dr
      simp only [Option.bind_some, h1, if_true]
      exact ⟨by have := h.1; omega, h3⟩
    · refine ⟨_, h2, (fun a' ha' hh => (by cases ha'; exact absurd hh (by show ¬ rbOk false n (tx.data.toList.drop a) = true; rw [h1]; simp))), ?_, h4⟩
      unfold sByt dr
      simp only [Option.bind_some, h1]
      exact h3
  | none =>
    obtain ⟨a, ha, h⟩ := h
    refine (bytes_any Q n tx a true w h ha htx hn hn0).mono ?_
    rintro e w' ⟨⟨h1, h2, h3⟩ | ⟨h1, h2, h3⟩, h4⟩
    · exact absurd h1 (by unfold rbOk; simp)
    · exact ⟨_, h2, (fun a' ha' => (by cases ha')), h3, h4⟩
end Go.Proofs.YtgdopepghmjopaaGreatDoor
namespace Go.Proofs.YtgdopepghmjopaaGreatDoor
open Go.RowKit Go.Shelf
theorem dr_add (tx : ByteArray) (a n : Nat) : dr tx (a + n) = (dr tx a).drop n := by unfold dr; rw [List.drop_drop]
def sF (f : FD) (tx : ByteArray) (st : Option Nat) : Option Nat := st.bind fun a => if fldOk f (dr tx a) then some (a + fldN f (dr tx a)) else none
def sTab (ts : List FD) (tx : ByteArray) (st : Option Nat) : Option Nat := st.bind fun a => if tabOk ts (dr tx a) then some (a + tabN ts (dr tx a)) else none
theorem sTab_nil (tx : ByteArray) (st : Option Nat) : sTab [] tx st = st := by
  cases st with
  | none => rfl
  | some a => rfl
theorem sTab_cons (f : FD) (r : List FD) (tx : ByteArray) (st : Option Nat) : sTab (f :: r) tx st = sTab r tx (sF f tx st) := by
  cases st with
  | none => rfl
  | some a =>
    unfold sTab sF
    simp only [Option.bind_some, tabOk, tabN]
    rcases Bool.eq_false_or_eq_true (fldOk f (dr tx a)) with h | h
    · simp only [h, Bool.true_and, if_true, Option.bind_some, dr_add]
      rcases Bool.eq_false_or_eq_true (tabOk r ((dr tx a).drop (fldN f (dr tx a)))) with h2 | h2
      · simp [h2, Nat.add_assoc]
      · simp [h2]
    · simp [h]
def sG (g : List UInt8 → Option Nat) (tx : ByteArray) (st : Option Nat) : Option Nat := st.bind fun a => (g (dr tx a)).map (a + ·)
/-- a way of reading a word -/
structure Way (f : FD) (g : List UInt8 → Option Nat) : Prop where
  same : ∀ l, (rdOk f.sh (wordL l) && pfx f.en (l.drop (wordL l).length)) = (match g l with | some n => pfx f.en (l.drop n) | none => false)
  len : ∀ l, (rdOk f.sh (wordL l) && pfx f.en (l.drop (wordL l).length)) = true → g l = some (wordL l).length
theorem sF_way {f : FD} {g : List UInt8 → Option Nat} (h : Way f g) (tx : ByteArray) (st : Option Nat) : sLit f.en tx (sG g tx (sLit f.wd tx st)) = sF f tx st := by
  cases st with
  | none => rfl
  | some a =>
    unfold sLit sG sF
    simp only [Option.bind_some]
    have e : fldOk f (dr tx a) = (pfx f.wd (dr tx a) && (rdOk f.sh (wordL ((dr tx a).drop f.wd.size)) && pfx f.en (((dr tx a).drop f.wd.size).drop (wordL ((dr tx a).drop f.wd.size)).length))) := rfl
    rw [e]
    cases hp : pfx f.wd (dr tx a) with
    | false => simp
    | true =>
      simp only [if_true, Option.bind_some, Bool.true_and, dr_add]
      cases hq : (rdOk f.sh (wordL ((dr tx a).drop f.wd.size)) && pfx f.en (((dr tx a).drop f.wd.size).drop (wordL ((dr tx a).drop f.wd.size)).length)) with
      | true =>
        have hg := h.len _ hq
        rw [Bool.and_eq_true] at hq
        simp only [hg, Option.map_some, Option.bind_some, dr_add, hq.2, if_true]
        unfold fldN fldW
        simp [Nat.add_assoc]
      | false =>
        have hs := h.same ((dr tx a).drop f.wd.size)
        rw [hq] at hs
        cases hg : g ((dr tx a).drop f.wd.size) with
        | none => simp
        | some n =>
          rw [hg] at hs
          simp only [Option.map_some, Option.bind_some, dr_add]
          simp only at hs
          rw [← hs]
          simp
def gWrd (l : List UInt8) : Option Nat := if (wordL l).isEmpty then none else some (wordL l).length
def gNum (l : List UInt8) : Option Nat := if rnOk l then some (numD l).length else none
def gByt (n : Nat) (l : List UInt8) : Option Nat := if rbOk false n l then some (2 * n) else none
theorem sWrd_g (tx : ByteArray) (st : Option Nat) : sWrd tx st = sG gWrd tx st := by
  cases st with
  | none => rfl
  | some a =>
    unfold sWrd sG gWrd
    simp only [Option.bind_some]
    split <;> rfl
theorem sNum_g (tx : ByteArray) (st : Option Nat) : sNum tx st = sG gNum tx st := by
  cases st with
  | none => rfl
  | some a =>
    unfold sNum sG gNum
    simp only [Option.bind_some]
    split <;> rfl
theorem sByt_g (n : Nat) (tx : ByteArray) (st : Option Nat) : sByt n tx st = sG (gByt n) tx st := by
  cases st with
  | none => rfl
  | some a =>
    unfold sByt sG gByt
    simp only [Option.bind_some]
    split <;> rfl
theorem way_word {f : FD} (hs : f.sh = 3 ∨ f.sh = 4) : Way f gWrd := by
  have hr : ∀ l, rdOk f.sh l = !l.isEmpty := fun l => by rcases hs with hs | hs <;> (rw [hs]; rfl)
  refine ⟨fun l => ?_, fun l h => ?_⟩
  · rw [hr]
    unfold gWrd
    cases (wordL l).isEmpty <;> simp
  · rw [hr, Bool.and_eq_true] at h
    unfold gWrd
    rw [if_neg (by simpa using h.1)]
theorem way_num {f : FD} {e : UInt8} (hs : f.sh = 0) (he : f.en.data.toList = [e]) (hse : isSep e = true) (hde : isDig e = false) : Way f gNum := by
  have hr : ∀ l, rdOk f.sh l = numOk l := fun l => by rw [hs]; rfl
  refine ⟨fun l => ?_, fun l h => ?_⟩
  · rw [hr, (num_same he hse hde l).1]
    unfold gNum
    cases rnOk l <;> simp
  · rw [hr] at h
    have h2 := (num_same he hse hde l).2 h
    rw [(num_same he hse hde l).1, Bool.and_eq_true] at h
    unfold gNum
    rw [if_pos h.1, h2.1]
theorem hex_sameN (n : Nat) {en : ByteArray} {e : UInt8} (he : en.data.toList = [e]) (hse : isSep e = true) (l : List UInt8) : (hexOk (wordL l) n && pfx en (l.drop (wordL l).length)) = (rbOk false n l && pfx en (l.drop (2 * n))) ∧ ((hexOk (wordL l) n && pfx en (l.drop (wordL l).length)) = true → (wordL l).length = 2 * n ∧ wordL l = l.take (2 * n)) := by
  have key : (hexOk (wordL l) n && pfx en (l.drop (wordL l).length)) = true → (wordL l).length = 2 * n ∧ wordL l = l.take (2 * n) ∧ (unhexL (l.take (2 * n))).isSome = true ∧ pfx en (l.drop (2 * n)) = true := fun h => by
    rw [Bool.and_eq_true] at h
    unfold hexOk at h
    rw [Bool.and_eq_true] at h
    have hl : (wordL l).length = 2 * n := by simpa using h.1.1
    have hw := wordL_take l
    rw [hl] at hw h
    rw [hw] at h
    exact ⟨hl, hw, h.1.2, h.2⟩
  refine ⟨?_, fun h => ⟨(key h).1, (key h).2.1⟩⟩
  rw [Bool.eq_iff_iff]
  constructor
  · intro h
    obtain ⟨h1, h2, h3, h4⟩ := key h
    have h5 := wordL_le l
    rw [h4, Bool.and_true]
    unfold rbOk
    rw [h3, decide_eq_true (by omega)]
    rfl
  · intro h
    rw [Bool.and_eq_true] at h
    have hb := h.1
    unfold rbOk at hb
    simp only [Bool.not_false, Bool.true_and, Bool.and_eq_true, decide_eq_true_eq] at hb
    have hw : wordL l = l.take (2 * n) := by
      unfold wordL
      exact takeWhile_take l (2 * n) (unhexL_sep _ hb.2) (fun _ => ⟨e, (pfx_one he h.2).2, by rw [hse]; rfl⟩)
    have hl : (wordL l).length = 2 * n := by rw [hw, List.length_take]; omega
    rw [hl, h.2, Bool.and_true]
    unfold hexOk
    rw [decide_eq_true hl, hw, hb.2]
    rfl
theorem way_hex {f : FD} {e : UInt8} (n : Nat) (hr : ∀ l, rdOk f.sh l = hexOk l n) (he : f.en.data.toList = [e]) (hse : isSep e = true) : Way f (gByt n) := by
  refine ⟨fun l => ?_, fun l h => ?_⟩
  · rw [hr, (hex_sameN n he hse l).1]
    unfold gByt
    cases rbOk false n l <;> simp
  · rw [hr] at h
    have h2 := (hex_sameN n he hse l).2 h
    rw [(hex_sameN n he hse l).1, Bool.and_eq_true] at h
    unfold gByt
    rw [if_pos h.1, h2.1]
theorem sLit_nil (tx : ByteArray) (st : Option Nat) : sLit ⟨#[]⟩ tx st = st := by
  cases st with
  | none => rfl
  | some a => rfl
theorem sLit_app (x y tx : ByteArray) (st : Option Nat) : sLit (x ++ y) tx st = sLit y tx (sLit x tx st) := by
  cases st with
  | none => rfl
  | some a =>
    unfold sLit
    simp only [Option.bind_some, pfx_app]
    cases hp : pfx x (dr tx a) with
    | false => simp
    | true =>
      simp only [Bool.true_and, if_true, Option.bind_some, dr_add]
      cases pfx y ((dr tx a).drop x.size) <;> simp [ByteArray.size_append, Nat.add_assoc]
/-- a manifest's line of a file, as the document reads it -/
def sRow (tx : ByteArray) (st : Option Nat) : Option Nat := sLit nl tx (sByt 16 tx (sLit bl tx (sByt 4 tx (sLit bl tx (sNum tx (sLit bl tx (sWrd tx (sLit nS4 tx st))))))))
theorem sRow_tab (tx : ByteArray) (st : Option Nat) : sRow tx st = sTab (rowFDs 0) tx st := by
  unfold rowFDs
  rw [sTab_cons, sTab_cons, sTab_cons, sTab_cons, sTab_nil]
  rw [← sF_way (way_word (f := ⟨⟨#[102, 105, 108, 101, 32]⟩, 3, 1, 40, 41, 42, bxv 0, ⟨#[32]⟩⟩) (.inl rfl))]
  rw [← sF_way (way_num (f := ⟨⟨#[]⟩, 0, 0, 1073741824, 43, 44, bxv 0, ⟨#[32]⟩⟩) (e := 32) rfl rfl rfl rfl)]
  rw [← sF_way (way_hex (f := ⟨⟨#[]⟩, 1, 0, 4294967295, 45, 46, bxv 0, ⟨#[32]⟩⟩) (e := 32) 4 (fun l => rfl) rfl rfl)]
  rw [← sF_way (way_hex (f := ⟨⟨#[]⟩, 2, 16, 16, 47, 48, bxv 0, ⟨#[10]⟩⟩) (e := 10) 16 (fun l => rfl) rfl rfl)]
  simp only [sLit_nil, ← sWrd_g, ← sNum_g, ← sByt_g]
  rfl
end Go.Proofs.YtgdopepghmjopaaGreatDoor
