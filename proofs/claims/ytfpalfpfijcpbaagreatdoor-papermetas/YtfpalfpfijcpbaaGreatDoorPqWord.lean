import Derived.Test.YtfpalfpfijcpbaaGreatDoorGPaRfQ
namespace Go.Proofs.YtfpalfpfijcpbaaGreatDoor
open Go.RowKit Go.Shelf
theorem word_at {l : List UInt8} {k : Nat} (h1 : (l.take k).all (fun c => !isSep c) = true) (h2 : k < l.length → ∃ c, l[k]? = some c ∧ isSep c = true) : wordL l = l.take k := by
  unfold wordL
  exact takeWhile_take l k h1 (fun h => by obtain ⟨c, e1, e2⟩ := h2 h; exact ⟨c, e1, by rw [e2]; rfl⟩)
set_option maxHeartbeats 4000000 in
set_option maxRecDepth 100000 in
/-- the document's word -/
theorem rword_any (Q : Nat) (tx : ByteArray) (a : Nat) (bad : Bool) (w : World) (h : RfAt Q tx a bad w) (ha : a ≤ tx.size) (htx : tx.size < 9223372036854775808) :
    Calls Tryz.prog 107 #[.pointer (some ⟨Q, 0, none⟩)] w fun e w' => e = .returned (.string (strOf (wordL (tx.data.toList.drop a)))) ∧ RfAt Q tx (a + (wordL (tx.data.toList.drop a)).length) (bad || (wordL (tx.data.toList.drop a)).isEmpty) w' ∧ Kb Q w w' := by
  have H := hide h
  obtain ⟨h0, h1, h2, h3, h4⟩ := h
  have hll : (tx.data.toList.drop a).length = tx.size - a := by rw [List.length_drop, size_data]
  have hxx : ∀ j, a + j < tx.size → (tx.data.toList.drop a)[j]? = some (tx.get! (a + j)) := fun j hj => by
    rw [List.getElem?_drop, Lib.data_getElem? tx (a + j) hj, get_bang tx (a + j) hj]
  have HEX : Hid (∀ k, a + k ≤ tx.size → strOf ((tx.data.toList.drop a).take k) = tx.extract a (a + k)) := fun k hk => by
    rw [← strOf_toList (tx.extract a (a + k)), Lib.extract_data, Nat.add_sub_cancel_left]
  generalize tx.data.toList.drop a = l at *
  have HX := hide hxx
  clear hxx
  have HN : Hid (∀ k, (l.take k).all (fun c => !isSep c) = true → a + k ≤ tx.size → (k < l.length → ∃ c, l[k]? = some c ∧ isSep c = true) → strOf (wordL l) = tx.extract a (a + k) ∧ (wordL l).length = k ∧ (wordL l).isEmpty = decide (k = 0)) := fun k q1 q2 q3 => by
    have e := word_at q1 q3
    have el : (l.take k).length = k := by rw [List.length_take]; omega
    refine ⟨by rw [e]; exact HEX.out k q2, by rw [e, el], ?_⟩
    rw [e]
    cases k with
    | zero => rfl
    | succ k =>
      rw [decide_eq_false (by omega)]
      cases hd : l.take (k + 1) with
      | nil => rw [hd] at el; simp at el
      | cons x y => rfl
  clear HEX
  go_enter Tryz.func107, Tryz.ntmps107
  go_wp2_with fail
  go_loopw [] (fun wr => ∃ k : Nat, a + k ≤ tx.size ∧ Hid ((l.take k).all (fun c => !isSep c) = true ∧ RfAt Q tx (a + k) bad wr ∧ Kb Q w wr)) (fun wr => tx.size - posIn Q wr)
  case atStart => exact ⟨0, by omega, rfl, H.out, Kb.refl _ _⟩
  case round =>
    obtain ⟨k, hak, H2⟩ := hrel
    obtain ⟨c0, c1, c2, c3, c4⟩ := H2.out.2.1
    have HP : Hid (posIn Q wr = a + k) := H2.out.2.1.pos
    clear h0 h1 h2 h3 h4
    have hcast : ((a + k : Nat) : Int) = (a : Int) + (k : Int) := by omega
    rw [hcast] at c1
    by_cases g1 : a + k < tx.size
    · have f1 : decide ((a : Int) + (k : Int) < (tx.size : Int)) = true := decide_eq_true (by omega)
      have hxs : ∀ w', (Instr.index 9 (.string tx) (.int .i64 ((a : Int) + (k : Int)))).run Tryz.prog w' = .ok (.int .u8 ((tx[a + k]'g1).toNat : Int)) w' := fun w' => by
        rw [← hcast]; exact ix_str w' tx (a + k) g1
      have hxk := HX.out k g1
      rw [get_bang tx (a + k) g1] at hxk
      have HXK := hide hxk
      clear hxk
      generalize (tx[a + k]'g1) = c at *
      cases hsp : isSep c with
      | false =>
        have hc1 : c ≠ 32 := fun e => by rw [e] at hsp; cases hsp
        have hc2 : c ≠ 10 := fun e => by rw [e] at hsp; cases hsp
        have f3 : ((c.toNat : Int) != 32) = true := bne_iff_ne.2 (fun e => hc1 (UInt8.toNat_inj.1 (by show _ = 32; omega)))
        have f4 : ((c.toNat : Int) != 10) = true := bne_iff_ne.2 (fun e => hc2 (UInt8.toNat_inj.1 (by show _ = 10; omega)))
        have HSN : Hid ((l.take (k + 1)).all (fun c => !isSep c) = true) := by
          have hkl : k < l.length := by omega
          have hck : l[k] = c := by have := HXK.out; rw [List.getElem?_eq_getElem hkl] at this; exact Option.some.inj this
          show _ = _
          rw [List.take_succ_eq_append_getElem hkl, List.all_append, H2.out.1, hck]; simp [hsp]
        clear hc1 hc2 hsp
        go_wp2_with fail
        go_quiet (fail)
        have H3 := hide (H2.out.2.1.drewN nq)
        have K3 := hide (H2.out.2.2.trans (kb_drewN Q wr nq))
        obtain ⟨c0, c1, c2, c3, c4⟩ := H3.out
        rw [hcast] at c1
        generalize wr.drewN nq = w1 at *
        have R3 := hide (H3.out.setA (a + (k + 1)))
        have hw : ((a + (k + 1) : Nat) : Int) = (a : Int) + (k : Int) + 1 := by omega
        rw [hw] at R3
        clear H2
        go_wp2_with fail
        go_roundw
        case rel => exact ⟨k + 1, by omega, HSN.out, R3.out, K3.out.trans (Kb.set Q 1 _ _)⟩
        case measure => rw [HP.out, (show posIn Q (w1.setCell ⟨Q, 1, none⟩ (.int .i64 ((a : Int) + (k : Int) + 1))) = a + (k + 1) from R3.out.pos)]; omega
      | true =>
        have EN := hide (HN.out k H2.out.1 hak (fun _ => ⟨c, HXK.out, hsp⟩))
        by_cases hc1 : c = 32
        · have f3 : ((c.toNat : Int) != 32) = false := by rw [hc1]; rfl
          clear hsp hc1
          go_wp2_with fail
          go_quiet (fail)
          have H3 := hide (H2.out.2.1.drewN nq)
          have K3 := hide (H2.out.2.2.trans (kb_drewN Q wr nq))
          obtain ⟨c0, c1, c2, c3, c4⟩ := H3.out
          rw [hcast] at c1
          generalize wr.drewN nq = w1 at *
          have RB := hide (H3.out.setB true)
          by_cases hk0 : k = 0
          · have e0 : ((a : Int) + (k : Int) == (a : Int)) = true := by rw [hk0]; simp
            obtain ⟨d0, d1, d2, d3, d4⟩ := RB.out
            rw [hcast] at d1
            have HK0 := hide hk0
            clear hk0
            go_wp2_with fail
            go_quiet (fail)
            go_wp2_with fail
            go_ret
            refine ⟨ret_s EN.out.1.symm, ?_, K3.out.trans ((Kb.set Q 2 _ _).trans (kb_drewN Q _ nq))⟩
            rw [EN.out.2.1, EN.out.2.2, HK0.out, decide_eq_true rfl, Bool.or_true]
            have := RB.out
            rw [HK0.out] at this
            exact this.drewN nq
          · have e0 : ((a : Int) + (k : Int) == (a : Int)) = false := beq_eq_false_iff_ne.2 (by omega)
            have HK0 := hide hk0
            clear hk0
            go_wp2_with fail
            go_quiet (fail)
            go_wp2_with fail
            go_ret
            refine ⟨ret_s EN.out.1.symm, ?_, K3.out.trans (kb_drewN Q _ nq)⟩
            rw [EN.out.2.1, EN.out.2.2, decide_eq_false HK0.out, Bool.or_false]
            exact H3.out.drewN nq
        · have hc2 : c = 10 := by
            unfold isSep at hsp
            simp at hsp
            rcases hsp with e | e
            · exact absurd e hc1
            · exact e
          have f3 : ((c.toNat : Int) != 32) = true := bne_iff_ne.2 (fun e => hc1 (UInt8.toNat_inj.1 (by show _ = 32; omega)))
          have f4 : ((c.toNat : Int) != 10) = false := by rw [hc2]; rfl
          clear hsp hc1 hc2
          go_wp2_with fail
          go_quiet (fail)
          have H3 := hide (H2.out.2.1.drewN nq)
          have K3 := hide (H2.out.2.2.trans (kb_drewN Q wr nq))
          obtain ⟨c0, c1, c2, c3, c4⟩ := H3.out
          rw [hcast] at c1
          generalize wr.drewN nq = w1 at *
          have RB := hide (H3.out.setB true)
          by_cases hk0 : k = 0
          · have e0 : ((a : Int) + (k : Int) == (a : Int)) = true := by rw [hk0]; simp
            obtain ⟨d0, d1, d2, d3, d4⟩ := RB.out
            rw [hcast] at d1
            have HK0 := hide hk0
            clear hk0
            go_wp2_with fail
            go_quiet (fail)
            go_wp2_with fail
            go_ret
            refine ⟨ret_s EN.out.1.symm, ?_, K3.out.trans ((Kb.set Q 2 _ _).trans (kb_drewN Q _ nq))⟩
            rw [EN.out.2.1, EN.out.2.2, HK0.out, decide_eq_true rfl, Bool.or_true]
            have := RB.out
            rw [HK0.out] at this
            exact this.drewN nq
          · have e0 : ((a : Int) + (k : Int) == (a : Int)) = false := beq_eq_false_iff_ne.2 (by omega)
            have HK0 := hide hk0
            clear hk0
            go_wp2_with fail
            go_quiet (fail)
            go_wp2_with fail
            go_ret
            refine ⟨ret_s EN.out.1.symm, ?_, K3.out.trans (kb_drewN Q _ nq)⟩
            rw [EN.out.2.1, EN.out.2.2, decide_eq_false HK0.out, Bool.or_false]
            exact H3.out.drewN nq
    · have f1 : decide ((a : Int) + (k : Int) < (tx.size : Int)) = false := decide_eq_false (by omega)
      have EN := hide (HN.out k H2.out.1 hak (fun hl => by omega))
      go_wp2_with fail
      go_quiet (fail)
      have H3 := hide (H2.out.2.1.drewN nq)
      have K3 := hide (H2.out.2.2.trans (kb_drewN Q wr nq))
      obtain ⟨c0, c1, c2, c3, c4⟩ := H3.out
      rw [hcast] at c1
      generalize wr.drewN nq = w1 at *
      have RB := hide (H3.out.setB true)
      by_cases hk0 : k = 0
      · have e0 : ((a : Int) + (k : Int) == (a : Int)) = true := by rw [hk0]; simp
        obtain ⟨d0, d1, d2, d3, d4⟩ := RB.out
        rw [hcast] at d1
        have HK0 := hide hk0
        clear hk0
        go_wp2_with fail
        go_quiet (fail)
        go_wp2_with fail
        go_ret
        refine ⟨ret_s EN.out.1.symm, ?_, K3.out.trans ((Kb.set Q 2 _ _).trans (kb_drewN Q _ nq))⟩
        rw [EN.out.2.1, EN.out.2.2, HK0.out, decide_eq_true rfl, Bool.or_true]
        have := RB.out
        rw [HK0.out] at this
        exact this.drewN nq
      · have e0 : ((a : Int) + (k : Int) == (a : Int)) = false := beq_eq_false_iff_ne.2 (by omega)
        have HK0 := hide hk0
        clear hk0
        go_wp2_with fail
        go_quiet (fail)
        go_wp2_with fail
        go_ret
        refine ⟨ret_s EN.out.1.symm, ?_, K3.out.trans (kb_drewN Q _ nq)⟩
        rw [EN.out.2.1, EN.out.2.2, decide_eq_false HK0.out, Bool.or_false]
        exact H3.out.drewN nq
end Go.Proofs.YtfpalfpfijcpbaaGreatDoor
