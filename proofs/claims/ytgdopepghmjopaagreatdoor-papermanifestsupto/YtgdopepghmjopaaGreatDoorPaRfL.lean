import Derived.Test.YtgdopepghmjopaaGreatDoorGPaIdx
import Derived.Test.YtgdopepghmjopaaGreatDoorGPaNum
namespace Go.Proofs.YtgdopepghmjopaaGreatDoor
open Go.RowKit Go.Shelf
/-- the document's reader in memory -/
def RfAt (Q : Nat) (tx : ByteArray) (a : Nat) (bad : Bool) (w : World) : Prop := w.cell? ⟨Q, 0, none⟩ = some (.string tx) ∧ w.cell? ⟨Q, 1, none⟩ = some (.int .i64 (a : Int)) ∧ w.cell? ⟨Q, 2, none⟩ = some (.bool bad) ∧ w.frozen? ⟨Q, 1, none⟩ = false ∧ w.frozen? ⟨Q, 2, none⟩ = false
theorem RfAt.lt {Q : Nat} {tx : ByteArray} {a : Nat} {bad : Bool} {w : World} (h : RfAt Q tx a bad w) : Q < w.heap.size := lt_of_cell? h.1
theorem RfAt.below {Q : Nat} {tx : ByteArray} {a : Nat} {bad : Bool} {w w' : World} (h : RfAt Q tx a bad w) (hb : Below w.heap.size w w') : RfAt Q tx a bad w' := by
  have hl := h.lt
  exact ⟨by rw [hb.cell (by exact hl)]; exact h.1, by rw [hb.cell (by exact hl)]; exact h.2.1, by rw [hb.cell (by exact hl)]; exact h.2.2.1, by rw [hb.frozen (by exact hl)]; exact h.2.2.2.1, by rw [hb.frozen (by exact hl)]; exact h.2.2.2.2⟩
theorem RfAt.setA {Q : Nat} {tx : ByteArray} {a : Nat} {bad : Bool} {w : World} (h : RfAt Q tx a bad w) (b : Nat) : RfAt Q tx b bad (w.setCell ⟨Q, 1, none⟩ (.int .i64 (b : Int))) :=
  ⟨(World.cell?_setCell_other w _ _ _ (by simp)).trans h.1, World.cell?_setCell_same w _ _ h.2.1, (World.cell?_setCell_other w _ _ _ (by simp)).trans h.2.2.1, by rw [World.frozen?_setCell]; exact h.2.2.2.1, by rw [World.frozen?_setCell]; exact h.2.2.2.2⟩
theorem RfAt.setB {Q : Nat} {tx : ByteArray} {a : Nat} {bad : Bool} {w : World} (h : RfAt Q tx a bad w) (b : Bool) : RfAt Q tx a b (w.setCell ⟨Q, 2, none⟩ (.bool b)) :=
  ⟨(World.cell?_setCell_other w _ _ _ (by simp)).trans h.1, (World.cell?_setCell_other w _ _ _ (by simp)).trans h.2.1, World.cell?_setCell_same w _ _ h.2.2.1, by rw [World.frozen?_setCell]; exact h.2.2.2.1, by rw [World.frozen?_setCell]; exact h.2.2.2.2⟩
theorem RfAt.drewN {Q : Nat} {tx : ByteArray} {a : Nat} {bad : Bool} {w : World} (h : RfAt Q tx a bad w) (n : Nat) : RfAt Q tx a bad (w.drewN n) := h
/-- lit: does it stand there -/
def rlOk (s tx : ByteArray) (a : Nat) (bad : Bool) : Bool := !bad && pfx s (tx.data.toList.drop a)
def rlA (s tx : ByteArray) (a : Nat) (bad : Bool) : Nat := if rlOk s tx a bad then a + s.size else a
theorem ext_pfx (s tx : ByteArray) (a : Nat) : ((tx.extract a (a + s.size)).toList == s.toList) = pfx s (tx.data.toList.drop a) := by
  rw [toList_data, toList_data, Lib.extract_data, show a + s.size - a = s.size by omega]
  unfold pfx
  rw [Bool.eq_iff_iff, beq_iff_eq, List.isPrefixOf_iff_prefix, List.prefix_iff_eq_take, size_data]
  exact eq_comm
set_option maxHeartbeats 2000000 in
set_option maxRecDepth 100000 in
theorem lit_any (Q : Nat) (s tx : ByteArray) (a : Nat) (bad : Bool) (w : World) (h : RfAt Q tx a bad w) (ha : a ≤ tx.size) (htx : tx.size < 9223372036854775808) (hs : s.size ≤ 1000) :
    Calls Tryz.prog 65 #[.pointer (some ⟨Q, 0, none⟩), .string s] w fun e w' => e = .returned (.tuple #[]) ∧ RfAt Q tx (rlA s tx a bad) (!rlOk s tx a bad) w' ∧ Kb Q w w' := by
  have H := hide h
  obtain ⟨h0, h1, h2, h3, h4⟩ := h
  obtain ⟨O, hO⟩ : ∃ O, O = rlOk s tx a bad := ⟨_, rfl⟩
  obtain ⟨A, hA⟩ : ∃ A, A = rlA s tx a bad := ⟨_, rfl⟩
  rw [← hO, ← hA]
  have HA : Hid (A = if O then a + s.size else a) := by show _ = _; rw [hA, hO]; rfl
  have HO := hide hO
  clear hO hA
  cases bad with
  | true =>
    have e1 : Hid (O = false) := by show _ = _; rw [HO.out]; rfl
    go_enter Tryz.func65, Tryz.ntmps65
    go_wp2_with fail
    go_quiet (fail)
    have H1 := hide (H.out.drewN nq)
    have K1 := hide (kb_drewN Q w nq)
    obtain ⟨h0, h1, h2, h3, h4⟩ := H1.out
    generalize w.drewN nq = w1 at *
    go_wp2_with fail
    refine bodyPost_ret (v := .tuple #[]) (by simp [results, Tryz.results65, go_sem]) rfl ⟨rfl, ?_, K1.out.trans (Kb.set Q 2 _ _)⟩
    rw [HA.out, e1.out]
    exact H1.out.setB true
  | false =>
    by_cases hl : tx.size - a < s.size
    · have e1 : Hid (O = false) := by
        show _ = _
        rw [HO.out]; unfold rlOk
        have : pfx s (tx.data.toList.drop a) = false := by
          cases hp : pfx s (tx.data.toList.drop a) with
          | false => rfl
          | true => have := pfx_len ha hp; omega
        rw [this]; rfl
      have g1 : decide ((tx.size : Int) - (a : Int) < (s.size : Int)) = true := decide_eq_true (by omega)
      go_enter Tryz.func65, Tryz.ntmps65
      go_wp2_with fail
      go_quiet (fail)
      have H1 := hide (H.out.drewN nq)
      have K1 := hide (kb_drewN Q w nq)
      obtain ⟨h0, h1, h2, h3, h4⟩ := H1.out
      generalize w.drewN nq = w1 at *
      go_wp2_with fail
      refine bodyPost_ret (v := .tuple #[]) (by simp [results, Tryz.results65, go_sem]) rfl ⟨rfl, ?_, K1.out.trans (Kb.set Q 2 _ _)⟩
      rw [HA.out, e1.out]
      exact H1.out.setB true
    · have g1 : decide ((tx.size : Int) - (a : Int) < (s.size : Int)) = false := decide_eq_false (by omega)
      have hE := ext_pfx s tx a
      have e1 : Hid (O = pfx s (tx.data.toList.drop a)) := by show _ = _; rw [HO.out]; rfl
      have hle : a + s.size ≤ tx.size := by omega
      cases hp : pfx s (tx.data.toList.drop a) with
      | false =>
        rw [hp] at hE
        have e2 : Hid (O = false) := by show _ = _; rw [e1.out]; exact hp
        clear hp
        go_enter Tryz.func65, Tryz.ntmps65
        go_wp2_with fail
        go_quiet (fail)
        have H1 := hide (H.out.drewN nq)
        have K1 := hide (kb_drewN Q w nq)
        obtain ⟨h0, h1, h2, h3, h4⟩ := H1.out
        generalize w.drewN nq = w1 at *
        go_wp2_with fail
        refine bodyPost_ret (v := .tuple #[]) (by simp [results, Tryz.results65, go_sem]) rfl ⟨rfl, ?_, K1.out.trans (Kb.set Q 2 _ _)⟩
        rw [HA.out, e2.out]
        exact H1.out.setB true
      | true =>
        rw [hp] at hE
        have e2 : Hid (O = true) := by show _ = _; rw [e1.out]; exact hp
        clear hp
        go_enter Tryz.func65, Tryz.ntmps65
        go_wp2_with fail
        go_quiet (fail)
        have H1 := hide (H.out.drewN nq)
        have K1 := hide (kb_drewN Q w nq)
        obtain ⟨h0, h1, h2, h3, h4⟩ := H1.out
        have R1 := hide (H1.out.setA (a + s.size))
        have hw : ((a + s.size : Nat) : Int) = (a : Int) + (s.size : Int) := by omega
        rw [hw] at R1
        generalize w.drewN nq = w1 at *
        go_wp2_with fail
        go_end0
        refine ⟨rfl, ?_, K1.out.trans (Kb.set Q 1 _ _)⟩
        rw [HA.out, e2.out]
        exact R1.out
/-- the digits with which a text begins, at most 17 -/
def numD (l : List UInt8) : List UInt8 := (l.takeWhile isDig).take 17
theorem takeWhile_take {p : UInt8 → Bool} : ∀ (l : List UInt8) (k : Nat), (l.take k).all p = true → (k < l.length → ∃ c, l[k]? = some c ∧ p c = false) → l.takeWhile p = l.take k
  | [], k, _, _ => by simp
  | c :: r, 0, _, h2 => by
    obtain ⟨d, hd, hp⟩ := h2 (by simp)
    simp at hd; subst hd
    rw [List.takeWhile_cons, if_neg (by rw [hp]; simp)]; rfl
  | c :: r, k + 1, h1, h2 => by
    rw [List.take_succ_cons, List.all_cons, Bool.and_eq_true] at h1
    rw [List.takeWhile_cons, if_pos h1.1, List.take_succ_cons, takeWhile_take r k h1.2 (fun h => by
      obtain ⟨d, hd, hp⟩ := h2 (by simpa using h)
      exact ⟨d, by simpa using hd, hp⟩)]
theorem takeWhile_ge {p : UInt8 → Bool} : ∀ (l : List UInt8) (k : Nat), (l.take k).all p = true → (l.takeWhile p).take k = l.take k
  | [], k, _ => by simp
  | c :: r, 0, _ => by simp
  | c :: r, k + 1, h1 => by
    rw [List.take_succ_cons, List.all_cons, Bool.and_eq_true] at h1
    rw [List.takeWhile_cons, if_pos h1.1, List.take_succ_cons, takeWhile_ge r k h1.2, List.take_succ_cons]
theorem numD_at {l : List UInt8} {k : Nat} (h1 : (l.take k).all isDig = true) (hk : k ≤ 17) (hl : k ≤ l.length) (h2 : k = l.length ∨ k = 17 ∨ ∃ c, l[k]? = some c ∧ isDig c = false) : numD l = l.take k := by
  unfold numD
  rcases h2 with h | h | h
  · rw [takeWhile_take l k h1 (fun q => by omega), List.take_take]; congr 1; omega
  · subst h; exact takeWhile_ge l 17 h1
  · rw [takeWhile_take l k h1 (fun _ => h), List.take_take]; congr 1; omega
def rnOk (l : List UInt8) : Bool := decide (1 ≤ (numD l).length) && decide ((numD l).length ≤ 16) && !(decide (1 < (numD l).length) && l.head? == some 48)
def rnV (l : List UInt8) : Nat := if rnOk l then valD (numD l) else 0
theorem ret_j {a b : Int} (h : a = b) : Ending.returned (.int .i64 b) = .returned (.int .i64 a) := by rw [h]
def posIn (Q : Nat) (w : World) : Nat := match w.cell? ⟨Q, 1, none⟩ with | some (.int _ n) => n.toNat | _ => 0
theorem RfAt.pos {Q : Nat} {tx : ByteArray} {a : Nat} {bad : Bool} {w : World} (h : RfAt Q tx a bad w) : posIn Q w = a := by unfold posIn; rw [h.2.1]; simp
set_option maxHeartbeats 4000000 in
set_option maxRecDepth 100000 in
theorem number_any (Q : Nat) (tx : ByteArray) (a : Nat) (bad : Bool) (w : World) (h : RfAt Q tx a bad w) (ha : a ≤ tx.size) (htx : tx.size < 9223372036854775808) :
    Calls Tryz.prog 67 #[.pointer (some ⟨Q, 0, none⟩)] w fun e w' => e = .returned (.int .i64 (rnV (tx.data.toList.drop a) : Int)) ∧ RfAt Q tx (a + (numD (tx.data.toList.drop a)).length) (bad || !rnOk (tx.data.toList.drop a)) w' ∧ Kb Q w w' := by
  have H := hide h
  obtain ⟨h0, h1, h2, h3, h4⟩ := h
  have hll : (tx.data.toList.drop a).length = tx.size - a := by rw [List.length_drop, size_data]
  obtain ⟨RV, hRV⟩ : ∃ RV, RV = rnV (tx.data.toList.drop a) := ⟨_, rfl⟩
  obtain ⟨RO, hRO⟩ : ∃ RO, RO = rnOk (tx.data.toList.drop a) := ⟨_, rfl⟩
  obtain ⟨RK, hRK⟩ : ∃ RK, RK = (numD (tx.data.toList.drop a)).length := ⟨_, rfl⟩
  rw [← hRV, ← hRO, ← hRK]
  have HV := hide hRV
  have HO := hide hRO
  have HK := hide hRK
  clear hRV hRO hRK
  have hxx : ∀ j, a + j < tx.size → (tx.data.toList.drop a)[j]? = some (tx.get! (a + j)) := fun j hj => by
    rw [List.getElem?_drop, Lib.data_getElem? tx (a + j) hj, get_bang tx (a + j) hj]
  generalize tx.data.toList.drop a = l at *
  -- what is known where the digits end
  have HN : Hid (∀ k, (l.take k).all isDig = true → k ≤ 17 → k ≤ l.length → (k = l.length ∨ k = 17 ∨ ∃ c, l[k]? = some c ∧ isDig c = false) → RK = k ∧ (RO = (decide (1 ≤ k) && decide (k ≤ 16) && !(decide (1 < k) && l.head? == some 48))) ∧ RV = if RO then valD (l.take k) else 0) := fun k q1 q2 q3 q4 => by
    have e := numD_at q1 q2 q3 q4
    have ek : (l.take k).length = k := by rw [List.length_take]; omega
    refine ⟨by rw [HK.out, e, ek], ?_, ?_⟩
    · rw [HO.out]; unfold rnOk; rw [e, ek]
    · rw [HV.out]; unfold rnV; rw [← HO.out, e]
  clear HV HO HK
  have HX := hide hxx
  clear hxx
  go_enter Tryz.func67, Tryz.ntmps67
  go_wp2_with fail
  go_loopw [4] (fun n wr => ∃ k : Nat, k ≤ 17 ∧ a + k ≤ tx.size ∧ n = .int .i64 (valD (l.take k) : Int) ∧ Hid ((l.take k).all isDig = true ∧ RfAt Q tx (a + k) bad wr ∧ Kb Q w wr)) (fun _ wr => tx.size - posIn Q wr)
  case atStart => exact ⟨0, by omega, by omega, rfl, rfl, H.out, Kb.refl _ _⟩
  case round =>
    obtain ⟨k, hk, hak, rfl, H2⟩ := hrel
    obtain ⟨c0, c1, c2, c3, c4⟩ := H2.out.2.1
    have HP : Hid (posIn Q wr = a + k) := H2.out.2.1.pos
    have hV := valD_lt l k (by omega) H2.out.1
    have hV2 : valD (l.take k) < 100000000000000000 := Nat.lt_of_lt_of_le hV (Nat.le_trans (Nat.pow_le_pow_right (by omega) hk) (by decide))
    clear hV h0 h1 h2 h3 h4
    have hcast : ((a + k : Nat) : Int) = (a : Int) + (k : Int) := by omega
    rw [hcast] at c1
    by_cases g1 : a + k < tx.size
    · have f1 : decide ((a : Int) + (k : Int) < (tx.size : Int)) = true := decide_eq_true (by omega)
      by_cases g2 : k < 17
      · have f2 : decide ((a : Int) + (k : Int) - (a : Int) < 17) = true := decide_eq_true (by omega)
        have hxs : ∀ w', (Instr.index 9 (.string tx) (.int .i64 ((a : Int) + (k : Int)))).run Tryz.prog w' = .ok (.int .u8 ((tx[a + k]'g1).toNat : Int)) w' := fun w' => by
          rw [← hcast]; exact ix_str w' tx (a + k) g1
        have hxk := HX.out k g1
        rw [get_bang tx (a + k) g1] at hxk
        have HXK := hide hxk
        clear hxk
        generalize (tx[a + k]'g1) = c at *
        by_cases d1 : 48 ≤ c.toNat
        · have f3 : decide ((48 : Int) ≤ (c.toNat : Int)) = true := decide_eq_true (by omega)
          by_cases d2 : c.toNat ≤ 57
          · have f4 : decide ((c.toNat : Int) ≤ 57) = true := decide_eq_true (by omega)
            have hdg : isDig c = true := by unfold isDig; rw [decide_eq_true d1, decide_eq_true d2]; rfl
            have HSN : Hid (valD (l.take (k + 1)) = 10 * valD (l.take k) + (c.toNat - 48) ∧ (l.take (k + 1)).all isDig = true) := by
              have hkl : k < l.length := by omega
              have hck : l[k] = c := by have := HXK.out; rw [List.getElem?_eq_getElem hkl] at this; exact Option.some.inj this
              refine ⟨?_, ?_⟩
              · rw [List.take_succ_eq_append_getElem hkl, valD_snoc, hck]
              · rw [List.take_succ_eq_append_getElem hkl, List.all_append, H2.out.1, hck]; simp [hdg]
            go_wp2_with fail
            go_quiet (fail)
            have H3 := hide (H2.out.2.1.drewN nq)
            have K3 := hide (H2.out.2.2.trans (kb_drewN Q wr nq))
            obtain ⟨c0, c1, c2, c3, c4⟩ := H3.out
            rw [hcast] at c1
            generalize wr.drewN nq = w1 at *
            generalize valD (l.take k) = V at *
            have R3 := hide (H3.out.setA (a + (k + 1)))
            have hw : ((a + (k + 1) : Nat) : Int) = (a : Int) + (k : Int) + 1 := by omega
            rw [hw] at R3
            clear hdg H2
            go_wp2_with fail
            go_quiet (fail)
            have H4 := hide (H3.out.drewN nq)
            have K4 := hide (K3.out.trans (kb_drewN Q w1 nq))
            have R4 := hide (H4.out.setA (a + (k + 1)))
            rw [hw] at R4
            obtain ⟨c0, c1, c2, c3, c4⟩ := H4.out
            rw [hcast] at c1
            generalize w1.drewN nq = w2 at *
            clear R3 H3 K3
            go_wp2_with fail
            go_roundw
            case rel => exact ⟨k + 1, by omega, by omega, by rw [HSN.out.1]; congr 1; omega, HSN.out.2, R4.out, K4.out.trans (Kb.set Q 1 _ _)⟩
            case measure => rw [HP.out, (show posIn Q (w2.setCell ⟨Q, 1, none⟩ (.int .i64 ((a : Int) + (k : Int) + 1))) = a + (k + 1) from R4.out.pos)]; omega
          · have f4 : decide ((c.toNat : Int) ≤ 57) = false := decide_eq_false (by omega)
            have EN := hide (HN.out k H2.out.1 hk (by omega) (.inr (.inr ⟨c, HXK.out, by unfold isDig; rw [decide_eq_false d2, Bool.and_false]⟩)))
            go_wp2_with fail
            go_quiet (fail)
            have H3 := hide (H2.out.2.1.drewN nq)
            have K3 := hide (H2.out.2.2.trans (kb_drewN Q wr nq))
            obtain ⟨c0, c1, c2, c3, c4⟩ := H3.out
            rw [hcast] at c1
            generalize wr.drewN nq = w1 at *
            have hsub : (a : Int) + (k : Int) - (a : Int) = (k : Int) := by omega
            have RB := hide (H3.out.setB true)
            by_cases p1 : k < 1
            · have q1 : (k : Int) < 1 := by omega
              have RO' : Hid (RO = false) := by show _ = _; rw [EN.out.2.1, decide_eq_false (by omega)]; rfl
              generalize valD (l.take k) = V at *
              go_wp2_with fail
              go_ret
              refine ⟨ret_j (by rw [EN.out.2.2, if_neg (by rw [RO'.out]; simp)]; rfl), ?_, K3.out.trans (Kb.set Q 2 _ _)⟩
              rw [RO'.out, EN.out.1, Bool.not_false, Bool.or_true]
              exact RB.out
            have p2 : ¬ 16 < k := by omega
            have hxa : ∀ w', (Instr.index 9 (.string tx) (.int .i64 (a : Int))).run Tryz.prog w' = .ok (.int .u8 ((tx[a]'(by omega)).toNat : Int)) w' := fun w' => ix_str w' tx a (by omega)
            have hhd : Hid (l.head? = some (tx[a]'(by omega))) := by
              show _ = _
              have := HX.out 0 (by omega)
              rw [Nat.add_zero, get_bang tx a (by omega)] at this
              rw [List.head?_eq_getElem?]; exact this
            generalize (tx[a]'(by omega)) = ca at *
            have q1 : ¬ (k : Int) < 1 := by omega
            have q2 : ¬ (16 : Int) < (k : Int) := by omega
            by_cases p3 : 1 < k
            · have q3 : (1 : Int) < (k : Int) := by omega
              by_cases p4 : ca = 48
              · have q4 : ((ca.toNat : Int) == 48) = true := by rw [p4]; rfl
                have RO' : Hid (RO = false) := by show _ = _; rw [EN.out.2.1, hhd.out, p4, decide_eq_true p3]; simp
                generalize valD (l.take k) = V at *
                go_wp2_with fail
                go_ret
                refine ⟨ret_j (by rw [EN.out.2.2, if_neg (by rw [RO'.out]; simp)]; rfl), ?_, K3.out.trans (Kb.set Q 2 _ _)⟩
                rw [RO'.out, EN.out.1, Bool.not_false, Bool.or_true]
                exact RB.out
              · have q4 : ((ca.toNat : Int) == 48) = false := by
                  rw [beq_eq_false_iff_ne]; intro e; apply p4; rw [← UInt8.toNat_inj]; show _ = 48; omega
                have RO' : Hid (RO = true) := by show _ = _; rw [EN.out.2.1, hhd.out, decide_eq_true (show 1 ≤ k by omega), decide_eq_true (show k ≤ 16 by omega), decide_eq_true p3]; simp [p4]
                go_wp2_with fail
                go_ret
                refine ⟨ret_j (by rw [EN.out.2.2, if_pos RO'.out]), ?_, K3.out⟩
                rw [RO'.out, EN.out.1, Bool.not_true, Bool.or_false]
                exact H3.out
            · have q3 : ¬ (1 : Int) < (k : Int) := by omega
              have RO' : Hid (RO = true) := by show _ = _; rw [EN.out.2.1, decide_eq_true (show 1 ≤ k by omega), decide_eq_true (show k ≤ 16 by omega), decide_eq_false p3]; rfl
              go_wp2_with fail
              go_ret
              refine ⟨ret_j (by rw [EN.out.2.2, if_pos RO'.out]), ?_, K3.out⟩
              rw [RO'.out, EN.out.1, Bool.not_true, Bool.or_false]
              exact H3.out
        · have f3 : decide ((48 : Int) ≤ (c.toNat : Int)) = false := decide_eq_false (by omega)
          have EN := hide (HN.out k H2.out.1 hk (by omega) (.inr (.inr ⟨c, HXK.out, by unfold isDig; rw [decide_eq_false d1, Bool.false_and]⟩)))
          go_wp2_with fail
          go_quiet (fail)
          have H3 := hide (H2.out.2.1.drewN nq)
          have K3 := hide (H2.out.2.2.trans (kb_drewN Q wr nq))
          obtain ⟨c0, c1, c2, c3, c4⟩ := H3.out
          rw [hcast] at c1
          generalize wr.drewN nq = w1 at *
          have hsub : (a : Int) + (k : Int) - (a : Int) = (k : Int) := by omega
          have RB := hide (H3.out.setB true)
          by_cases p1 : k < 1
          · have q1 : (k : Int) < 1 := by omega
            have RO' : Hid (RO = false) := by show _ = _; rw [EN.out.2.1, decide_eq_false (by omega)]; rfl
            generalize valD (l.take k) = V at *
            go_wp2_with fail
            go_ret
            refine ⟨ret_j (by rw [EN.out.2.2, if_neg (by rw [RO'.out]; simp)]; rfl), ?_, K3.out.trans (Kb.set Q 2 _ _)⟩
            rw [RO'.out, EN.out.1, Bool.not_false, Bool.or_true]
            exact RB.out
          have p2 : ¬ 16 < k := by omega
          have hxa : ∀ w', (Instr.index 9 (.string tx) (.int .i64 (a : Int))).run Tryz.prog w' = .ok (.int .u8 ((tx[a]'(by omega)).toNat : Int)) w' := fun w' => ix_str w' tx a (by omega)
          have hhd : Hid (l.head? = some (tx[a]'(by omega))) := by
            show _ = _
            have := HX.out 0 (by omega)
            rw [Nat.add_zero, get_bang tx a (by omega)] at this
            rw [List.head?_eq_getElem?]; exact this
          generalize (tx[a]'(by omega)) = ca at *
          have q1 : ¬ (k : Int) < 1 := by omega
          have q2 : ¬ (16 : Int) < (k : Int) := by omega
          by_cases p3 : 1 < k
          · have q3 : (1 : Int) < (k : Int) := by omega
            by_cases p4 : ca = 48
            · have q4 : ((ca.toNat : Int) == 48) = true := by rw [p4]; rfl
              have RO' : Hid (RO = false) := by show _ = _; rw [EN.out.2.1, hhd.out, p4, decide_eq_true p3]; simp
              generalize valD (l.take k) = V at *
              go_wp2_with fail
              go_ret
              refine ⟨ret_j (by rw [EN.out.2.2, if_neg (by rw [RO'.out]; simp)]; rfl), ?_, K3.out.trans (Kb.set Q 2 _ _)⟩
              rw [RO'.out, EN.out.1, Bool.not_false, Bool.or_true]
              exact RB.out
            · have q4 : ((ca.toNat : Int) == 48) = false := by
                rw [beq_eq_false_iff_ne]; intro e; apply p4; rw [← UInt8.toNat_inj]; show _ = 48; omega
              have RO' : Hid (RO = true) := by show _ = _; rw [EN.out.2.1, hhd.out, decide_eq_true (show 1 ≤ k by omega), decide_eq_true (show k ≤ 16 by omega), decide_eq_true p3]; simp [p4]
              go_wp2_with fail
              go_ret
              refine ⟨ret_j (by rw [EN.out.2.2, if_pos RO'.out]), ?_, K3.out⟩
              rw [RO'.out, EN.out.1, Bool.not_true, Bool.or_false]
              exact H3.out
          · have q3 : ¬ (1 : Int) < (k : Int) := by omega
            have RO' : Hid (RO = true) := by show _ = _; rw [EN.out.2.1, decide_eq_true (show 1 ≤ k by omega), decide_eq_true (show k ≤ 16 by omega), decide_eq_false p3]; rfl
            go_wp2_with fail
            go_ret
            refine ⟨ret_j (by rw [EN.out.2.2, if_pos RO'.out]), ?_, K3.out⟩
            rw [RO'.out, EN.out.1, Bool.not_true, Bool.or_false]
            exact H3.out
      · have f2 : decide ((a : Int) + (k : Int) - (a : Int) < 17) = false := decide_eq_false (by omega)
        have EN := hide (HN.out k H2.out.1 hk (by omega) (.inr (.inl (by omega))))
        go_wp2_with fail
        go_quiet (fail)
        have H3 := hide (H2.out.2.1.drewN nq)
        have K3 := hide (H2.out.2.2.trans (kb_drewN Q wr nq))
        obtain ⟨c0, c1, c2, c3, c4⟩ := H3.out
        rw [hcast] at c1
        generalize wr.drewN nq = w1 at *
        have hsub : (a : Int) + (k : Int) - (a : Int) = (k : Int) := by omega
        have RB := hide (H3.out.setB true)
        have p2 : 16 < k := by omega
        have q1 : ¬ (k : Int) < 1 := by omega
        have q2 : (16 : Int) < (k : Int) := by omega
        have RO' : Hid (RO = false) := by show _ = _; rw [EN.out.2.1, decide_eq_false (p := k ≤ 16) (by omega), Bool.and_false, Bool.false_and]
        generalize valD (l.take k) = V at *
        go_wp2_with fail
        go_ret
        refine ⟨ret_j (by rw [EN.out.2.2, if_neg (by rw [RO'.out]; simp)]; rfl), ?_, K3.out.trans (Kb.set Q 2 _ _)⟩
        rw [RO'.out, EN.out.1, Bool.not_false, Bool.or_true]
        exact RB.out
    · have f1 : decide ((a : Int) + (k : Int) < (tx.size : Int)) = false := decide_eq_false (by omega)
      have EN := hide (HN.out k H2.out.1 hk (by omega) (.inl (by omega)))
      go_wp2_with fail
      go_quiet (fail)
      have H3 := hide (H2.out.2.1.drewN nq)
      have K3 := hide (H2.out.2.2.trans (kb_drewN Q wr nq))
      obtain ⟨c0, c1, c2, c3, c4⟩ := H3.out
      rw [hcast] at c1
      generalize wr.drewN nq = w1 at *
      have hsub : (a : Int) + (k : Int) - (a : Int) = (k : Int) := by omega
      have RB := hide (H3.out.setB true)
      by_cases p1 : k < 1
      · have q1 : (k : Int) < 1 := by omega
        have RO' : Hid (RO = false) := by show _ = _; rw [EN.out.2.1, decide_eq_false (by omega)]; rfl
        generalize valD (l.take k) = V at *
        go_wp2_with fail
        go_ret
        refine ⟨ret_j (by rw [EN.out.2.2, if_neg (by rw [RO'.out]; simp)]; rfl), ?_, K3.out.trans (Kb.set Q 2 _ _)⟩
        rw [RO'.out, EN.out.1, Bool.not_false, Bool.or_true]
        exact RB.out
      by_cases p2 : 16 < k
      · have q1 : ¬ (k : Int) < 1 := by omega
        have q2 : (16 : Int) < (k : Int) := by omega
        have RO' : Hid (RO = false) := by show _ = _; rw [EN.out.2.1, decide_eq_false (p := k ≤ 16) (by omega), Bool.and_false, Bool.false_and]
        generalize valD (l.take k) = V at *
        go_wp2_with fail
        go_ret
        refine ⟨ret_j (by rw [EN.out.2.2, if_neg (by rw [RO'.out]; simp)]; rfl), ?_, K3.out.trans (Kb.set Q 2 _ _)⟩
        rw [RO'.out, EN.out.1, Bool.not_false, Bool.or_true]
        exact RB.out
      have hxa : ∀ w', (Instr.index 9 (.string tx) (.int .i64 (a : Int))).run Tryz.prog w' = .ok (.int .u8 ((tx[a]'(by omega)).toNat : Int)) w' := fun w' => ix_str w' tx a (by omega)
      have hhd : Hid (l.head? = some (tx[a]'(by omega))) := by
        show _ = _
        have := HX.out 0 (by omega)
        rw [Nat.add_zero, get_bang tx a (by omega)] at this
        rw [List.head?_eq_getElem?]; exact this
      generalize (tx[a]'(by omega)) = ca at *
      have q1 : ¬ (k : Int) < 1 := by omega
      have q2 : ¬ (16 : Int) < (k : Int) := by omega
      by_cases p3 : 1 < k
      · have q3 : (1 : Int) < (k : Int) := by omega
        by_cases p4 : ca = 48
        · have q4 : ((ca.toNat : Int) == 48) = true := by rw [p4]; rfl
          have RO' : Hid (RO = false) := by show _ = _; rw [EN.out.2.1, hhd.out, p4, decide_eq_true p3]; simp
          generalize valD (l.take k) = V at *
          go_wp2_with fail
          go_ret
          refine ⟨ret_j (by rw [EN.out.2.2, if_neg (by rw [RO'.out]; simp)]; rfl), ?_, K3.out.trans (Kb.set Q 2 _ _)⟩
          rw [RO'.out, EN.out.1, Bool.not_false, Bool.or_true]
          exact RB.out
        · have q4 : ((ca.toNat : Int) == 48) = false := by
            rw [beq_eq_false_iff_ne]; intro e; apply p4; rw [← UInt8.toNat_inj]; show _ = 48; omega
          have RO' : Hid (RO = true) := by show _ = _; rw [EN.out.2.1, hhd.out, decide_eq_true (show 1 ≤ k by omega), decide_eq_true (show k ≤ 16 by omega), decide_eq_true p3]; simp [p4]
          go_wp2_with fail
          go_ret
          refine ⟨ret_j (by rw [EN.out.2.2, if_pos RO'.out]), ?_, K3.out⟩
          rw [RO'.out, EN.out.1, Bool.not_true, Bool.or_false]
          exact H3.out
      · have q3 : ¬ (1 : Int) < (k : Int) := by omega
        have RO' : Hid (RO = true) := by show _ = _; rw [EN.out.2.1, decide_eq_true (show 1 ≤ k by omega), decide_eq_true (show k ≤ 16 by omega), decide_eq_false p3]; rfl
        go_wp2_with fail
        go_ret
        refine ⟨ret_j (by rw [EN.out.2.2, if_pos RO'.out]), ?_, K3.out⟩
        rw [RO'.out, EN.out.1, Bool.not_true, Bool.or_false]
        exact H3.out
end Go.Proofs.YtgdopepghmjopaaGreatDoor
