import Derived.Test.YtgdopepghmjopaaGreatDoorPaRfL
import Derived.Test.YtgdopepghmjopaaGreatDoorGPaNum
import Derived.Test.YtgdopepghmjopaaGreatDoorGDaAlg
import Derived.Test.YtgdopepghmjopaaGreatDoorGPaReads
namespace Go.Proofs.YtgdopepghmjopaaGreatDoor
open Go.RowKit Go.Shelf
set_option maxRecDepth 100000 in
theorem rhalf_any (c : UInt8) (w : World) :
    Calls Tryz.prog 105 #[.int .u8 (c.toNat : Int)] w fun e w' => e = .returned (.int .i64 (digitV c)) ∧ w = w' := by
  go_enter Tryz.func105, Tryz.ntmps105
  go_wp2
  go_loop [3] (fun i => ∃ k : Nat, k ≤ 16 ∧ i = .int .i64 k ∧ ∀ j, j < k → hd j ≠ c) (fun i => 16 - (intOf i).toNat)
  case atStart => exact ⟨0, by omega, rfl, fun j hj => by omega⟩
  case round =>
    obtain ⟨k, hk, rfl, hall⟩ := hrel
    have HA := hide hall
    clear hall
    by_cases hlt : k < 16
    · have hd1 := fun w' => ix_digs w' k hlt .i64
      by_cases he : hd k = c
      · have hb : (((hd k).toNat : Int) == (c.toNat : Int)) = true := by rw [he]; simp
        have HE := hide he
        clear he
        go_wp2
        go_ret
        exact ⟨by rw [digitV_hit hlt HE.out]; rfl, rfl⟩
      · have hb : (((hd k).toNat : Int) == (c.toNat : Int)) = false := by
          rw [beq_eq_false_iff_ne]
          intro e
          exact he (UInt8.toNat_inj.1 (by omega))
        have HE := hide he
        clear he
        go_wp2
        go_round
        case rel => exact ⟨k + 1, by omega, by go_num, fun j hj => by rcases Nat.lt_or_ge j k with h | h; exact HA.out j h; rw [show j = k by omega]; exact HE.out⟩
        case measure => simp [intOf]; omega
    · go_wp2
      go_ret
      exact ⟨by rw [digitV_none (fun j hj => HA.out j (by omega))]; rfl, rfl⟩
theorem own_kb {Q base e s n : Nat} {w w' : World} {v : Value} {x : List Value} (o : w.ownsRow base e s v n x) (hk : Kb Q w w') (hb : Q < base) : w'.ownsRow base e s v n x := by
  refine ⟨o.1, ?_⟩
  rcases o.2 with q | ⟨g, cap, cur, q, hg, hblk, r⟩
  · exact .inl q
  · refine .inr ⟨g, cap, cur, q, hg, ?_, r⟩
    rw [hk.block g (by rcases Nat.lt_or_ge g w.heap.size with z | z; exact z; rw [Array.getElem?_eq_none z] at hblk; cases hblk) (by omega)]; exact hblk
theorem kb_grown {Q : Nat} {w0 w w' : World} {row : Option Nat} (h : Kb Q w0 w) (hg : w.grownBy w' row) (hr : ∀ k, row = some k → w0.heap.size ≤ k) : Kb Q w0 w' :=
  ⟨hg.os.trans h.os, hg.tape.trans h.tape, hg.output.trans h.output, Nat.le_trans h.size hg.size, fun i hi hn => (hg.block i (Nat.lt_of_lt_of_le hi h.size) (fun e => by have := hr i e.symm; omega)).trans (h.block i hi hn)⟩
theorem rf_grown {Q : Nat} {tx : ByteArray} {a : Nat} {bad : Bool} {w w' : World} {row : Option Nat} (h : RfAt Q tx a bad w) (hg : w.grownBy w' row) (hr : ∀ k, row = some k → k ≠ Q) : RfAt Q tx a bad w' := by
  have hl := h.lt
  have hb := hg.block Q hl (fun e => hr Q e.symm rfl)
  obtain ⟨h0, h1, h2, h3, h4⟩ := h
  refine ⟨?_, ?_, ?_, ?_, ?_⟩
  · rw [← h0]; simp only [World.cell?, hb]
  · rw [← h1]; simp only [World.cell?, hb]
  · rw [← h2]; simp only [World.cell?, hb]
  · rw [← h3]; simp only [World.frozen?, hb]
  · rw [← h4]; simp only [World.frozen?, hb]
def rbOk (bad : Bool) (n : Nat) (l : List UInt8) : Bool := !bad && (decide (2 * n ≤ l.length) && (unhexL (l.take (2 * n))).isSome)
theorem rb_short {bad : Bool} {n : Nat} {l : List UInt8} (h : l.length < 2 * n) : rbOk bad n l = false := by
  unfold rbOk; rw [decide_eq_false (by omega), Bool.false_and, Bool.and_false]
theorem rb_none {bad : Bool} {n k : Nat} {l : List UInt8} {c1 c2 : UInt8} (hk : k < n) (h1 : l[2 * k]? = some c1) (h2 : l[2 * k + 1]? = some c2) (hb : unhd c1 = none ∨ unhd c2 = none) : rbOk bad n l = false := by
  unfold rbOk
  by_cases hl : 2 * n ≤ l.length
  · have e : unhexL (l.take (2 * n)) = none := by
      have hlt : 2 * k + 1 < (l.take (2 * n)).length := by rw [List.length_take]; omega
      refine unhex_bad (l.take (2 * n)) k hlt ?_
      have g1 : (l.take (2 * n))[2 * k]? = some c1 := by rw [List.getElem?_take_of_lt (by omega)]; exact h1
      have g2 : (l.take (2 * n))[2 * k + 1]? = some c2 := by rw [List.getElem?_take_of_lt (by omega)]; exact h2
      rw [List.getElem?_eq_getElem (by omega)] at g1 g2
      injection g1 with g1
      injection g2 with g2
      rw [g1, g2]
      exact hb
    rw [e]; simp
  · rw [decide_eq_false hl]; simp
theorem rb_step {k : Nat} {l t : List UInt8} {c1 c2 : UInt8} {x y : Nat} (hl : 2 * k + 1 < l.length) (h1 : l[2 * k]? = some c1) (h2 : l[2 * k + 1]? = some c2) (ht : unhexL (l.take (2 * k)) = some t) (hx : unhd c1 = some x) (hy : unhd c2 = some y) : unhexL (l.take (2 * (k + 1))) = some (t ++ [UInt8.ofNat (16 * x + y)]) := by
  rw [List.getElem?_eq_getElem (by omega)] at h1 h2
  injection h1 with h1
  injection h2 with h2
  exact unhex_step l k hl ht (by rw [h1]; exact hx) (by rw [h2]; exact hy)
theorem rh_quiet (c : UInt8) (w : World) : Calls Tryz.prog 105 #[.int .u8 (c.toNat : Int)] w fun e w' => e = .returned (.int .i64 (digitV c)) ∧ w' = w := (rhalf_any c w).mono fun _ _ ⟨h1, h2⟩ => ⟨h1, h2.symm⟩
theorem digitV_cases (c : UInt8) : (unhd c = none ∧ digitV c = -1) ∨ ∃ x, unhd c = some x ∧ x < 16 ∧ digitV c = (x : Int) := by
  unfold digitV
  cases hx : unhd c with
  | none => exact Or.inl ⟨rfl, rfl⟩
  | some x => exact Or.inr ⟨x, rfl, unhd_lt hx, rfl⟩
set_option maxHeartbeats 4000000 in
set_option maxRecDepth 100000 in
theorem bytes_any (Q n : Nat) (tx : ByteArray) (a : Nat) (bad : Bool) (w : World) (h : RfAt Q tx a bad w) (ha : a ≤ tx.size) (htx : tx.size < 9223372036854775808) (hn : n ≤ 1000) (hn0 : 0 < n) :
    Calls Tryz.prog 90 #[.pointer (some ⟨Q, 0, none⟩), .int .i64 (n : Int)] w fun e w' => ((rbOk bad n (tx.data.toList.drop a) = true ∧ e = .returned (.string (strOf ((unhexL ((tx.data.toList.drop a).take (2 * n))).getD []))) ∧ RfAt Q tx (a + 2 * n) false w') ∨ (rbOk bad n (tx.data.toList.drop a) = false ∧ e = .returned (.string ⟨#[]⟩) ∧ ∃ a', a' ≤ tx.size ∧ RfAt Q tx a' true w')) ∧ Kb Q w w' := by
  obtain ⟨i0, hi, hz0, hz1, hz2⟩ := info_parts info5
  have H := hide h
  have hQ := h.lt
  have hll : (tx.data.toList.drop a).length = tx.size - a := by rw [List.length_drop, size_data]
  have HX : Hid (∀ j (hj : a + j < tx.size), (tx.data.toList.drop a)[j]? = some (tx[a + j]'hj)) := fun j hj => by
    rw [List.getElem?_drop, Lib.data_getElem? tx (a + j) hj]
  generalize tx.data.toList.drop a = l at *
  clear h
  go_enter Tryz.func90, Tryz.ntmps90
  go_wp2_with fail
  go_loopw [5, 6] (fun v i wr => ∃ (k : Nat) (t : List UInt8), k ≤ n ∧ a + 2 * k ≤ tx.size ∧ i = .int .i64 (k : Int) ∧ Hid (unhexL (l.take (2 * k)) = some t ∧ t.length = k ∧ wr.ownsRow w.heap.size 5 1 v k (t.map ub) ∧ RfAt Q tx (a + 2 * k) bad wr ∧ (0 < k → bad = false) ∧ Kb Q w wr)) (fun _ i _ => n - (intOf i).toNat)
  case atStart => exact ⟨0, [], by omega, by omega, rfl, rfl, rfl, World.ownsRow_nil _ _ _ _, H.out, by omega, Kb.refl _ _⟩
  case round =>
    obtain ⟨k, t, hk, hak, rfl, H2⟩ := hrel
    obtain ⟨A, hA⟩ : ∃ A, A = a + 2 * k := ⟨_, rfl⟩
    rw [← hA] at H2
    have HA := hide hA
    have hAle : A ≤ tx.size := by omega
    by_cases hlt : k < n
    · have hltz : (k : Int) < (n : Int) := by omega
      cases bad with
      | true =>
        obtain ⟨c0, c1, c2, c3, c4⟩ := H2.out.2.2.2.1
        go_wp2_with fail
        go_quiet (fail)
        have H3 := hide (H2.out.2.2.2.1.drewN nq)
        have K3 := hide (H2.out.2.2.2.2.2.trans (kb_drewN Q wr nq))
        have R3 := hide (H3.out.setB true)
        obtain ⟨c0, c1, c2, c3, c4⟩ := H3.out
        generalize wr.drewN nq = w1 at *
        go_wp2_with fail
        go_ret
        exact ⟨.inr ⟨rfl, rfl, A, hAle, R3.out⟩, K3.out.trans (Kb.set Q 2 _ _)⟩
      | false =>
        obtain ⟨c0, c1, c2, c3, c4⟩ := H2.out.2.2.2.1
        by_cases g1 : tx.size - A < 2
        · have f1 : decide ((tx.size : Int) - (A : Int) < 2) = true := decide_eq_true (by omega)
          have EB := hide (rb_short (bad := false) (n := n) (l := l) (by omega))
          clear hA
          go_wp2_with fail
          go_quiet (fail)
          have H3 := hide (H2.out.2.2.2.1.drewN nq)
          have K3 := hide (H2.out.2.2.2.2.2.trans (kb_drewN Q wr nq))
          have R3 := hide (H3.out.setB true)
          obtain ⟨c0, c1, c2, c3, c4⟩ := H3.out
          generalize wr.drewN nq = w1 at *
          go_wp2_with fail
          go_ret
          exact ⟨.inr ⟨EB.out, rfl, A, hAle, R3.out⟩, K3.out.trans (Kb.set Q 2 _ _)⟩
        · have f1 : decide ((tx.size : Int) - (A : Int) < 2) = false := decide_eq_false (by omega)
          have hlk : 2 * k + 1 < l.length := by omega
          have gA : A < tx.size := by omega
          have gB : A + 1 < tx.size := by omega
          have hx1 : ∀ w', (Instr.index 9 (.string tx) (.int .i64 (A : Int))).run Tryz.prog w' = .ok (.int .u8 ((tx[A]'gA).toNat : Int)) w' := fun w' => ix_str w' tx A gA
          have hx2 : ∀ w', (Instr.index 9 (.string tx) (.int .i64 ((A : Int) + 1))).run Tryz.prog w' = .ok (.int .u8 ((tx[A + 1]'gB).toNat : Int)) w' := fun w' => by
            have := ix_str w' tx (A + 1) gB
            rwa [show ((A + 1 : Nat) : Int) = (A : Int) + 1 by omega] at this
          have L1 : Hid (l[2 * k]? = some (tx[A]'gA)) := by
            show _ = _
            rw [HX.out (2 * k) (by omega)]
            congr 1
            simp [hA]
          have L2 : Hid (l[2 * k + 1]? = some (tx[A + 1]'gB)) := by
            show _ = _
            rw [HX.out (2 * k + 1) (by omega)]
            congr 1
            simp [hA, Nat.add_assoc]
          clear hA
          generalize (tx[A]'gA) = ca at *
          generalize (tx[A + 1]'gB) = cb at *
          go_wp2_with fail
          go_quiet (fail)
          have H3 := hide (H2.out.2.2.2.1.drewN nq)
          have K3 := hide (H2.out.2.2.2.2.2.trans (kb_drewN Q wr nq))
          have O3 := hide (own_kb H2.out.2.2.1 (kb_drewN Q wr nq) hQ)
          obtain ⟨c0, c1, c2, c3, c4⟩ := H3.out
          generalize wr.drewN nq = w1 at *
          go_wp2_with fail
          go_quiet ((go_at_call 105; exact Calls.quiet_of_same (rh_quiet _ _)))
          have H4 := hide (H3.out.drewN nq)
          have K4 := hide (K3.out.trans (kb_drewN Q w1 nq))
          have O4 := hide (own_kb O3.out (kb_drewN Q w1 nq) hQ)
          obtain ⟨c0, c1, c2, c3, c4⟩ := H4.out
          generalize w1.drewN nq = w2 at *
          clear H3 K3 O3
          go_wp2_with fail
          go_quiet ((go_at_call 105; exact Calls.quiet_of_same (rh_quiet _ _)))
          have H5 := hide (H4.out.drewN nq)
          have K5 := hide (K4.out.trans (kb_drewN Q w2 nq))
          have O5 := hide (own_kb O4.out (kb_drewN Q w2 nq) hQ)
          obtain ⟨c0, c1, c2, c3, c4⟩ := H5.out
          generalize w2.drewN nq = w3 at *
          clear H4 K4 O4
          have R5 := hide (H5.out.setB true)
          rcases digitV_cases ca with ⟨n1, v1⟩ | ⟨xa, n1, xl, v1⟩
          · have EB := hide (rb_none (bad := false) (n := n) hlt L1.out L2.out (.inl n1))
            rw [v1]
            clear n1 v1
            go_wp2_with fail
            go_ret
            exact ⟨.inr ⟨EB.out, rfl, A, hAle, R5.out⟩, K5.out.trans (Kb.set Q 2 _ _)⟩
          · rcases digitV_cases cb with ⟨n2, v2⟩ | ⟨xb, n2, xm, v2⟩
            · have EB := hide (rb_none (bad := false) (n := n) hlt L1.out L2.out (.inr n2))
              rw [v1, v2]
              clear n1 v1 n2 v2
              go_wp2_with fail
              go_ret
              exact ⟨.inr ⟨EB.out, rfl, A, hAle, R5.out⟩, K5.out.trans (Kb.set Q 2 _ _)⟩
            · have ES := hide (rb_step hlk L1.out L2.out H2.out.1 n1 n2)
              rw [v1, v2]
              clear n1 v1 n2 v2
              have hs5 : w.heap.size ≤ w3.heap.size := K5.out.size
              have hml : k + 1 ≤ 1001 := by omega
              go_wp2_with (at_builtin; refine wpList_append_own _ rfl (.tmp 64) (.tmp 70) 39 rfl w.heap.size 5 i0 (.int .u8 0) 1 1 Tryz.underlying39 hi hz0 hz1 hz2 rfl (by decide) _ _ _ rfl (O5.out.alloc _) ⟨w3.heap.size, 0, none⟩ 1 1 [.int .u8 (16 * (xa : Int) + (xb : Int))] rfl rfl (cell_one_new _ _ _) (one_of rfl) (by unfold maxLen; omega) (by omega) (by simp; omega) ?_; intro v1 w4 hown4 hgrow4 hnil4; have H6 := hide (rf_grown (H5.out.below ((Below.refl _ _).alloc (Nat.le_refl _) _)) hgrow4 (fun g hg => by have := (O5.out.lt g hg).1; omega)); have K6 := hide (kb_grown (K5.out.trans (Kb.of ((Below.refl _ _).alloc (Nat.le_refl _) _))) hgrow4 (fun g hg => (O5.out.lt g hg).1)); have O6 := hide hown4; obtain ⟨c0, c1, c2, c3, c4⟩ := H6.out; clear hown4 hgrow4 hnil4 H5 K5 O5 R5)
              have R6 := hide (H6.out.setA (A + 2))
              have hw : ((A + 2 : Nat) : Int) = (A : Int) + 2 := by omega
              rw [hw] at R6
              have O7 := hide (own_kb O6.out (Kb.set Q 1 w4 (.int .i64 ((A : Int) + 2))) hQ)
              go_roundw
              case rel =>
                refine ⟨k + 1, t ++ [UInt8.ofNat (16 * xa + xb)], by omega, by have := HA.out; omega, by go_num, ES.out, by simp [H2.out.2.1], ?_, ?_, (by simp), K6.out.trans (Kb.set Q 1 _ _)⟩
                · have e : (t ++ [UInt8.ofNat (16 * xa + xb)]).map ub = t.map ub ++ [.int .u8 (16 * (xa : Int) + (xb : Int))] := by
                    rw [List.map_append]
                    congr 1
                    simp only [List.map_cons, List.map_nil, ub, UInt8.toNat_ofNat']
                    congr 2
                    rw [Nat.mod_eq_of_lt (by omega)]
                    omega
                  rw [e]
                  exact O7.out
                · rw [show a + 2 * (k + 1) = A + 2 by have := HA.out; omega]
                  exact R6.out
              case measure => simp [intOf]; omega
    · obtain rfl : k = n := by omega
      have hc := own_conv (P := Tryz.prog) (src := 39) (dst := 9) H2.out.2.2.1 (by rw [H2.out.2.1]) Tryz.underlying39 Tryz.underlying5 Tryz.underlying9
      have hbad := H2.out.2.2.2.2.1 hn0
      have EB : Hid (rbOk bad k l = true ∧ strOf ((unhexL (l.take (2 * k))).getD []) = strOf t) := by
        refine ⟨?_, by rw [H2.out.1]; rfl⟩
        unfold rbOk; rw [hbad, H2.out.1, decide_eq_true (by omega)]; rfl
      have HB := hide hbad
      clear hbad
      go_wp2_with fail
      go_ret
      refine ⟨.inl ⟨EB.out.1, ?_, ?_⟩, H2.out.2.2.2.2.2⟩
      · rw [EB.out.2]; rfl
      · rw [← HA.out, ← HB.out]; exact H2.out.2.2.2.1
end Go.Proofs.YtgdopepghmjopaaGreatDoor
namespace Go.Proofs.YtgdopepghmjopaaGreatDoor
open Go.RowKit Go.Shelf
def rsV (bad : Bool) (l : List UInt8) : Nat := if rbOk bad 4 l then beV ((unhexL (l.take 8)).getD []) else 0
set_option maxHeartbeats 2000000 in
set_option maxRecDepth 100000 in
theorem rsum_any (Q : Nat) (tx : ByteArray) (a : Nat) (bad : Bool) (w : World) (h : RfAt Q tx a bad w) (ha : a ≤ tx.size) (htx : tx.size < 9223372036854775808) :
    Calls Tryz.prog 69 #[.pointer (some ⟨Q, 0, none⟩)] w fun e w' => e = .returned (.int .i64 (rsV bad (tx.data.toList.drop a) : Int)) ∧ (rbOk bad 4 (tx.data.toList.drop a) = true → RfAt Q tx (a + 8) false w') ∧ (rbOk bad 4 (tx.data.toList.drop a) = false → ∃ a', a' ≤ tx.size ∧ RfAt Q tx a' true w') ∧ Kb Q w w' := by
  have C0 := hide (bytes_any Q 4 tx a bad w h ha htx (by omega) (by omega))
  rw [show 2 * 4 = 8 from rfl] at C0
  obtain ⟨RV, hRV⟩ : ∃ RV, RV = rsV bad (tx.data.toList.drop a) := ⟨_, rfl⟩
  rw [← hRV]
  unfold rsV at hRV
  generalize tx.data.toList.drop a = l at *
  -- the bytes, in one name
  have C : Hid (Calls Tryz.prog 90 #[.pointer (some ⟨Q, 0, none⟩), .int .i64 4] w fun e w' => ∃ D : ByteArray, e = .returned (.string D) ∧ D.size ≤ 4 ∧ beV D.data.toList = RV ∧ (rbOk bad 4 l = true → RfAt Q tx (a + 8) false w') ∧ (rbOk bad 4 l = false → ∃ a', a' ≤ tx.size ∧ RfAt Q tx a' true w') ∧ Kb Q w w') := C0.out.mono fun e w' ⟨h1, h2⟩ => by
    rcases h1 with ⟨q1, q2, q3⟩ | ⟨q1, q2, q3⟩
    · refine ⟨_, q2, ?_, ?_, fun _ => q3, fun h => (by rw [q1] at h; cases h), h2⟩
      · rw [strOf_size]
        cases hu : unhexL (l.take 8) with
        | none => simp
        | some t => have := unhexL_len _ _ hu; rw [List.length_take] at this; simp; omega
      · rw [strOf_data, hRV, if_pos q1]
    · exact ⟨_, q2, by simp [ByteArray.size], by rw [hRV, if_neg (by rw [q1]; simp)]; rfl, fun h => (by rw [q1] at h; cases h), fun _ => q3, h2⟩
  clear C0 hRV h
  generalize rbOk bad 4 l = RO at *
  go_enter Tryz.func69, Tryz.ntmps69
  go_wp2_with fail
  refine Calls.mono C.out ?_
  rintro e w1 ⟨D, rfl, hl, hv, d1, d2, k1⟩
  have HV := hide hv
  have D1 := hide d1
  have D2 := hide d2
  have K1 := hide k1
  clear hv d1 d2 k1 C
  go_wp2_with fail
  go_loop [4, 5] (fun n v => ∃ k : Nat, k ≤ D.size ∧ v = .int .i64 k ∧ n = .int .i64 (beV (D.data.toList.take k) : Int)) (fun _ v => D.size - (intOf v).toNat)
  case atStart => exact ⟨0, Nat.zero_le _, rfl, rfl⟩
  case round =>
    obtain ⟨k, hk, rfl, rfl⟩ := hrel
    have hV := beV_lt D.data.toList k (by rw [size_data]; exact hk)
    have hV2 : beV (D.data.toList.take k) < 4294967296 := Nat.lt_of_lt_of_le hV (Nat.le_trans (Nat.pow_le_pow_right (by omega) (show k ≤ 4 by omega)) (by decide))
    by_cases hlt : k < D.size
    · have hxs : ∀ w', (Instr.index 9 (.string D) (.int .i64 (k : Int))).run Tryz.prog w' = .ok (.int .u8 (D[k].toNat : Int)) w' := fun w' => ix_str w' D k hlt
      have hsn : Hid (beV (D.data.toList.take (k + 1)) = beV (D.data.toList.take k) * 256 + D[k].toNat) := by
        show _ = _
        rw [List.take_succ_eq_append_getElem (by simpa using hlt), beV_snoc]; rfl
      have hc := D[k].toNat_lt
      clear hV
      generalize D[k] = c at *
      generalize beV (D.data.toList.take k) = V at *
      go_wp2_with fail
      go_round
      case rel => exact ⟨k + 1, by omega, by go_num, by rw [hsn.out]; congr 1; omega⟩
      case measure => simp [intOf]; omega
    · obtain rfl : k = D.size := by omega
      rw [List.take_of_length_le (by simp)] at hV2 ⊢
      clear hV
      go_wp2_with fail
      go_ret
      exact ⟨ret_j (by rw [HV.out]), D1.out, D2.out, K1.out⟩
theorem rlA_le {s tx : ByteArray} {a : Nat} {bad : Bool} (ha : a ≤ tx.size) : rlA s tx a bad ≤ tx.size := by
  unfold rlA
  split
  · rename_i h
    unfold rlOk at h
    rw [Bool.and_eq_true] at h
    exact pfx_len ha h.2
  · exact ha
theorem rlA_ok {s tx : ByteArray} {a : Nat} {bad : Bool} (h : rlOk s tx a bad = true) : rlA s tx a bad = a + s.size := by unfold rlA; rw [h]; rfl
theorem rlOk_bad (s tx : ByteArray) (a : Nat) : rlOk s tx a true = false := rfl
/-- hex digits are no separators -/
theorem unhd_sep {c : UInt8} (h : (unhd c).isSome = true) : isSep c = false := by
  unfold isSep
  by_cases h1 : c = 32
  · subst h1; simp [unhd] at h
  · by_cases h2 : c = 10
    · subst h2; simp [unhd] at h
    · simp [h1, h2]
theorem unhexL_sep : ∀ (l : List UInt8), (unhexL l).isSome = true → l.all (fun c => !isSep c) = true := by
  intro l
  induction h' : l.length using Nat.strongRecOn generalizing l with
  | ind n ih =>
    intro h
    match l with
    | [] => rfl
    | [_] => simp [unhexL] at h
    | a :: b :: r =>
      simp only [unhexL] at h
      cases ha : unhd a with
      | none => simp [ha] at h
      | some x =>
        cases hb : unhd b with
        | none => simp [ha, hb] at h
        | some y =>
          cases hr : unhexL r with
          | none => simp [ha, hb, hr] at h
          | some t =>
            simp only [List.length_cons] at h'
            have q := ih r.length (by omega) r rfl (by rw [hr]; rfl)
            rw [List.all_cons, List.all_cons, q, unhd_sep (by rw [ha]; rfl), unhd_sep (by rw [hb]; rfl)]
            rfl
theorem pfx_nl {l : List UInt8} {k : Nat} (h : pfx nl (l.drop k) = true) : k < l.length ∧ l[k]? = some 10 := by
  have h1 := pfx_le h
  rw [List.length_drop] at h1
  have h2 : nl.size = 1 := rfl
  refine ⟨by omega, ?_⟩
  have h3 := List.isPrefixOf_iff_prefix.1 h
  obtain ⟨r, hr⟩ := h3
  have h4 : (l.drop k)[0]? = some 10 := by rw [← hr]; rfl
  rwa [List.getElem?_drop, Nat.add_zero] at h4
theorem wordL_eq {l : List UInt8} {k : Nat} (h1 : (l.take k).all (fun c => !isSep c) = true) (h2 : l[k]? = some 10) : wordL l = l.take k := by
  unfold wordL
  exact takeWhile_take l k h1 (fun _ => ⟨10, h2, rfl⟩)
theorem wordL_take (l : List UInt8) : wordL l = l.take (wordL l).length := by
  have := List.takeWhile_prefix (p := fun c => !isSep c) (l := l)
  exact (List.prefix_iff_eq_take.1 this)
/-- a sum that is read: in the program's way, in the document's -/
theorem sum_same (l : List UInt8) : (sumOk (wordL l) && pfx nl (l.drop (wordL l).length)) = (rbOk false 4 l && pfx nl (l.drop 8)) ∧ ((sumOk (wordL l) && pfx nl (l.drop (wordL l).length)) = true → (wordL l).length = 8 ∧ sumV (wordL l) = rsV false l) := by
  have key : (sumOk (wordL l) && pfx nl (l.drop (wordL l).length)) = true → (wordL l).length = 8 ∧ wordL l = l.take 8 ∧ (unhexL (l.take 8)).isSome = true ∧ pfx nl (l.drop 8) = true := fun h => by
    rw [Bool.and_eq_true] at h
    unfold sumOk hexOk at h
    rw [Bool.and_eq_true] at h
    have hl : (wordL l).length = 8 := by simpa using h.1.1
    have hw := wordL_take l
    rw [hl] at hw h
    rw [hw] at h
    exact ⟨hl, hw, h.1.2, h.2⟩
  have back : (rbOk false 4 l && pfx nl (l.drop 8)) = true → wordL l = l.take 8 ∧ 8 ≤ l.length ∧ (unhexL (l.take 8)).isSome = true ∧ pfx nl (l.drop 8) = true := fun h => by
    rw [Bool.and_eq_true] at h
    unfold rbOk at h
    simp only [Bool.not_false, Bool.true_and, Bool.and_eq_true] at h
    exact ⟨wordL_eq (unhexL_sep _ h.1.2) (pfx_nl h.2).2, by simpa using h.1.1, h.1.2, h.2⟩
  refine ⟨?_, fun h => ?_⟩
  · rw [Bool.eq_iff_iff]
    constructor
    · intro h
      obtain ⟨h1, h2, h3, h4⟩ := key h
      have h5 := wordL_le l
      rw [h4, Bool.and_true]
      unfold rbOk
      rw [show 2 * 4 = 8 from rfl, h3, decide_eq_true (by omega)]
      rfl
    · intro h
      obtain ⟨h1, h2, h3, h4⟩ := back h
      have hl : (wordL l).length = 8 := by rw [h1, List.length_take]; omega
      rw [hl, h4, Bool.and_true]
      unfold sumOk hexOk
      rw [decide_eq_true (by omega), h1, h3]
      rfl
  · obtain ⟨h1, h2, h3, h4⟩ := key h
    refine ⟨h1, ?_⟩
    have h5 := wordL_le l
    unfold sumV hexV rsV rbOk
    rw [if_pos (by omega), show 2 * 4 = 8 from rfl, h3, decide_eq_true (by omega), h2]
    rfl
/-- the document's last line answers as close does -/
def lstE (tx : ByteArray) (a : Nat) (bad : Bool) : Int := if bad then 40 else clsE tx a
theorem uns_same (tx : ByteArray) (a : Nat) : unsOk sumWd tx a = (pfx sumWd (tx.data.toList.drop a) && (rbOk false 4 (tx.data.toList.drop (a + 4)) && pfx nl (tx.data.toList.drop (a + 12)))) ∧ (unsOk sumWd tx a = true → unsN sumWd tx a = 13 ∧ (fldV (sumFD sumWd 0) (tx.data.toList.drop a)).1 = (rsV false (tx.data.toList.drop (a + 4)) : Int)) := by
  have e0 : sumWd.size = 4 := rfl
  have e1 : (tx.data.toList.drop a).drop sumWd.size = tx.data.toList.drop (a + 4) := by rw [List.drop_drop, e0]
  have e2 : fldW (sumFD sumWd 0) (tx.data.toList.drop a) = wordL (tx.data.toList.drop (a + 4)) := by show wordL ((tx.data.toList.drop a).drop sumWd.size) = _; rw [e1]
  obtain ⟨s1, s2⟩ := sum_same (tx.data.toList.drop (a + 4))
  have e3 : unsOk sumWd tx a = (pfx sumWd (tx.data.toList.drop a) && (sumOk (wordL (tx.data.toList.drop (a + 4))) && pfx nl ((tx.data.toList.drop (a + 4)).drop (wordL (tx.data.toList.drop (a + 4))).length))) := by
    unfold unsOk fldOk
    rw [e2, show (sumFD sumWd 0).wd = sumWd from rfl, e1]
    rfl
  rw [s1, List.drop_drop] at e3
  refine ⟨e3, fun h => ?_⟩
  rw [e3, Bool.and_eq_true] at h
  have h2 := h.2
  have s3 := s2 (by rw [s1, List.drop_drop]; exact h2)
  refine ⟨?_, ?_⟩
  · unfold unsN fldN; rw [e2, s3.1]; rfl
  · show rdN 1 (fldW (sumFD sumWd 0) (tx.data.toList.drop a)) = _
    rw [e2]
    show (sumV _ : Int) = _
    rw [s3.2]
set_option maxHeartbeats 4000000 in
set_option maxRecDepth 100000 in
theorem last_any (Q : Nat) (tx : ByteArray) (a : Nat) (bad : Bool) (w : World) (h : RfAt Q tx a bad w) (ha : a ≤ tx.size) (htx : tx.size < 9223372036854775808) :
    Calls Tryz.prog 70 #[.pointer (some ⟨Q, 0, none⟩)] w fun e w' => e = .returned (.int .i64 (lstE tx a bad)) ∧ Kb Q w w' := by
  have C1 := hide (lit_any Q sumWd tx a bad w h ha htx (by decide))
  obtain ⟨LE, hLE⟩ : ∃ LE, LE = lstE tx a bad := ⟨_, rfl⟩
  rw [← hLE]
  have HLE := hide hLE
  obtain ⟨u1, u2⟩ := uns_same tx a
  have U1 := hide u1
  have U2 := hide u2
  have hcl : ∀ b, clsE tx a = b → (bad = false → LE = b) := fun b hb h => by rw [hLE]; unfold lstE; rw [h]; exact hb
  have HCL := hide hcl
  have hrl : rlA sumWd tx a bad ≤ tx.size := rlA_le ha
  have hOk : Hid (rlOk sumWd tx a bad = (!bad && pfx sumWd (tx.data.toList.drop a)) ∧ (rlOk sumWd tx a bad = true → rlA sumWd tx a bad = a + 4)) := ⟨rfl, fun h => rlA_ok h⟩
  obtain ⟨c0, c1, c2, c3, c4⟩ := h
  clear hLE u1 u2 hcl c2 c3 c4
  generalize rlA sumWd tx a bad = A1 at *
  generalize rlOk sumWd tx a bad = O1 at *
  have CR : Hid (∀ w', Calls Tryz.prog 60 #[.string (tx.extract 0 a)] w' fun e w'' => e = .returned (.int .i64 (crcN 0 (tx.data.toList.take a) : Int)) ∧ w'' = w') := fun w' => (rcrc_any (headS tx a) w' (by unfold headS; rw [ByteArray.size_extract]; omega)).mono fun e w'' ⟨h1, h2⟩ => ⟨by rw [h1, headS_data], h2.symm⟩
  unfold sumWd at C1
  go_enter Tryz.func70, Tryz.ntmps70
  go_wp2_with fail
  refine Calls.mono C1.out ?_
  rintro e w1 ⟨rfl, r1, k1⟩
  have C2 := hide (rsum_any Q tx A1 (!O1) w1 r1 hrl htx)
  have K1 := hide k1
  clear r1 k1 C1
  generalize hRS : rsV (!O1) (tx.data.toList.drop A1) = RS at *
  generalize hO2 : rbOk (!O1) 4 (tx.data.toList.drop A1) = O2 at *
  go_wp2_with fail
  refine Calls.mono C2.out ?_
  rintro e w2 ⟨rfl, d1, d2, k2⟩
  have K2 := hide (K1.out.trans k2)
  -- where the reader is, good or bad
  obtain ⟨A2, hA2, r2, hA2'⟩ : ∃ A2, A2 ≤ tx.size ∧ RfAt Q tx A2 (!O2) w2 ∧ (O2 = true → A2 = A1 + 8) := by
    cases O2 with
    | true => exact ⟨A1 + 8, by
        unfold rbOk at hO2
        rw [Bool.and_eq_true, Bool.and_eq_true] at hO2
        have := of_decide_eq_true hO2.2.1
        rw [List.length_drop, size_data] at this
        omega, d1 rfl, fun _ => rfl⟩
    | false =>
      obtain ⟨a', q1, q2⟩ := d2 rfl
      exact ⟨a', q1, q2, fun h => by cases h⟩
  have C3 := hide (lit_any Q nl tx A2 (!O2) w2 r2 hA2 htx (by decide))
  have SUM : Hid (rlOk nl tx A2 (!O2) = (!bad && unsOk sumWd tx a) ∧ (rlOk nl tx A2 (!O2) = true → rlA nl tx A2 (!O2) = a + 13 ∧ RS = rsV false (tx.data.toList.drop (a + 4)))) := by
    have e3 : rlOk nl tx A2 (!O2) = (O2 && pfx nl (tx.data.toList.drop A2)) := by unfold rlOk; rw [Bool.not_not]
    cases hb : O1 with
    | false =>
      have o2 : O2 = false := by rw [← hO2, hb]; rfl
      have o3 : (!bad && unsOk sumWd tx a) = false := by
        rw [U1.out, ← Bool.and_assoc, ← hOk.out.1, hb]; rfl
      rw [e3, o2, o3]
      exact ⟨rfl, fun h => by cases h⟩
    | true =>
      have a1 := hOk.out.2 hb
      have b1 := hOk.out.1
      rw [hb] at b1
      rw [hb, a1] at hO2 hRS
      have o2 : O2 = rbOk false 4 (tx.data.toList.drop (a + 4)) := hO2.symm
      have o3 : (!bad && unsOk sumWd tx a) = (O2 && pfx nl (tx.data.toList.drop (a + 12))) := by
        rw [U1.out, ← Bool.and_assoc, ← b1, Bool.true_and, o2]
      rw [e3, o3]
      cases ho : O2 with
      | false => exact ⟨rfl, fun h => by cases h⟩
      | true =>
        have a2 := hA2' ho
        rw [a2, a1, Nat.add_assoc]
        refine ⟨rfl, fun h => ⟨?_, hRS.symm⟩⟩
        have : rlOk nl tx (a + (4 + 8)) (!true) = true := by unfold rlOk; exact h
        rw [rlA_ok this]; rfl
  have hle3 : rlA nl tx A2 (!O2) ≤ tx.size := rlA_le hA2
  generalize rlA nl tx A2 (!O2) = A3 at *
  generalize rlOk nl tx A2 (!O2) = O3 at *
  have HRS := hide hRS
  clear d1 d2 k2 r2 hA2' C2 hRS hO2 hOk hA2
  unfold nl at C3
  go_wp2_with fail
  refine Calls.mono C3.out ?_
  rintro e w3 ⟨rfl, r3, k3⟩
  have K3 := hide (K2.out.trans k3)
  have R3 := hide r3
  obtain ⟨c0, c1, c2, c3, c4⟩ := r3
  clear k3 C3 c3 c4
  cases hO3 : O3 with
  | false =>
    have e1 : Hid (LE = 40) := by
      show _ = _
      rw [HLE.out]; unfold lstE
      cases hb : bad with
      | true => rfl
      | false =>
        have hu : unsOk sumWd tx a = false := by
          have := SUM.out.1
          rw [hO3, hb] at this
          simpa using this.symm
        show clsE tx a = 40
        unfold clsE
        rw [hu]; rfl
    rw [hO3] at c2
    go_wp2_with fail
    go_quiet (fail)
    go_wp2_with fail
    go_ret
    exact ⟨ret_j e1.out, K3.out.trans (kb_drewN Q w3 nq)⟩
  | true =>
    have hbu : bad = false ∧ unsOk sumWd tx a = true := by
      have := SUM.out.1
      rw [hO3] at this
      simpa using this.symm
    obtain ⟨a3, rs3⟩ := SUM.out.2 hO3
    obtain ⟨n13, v13⟩ := U2.out hbu.2
    rw [hO3] at c2
    have c2' : w3.cell? ⟨Q, 2, none⟩ = some (.bool false) := c2
    clear c2
    by_cases hz : A3 = tx.size
    · have f1' : ((A3 : Int) != (tx.size : Int)) = false := by rw [hz]; simp
      have hCE : clsE tx a = if unsFit sumWd tx a then 0 else 41 := by
        unfold clsE
        rw [hbu.2, n13, decide_eq_true (by omega)]; rfl
      have hF : unsFit sumWd tx a = decide ((RS : Int) = (crcN 0 (tx.data.toList.take a) : Int)) := by
        unfold unsFit
        rw [hbu.2, v13, rs3]; rfl
      have HCE : Hid (LE = if decide ((RS : Int) = (crcN 0 (tx.data.toList.take a) : Int)) then 0 else 41) := by
        show _ = _
        rw [← hF]; exact HCL.out _ hCE hbu.1
      clear hCE hF a3 rs3 n13 v13
      generalize crcN 0 (tx.data.toList.take a) = CC at *
      by_cases hq : (RS : Int) = (CC : Int)
      · have e1 : Hid (LE = 0) := by show _ = _; rw [HCE.out, decide_eq_true hq]; rfl
        have g1 : ((RS : Int) != (CC : Int)) = false := by simpa using hq
        go_wp2_with fail
        go_quiet (fail)
        go_wp2_with fail
        refine Calls.mono (CR.out _) ?_
        rintro e w4 ⟨rfl, rfl⟩
        go_wp2_with fail
        go_ret
        exact ⟨ret_j e1.out, K3.out.trans (kb_drewN Q w3 nq)⟩
      · have e1 : Hid (LE = 41) := by show _ = _; rw [HCE.out, decide_eq_false hq]; rfl
        have g1 : ((RS : Int) != (CC : Int)) = true := by simpa using hq
        go_wp2_with fail
        go_quiet (fail)
        go_wp2_with fail
        refine Calls.mono (CR.out _) ?_
        rintro e w4 ⟨rfl, rfl⟩
        go_wp2_with fail
        go_ret
        exact ⟨ret_j e1.out, K3.out.trans (kb_drewN Q w3 nq)⟩
    · have f1' : ((A3 : Int) != (tx.size : Int)) = true := by simp; omega
      have e1 : Hid (LE = 40) := by
        refine HCL.out _ ?_ hbu.1
        unfold clsE
        rw [hbu.2, n13, decide_eq_false (by omega)]; rfl
      go_wp2_with fail
      go_quiet (fail)
      go_wp2_with fail
      go_ret
      exact ⟨ret_j e1.out, K3.out.trans (kb_drewN Q w3 nq)⟩
end Go.Proofs.YtgdopepghmjopaaGreatDoor
