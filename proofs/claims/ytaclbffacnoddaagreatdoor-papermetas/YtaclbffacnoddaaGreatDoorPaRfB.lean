import Derived.Test.YtaclbffacnoddaaGreatDoorPaRfL
import Derived.Test.YtaclbffacnoddaaGreatDoorPaSum
import Derived.Test.YtaclbffacnoddaaGreatDoorPart13
namespace Go.Proofs.YtaclbffacnoddaaGreatDoor
open Go.RowKit Go.Shelf
set_option maxRecDepth 100000 in
theorem rhalf_any (c : UInt8) (w : World) :
    Calls Tryz.prog 127 #[.int .u8 (c.toNat : Int)] w fun e w' => e = .returned (.int .i64 (digitV c)) ∧ w = w' := by
  go_enter Tryz.func127, Tryz.ntmps127
  go_wp2
  go_loop [3] (fun i => ∃ k : Nat, k ≤ 16 ∧ i = .int .i64 k ∧ ∀ j, j < k → hd j ≠ c) (fun i => 16 - (intOf i).toNat)
  case atStart => exact ⟨0, by omega, rfl, fun j hj => by omega⟩
  case round =>
    obtain ⟨k, hk, rfl, hall⟩ := hrel
    have HA := hide hall
    clear hall
    by_cases hlt : k < 16
    · have hd1 := fun w' => ix_digs w' k hlt .i64
      by_cases he : hd k = c
      · have hb : (((hd k).toNat : Int) == (c.toNat : Int)) = true := by rw [he]; simp
        have HE := hide he
        clear he
        go_wp2
        go_ret
        exact ⟨by rw [digitV_hit hlt HE.out]; rfl, rfl⟩
      · have hb : (((hd k).toNat : Int) == (c.toNat : Int)) = false := by
          rw [beq_eq_false_iff_ne]
          intro e
          exact he (UInt8.toNat_inj.1 (by omega))
        have HE := hide he
        clear he
        go_wp2
        go_round
        case rel => exact ⟨k + 1, by omega, by go_num, fun j hj => by rcases Nat.lt_or_ge j k with h | h; exact HA.out j h; rw [show j = k by omega]; exact HE.out⟩
        case measure => simp [intOf]; omega
    · go_wp2
      go_ret
      exact ⟨by rw [digitV_none (fun j hj => HA.out j (by omega))]; rfl, rfl⟩
theorem own_kb {Q base e s n : Nat} {w w' : World} {v : Value} {x : List Value} (o : w.ownsRow base e s v n x) (hk : Kb Q w w') (hb : Q < base) : w'.ownsRow base e s v n x := by
  refine ⟨o.1, ?_⟩
  rcases o.2 with q | ⟨g, cap, cur, q, hg, hblk, r⟩
  · exact .inl q
  · refine .inr ⟨g, cap, cur, q, hg, ?_, r⟩
    rw [hk.block g (by rcases Nat.lt_or_ge g w.heap.size with z | z; exact z; rw [Array.getElem?_eq_none z] at hblk; cases hblk) (by omega)]; exact hblk
theorem kb_grown {Q : Nat} {w0 w w' : World} {row : Option Nat} (h : Kb Q w0 w) (hg : w.grownBy w' row) (hr : ∀ k, row = some k → w0.heap.size ≤ k) : Kb Q w0 w' :=
  ⟨hg.os.trans h.os, hg.tape.trans h.tape, hg.output.trans h.output, Nat.le_trans h.size hg.size, fun i hi hn => (hg.block i (Nat.lt_of_lt_of_le hi h.size) (fun e => by have := hr i e.symm; omega)).trans (h.block i hi hn)⟩
theorem rf_grown {Q : Nat} {tx : ByteArray} {a : Nat} {bad : Bool} {w w' : World} {row : Option Nat} (h : RfAt Q tx a bad w) (hg : w.grownBy w' row) (hr : ∀ k, row = some k → k ≠ Q) : RfAt Q tx a bad w' := by
  have hl := h.lt
  have hb := hg.block Q hl (fun e => hr Q e.symm rfl)
  obtain ⟨h0, h1, h2, h3, h4⟩ := h
  refine ⟨?_, ?_, ?_, ?_, ?_⟩
  · rw [← h0]; simp only [World.cell?, hb]
  · rw [← h1]; simp only [World.cell?, hb]
  · rw [← h2]; simp only [World.cell?, hb]
  · rw [← h3]; simp only [World.frozen?, hb]
  · rw [← h4]; simp only [World.frozen?, hb]
def rbOk (bad : Bool) (n : Nat) (l : List UInt8) : Bool := !bad && (decide (2 * n ≤ l.length) && (unhexL (l.take (2 * n))).isSome)
theorem rb_short {bad : Bool} {n : Nat} {l : List UInt8} (h : l.length < 2 * n) : rbOk bad n l = false := by
  unfold rbOk; rw [decide_eq_false (by omega), Bool.false_and, Bool.and_false]
theorem rb_none {bad : Bool} {n k : Nat} {l : List UInt8} {c1 c2 : UInt8} (hk : k < n) (h1 : l[2 * k]? = some c1) (h2 : l[2 * k + 1]? = some c2) (hb : unhd c1 = none ∨ unhd c2 = none) : rbOk bad n l = false := by
  unfold rbOk
  by_cases hl : 2 * n ≤ l.length
  · have e : unhexL (l.take (2 * n)) = none := by
      have hlt : 2 * k + 1 < (l.take (2 * n)).length := by rw [List.length_take]; omega
      refine unhex_bad (l.take (2 * n)) k hlt ?_
      have g1 : (l.take (2 * n))[2 * k]? = some c1 := by rw [List.getElem?_take_of_lt (by omega)]; exact h1
      have g2 : (l.take (2 * n))[2 * k + 1]? = some c2 := by rw [List.getElem?_take_of_lt (by omega)]; exact h2
      rw [List.getElem?_eq_getElem (by omega)] at g1 g2
      injection g1 with g1
      injection g2 with g2
      rw [g1, g2]
      exact hb
    rw [e]; simp
  · rw [decide_eq_false hl]; simp
theorem rb_step {k : Nat} {l t : List UInt8} {c1 c2 : UInt8} {x y : Nat} (hl : 2 * k + 1 < l.length) (h1 : l[2 * k]? = some c1) (h2 : l[2 * k + 1]? = some c2) (ht : unhexL (l.take (2 * k)) = some t) (hx : unhd c1 = some x) (hy : unhd c2 = some y) : unhexL (l.take (2 * (k + 1))) = some (t ++ [UInt8.ofNat (16 * x + y)]) := by
  rw [List.getElem?_eq_getElem (by omega)] at h1 h2
  injection h1 with h1
  injection h2 with h2
  exact unhex_step l k hl ht (by rw [h1]; exact hx) (by rw [h2]; exact hy)
theorem rh_quiet (c : UInt8) (w : World) : Calls Tryz.prog 127 #[.int .u8 (c.toNat : Int)] w fun e w' => e = .returned (.int .i64 (digitV c)) ∧ w' = w := (rhalf_any c w).mono fun _ _ ⟨h1, h2⟩ => ⟨h1, h2.symm⟩
theorem digitV_cases (c : UInt8) : (unhd c = none ∧ digitV c = -1) ∨ ∃ x, unhd c = some x ∧ x < 16 ∧ digitV c = (x : Int) := by
  unfold digitV
  cases hx : unhd c with
  | none => exact Or.inl ⟨rfl, rfl⟩
  | some x => exact Or.inr ⟨x, rfl, unhd_lt hx, rfl⟩
set_option maxHeartbeats 4000000 in
set_option maxRecDepth 100000 in
theorem bytes_any (Q n : Nat) (tx : ByteArray) (a : Nat) (bad : Bool) (w : World) (h : RfAt Q tx a bad w) (ha : a ≤ tx.size) (htx : tx.size < 9223372036854775808) (hn : n ≤ 1000) (hn0 : 0 < n) :
    Calls Tryz.prog 115 #[.pointer (some ⟨Q, 0, none⟩), .int .i64 (n : Int)] w fun e w' => ((rbOk bad n (tx.data.toList.drop a) = true ∧ e = .returned (.string (strOf ((unhexL ((tx.data.toList.drop a).take (2 * n))).getD []))) ∧ RfAt Q tx (a + 2 * n) false w') ∨ (rbOk bad n (tx.data.toList.drop a) = false ∧ e = .returned (.string ⟨#[]⟩) ∧ ∃ a', a' ≤ tx.size ∧ RfAt Q tx a' true w')) ∧ Kb Q w w' := by
  obtain ⟨i0, hi, hz0, hz1, hz2⟩ := info_parts info5
  have H := hide h
  have hQ := h.lt
  have hll : (tx.data.toList.drop a).length = tx.size - a := by rw [List.length_drop, size_data]
  have HX : Hid (∀ j (hj : a + j < tx.size), (tx.data.toList.drop a)[j]? = some (tx[a + j]'hj)) := fun j hj => by
    rw [List.getElem?_drop, Lib.data_getElem? tx (a + j) hj]
  generalize tx.data.toList.drop a = l at *
  clear h
  go_enter Tryz.func115, Tryz.ntmps115
  go_wp2_with fail
  go_loopw [5, 6] (fun v i wr => ∃ (k : Nat) (t : List UInt8), k ≤ n ∧ a + 2 * k ≤ tx.size ∧ i = .int .i64 (k : Int) ∧ Hid (unhexL (l.take (2 * k)) = some t ∧ t.length = k ∧ wr.ownsRow w.heap.size 5 1 v k (t.map ub) ∧ RfAt Q tx (a + 2 * k) bad wr ∧ (0 < k → bad = false) ∧ Kb Q w wr)) (fun _ i _ => n - (intOf i).toNat)
  case atStart => exact ⟨0, [], by omega, by omega, rfl, rfl, rfl, World.ownsRow_nil _ _ _ _, H.out, by omega, Kb.refl _ _⟩
  case round =>
    obtain ⟨k, t, hk, hak, rfl, H2⟩ := hrel
    obtain ⟨A, hA⟩ : ∃ A, A = a + 2 * k := ⟨_, rfl⟩
    rw [← hA] at H2
    have HA := hide hA
    have hAle : A ≤ tx.size := by omega
    by_cases hlt : k < n
    · have hltz : (k : Int) < (n : Int) := by omega
      cases bad with
      | true =>
        obtain ⟨c0, c1, c2, c3, c4⟩ := H2.out.2.2.2.1
        go_wp2_with fail
        go_quiet (fail)
        have H3 := hide (H2.out.2.2.2.1.drewN nq)
        have K3 := hide (H2.out.2.2.2.2.2.trans (kb_drewN Q wr nq))
        have R3 := hide (H3.out.setB true)
        obtain ⟨c0, c1, c2, c3, c4⟩ := H3.out
        generalize wr.drewN nq = w1 at *
        go_wp2_with fail
        go_ret
        exact ⟨.inr ⟨rfl, rfl, A, hAle, R3.out⟩, K3.out.trans (Kb.set Q 2 _ _)⟩
      | false =>
        obtain ⟨c0, c1, c2, c3, c4⟩ := H2.out.2.2.2.1
        by_cases g1 : tx.size - A < 2
        · have f1 : decide ((tx.size : Int) - (A : Int) < 2) = true := decide_eq_true (by omega)
          have EB := hide (rb_short (bad := false) (n := n) (l := l) (by omega))
          clear hA
          go_wp2_with fail
          go_quiet (fail)
          have H3 := hide (H2.out.2.2.2.1.drewN nq)
          have K3 := hide (H2.out.2.2.2.2.2.trans (kb_drewN Q wr nq))
          have R3 := hide (H3.out.setB true)
          obtain ⟨c0, c1, c2, c3, c4⟩ := H3.out
          generalize wr.drewN nq = w1 at *
          go_wp2_with fail
          go_ret
          exact ⟨.inr ⟨EB.out, rfl, A, hAle, R3.out⟩, K3.out.trans (Kb.set Q 2 _ _)⟩
        · have f1 : decide ((tx.size : Int) - (A : Int) < 2) = false := decide_eq_false (by omega)
          have hlk : 2 * k + 1 < l.length := by omega
          have gA : A < tx.size := by omega
          have gB : A + 1 < tx.size := by omega
          have hx1 : ∀ w', (Instr.index 9 (.string tx) (.int .i64 (A : Int))).run Tryz.prog w' = .ok (.int .u8 ((tx[A]'gA).toNat : Int)) w' := fun w' => ix_str w' tx A gA
          have hx2 : ∀ w', (Instr.index 9 (.string tx) (.int .i64 ((A : Int) + 1))).run Tryz.prog w' = .ok (.int .u8 ((tx[A + 1]'gB).toNat : Int)) w' := fun w' => by
            have := ix_str w' tx (A + 1) gB
            rwa [show ((A + 1 : Nat) : Int) = (A : Int) + 1 by omega] at this
          have L1 : Hid (l[2 * k]? = some (tx[A]'gA)) := by
            show _ = _
            rw [HX.out (2 * k) (by omega)]
            congr 1
            simp [hA]
          have L2 : Hid (l[2 * k + 1]? = some (tx[A + 1]'gB)) := by
            show _ = _
            rw [HX.out (2 * k + 1) (by omega)]
            congr 1
            simp [hA, Nat.add_assoc]
          clear hA
          generalize (tx[A]'gA) = ca at *
          generalize (tx[A + 1]'gB) = cb at *
          go_wp2_with fail
          go_quiet (fail)
          have H3 := hide (H2.out.2.2.2.1.drewN nq)
          have K3 := hide (H2.out.2.2.2.2.2.trans (kb_drewN Q wr nq))
          have O3 := hide (own_kb H2.out.2.2.1 (kb_drewN Q wr nq) hQ)
          obtain ⟨c0, c1, c2, c3, c4⟩ := H3.out
          generalize wr.drewN nq = w1 at *
          go_wp2_with fail
          go_quiet ((go_at_call 127; exact Calls.quiet_of_same (rh_quiet _ _)))
          have H4 := hide (H3.out.drewN nq)
          have K4 := hide (K3.out.trans (kb_drewN Q w1 nq))
          have O4 := hide (own_kb O3.out (kb_drewN Q w1 nq) hQ)
          obtain ⟨c0, c1, c2, c3, c4⟩ := H4.out
          generalize w1.drewN nq = w2 at *
          clear H3 K3 O3
          go_wp2_with fail
          go_quiet ((go_at_call 127; exact Calls.quiet_of_same (rh_quiet _ _)))
          have H5 := hide (H4.out.drewN nq)
          have K5 := hide (K4.out.trans (kb_drewN Q w2 nq))
          have O5 := hide (own_kb O4.out (kb_drewN Q w2 nq) hQ)
          obtain ⟨c0, c1, c2, c3, c4⟩ := H5.out
          generalize w2.drewN nq = w3 at *
          clear H4 K4 O4
          have R5 := hide (H5.out.setB true)
          rcases digitV_cases ca with ⟨n1, v1⟩ | ⟨xa, n1, xl, v1⟩
          · have EB := hide (rb_none (bad := false) (n := n) hlt L1.out L2.out (.inl n1))
            rw [v1]
            clear n1 v1
            go_wp2_with fail
            go_ret
            exact ⟨.inr ⟨EB.out, rfl, A, hAle, R5.out⟩, K5.out.trans (Kb.set Q 2 _ _)⟩
          · rcases digitV_cases cb with ⟨n2, v2⟩ | ⟨xb, n2, xm, v2⟩
            · have EB := hide (rb_none (bad := false) (n := n) hlt L1.out L2.out (.inr n2))
              rw [v1, v2]
              clear n1 v1 n2 v2
              go_wp2_with fail
              go_ret
              exact ⟨.inr ⟨EB.out, rfl, A, hAle, R5.out⟩, K5.out.trans (Kb.set Q 2 _ _)⟩
            · have ES := hide (rb_step hlk L1.out L2.out H2.out.1 n1 n2)
              rw [v1, v2]
              clear n1 v1 n2 v2
              have hs5 : w.heap.size ≤ w3.heap.size := K5.out.size
              have hml : k + 1 ≤ 1001 := by omega
              go_wp2_with (at_builtin; refine wpList_append_own _ rfl (.tmp 64) (.tmp 70) 87 rfl w.heap.size 5 i0 (.int .u8 0) 1 1 Tryz.underlying87 hi hz0 hz1 hz2 rfl (by decide) _ _ _ rfl (O5.out.alloc _) ⟨w3.heap.size, 0, none⟩ 1 1 [.int .u8 (16 * (xa : Int) + (xb : Int))] rfl rfl (cell_one_new _ _ _) (one_of rfl) (by unfold maxLen; omega) (by omega) (by simp; omega) ?_; intro v1 w4 hown4 hgrow4 hnil4; have H6 := hide (rf_grown (H5.out.below ((Below.refl _ _).alloc (Nat.le_refl _) _)) hgrow4 (fun g hg => by have := (O5.out.lt g hg).1; omega)); have K6 := hide (kb_grown (K5.out.trans (Kb.of ((Below.refl _ _).alloc (Nat.le_refl _) _))) hgrow4 (fun g hg => (O5.out.lt g hg).1)); have O6 := hide hown4; obtain ⟨c0, c1, c2, c3, c4⟩ := H6.out; clear hown4 hgrow4 hnil4 H5 K5 O5 R5)
              have R6 := hide (H6.out.setA (A + 2))
              have hw : ((A + 2 : Nat) : Int) = (A : Int) + 2 := by omega
              rw [hw] at R6
              have O7 := hide (own_kb O6.out (Kb.set Q 1 w4 (.int .i64 ((A : Int) + 2))) hQ)
              go_roundw
              case rel =>
                refine ⟨k + 1, t ++ [UInt8.ofNat (16 * xa + xb)], by omega, by have := HA.out; omega, by go_num, ES.out, by simp [H2.out.2.1], ?_, ?_, (by simp), K6.out.trans (Kb.set Q 1 _ _)⟩
                · have e : (t ++ [UInt8.ofNat (16 * xa + xb)]).map ub = t.map ub ++ [.int .u8 (16 * (xa : Int) + (xb : Int))] := by
                    rw [List.map_append]
                    congr 1
                    simp only [List.map_cons, List.map_nil, ub, UInt8.toNat_ofNat']
                    congr 2
                    rw [Nat.mod_eq_of_lt (by omega)]
                    omega
                  rw [e]
                  exact O7.out
                · rw [show a + 2 * (k + 1) = A + 2 by have := HA.out; omega]
                  exact R6.out
              case measure => simp [intOf]; omega
    · obtain rfl : k = n := by omega
      have hc := own_conv (P := Tryz.prog) (src := 87) (dst := 9) H2.out.2.2.1 (by rw [H2.out.2.1]) Tryz.underlying87 Tryz.underlying5 Tryz.underlying9
      have hbad := H2.out.2.2.2.2.1 hn0
      have EB : Hid (rbOk bad k l = true ∧ strOf ((unhexL (l.take (2 * k))).getD []) = strOf t) := by
        refine ⟨?_, by rw [H2.out.1]; rfl⟩
        unfold rbOk; rw [hbad, H2.out.1, decide_eq_true (by omega)]; rfl
      have HB := hide hbad
      clear hbad
      go_wp2_with fail
      go_ret
      refine ⟨.inl ⟨EB.out.1, ?_, ?_⟩, H2.out.2.2.2.2.2⟩
      · rw [EB.out.2]; rfl
      · rw [← HA.out, ← HB.out]; exact H2.out.2.2.2.1
end Go.Proofs.YtaclbffacnoddaaGreatDoor
