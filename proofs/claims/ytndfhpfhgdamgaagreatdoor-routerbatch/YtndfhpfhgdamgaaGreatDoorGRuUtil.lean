import Derived.Test.YtndfhpfhgdamgaaGreatDoorGRuGoOn
namespace Go.Proofs.YtndfhpfhgdamgaaGreatDoor.Cn
open Go.RowKit
theorem wpList_apI {w : World} {ops : Array Oper} {rest : List Oper} {o : Oper} {a : Act} {Q : Exit → Act → World → Prop} (hgd : o.guard = none) (x y : Operand) (ho : o.op = .call { callee := .builtin .append, args := #[x, y], argTypes := #[25, 25] }) (base : Nat) (v : Value) (n : Nat) (L : List Int) (hx : a.eval x = v) (hv : w.ownsRow base 3 1 v n (ints L)) (g : Nat) (m : Int) (hy : a.eval y = .slice (some ⟨g, 0, none⟩) 1 1) (hg : w.heap[g]? = some (.cells #[.int .i64 m] 3)) (hl : n ≤ 1000000000000) (hb : base ≤ w.heap.size)
    (h : ∀ v' w', w'.ownsRow base 3 1 v' (n + 1) (ints (L ++ [m])) → w.grownBy w' v.ownBlock → (v'.ownBlock = v.ownBlock ∨ v'.ownBlock = some w.heap.size) → wpList Tryz.prog ops Q rest (a.put o.dst v') w') : wpList Tryz.prog ops Q (o :: rest) a w := by
  obtain ⟨i0, hi, hz0, hz1, hz2⟩ := info_parts int_infos
  refine wpList_append_own_at _ hgd _ _ 25 ho base 3 i0 _ 1 8 Tryz.underlying25 hi hz0 hz1 hz2 rfl (by decide) _ _ _ hx hv ⟨g, 0, none⟩ 1 1 (ints [m]) hy rfl ?_ (ints_one _) (by unfold maxLen; omega) (by omega) hb ?_
  · intro j u hj
    rw [Addr.add_mid, Nat.zero_add, cell_row hg]
    simpa [ints] using hj
  · intro v' w' h1 h2 _ h4
    rw [← ints_append] at h1
    exact h v' w' h1 h2 h4
theorem own_is {w : World} {base n : Nat} {v : Value} {L : List Int} (h : w.ownsRow base 3 1 v n (ints L)) (hl : L.length ≤ 1000000) : n = L.length ∧ ∃ ao b cap, v = .slice ao L.length cap ∧ IsAt w ao b 0 L ∧ ∀ k, v.ownBlock = some k → k = b := by
  have hn : n = L.length := by
    have := h.1
    rw [ints_len] at this
    omega
  subst hn
  refine ⟨rfl, ?_⟩
  rcases h.2 with ⟨hv, hz⟩ | ⟨g, cap, cur, rfl, h1, h2, h3, h4, h5, h6⟩
  · refine ⟨none, 0, 0, by rw [hv, hz], ⟨fun q => by omega, fun i hi => by omega, by omega⟩, fun k hk => by rw [hv] at hk; simp [Value.ownBlock] at hk⟩
  · refine ⟨some ⟨g, 0, none⟩, g, cap, rfl, ⟨fun _ => rfl, fun i hi => ?_, by omega⟩, fun k hk => by simp [Value.ownBlock] at hk; exact hk.symm⟩
    have hj : (ints L)[i]? = some (.int .i64 L[i]) := by rw [ints_at, List.getElem?_eq_getElem hi]; rfl
    obtain ⟨g', cap', e, c1, _⟩ := own_at h hj
    injection e with e1 e2 e3
    injection e1 with e1
    injection e1 with e1
    subst e1
    rw [Nat.zero_add]
    exact c1
theorem Rw.is {w : World} {g : Nat} {d : List Int} (h : Rw w g d) (hl : d.length ≤ 1000000) : IsAt w (some ⟨g, 0, none⟩) g 0 d :=
  ⟨fun _ => rfl, fun i hi => by rw [Nat.zero_add, h.cell hi, atL_get hi], by omega⟩
theorem Rw.kp {w w' : World} {g : Nat} {d : List Int} (h : Rw w g d) {S : Nat → Prop} (hk : Kp w w' S) (hS : ¬ S g) : Rw w' g d := (hk.block g (blk_lt h) hS).trans h
/-- what is copied -/
theorem ints_at2 (L : List Int) (j : Nat) (h : j < L.length) : (ints L)[j]? = some (.int .i64 L[j]) := by
  unfold ints
  rw [List.getElem?_map, List.getElem?_eq_getElem h]
  rfl
def srtI (L : List Int) : List Int := L.mergeSort fun x y => decide (x ≤ y)
theorem srtI_len (L : List Int) : (srtI L).length = L.length := by unfold srtI; exact List.length_mergeSort L
/-- slices.Sort of ints -/
theorem sort_ints (w : World) (base g cap : Nat) (L : List Int) (h : w.ownsRow base 3 1 (.slice (some ⟨g, 0, none⟩) L.length cap) L.length (ints L)) (hl : L.length < 4611686018427387904) :
    Calls Tryz.prog 73 #[.slice (some ⟨g, 0, none⟩) L.length cap] w fun e w' => e = .returned (.tuple #[]) ∧ w'.ownsRow base 3 1 (.slice (some ⟨g, 0, none⟩) L.length cap) L.length (ints (srtI L)) ∧ Below base w w' := by
  rcases h.2 with ⟨e, _⟩ | ⟨g', cap', cur, e, hb, hg, hc1, hc2, hc3, hc4⟩
  · cases e
  injection e with e1 e2 e3
  injection e1 with e1
  injection e1 with e1
  subst e1
  subst e3
  rw [Nat.mul_one] at hc3 hc4
  have hcur : ∀ j (hj : j < L.length), cur[j]? = some (.int .i64 L[j]) := fun j hj => by
    rw [← ints_at2 L j hj, ← hc4, List.getElem?_take, if_pos hj, Array.getElem?_toList]
  have hH : Sort.Holds (Value.int .i64) w g 0 L.toArray := fun j hj => by
    have hj' : j < L.length := by simpa using hj
    constructor
    · unfold World.cell?
      rw [Nat.zero_add]
      simp only [hg]
      rw [show cur[j]? = _ from hcur j hj']
      simp only [Array.getElem!_eq_getD, Array.getD_eq_getD_getElem?]
      simp [hj']
    · unfold World.frozen?
      rw [hg]
      simp
  refine (Tryz.slices_Sort_int g 0 cap L w hH (blk_lt hg) hl).mono ?_
  rintro e w' ⟨rfl, n, os, rfl⟩
  have hlen := srtI_len L
  refine ⟨rfl, ⟨by rw [ints_len, hlen]; omega, Or.inr ⟨g, cap, Sort.putCells (Value.int .i64) 0 (srtI L).toArray cur, rfl, hb, ?_, hc1, hc2, by simp [Sort.putCells, hc3], ?_⟩⟩, ?_⟩
  · rw [Sort.heap_grow_old _ _ (by rw [Sort.size_putRow]; exact blk_lt hg)]
    simp only [Sort.putRow, Sort.mapBlock, Sort.heap_ahead, Array.getElem?_modify, if_true, hg, Option.map_some, Sort.onCells]
    rfl
  · refine List.ext_getElem? fun j => ?_
    rw [List.getElem?_take]
    by_cases hj : j < L.length
    · have hj2 : j < (srtI L).length := by rw [hlen]; exact hj
      rw [if_pos (by omega), Array.getElem?_toList, ints_at2 _ _ hj2]
      simp only [Sort.putCells, Array.getElem?_mapIdx, hcur j hj, Option.map_some]
      rw [if_pos ⟨Nat.zero_le _, by simpa using hj2⟩]
      simp [hj2]
    · rw [if_neg (by omega), List.getElem?_eq_none (by rw [ints_len, hlen]; omega)]
  · refine ⟨rfl, rfl, rfl, by simp, fun i hi => ?_⟩
    by_cases hiw : i < w.heap.size
    · rw [Sort.heap_grow_old _ _ (by rw [Sort.size_putRow]; exact hiw)]
      simp only [Sort.putRow, Sort.mapBlock, Sort.heap_ahead, Array.getElem?_modify]
      rw [if_neg (by omega)]
    · exact absurd hi (by have := blk_lt hg; omega)
theorem srtI_eq {L D : List Int} (hp : L.Perm D) (hs : D.Pairwise (· < ·)) : srtI L = D := by
  have h1 : (srtI L).Perm L := List.mergeSort_perm L _
  refine List.Perm.eq_of_pairwise (le := fun x y => x ≤ y) (fun a b _ _ h1 h2 => Int.le_antisymm h1 h2) ?_ (hs.imp (fun h => Int.le_of_lt h)) (h1.trans hp)
  have := List.pairwise_mergeSort (le := fun x y : Int => decide (x ≤ y)) (fun a b c => by simp; omega) (fun a b => by simp; omega) L
  unfold srtI
  exact this.imp (fun h => by simpa using h)
end Go.Proofs.YtndfhpfhgdamgaaGreatDoor.Cn
namespace Go.Proofs.YtndfhpfhgdamgaaGreatDoor.Cn
open Go.RowKit
def isDue (now wait : Int) (g : Gt) : Bool := decide (now - g.since = wait)
def dueT (now wait : Int) (gs : List Gt) : List Int := (gs.filter (isDue now wait)).map (·.tk)
def dueP (now wait : Int) (Q : List Gp) : List Int := dueT now wait (Q.map (·.g))
theorem dueP_cons (now wait : Int) (q : Gp) (Q : List Gp) : dueP now wait (q :: Q) = if isDue now wait q.g then q.g.tk :: dueP now wait Q else dueP now wait Q := by
  unfold dueP dueT
  rw [List.map_cons, List.filter_cons]
  split <;> rfl
theorem dueP_perm {now wait : Int} {Q Q' : List Gp} (h : Q.Perm Q') : (dueP now wait Q).Perm (dueP now wait Q') := ((h.map _).filter _).map _
theorem gtE_mem {P : List Gp} {e : Int × Value} (h : e ∈ gtE P) : ∃ p ∈ P, e = (p.g.tk, .pointer (some ⟨p.b, 0, none⟩)) := by
  obtain ⟨p, hp, rfl⟩ := List.mem_map.1 h
  exact ⟨p, hp, rfl⟩
/-- what is left when one has come -/
theorem gtE_split {Q : List Gp} {e : Int × Value} {R' : List (Int × Value)} (h : (gtE Q).Perm (e :: R')) : ∃ q Q', q ∈ Q ∧ e = (q.g.tk, .pointer (some ⟨q.b, 0, none⟩)) ∧ Q.Perm (q :: Q') ∧ R'.Perm (gtE Q') := by
  obtain ⟨q, hq, rfl⟩ := gtE_mem (h.mem_iff.2 (List.mem_cons_self))
  obtain ⟨l1, l2, rfl⟩ := List.append_of_mem hq
  refine ⟨q, l1 ++ l2, hq, rfl, List.perm_middle, ?_⟩
  have h1 : (gtE (l1 ++ q :: l2)).Perm ((q.g.tk, .pointer (some ⟨q.b, 0, none⟩)) :: gtE (l1 ++ l2)) := (List.perm_middle (l₁ := l1) (l₂ := l2) (a := q)).map _
  exact (h.symm.trans h1).cons_inv
theorem due_pw {now wait : Int} {P : List Gp} (h : (P.map fun p => p.g.tk).Pairwise (· < ·)) : (dueP now wait P).Pairwise (· < ·) := by
  unfold dueP dueT
  rw [List.pairwise_map]
  rw [List.pairwise_map] at h
  have h2 : (P.map (·.g)).Pairwise (fun a b => a.tk < b.tk) := List.pairwise_map.2 h
  exact h2.filter _
theorem iter_ne {w : World} {M r base e sz n : Nat} {L rest : List (Int × Value)} {v : Value} {xs : List Value} (h : Rg IT w M r L rest) (ho : w.ownsRow base e sz v n xs) : ∀ k, v.ownBlock = some k → k ≠ r := fun k hk q => by
  obtain ⟨cur, hc⟩ := own_typ ho hk
  obtain ⟨es, clock, since, seen, c0, _, _, h3, _⟩ := h
  rw [q, h3] at hc
  simp at hc
set_option maxHeartbeats 8000000 in
set_option maxRecDepth 100000 in
set_option linter.unusedSimpArgs false in
set_option linter.unusedVariables false in
theorem due_any {w : World} {S : Nat → Prop} {R : Nat} {c : Cl} {P : List Gp} {v : Rv} (h : RtAt w S R c P v) (hpw : (P.map fun p => p.g.tk).Pairwise (· < ·)) (h0 : 0 ≤ v.now) (h1 : v.now ≤ 4611686018427387904) (hs : ∀ p ∈ P, 0 ≤ p.g.since ∧ p.g.since ≤ v.now) (hP : P.length ≤ 1000000) :
    Calls Tryz.prog 50 #[.pointer (some ⟨R, 0, none⟩)] w fun e w' => ∃ u, e = .returned u ∧ w'.ownsRow w.heap.size 3 1 u (dueP v.now (c.x 17) P).length (ints (dueP v.now (c.x 17) P)) ∧ Below w.heap.size w w' := by
  obtain ⟨D, M, S1, Kb, ao, nb, no, ncap, pv, hx, hS⟩ := h
  have r26 := hx.cells.2.2.2.2.2.2
  have HX := hide hx
  have M0 := hide hx.map
  have HS := hide hs
  have PW := hide (due_pw (now := v.now) (wait := c.x 17) hpw)
  have ML : Hid (M < w.heap.size) := hx.map.lt
  obtain ⟨DD, hDD⟩ : ∃ DD, DD = dueP v.now (c.x 17) P := ⟨_, rfl⟩
  rw [← hDD]
  have HDD := hide hDD
  have DL : Hid (∀ T Q, (T ++ dueP v.now (c.x 17) Q).Perm DD → T.length ≤ 1000000) := fun T Q hq => by
    have e1 := hq.length_eq
    have e2 : DD.length ≤ P.length := by
      rw [hDD]
      unfold dueP dueT
      rw [List.length_map]
      exact Nat.le_trans (List.length_filter_le _ _) (by simp)
    rw [List.length_append] at e1
    omega
  have PW' : Hid (DD.Pairwise (· < ·)) := by rw [hDD]; exact PW.out
  clear hx hs hpw hS hDD hP
  go_enter Tryz.func50, Tryz.ntmps50
  go_wp2_with (first
    | (at_range; refine wpList_rangeM (T := IT) _ rfl _ 83 104 rfl Tryz.underlying83 M (gtE P) rfl M0.out ?_; intro w1 hrg hb1 hs1)
    | go_in)
  go_frame
  obtain ⟨it, hit⟩ : ∃ it, it = w.heap.size := ⟨_, rfl⟩
  rw [← hit] at hrg ⊢
  have HIT := hide hit
  clear hit
  go_loopw [3, 4, 5] (fun v3 _ _ wr => ∃ (Q : List Gp) (T : List Int) (a3 : Option Addr) (c3 : Nat), v3 = .slice a3 T.length c3 ∧ Rg IT wr M it (gtE P) (gtE Q) ∧ wr.ownsRow w.heap.size 3 1 (.slice a3 T.length c3) T.length (ints T) ∧ (T ++ dueP v.now (c.x 17) Q).Perm DD ∧ (∀ q ∈ Q, q ∈ P) ∧ Below w.heap.size w wr) (fun _ _ _ wr => wr.rangeLeft M it)
  case atStart => exact ⟨P, [], none, 0, rfl, hrg, World.ownsRow_nil _ _ _ _, by rw [HDD.out]; exact List.Perm.refl _, fun _ q => q, hb1⟩
  case round =>
    obtain ⟨Q, T, a3, c3, rfl, hr, ho, hpm, hQ, hbr⟩ := hrel
    have HO := hide ho
    have HPM := hide hpm
    have HQ := hide hQ
    have HB := hide hbr
    have IN := hide (iter_ne hr ho)
    have hleft := hr.left
    clear ho hpm hQ hbr
    go_wp2_with (first
      | (at_next; refine wpList_nextM (T := IT) _ rfl _ rfl M it (gtE P) (gtE Q) rfl hr ?_ ?_)
      | go_in)
    · intro hR
      obtain rfl : Q = [] := by
        unfold gtE at hR
        exact List.map_eq_nil_iff.1 hR
      have HP2 : Hid (T.Perm DD) := by
        have := HPM.out
        rwa [show dueP v.now (c.x 17) [] = [] from rfl, List.append_nil] at this
      have HE : Hid (srtI T = DD) := srtI_eq HP2.out PW'.out
      have HTL := hide (DL.out T [] HPM.out)
      cases T with
      | nil =>
        have hd : DD = [] := List.nil_perm.1 HP2.out
        subst hd
        have SN := hide (Tryz.slices_Sort_int_none a3 c3 wr)
        clear hr IN hR
        go_wp2_with fail
        refine Calls.mono SN.out ?_
        rintro e W1 ⟨rfl, rfl⟩
        go_wp2_with fail
        go_ret
        exact ⟨_, rfl, HO.out, HB.out⟩
      | cons t0 tr =>
        obtain ⟨g3, c3', e3⟩ := own_g HO.out (by simp)
        injection e3 with e3 _ e4
        subst e3
        subst e4
        have SN := hide (sort_ints wr w.heap.size g3 c3 (t0 :: tr) HO.out (by have := HTL.out; omega))
        rw [HE.out] at SN
        have hlen : Hid ((t0 :: tr).length = DD.length) := HP2.out.length_eq
        generalize (t0 :: tr).length = tn at *
        clear hr IN hR HO
        go_wp2_with fail
        refine Calls.mono SN.out ?_
        rintro e W1 ⟨rfl, o1, b1⟩
        have O1 := hide o1
        have B1 := hide (HB.out.trans (b1.mono (Nat.le_refl _)))
        clear o1 b1 SN
        go_wp2_with fail
        go_ret
        exact ⟨_, rfl, by rw [← hlen.out]; exact O1.out, B1.out⟩
    · intro pk pv' R' w2 hp hpL hr2 hk2 hs2 hen
      obtain ⟨q, Q', hq, he, hQp, hRp⟩ := gtE_split hp
      simp only [Prod.mk.injEq] at he
      obtain ⟨rfl, rfl⟩ := he
      have B2 : Hid (Below w.heap.size w w2) := (Kp.trans (T := fun b => b = it) (Kp.of_below HB.out non) hk2 (fun k e => Or.inr (by have := HIT.out; omega))).below
      have O2 : Hid (w2.ownsRow w.heap.size 3 1 (.slice a3 T.length c3) T.length (ints T)) := own_kp HO.out hk2 (fun k e f => IN.out k e f)
      have x2 := HX.out.kp (Kp.of_below B2.out non) (fun _ _ f => f)
      have d18 := x2.cells.1
      have d24 := x2.cells.2.2.2.2.1
      have g4 := (x2.gts q (HQ.out q hq)).cells.2.2.2.2
      obtain ⟨hs0, hs1'⟩ := HS.out q (HQ.out q hq)
      have hw := wrap_in (x := v.now - q.g.since) (by omega) (by omega)
      have hen' : (Instr.entry (.pointer (some ⟨it, 0, none⟩))).run Tryz.prog w2 = .ok (.tuple #[.int .i64 q.g.tk, .pointer (some ⟨q.b, 0, none⟩)]) w2 := hen
      have ee : IT.enc q.g.tk = .int .i64 q.g.tk := rfl
      rw [ee]
      have HR2 := hide (hr2.perm hRp)
      have HLE : Hid ((gtE Q).length = (gtE Q').length + 1) := by
        have a1 := hp.length_eq
        have a2 := hRp.length_eq
        rw [List.length_cons] at a1
        show (gtE Q).length = _
        omega
      have HPQ : Hid ((T ++ dueP v.now (c.x 17) (q :: Q')).Perm DD) := ((List.Perm.refl T).append (dueP_perm hQp.symm)).trans HPM.out
      have HQ' : Hid (∀ z ∈ Q', z ∈ P) := fun z hz => HQ.out z (hQp.mem_iff.2 (List.mem_cons_of_mem _ hz))
      have HTL := hide (DL.out T Q HPM.out)
      clear x2 hr hr2 hk2 hp hQp hRp hen ee HPM HO IN
      by_cases hd : v.now - q.g.since = c.x 17
      · have HN : Hid ((T ++ [q.g.tk] ++ dueP v.now (c.x 17) Q').Perm DD) := by
          have := HPQ.out
          rw [dueP_cons, show isDue v.now (c.x 17) q.g = true from decide_eq_true hd, if_pos rfl] at this
          rw [List.append_assoc]
          exact this
        generalize q.g.tk = tk at *
        generalize q.g.since = sc at *
        have hde : (v.now - sc == c.x 17) = true := by simp [hd]
        go_wp2_with fail
        go_quiet (fail)
        have kq := (Kp.refl w2 non).drewN nq
        have HOq := own_kp O2.out kq (fun _ _ f => f)
        have HBq := ((Kp.of_below B2.out non).trans kq (fun _ f => f.elim)).below
        have HRq := HR2.out.kp kq (fun f => f) (fun f => f)
        clear kq d18 d24 g4
        obtain ⟨wq, hwq⟩ : ∃ wq, wq = w2.drewN nq := ⟨_, rfl⟩
        rw [← hwq] at HOq HBq HRq ⊢
        clear hwq hen'
        obtain ⟨W4, hW4⟩ : ∃ W4, W4 = wq.alloc (.cells #[.int .i64 tk] 3) := ⟨_, rfl⟩
        have hb4 : Below wq.heap.size wq W4 := by rw [hW4]; exact (Below.refl _ _).alloc (Nat.le_refl _) _
        have HGG : Hid (W4.heap[wq.heap.size]? = some (.cells #[.int .i64 tk] 3)) := by rw [hW4]; exact heap_last _ _
        have HO4 := hide (own_kp HOq (Kp.of_below hb4 non) (fun _ _ f => f))
        have HR4 := hide (HRq.kp (Kp.of_below hb4 non) (fun f => f) (fun f => f))
        have hsz : Hid (w.heap.size ≤ W4.heap.size) := Nat.le_trans HBq.size hb4.size
        have K4 := hide ((Kp.of_below HBq non).trans (Kp.of_below hb4 non) (fun _ f => f.elim))
        have ML4 : Hid (M < w.heap.size) := ML.out
        clear hb4 HOq HBq HRq
        go_wp2_with (at_builtin; rw [← hW4]; refine wpList_apI rfl (.tmp 31) (.tmp 33) rfl w.heap.size _ T.length T rfl HO4.out wq.heap.size tk rfl HGG.out (by have := HTL.out; omega) hsz.out ?_; intro v' w' o2 g2 _; have HO5 := hide o2; have KG := hide (Kp.of_grown g2); have K5 : Hid (Kp w w' non) := (K4.out.trans (Kp.of_grown g2) (fun k hk => Or.inr (own_ge HO4.out hk.symm))); clear o2 g2)
        obtain ⟨a5, c5, rfl⟩ := own_sl HO5.out
        have HR5 : Hid (Rg IT w' M it (gtE P) (gtE Q')) := HR4.out.kp KG.out (fun e => by have := own_ge HO4.out e.symm; have := ML4.out; omega) (fun e => iter_ne HR4.out HO4.out _ e.symm rfl)
        go_roundw
        case rel => exact ⟨Q', T ++ [tk], a5, c5, by rw [List.length_append]; rfl, HR5.out, by rw [List.length_append]; exact HO5.out, HN.out, HQ'.out, K5.out.below⟩
        case measure => rw [HR5.out.left, hleft, HLE.out]; omega
      · have HN : Hid ((T ++ dueP v.now (c.x 17) Q').Perm DD) := by
          have := HPQ.out
          rw [dueP_cons, show isDue v.now (c.x 17) q.g = false from decide_eq_false hd, if_neg (by decide)] at this
          exact this
        generalize q.g.tk = tk at *
        generalize q.g.since = sc at *
        have hde : (v.now - sc == c.x 17) = false := by simp [hd]
        go_wp2_with fail
        go_quiet (fail)
        have kq := (Kp.refl w2 non).drewN nq
        have HOq := hide (own_kp O2.out kq (fun _ _ f => f))
        have HBq := hide ((Kp.of_below B2.out non).trans kq (fun _ f => f.elim)).below
        have HRq := hide (HR2.out.kp kq (fun f => f) (fun f => f))
        clear kq
        go_wp2_with fail
        go_roundw
        case rel => exact ⟨Q', T, a3, c3, rfl, HRq.out, HOq.out, HN.out, HQ'.out, HBq.out⟩
        case measure => rw [HRq.out.left, hleft, HLE.out]; omega
end Go.Proofs.YtndfhpfhgdamgaaGreatDoor.Cn
namespace Go.Proofs.YtndfhpfhgdamgaaGreatDoor.Cn
open Go.RowKit
def pingMg (now k : Int) : Mg := ⟨1, 65, k, now, 0, 0, 0, 0, 0, ⟨#[]⟩, ⟨#[]⟩⟩
def pings (d : Dt) (now : Int) (n : Nat) : List Mg := ((List.range n).filter fun k : Nat => silV d (k : Int)).map fun k : Nat => pingMg now (k : Int)
def pingL (v : Rv) (wait : Int) (n : Nat) : List Mg := if v.now % wait = 0 then pings v.d v.now n else []
theorem pings_succ (d : Dt) (now : Int) (n : Nat) : pings d now (n + 1) = pings d now n ++ if silV d (n : Int) then [pingMg now (n : Int)] else [] := by
  unfold pings
  rw [List.range_succ, List.filter_append, List.map_append]
  congr 1
  by_cases h : silV d (n : Int) = true
  · simp [h]
  · simp [h]
theorem pings_len (d : Dt) (now : Int) (n : Nat) : (pings d now n).length ≤ n := by
  unfold pings
  rw [List.length_map]
  exact Nat.le_trans (List.length_filter_le _ _) (by simp)
set_option maxHeartbeats 8000000 in
set_option maxRecDepth 100000 in
set_option linter.unusedSimpArgs false in
set_option linter.unusedVariables false in
theorem ping_any {w : World} {S N : Nat → Prop} {R base Nb : Nat} {c : Cl} {P : List Gp} {v : Rv} {L : List Mg} {E : List Oc} (h : RtAt w S R c P v) (hn : NwAt w base N Nb L E) (hL : L.length ≤ 1000000) (hb : base ≤ w.heap.size) (hf : v.d.fits) (hnl : c.ns.length ≤ 16) (hw : 1 ≤ c.x 17) (h0 : 0 ≤ v.now) (hx17 : c.x 17 ≤ 1024) :
    Calls Tryz.prog 53 #[.pointer (some ⟨R, 0, none⟩), .pointer (some ⟨Nb, 0, none⟩)] w fun e w' => e = .returned (.tuple #[]) ∧ ∃ N', RtAt w' S R c P v ∧ NwAt w' base N' Nb (L ++ pingL v (c.x 17) c.ns.length) E ∧ Kp w w' N ∧ (∀ k, N' k → N k ∨ w.heap.size ≤ k) := by
  obtain ⟨D, M, S1, Kb, ao, nb, no, ncap, pv, hx, hS⟩ := h
  have c18 := hx.cells.1
  have c22 := hx.cells.2.2.1
  have c24 := hx.cells.2.2.2.2.1
  have HX := hide hx
  have HNW := hide hn
  have HS := hide hS
  have hq0 : (c.x 17 == 0) = false := by simp; omega
  have hne0 : ¬ c.x 17 = 0 := by omega
  by_cases hm : (v.now % c.x 17) = 0
  case neg =>
    have hpl : pingL v (c.x 17) c.ns.length = [] := if_neg hm
    rw [hpl, List.append_nil]
    have hm2 : ((v.now % c.x 17) == 0) = false := by simp [hm]
    have hm3 : ((v.now % c.x 17) != 0) = true := by simp [hm]
    generalize hnow : v.now = now at *
    generalize hwt : c.x 17 = wt at *
    clear hx hn hS
    go_enter Tryz.func53, Tryz.ntmps53
    go_wp2_with fail
    go_quiet (fail)
    go_wp2_with fail
    refine bodyPost_ret (results_none rfl _ _ _) rfl ?_
    have kd := (Kp.refl w non).drewN nq
    exact ⟨rfl, N, ⟨D, M, S1, Kb, ao, nb, no, ncap, pv, HX.out.kp kd (fun _ _ f => f), HS.out⟩, HNW.out.kp kd (fun _ _ f => f), kd.mono (fun _ f => f.elim), fun k hk => Or.inl hk⟩
  case pos =>
    have hpl : pingL v (c.x 17) c.ns.length = pings v.d v.now c.ns.length := if_pos hm
    rw [hpl]
    have hm2 : ((v.now % c.x 17) == 0) = true := by simp [hm]
    have hm3 : ((v.now % c.x 17) != 0) = false := by simp [hm]
    have SIL : Hid (∀ (X : World) (k : Int), DtAt X S1 D v.d → Calls Tryz.prog 75 #[.pointer (some ⟨D, 0, none⟩), .int .i64 k] X fun e w' => e = .returned (.tuple #[.bool (silV v.d k), .int .i64 (chk1 v.d.n k)]) ∧ Below X.heap.size X w') := fun X k hX => Silent_any hX hf k
    have HPS : Hid (∀ i, pings v.d v.now (i + 1) = pings v.d v.now i ++ if silV v.d (i : Int) then [pingMg v.now (i : Int)] else []) := fun i => pings_succ _ _ _
    have HPL : Hid (∀ i, (pings v.d v.now i).length ≤ i) := fun i => pings_len _ _ _
    have hp0 : Hid (pings v.d v.now 0 = []) := rfl
    have HC24 : Hid (∀ X, RtX X R c P v D M S1 Kb ao nb no ncap pv → X.cell? ⟨R, 23, none⟩ = some (.pointer (some ⟨D, 0, none⟩)) ∧ X.cell? ⟨R, 24, none⟩ = some (.int .i64 v.now)) := fun X hX => ⟨hX.cells.2.2.2.1, hX.cells.2.2.2.2.1⟩
    generalize hnow : v.now = now at *
    generalize hwt : c.x 17 = wt at *
    generalize hn' : c.ns.length = n at *
    clear hx hn hS
    go_enter Tryz.func53, Tryz.ntmps53
    go_wp2_with fail
    go_quiet (fail)
    have kd := (Kp.refl w non).drewN nq
    have XQ := hide (HX.out.kp kd (fun _ _ f => f))
    have NQ := hide (HNW.out.kp kd (fun _ _ f => f))
    have KQ : Hid (Kp w (w.drewN nq) N) := kd.mono (fun _ f => f.elim)
    have c22' : (w.drewN nq).cell? ⟨R, 22, none⟩ = some (.slice ao n ncap) := c22
    clear kd c18 c22 c24 HX HNW
    generalize w.drewN nq = W0 at *
    go_upto_region 1 with fail
    clear hm hm2 hm3 hq0 hne0
    go_wp2_with fail
    go_loopw [4, 5, 6, 24] (fun _ _ _ vi wr => ∃ (i : Nat), i ≤ n ∧ vi = .int .i64 (i : Int) ∧ ∃ N' : Nat → Prop, RtX wr R c P v D M S1 Kb ao nb no ncap pv ∧ NwAt wr base N' Nb (L ++ pings v.d now i) E ∧ Kp w wr N ∧ ∀ k, N' k → N k ∨ w.heap.size ≤ k) (fun _ _ _ vi _ => n - (intOf vi).toNat)
    case atStart => exact ⟨0, Nat.zero_le _, rfl, N, XQ.out, by rw [hp0.out, List.append_nil]; exact NQ.out, KQ.out, fun k hk => Or.inl hk⟩
    case round =>
      obtain ⟨i, hi, rfl, N', hxr, hnr, hkr, hsub⟩ := hrel
      have XR := hide hxr
      have NR := hide hnr
      have KR := hide hkr
      have HN2' := hide hsub
      clear hnr hkr hsub
      by_cases hin : i < n
      case neg =>
        obtain rfl : i = n := by omega
        clear hxr
        go_wp2_with fail
        refine bodyPost_end (results_none rfl _ _ _) rfl ?_
        exact ⟨rfl, N', ⟨D, M, S1, Kb, ao, nb, no, ncap, pv, XR.out, HS.out⟩, NR.out, KR.out, HN2'.out⟩
      case pos =>
        have hii : (i : Int) < (n : Int) := by omega
        have d23 := (HC24.out wr hxr).1
        have SI := hide (SIL.out wr (i : Int) hxr.det)
        have HT1 := HPS.out i
        clear hxr
        cases hsv : silV v.d (i : Int) with
        | false =>
          rw [hsv] at SI HT1
          rw [if_neg (by decide), List.append_nil] at HT1
          have HT := hide HT1
          clear HT1
          go_wp2_with fail
          refine Calls.mono SI.out ?_
          rintro e W1 ⟨rfl, hb1⟩
          have k1 := Kp.of_below hb1 non
          have X1 := hide (XR.out.kp k1 (fun _ _ f => f))
          have N1 := hide (NR.out.kp k1 (fun _ _ f => f))
          have K1 : Hid (Kp w W1 N) := KR.out.trans k1 (fun k e => e.elim)
          clear hb1 k1 SI XR NR KR
          go_wp2_with fail
          go_roundw
          case rel => exact ⟨i + 1, by omega, by go_num, N', X1.out, by rw [HT.out]; exact N1.out, K1.out, HN2'.out⟩
          case measure => simp [intOf]; omega
        | true =>
          rw [hsv] at SI HT1
          have HLL0 := HPL.out i
          obtain ⟨LL, hLL⟩ : ∃ LL, LL = L ++ pings v.d now i := ⟨_, rfl⟩
          have HLL : Hid (LL.length ≤ 1000000000000) := by
            rw [hLL]
            show _ ≤ _
            rw [List.length_append]
            omega
          have HT : Hid (L ++ pings v.d now (i + 1) = LL ++ [pingMg now (i : Int)]) := by
            show _ = _
            rw [hLL, HPS.out i, hsv, if_pos rfl, List.append_assoc]
          rw [← hLL] at NR
          obtain ⟨m, hm'⟩ : ∃ m, m = pingMg now (i : Int) := ⟨_, rfl⟩
          have HM : Hid (m = ⟨1, 65, (i : Int), now, 0, 0, 0, 0, 0, ⟨#[]⟩, ⟨#[]⟩⟩) := hm'
          rw [← hm'] at HT
          clear HT1 HLL0 hLL hm'
          go_wp2_with fail
          refine Calls.mono SI.out ?_
          rintro e W1 ⟨rfl, hb1⟩
          have k1 := Kp.of_below hb1 non
          have X1 := hide (XR.out.kp k1 (fun _ _ f => f))
          have n1 := NR.out.kp k1 (fun _ _ f => f)
          have AP1 := RtAt.apart ⟨D, M, S1, Kb, ao, nb, no, ncap, pv, X1.out, HS.out⟩ n1
          have KW : Hid (Kp w W1 N) := KR.out.trans k1 (fun k e => e.elim)
          obtain ⟨vo, ve, nx1, hN1⟩ := n1
          obtain ⟨oa, oc, hvo⟩ := own_sl nx1.out
          subst hvo
          have AP2 : Hid (∀ k, RtS R M S1 Kb P k → ¬ NwS Nb (.slice oa LL.length oc) ve k) := fun k h1 h2 => AP1 k ((HS.out k).2 h1) ((hN1 k).2 h2)
          have N1 := hide nx1
          have HN := hide hN1
          have HN2 : Hid (∀ k, N' k → N k ∨ w.heap.size ≤ k) := HN2'.out
          have o1 : W1.cell? ⟨Nb, 0, none⟩ = some (.slice oa LL.length oc) := by rw [cell_row nx1.blk]; rfl
          have C1 : Hid (W1.cell? ⟨R, 24, none⟩ = some (.int .i64 now)) := (HC24.out W1 X1.out).2
          obtain ⟨J, hJ⟩ : ∃ J, J = W1.heap.size := ⟨_, rfl⟩
          obtain ⟨Y3, hY3⟩ : ∃ Y3, Y3 = (W1.drew).alloc (.cells (mgV m) 58) := ⟨_, rfl⟩
          have ky3 : Kp W1 Y3 non := by rw [hY3]; exact ((Kp.refl W1 non).drew).alloc _
          have J3 : Hid (Y3.heap[J]? = some (.cells (mgV m) 58)) := by rw [hY3, hJ]; exact heap_last _ _
          have N3 := hide (nx1.kp ky3 (fun _ _ f => f))
          have X3 := hide (X1.out.kp ky3 (fun _ _ f => f))
          have D3 : Hid (Y3.cell? ⟨R, 24, none⟩ = some (.int .i64 now)) := (ky3.cell (blk_lt X1.out.blk) (fun f => f)).trans C1.out
          have C3 : Hid (Y3.cell? ⟨Nb, 0, none⟩ = some (.slice oa LL.length oc)) := (ky3.cell (blk_lt nx1.blk) (fun f => f)).trans o1
          have KY3 := hide ky3
          have hJb : Hid (base ≤ Y3.heap.size) := Nat.le_trans hb (Nat.le_trans KW.out.size ky3.size)
          clear hb1 k1 SI XR NR KR nx1 hN1 AP1 ky3
          go_upto_region 6 with fail
          refine wp_region_held_drew (S := fun X => X.cell? ⟨R, 24, none⟩ = some (.int .i64 now)) (by kernel_rfl) C1.out (fun hHeld => ?_)
          refine wpAnyH_take (i := 0) (v := (.pointer (some ⟨Nb, 0, none⟩))) rfl (by kernel_rfl) (by kernel_rfl) (by kernel_rfl) (fun _ _ _ h => h) (Or.inl ⟨by rfl, ?_⟩) (by assumption) ?_
          · intro w' hSw
            (try dsimp only at hSw)
            go_simp
          (try simp only [Act.put, List.getElem_toArray, List.getElem_cons_zero, List.getElem_cons_succ, List.setIfInBounds_toArray, List.set_cons_zero, List.set_cons_succ])
          refine wpAnyH_take (i := 1) (v := (.pointer (some ⟨Nb, 0, none⟩))) rfl (by kernel_rfl) (by kernel_rfl) (by kernel_rfl) (fun _ _ _ h => h) (Or.inl ⟨by rfl, ?_⟩) (by assumption) ?_
          · intro w' hSw
            (try dsimp only at hSw)
            go_simp
          (try simp only [Act.put, List.getElem_toArray, List.getElem_cons_zero, List.getElem_cons_succ, List.setIfInBounds_toArray, List.set_cons_zero, List.set_cons_succ])
          refine wpAnyH_take (i := 2) (v := (.pointer (some ⟨Nb, 0, none⟩))) rfl (by kernel_rfl) (by kernel_rfl) (by kernel_rfl) (fun _ _ _ h => h) (Or.inl ⟨by rfl, ?_⟩) (by assumption) ?_
          · intro w' hSw
            (try dsimp only at hSw)
            go_simp
          (try simp only [Act.put, List.getElem_toArray, List.getElem_cons_zero, List.getElem_cons_succ, List.setIfInBounds_toArray, List.set_cons_zero, List.set_cons_succ])
          refine wpAnyH_take (i := 3) (v := (.pointer (some ⟨Nb, 0, none⟩))) rfl (by kernel_rfl) (by kernel_rfl) (by kernel_rfl) (fun _ _ _ h => h) (Or.inl ⟨by rfl, ?_⟩) (by assumption) ?_
          · intro w' hSw
            (try dsimp only at hSw)
            go_simp
          (try simp only [Act.put, List.getElem_toArray, List.getElem_cons_zero, List.getElem_cons_succ, List.setIfInBounds_toArray, List.set_cons_zero, List.set_cons_succ])
          refine wpAnyH_take (i := 5) (v := (.int .i64 (i : Int))) rfl (by kernel_rfl) (by kernel_rfl) (by kernel_rfl) (fun _ _ _ h => h) (Or.inl ⟨by rfl, ?_⟩) (by assumption) ?_
          · intro w' hSw
            (try dsimp only at hSw)
            go_simp
          (try simp only [Act.put, List.getElem_toArray, List.getElem_cons_zero, List.getElem_cons_succ, List.setIfInBounds_toArray, List.set_cons_zero, List.set_cons_succ])
          refine wpAnyH_take (i := 6) (v := (.pointer (some ⟨R, 0, none⟩))) rfl (by kernel_rfl) (by kernel_rfl) (by kernel_rfl) (fun _ _ _ h => h) (Or.inl ⟨by rfl, ?_⟩) (by assumption) ?_
          · intro w' hSw
            (try dsimp only at hSw)
            go_simp
          (try simp only [Act.put, List.getElem_toArray, List.getElem_cons_zero, List.getElem_cons_succ, List.setIfInBounds_toArray, List.set_cons_zero, List.set_cons_succ])
          refine wpAnyH_take (i := 7) (v := (.pointer (some ⟨R, 0, none⟩))) rfl (by kernel_rfl) (by kernel_rfl) (by kernel_rfl) (fun _ _ _ h => h) (Or.inl ⟨by rfl, ?_⟩) (by assumption) ?_
          · intro w' hSw
            (try dsimp only at hSw)
            go_simp
          (try simp only [Act.put, List.getElem_toArray, List.getElem_cons_zero, List.getElem_cons_succ, List.setIfInBounds_toArray, List.set_cons_zero, List.set_cons_succ])
          refine wpAnyH_take (i := 8) (v := (.pointer (some ⟨R, 24, none⟩))) rfl (by kernel_rfl) (by kernel_rfl) (by kernel_rfl) (fun _ _ _ h => h) (Or.inl ⟨by rfl, ?_⟩) (by assumption) ?_
          · intro w' hSw
            (try dsimp only at hSw)
            go_simp
          (try simp only [Act.put, List.getElem_toArray, List.getElem_cons_zero, List.getElem_cons_succ, List.setIfInBounds_toArray, List.set_cons_zero, List.set_cons_succ])
          refine wpAnyH_take (i := 9) (v := (.int .i64 now)) rfl (by kernel_rfl) (by kernel_rfl) (by kernel_rfl) (fun _ _ _ h => h) (Or.inl ⟨by rfl, ?_⟩) (by assumption) ?_
          · intro w' hSw
            (try dsimp only at hSw)
            go_simp
          (try simp only [Act.put, List.getElem_toArray, List.getElem_cons_zero, List.getElem_cons_succ, List.setIfInBounds_toArray, List.set_cons_zero, List.set_cons_succ])
          refine wpAnyH_take (i := 10) (v := (.agg (mgV m))) rfl (by kernel_rfl) (by kernel_rfl) (by kernel_rfl) (fun _ _ _ h => h) (Or.inl ⟨by rfl, ?_⟩) (by assumption) ?_
          · intro w' hSw
            (try dsimp only at hSw)
            (exact exec_blR 58 _ rfl _ (by rw [HM.out]; kernel_rfl))
          (try simp only [Act.put, List.getElem_toArray, List.getElem_cons_zero, List.getElem_cons_succ, List.setIfInBounds_toArray, List.set_cons_zero, List.set_cons_succ])
          refine wpAnyH_ready (rs := [4, 11]) (by kernel_rfl) (by simp) ?_
          refine AllReadyH.cons rfl (fun K hK => ?_) (AllReadyH.cons rfl (fun K hK => ?_) AllReadyH.nil)
          · go_simp
            refine hK.out _ _ (C1.out) (fun hHeld => ?_)
            clear hK
            (try simp only [Act.put, List.setIfInBounds_toArray, List.set_cons_zero, List.set_cons_succ])
            refine wpAnyH_ready (rs := [11]) (by kernel_rfl) (by simp) ?_
            refine AllReadyH.cons rfl (fun K hK => ?_) AllReadyH.nil
            refine wp_bsM (.tmp 47) rfl m rfl ?_
            rw [← hY3]
            clear hY3
            refine hK.out _ _ (D3.out) (fun hHeld => ?_)
            clear hK
            (try simp only [Act.put, List.setIfInBounds_toArray, List.set_cons_zero, List.set_cons_succ])
            clear o1
            refine wpAnyH_ready (rs := [12]) (by kernel_rfl) (by simp) ?_
            refine AllReadyH.cons rfl (fun K hK => ?_) AllReadyH.nil
            refine wp_apM (.tmp 41) (.tmp 48) rfl base (.slice oa LL.length oc) LL rfl N3.out.out J m (by rw [hJ]; rfl) J3.out HLL.out hJb.out ?_
            intro vo' Y4 ho hg hnb
            obtain ⟨e4, n5, k5, s5⟩ := N3.out.app ho hg hnb
            obtain ⟨ba, cp, rfl⟩ := own_sl ho
            have kg := Kp.of_grown hg
            have c4 : Y4.cell? ⟨Nb, 0, none⟩ = some (.slice oa LL.length oc) := (kg.cell (blk_lt N3.out.blk) (fun e => N3.out.ne_out e.symm)).trans C3.out
            have D4 : Hid (Y4.cell? ⟨R, 24, none⟩ = some (.int .i64 now)) := (kg.cell (blk_lt X3.out.blk) (fun e => AP2.out R (Or.inl rfl) (Or.inr (Or.inl e.symm)))).trans D3.out
            have ks : Kp Y4 (Y4.setCell ⟨Nb, 0, none⟩ (.slice ba (LL.length + 1) cp)) (fun k => k = Nb) := (Kp.refl Y4 (fun k => k = Nb)).set (Or.inl rfl) _ _
            have rl4 : R < Y4.heap.size := Nat.lt_of_lt_of_le (blk_lt X3.out.blk) kg.size
            have D5 : Hid ((Y4.setCell ⟨Nb, 0, none⟩ (.slice ba (LL.length + 1) cp)).cell? ⟨R, 24, none⟩ = some (.int .i64 now)) := (ks.cell rl4 (fun e => AP2.out R (Or.inl rfl) (Or.inl e))).trans D4.out
            have f4 : Y4.frozen? ⟨Nb, 0, none⟩ = false := fz_row (e4.trans N3.out.blk) 0
            have X5 := hide (X3.out.kp k5 (fun k hk e => AP2.out k hk e))
            have N5 := hide n5
            have K5 := hide k5
            have S5 := hide s5
            clear ho hg hnb n5 k5 s5 kg e4 J3 ks rl4
            refine hK.out _ _ (D4.out) (fun hHeld => ?_)
            clear hK
            (try simp only [Act.put, List.setIfInBounds_toArray, List.set_cons_zero, List.set_cons_succ])
            refine wpAnyH_take (i := 13) (v := (.pointer (some ⟨Nb, 0, none⟩))) rfl (by kernel_rfl) (by kernel_rfl) (by kernel_rfl) (fun _ _ _ h => h) (Or.inl ⟨by rfl, ?_⟩) (by assumption) ?_
            · intro w' hSw
              (try dsimp only at hSw)
              go_simp
            (try simp only [Act.put, List.getElem_toArray, List.getElem_cons_zero, List.getElem_cons_succ, List.setIfInBounds_toArray, List.set_cons_zero, List.set_cons_succ])
            refine wpAnyH_take (i := 14) (v := (.pointer (some ⟨Nb, 0, none⟩))) rfl (by kernel_rfl) (by kernel_rfl) (by kernel_rfl) (fun _ _ _ h => h) (Or.inl ⟨by rfl, ?_⟩) (by assumption) ?_
            · intro w' hSw
              (try dsimp only at hSw)
              go_simp
            (try simp only [Act.put, List.getElem_toArray, List.getElem_cons_zero, List.getElem_cons_succ, List.setIfInBounds_toArray, List.set_cons_zero, List.set_cons_succ])
            refine wpAnyH_ready (rs := [15]) (by kernel_rfl) (by simp) ?_
            refine AllReadyH.cons rfl (fun K hK => ?_) AllReadyH.nil
            go_simp
            refine hK.out _ _ (D5.out) (fun hHeld => ?_)
            clear hK
            (try simp only [Act.put, List.setIfInBounds_toArray, List.set_cons_zero, List.set_cons_succ])
            refine wpAnyH_done (by kernel_rfl) ?_ _
            go_wp2_with fail
            go_roundw
            case rel =>
              refine ⟨i + 1, by omega, by go_num, NwS Nb (.slice ba (LL.length + 1) cp) ve, X5.out, ?_, ?_, fun k hk => ?_⟩
              · rw [HT.out]
                exact ⟨_, _, N5.out, fun _ => Iff.rfl⟩
              · exact (KW.out.trans KY3.out (fun k e => e.elim)).trans K5.out (fun k e => HN2.out k ((HN.out k).2 e))
              · have h1 := KY3.out.size
                rcases S5.out k hk with q | q
                · exact HN2.out k ((HN.out k).2 q)
                · exact Or.inr (by have := KW.out.size; omega)
            case measure => simp [intOf]; omega
          · skip
            refine wp_bsM (.tmp 47) rfl m rfl ?_
            rw [← hY3]
            clear hY3
            refine hK.out _ _ (D3.out) (fun hHeld => ?_)
            clear hK
            (try simp only [Act.put, List.setIfInBounds_toArray, List.set_cons_zero, List.set_cons_succ])
            clear o1
            refine wpAnyH_ready (rs := [4]) (by kernel_rfl) (by simp) ?_
            refine AllReadyH.cons rfl (fun K hK => ?_) AllReadyH.nil
            have o3 := C3.out
            go_simp
            clear o3
            refine hK.out _ _ (D3.out) (fun hHeld => ?_)
            clear hK
            (try simp only [Act.put, List.setIfInBounds_toArray, List.set_cons_zero, List.set_cons_succ])
            refine wpAnyH_ready (rs := [12]) (by kernel_rfl) (by simp) ?_
            refine AllReadyH.cons rfl (fun K hK => ?_) AllReadyH.nil
            refine wp_apM (.tmp 41) (.tmp 48) rfl base (.slice oa LL.length oc) LL rfl N3.out.out J m (by rw [hJ]; rfl) J3.out HLL.out hJb.out ?_
            intro vo' Y4 ho hg hnb
            obtain ⟨e4, n5, k5, s5⟩ := N3.out.app ho hg hnb
            obtain ⟨ba, cp, rfl⟩ := own_sl ho
            have kg := Kp.of_grown hg
            have c4 : Y4.cell? ⟨Nb, 0, none⟩ = some (.slice oa LL.length oc) := (kg.cell (blk_lt N3.out.blk) (fun e => N3.out.ne_out e.symm)).trans C3.out
            have D4 : Hid (Y4.cell? ⟨R, 24, none⟩ = some (.int .i64 now)) := (kg.cell (blk_lt X3.out.blk) (fun e => AP2.out R (Or.inl rfl) (Or.inr (Or.inl e.symm)))).trans D3.out
            have ks : Kp Y4 (Y4.setCell ⟨Nb, 0, none⟩ (.slice ba (LL.length + 1) cp)) (fun k => k = Nb) := (Kp.refl Y4 (fun k => k = Nb)).set (Or.inl rfl) _ _
            have rl4 : R < Y4.heap.size := Nat.lt_of_lt_of_le (blk_lt X3.out.blk) kg.size
            have D5 : Hid ((Y4.setCell ⟨Nb, 0, none⟩ (.slice ba (LL.length + 1) cp)).cell? ⟨R, 24, none⟩ = some (.int .i64 now)) := (ks.cell rl4 (fun e => AP2.out R (Or.inl rfl) (Or.inl e))).trans D4.out
            have f4 : Y4.frozen? ⟨Nb, 0, none⟩ = false := fz_row (e4.trans N3.out.blk) 0
            have X5 := hide (X3.out.kp k5 (fun k hk e => AP2.out k hk e))
            have N5 := hide n5
            have K5 := hide k5
            have S5 := hide s5
            clear ho hg hnb n5 k5 s5 kg e4 J3 ks rl4
            refine hK.out _ _ (D4.out) (fun hHeld => ?_)
            clear hK
            (try simp only [Act.put, List.setIfInBounds_toArray, List.set_cons_zero, List.set_cons_succ])
            refine wpAnyH_take (i := 13) (v := (.pointer (some ⟨Nb, 0, none⟩))) rfl (by kernel_rfl) (by kernel_rfl) (by kernel_rfl) (fun _ _ _ h => h) (Or.inl ⟨by rfl, ?_⟩) (by assumption) ?_
            · intro w' hSw
              (try dsimp only at hSw)
              go_simp
            (try simp only [Act.put, List.getElem_toArray, List.getElem_cons_zero, List.getElem_cons_succ, List.setIfInBounds_toArray, List.set_cons_zero, List.set_cons_succ])
            refine wpAnyH_take (i := 14) (v := (.pointer (some ⟨Nb, 0, none⟩))) rfl (by kernel_rfl) (by kernel_rfl) (by kernel_rfl) (fun _ _ _ h => h) (Or.inl ⟨by rfl, ?_⟩) (by assumption) ?_
            · intro w' hSw
              (try dsimp only at hSw)
              go_simp
            (try simp only [Act.put, List.getElem_toArray, List.getElem_cons_zero, List.getElem_cons_succ, List.setIfInBounds_toArray, List.set_cons_zero, List.set_cons_succ])
            refine wpAnyH_ready (rs := [15]) (by kernel_rfl) (by simp) ?_
            refine AllReadyH.cons rfl (fun K hK => ?_) AllReadyH.nil
            go_simp
            refine hK.out _ _ (D5.out) (fun hHeld => ?_)
            clear hK
            (try simp only [Act.put, List.setIfInBounds_toArray, List.set_cons_zero, List.set_cons_succ])
            refine wpAnyH_done (by kernel_rfl) ?_ _
            go_wp2_with fail
            go_roundw
            case rel =>
              refine ⟨i + 1, by omega, by go_num, NwS Nb (.slice ba (LL.length + 1) cp) ve, X5.out, ?_, ?_, fun k hk => ?_⟩
              · rw [HT.out]
                exact ⟨_, _, N5.out, fun _ => Iff.rfl⟩
              · exact (KW.out.trans KY3.out (fun k e => e.elim)).trans K5.out (fun k e => HN2.out k ((HN.out k).2 e))
              · have h1 := KY3.out.size
                rcases S5.out k hk with q | q
                · exact HN2.out k ((HN.out k).2 q)
                · exact Or.inr (by have := KW.out.size; omega)
            case measure => simp [intOf]; omega
end Go.Proofs.YtndfhpfhgdamgaaGreatDoor.Cn
