import Derived.Test.YtanlnelfbfjelaaDoorGGtMem
import Derived.StringKeys
namespace Go.Proofs.YtanlnelfbfjelaaDoor
open Go.RowKit Go.Maps
theorem keyed9 : Keyed Tryd.prog 9 := string_keyed Tryd.underlying9
theorem zero3 (w : World) : (zeroValue 3).run Tryd.prog w = .ok (.int .i64 0) w := by kernel_rfl
theorem key9 (l : List UInt8) (h : l.length ≤ 70000) : keyOf Tryd.prog 9 (.string (strOf l)) = some (.string l) :=
  Go.WideMaps.keyOf_string_mk Tryd.underlying9 (s := strOf l) (by rw [strOf_size]; unfold maxLen; omega)
theorem look_map {W : World} {M n : Nat} {D : DataW Unit} (h : W.ownsMap Tryd.prog 9 (plainElem Tryd.prog 3) M n D) (l : List UInt8) (hl : l.length ≤ 70000) :
    ∃ c : Int, D.atKey (.string l) (.lit (.int .i64 0)) = .lit (.int .i64 c) ∧ ∀ k, (Instr.lookup 45 (.map (some M)) (.string (strOf l)) true).run Tryd.prog (W.drewN k) = .ok (.tuple #[.int .i64 c, .bool (Maps.has D (.string l))]) (W.drewN k) := by
  have key := fun k => World.ownsMap.look_ok (w := W.drewN k) h keyed9 Tryd.underlying45 (zero3 _) (plainElem_int (H := Unit) Tryd.underlying3 (a := 0) (by decide)) (key9 l hl)
  obtain ⟨v, ps, hrun, hR⟩ := key 0
  obtain ⟨c, rfl, hz, hw⟩ := plainElem_int_inv Tryd.underlying3 hR
  have hc : D.atKey (.string l) (.lit (.int .i64 0)) = .lit (.int .i64 c) := congrArg Prod.fst hz
  refine ⟨c, hc, fun k => ?_⟩
  obtain ⟨v', ps', hrun', hR'⟩ := key k
  obtain ⟨c', rfl, hz', _⟩ := plainElem_int_inv Tryd.underlying3 hR'
  have hc' : D.atKey (.string l) (.lit (.int .i64 0)) = .lit (.int .i64 c') := congrArg Prod.fst hz'
  have e : c' = c := by
    have := hc'.symm.trans hc
    simp only [DataW.lit.injEq, Lit.int.injEq, true_and] at this
    exact this
  rw [hrun', e]
theorem put_map {W : World} {M n : Nat} {D : DataW Unit} (h : W.ownsMap Tryd.prog 9 (plainElem Tryd.prog 3) M n D) (hn : n < maxLen) (l : List UInt8) (hl : l.length ≤ 70000) {v : Int} (hv : (Lit.int .i64 v).wf = true) :
    ∃ X', (Instr.mapUpdate 45 (.map (some M)) (.string (strOf l)) (.int .i64 v)).run Tryd.prog W = .ok () X' ∧ X'.ownsMap Tryd.prog 9 (plainElem Tryd.prog 3) M (n + 1) (D.put (.string l) (.lit (.int .i64 v))) ∧ W.grownBy X' (some M) := by
  obtain ⟨X', hrun, ho, hg⟩ := h.update keyed9 Tryd.underlying45 hn (key9 l hl) (plainElem_int Tryd.underlying3 hv)
  exact ⟨X', hrun, ho, hg⟩
theorem Tw.turn {base : Nat} {W W' : World} {ns : List ND} {vl : Value} {zs : List (Int × Value)} (h : Tw base W ns vl zs) {M : Nat} (hM : M < base) (g : W.grownBy W' (some M)) : Tw base W' ns vl zs :=
  ⟨own_grown h.row g (fun k hk e => by have := (own_lt h.row hk).1; have := Option.some.inj e; omega), h.z, fun q hq hq' => own_grown (h.p q hq hq') g (fun k hk e => by have := (own_lt (h.p q hq hq') hk).1; have := Option.some.inj e; omega)⟩
theorem SaAt.setMap {w X : World} {S M base n : Nat} {s : PS} {vl : Value} {zs : List (Int × Value)} (h : SaAt w S M base n s vl zs) {D : DataW Unit} (hx : MpIs D s.x) (hD : w.ownsMap Tryd.prog 9 (plainElem Tryd.prog 3) M n D) {i : Nat} (hi : i < 21) {v : Int} (hv : 0 ≤ v) (hv2 : v < 10000000000)
    (ho : X.ownsMap Tryd.prog 9 (plainElem Tryd.prog 3) M (n + 1) (D.put (kL i) (.lit (.int .i64 v)))) (g : w.grownBy X (some M)) : SaAt X S M base (n + 1) { s with x := put1 s.x i v } vl zs := by
  have hS := blk_lt h.c
  refine ⟨(g.block S hS (fun e => h.lt.2.2.1 (Option.some.inj e))).trans h.c, h.tw.turn h.lt.2.1 g, h.zl, ⟨_, ho, hx.put hD.isMap hi hv⟩, ⟨h.lt.1, h.lt.2.1, h.lt.2.2.1, Nat.le_trans h.lt.2.2.2 g.size⟩, by have := h.nl; show s.ns.length ≤ n + 1; omega, h.pl, h.sl, fun j hj => ?_⟩
  show put1 s.x i v j < _
  unfold put1
  split
  · exact hv2
  · exact h.xl j hj
theorem SaAt.drew {w : World} {S M base n : Nat} {s : PS} {vl : Value} {zs : List (Int × Value)} (h : SaAt w S M base n s vl zs) (k : Nat) : SaAt (w.drewN k) S M base n s vl zs :=
  h.keep ⟨rfl, rfl, rfl, Nat.le_refl _, fun _ _ => rfl⟩
set_option maxHeartbeats 8000000 in
set_option maxRecDepth 100000 in
set_option linter.unusedSimpArgs false in
set_option linter.unusedVariables false in
theorem setting_any (N S M base n : Nat) (s : PS) (vl : Value) (zs : List (Int × Value)) (W : World) (b cap : Nat) (L : List (List UInt8)) (h : SaAt W S M base n s vl zs) (hw : WsAt W (some ⟨b, 0, none⟩) b 0 L) (hN : N ≤ S) (hN2 : N ≤ M) (hl : L.length ≤ 70000) (hm : ∀ l ∈ L, l.length ≤ 70000) (hn : n ≤ 70000) :
    Calls Tryd.prog 34 #[.pointer (some ⟨S, 0, none⟩), .slice (some ⟨b, 0, none⟩) L.length cap] W (Stp N S M base n s W (setD L)) := by
  have HL := hide h.lt
  by_cases h2 : L.length = 2
  case neg =>
    have hd : setD L = .no := by unfold setD; rw [if_neg (fun h => h2 h.1)]
    rw [hd]
    have h2' : ¬ (L.length : Int) = 2 := by omega
    clear hd h hw hm
    generalize L.length = m at *
    go_enter Tryd.func34, Tryd.ntmps34
    go_wp2_with fail
    go_ret
    exact Stp.no (Below.refl _ _) (by have := HL.out; omega) HL.out.2.2.2
  obtain ⟨l0, l1, rfl⟩ : ∃ l0 l1, L = [l0, l1] := by
    match L, h2 with
    | [x, y], _ => exact ⟨x, y, rfl⟩
  have HW := hide hw
  have e0 := hw.at 0 (by simp)
  rw [show wAt [l0, l1] 0 = l0 from rfl] at e0
  have hl0 := hm l0 (by simp)
  have hl1 := hm l1 (by simp)
  have HS := hide h
  clear h hw hm hl h2
  have IS := hide (isSetting_any W l0)
  have NM := hide (fun w' => num10_any (strOf l1) w' (by rw [strOf_size]; omega))
  rw [strOf_data] at NM
  have HV := hide (numV_le l1)
  have HD : Hid (setD [l0, l1] = if wdI l0 < 21 ∧ okN l1 = true then .one (wdI l0) (numV l1) else .no) := by
    show setD [l0, l1] = _
    unfold setD
    by_cases hh : wdI l0 < 21 ∧ okN l1 = true
    · rw [if_pos ⟨rfl, hh⟩, if_pos hh]; rfl
    · rw [if_neg (fun h => hh h.2), if_neg hh]
  have LK := hide (fun (X : World) (n : Nat) (D : DataW Unit) h => look_map (W := X) (M := M) (n := n) (D := D) h l0 hl0)
  have PK := hide (fun (X : World) (n : Nat) (D : DataW Unit) h hn (v : Int) hv => put_map (W := X) (M := M) (n := n) (D := D) h hn l0 hl0 (v := v) hv)
  have HSW : Hid (wdI l0 < 21 → swd (wdI l0) = l0) := fun h => swd_wdI h
  obtain ⟨s0, hs0⟩ : ∃ s0, s0 = strOf l0 := ⟨_, rfl⟩
  obtain ⟨s1, hs1⟩ : ∃ s1, s1 = strOf l1 := ⟨_, rfl⟩
  rw [← hs0] at e0 IS LK PK
  rw [← hs1] at NM
  have H0 := hide hs0
  have H1 := hide hs1
  clear hs0 hs1
  by_cases hi : wdI l0 < 21
  case neg =>
    rw [HD.out, if_neg (fun h => hi h.1)]
    rw [decide_eq_false hi] at IS
    clear hi HD LK PK HSW
    go_enter Tryd.func34, Tryd.ntmps34
    go_wp2_with fail
    refine Calls.mono IS.out ?_
    rintro e W1 ⟨rfl, hb⟩
    go_wp2_with fail
    go_ret
    exact Stp.no hb (by have := HL.out; omega) HL.out.2.2.2
  rw [decide_eq_true hi] at IS
  have HSI := hide (HSW.out hi)
  have HI := hide hi
  clear HSW
  cases hk : okN l1
  case false =>
    rw [HD.out, if_neg (fun h => by rw [hk] at h; cases h.2)]
    rw [hk] at NM
    clear hk HD LK PK
    go_enter Tryd.func34, Tryd.ntmps34
    go_wp2_with fail
    refine Calls.mono IS.out ?_
    rintro e W1 ⟨rfl, hb⟩
    have HB := hide hb
    have e1 := (HW.out.below hb).at 1 (by simp)
    rw [show wAt [l0, l1] 1 = l1 from rfl, ← H1.out] at e1
    clear hb
    go_wp2_with fail
    refine Calls.mono (NM.out _) ?_
    rintro e W2 ⟨rfl, rfl⟩
    go_wp2_with fail
    go_ret
    exact Stp.no HB.out (by have := HL.out; omega) HL.out.2.2.2
  have hv0 : 0 ≤ numV l1 := of_decide_eq_true hk
  have hnm : nmW l1 = numV l1 := nmW_ok hk
  rw [HD.out, if_pos ⟨hi, hk⟩]
  rw [hk, hnm] at NM
  clear hk HD hnm
  generalize wdI l0 = i at *
  generalize numV l1 = v at *
  go_enter Tryd.func34, Tryd.ntmps34
  go_wp2_with fail
  refine Calls.mono IS.out ?_
  rintro e W1 ⟨rfl, hb⟩
  have HB := hide hb
  have HW1 := hide (HW.out.below hb)
  have S1 := hide (HS.out.keep hb)
  have e1 := HW1.out.at 1 (by simp)
  rw [show wAt [l0, l1] 1 = l1 from rfl, ← H1.out] at e1
  clear hb HS HW e0
  go_upto_region 6 with (go_at_call 49; refine Calls.mono (NM.out _) ?_; rintro e W2 ⟨rfl, rfl⟩)
  clear e1
  have e0 := HW1.out.at 0 (by simp)
  rw [show wAt [l0, l1] 0 = l0 from rfl, ← H0.out] at e0
  obtain ⟨D, hD, hx⟩ := S1.out.mp
  have HDD := hide hD
  have HX := hide hx
  obtain ⟨c, hc, LR⟩ := LK.out W1 n D hD
  have c1 := S1.out.c1
  have HH : Hid (Maps.has D (.string l0) = decide (0 ≤ s.x i)) := by
    have := hx.hs i HI.out
    unfold kL at this
    rw [HSI.out] at this
    exact this
  clear hD hx hc
  rw [HH.out] at LR
  by_cases hx : 0 ≤ s.x i
  · have HE : Hid (stE s (.one i v) = 61) := by show (if 0 ≤ s.x i then (61 : Int) else 0) = 61; rw [if_pos hx]
    rw [decide_eq_true hx] at LR
    clear hx
    go_quiet (fail)
    clear LR c1 e0
    go_wp2_with fail
    go_ret
    refine ⟨by rw [HE.out]; rfl, Kp.of (HB.out.trans ⟨rfl, rfl, rfl, Nat.le_refl _, fun _ _ => rfl⟩) (by have := HL.out; omega) HL.out.2.2.2, fun h => by rw [HE.out] at h; cases h⟩
  · have HE : Hid (stE s (.one i v) = 0) := by show (if 0 ≤ s.x i then (61 : Int) else 0) = 0; rw [if_neg hx]
    rw [decide_eq_false hx] at LR
    clear hx
    go_quiet (fail)
    clear LR c1 e0
    replace HB : Hid (Below W.heap.size W (W1.drewN nq)) := HB.out.trans ⟨rfl, rfl, rfl, Nat.le_refl _, fun _ _ => rfl⟩
    replace HW1 : Hid (WsAt (W1.drewN nq) (some ⟨b, 0, none⟩) b 0 [l0, l1]) := HW1.out.below ⟨rfl, rfl, rfl, Nat.le_refl _, fun _ _ => rfl⟩
    replace S1 : Hid (SaAt (W1.drewN nq) S M base n s vl zs) := S1.out.drew nq
    replace HDD : Hid ((W1.drewN nq).ownsMap Tryd.prog 9 (plainElem Tryd.prog 3) M n D) := HDD.out
    generalize W1.drewN nq = W3 at *
    obtain ⟨X, RU, ho, hg⟩ := PK.out W3.drew n D HDD.out (by unfold maxLen; omega) v (by have := HV.out; simp [Lit.wf, IntKind.min, IntKind.max, IntKind.signed, IntKind.bits]; omega)
    have hg3 : W3.grownBy X (some M) := ⟨hg.os, hg.tape, hg.output, hg.size, hg.block⟩
    have SX : Hid (SaAt X S M base (n + 1) { s with x := put1 s.x i v } vl zs) := S1.out.setMap HX.out HDD.out HI.out hv0 HV.out.2 (by unfold kL; rw [HSI.out]; exact ho) hg3
    have hbk := HW1.out.lt (by simp)
    have hbM : b ≠ M := fun e => by
      have q := HW1.out.at 0 (by simp)
      obtain ⟨es, cl, hm, _⟩ := HDD.out
      subst e
      unfold World.cell? at q
      rw [hm] at q
      cases q
    have EX : Hid (X.cell? ⟨b, 0, none⟩ = some (.string s0)) := by
      have q := HW1.out.at 0 (by simp)
      rw [show wAt [l0, l1] 0 = l0 from rfl, ← H0.out] at q
      have e : X.heap[b]? = W3.heap[b]? := hg3.block b hbk (fun e => hbM (Option.some.inj e))
      show X.cell? _ = _
      rw [← q]
      unfold World.cell?
      simp only [e]
    have E3 : Hid (W3.cell? ⟨b, 0, none⟩ = some (.string s0)) := by
      have q := HW1.out.at 0 (by simp)
      rw [show wAt [l0, l1] 0 = l0 from rfl, ← H0.out] at q
      exact q
    have KX := hide ((Kp.of (S := S) (M := M) HB.out (by have := HL.out; omega : N ≤ W.heap.size) HL.out.2.2.2).grown hg3 (fun k e => ⟨by have := Option.some.inj e; omega, Or.inr (Or.inr (Option.some.inj e).symm)⟩) (by have := HB.out.size; have := HL.out; omega) (by have := HB.out.size; have := HL.out; omega))
    have SC : Hid (∀ Y, Y = W3.drew ∨ Y = X → Y.cell? ⟨S, 1, none⟩ = some (.map (some M)) ∧ Y.cell? ⟨b, 0, none⟩ = some (.string s0)) := by
      rintro Y (rfl | rfl)
      · exact ⟨S1.out.c1, E3.out⟩
      · exact ⟨SX.out.c1, EX.out⟩
    clear ho hg hg3 hbM hbk
    go_wp2_with fail
    refine wp_region_held_drew (S := fun Y => Y = W3.drew ∨ Y = X) (by kernel_rfl) (Or.inl rfl) (fun hHeld => ?_)
    refine wpAnyH_take (i := 0) (v := (.pointer (some ⟨S, 0, none⟩))) rfl (by kernel_rfl) (by kernel_rfl) (by kernel_rfl) (fun _ _ _ h => h) (Or.inl ⟨by rfl, ?_⟩) (by assumption) ?_
    · intro w' hSw
      (try dsimp only at hSw)
      go_simp
    (try simp only [Act.put, List.setIfInBounds_toArray, List.set_cons_zero, List.set_cons_succ])
    refine wpAnyH_take (i := 1) (v := (.pointer (some ⟨S, 0, none⟩))) rfl (by kernel_rfl) (by kernel_rfl) (by kernel_rfl) (fun _ _ _ h => h) (Or.inl ⟨by rfl, ?_⟩) (by assumption) ?_
    · intro w' hSw
      (try dsimp only at hSw)
      go_simp
    (try simp only [Act.put, List.setIfInBounds_toArray, List.set_cons_zero, List.set_cons_succ])
    refine wpAnyH_take (i := 2) (v := (.pointer (some ⟨S, 1, none⟩))) rfl (by kernel_rfl) (by kernel_rfl) (by kernel_rfl) (fun _ _ _ h => h) (Or.inl ⟨by rfl, ?_⟩) (by assumption) ?_
    · intro w' hSw
      (try dsimp only at hSw)
      go_simp
    (try simp only [Act.put, List.setIfInBounds_toArray, List.set_cons_zero, List.set_cons_succ])
    refine wpAnyH_take (i := 3) (v := (.map (some M))) rfl (by kernel_rfl) (by kernel_rfl) (by kernel_rfl) (fun _ _ _ h => h) (Or.inl ⟨by rfl, ?_⟩) (by assumption) ?_
    · intro w' hSw
      (try dsimp only at hSw)
      (obtain ⟨y0, y1⟩ := SC.out _ hSw; go_simp)
    (try simp only [Act.put, List.setIfInBounds_toArray, List.set_cons_zero, List.set_cons_succ])
    refine wpAnyH_take (i := 4) (v := (.slice (some ⟨b, 0, none⟩) 2 cap)) rfl (by kernel_rfl) (by kernel_rfl) (by kernel_rfl) (fun _ _ _ h => h) (Or.inl ⟨by rfl, ?_⟩) (by assumption) ?_
    · intro w' hSw
      (try dsimp only at hSw)
      go_simp
    (try simp only [Act.put, List.setIfInBounds_toArray, List.set_cons_zero, List.set_cons_succ])
    refine wpAnyH_take (i := 5) (v := (.pointer (some ⟨b, 0, none⟩))) rfl (by kernel_rfl) (by kernel_rfl) (by kernel_rfl) (fun _ _ _ h => h) (Or.inl ⟨by rfl, ?_⟩) (by assumption) ?_
    · intro w' hSw
      (try dsimp only at hSw)
      go_simp
    (try simp only [Act.put, List.setIfInBounds_toArray, List.set_cons_zero, List.set_cons_succ])
    refine wpAnyH_take (i := 6) (v := (.string s0)) rfl (by kernel_rfl) (by kernel_rfl) (by kernel_rfl) (fun _ _ _ h => h) (Or.inl ⟨by rfl, ?_⟩) (by assumption) ?_
    · intro w' hSw
      (try dsimp only at hSw)
      (obtain ⟨y0, y1⟩ := SC.out _ hSw; go_simp)
    (try simp only [Act.put, List.setIfInBounds_toArray, List.set_cons_zero, List.set_cons_succ])
    refine wpAnyH_take (i := 7) (v := (.int .i64 v)) rfl (by kernel_rfl) (by kernel_rfl) (by kernel_rfl) (fun _ _ _ h => h) (Or.inl ⟨by rfl, ?_⟩) (by assumption) ?_
    · intro w' hSw
      (try dsimp only at hSw)
      go_simp
    (try simp only [Act.put, List.setIfInBounds_toArray, List.set_cons_zero, List.set_cons_succ])
    refine wpAnyH_ready (rs := [8]) (by kernel_rfl) (by simp) ?_
    refine AllReadyH.cons rfl (fun K hK => ?_) AllReadyH.nil
    go_simp
    refine hK.out _ _ ((Or.inr rfl)) (fun hHeld => ?_)
    clear hK
    (try simp only [Act.put, List.setIfInBounds_toArray, List.set_cons_zero, List.set_cons_succ])
    refine wpAnyH_done (by kernel_rfl) ?_ _
    clear hHeld RU
    go_wp2_with fail
    go_ret
    exact ⟨by rw [HE.out]; rfl, KX.out, fun _ => ⟨vl, zs, SX.out⟩⟩
end Go.Proofs.YtanlnelfbfjelaaDoor
namespace Go.Proofs.YtanlnelfbfjelaaDoor
open Go.RowKit Go.Maps
theorem Tw.wide {base : Nat} {W : World} {ns : List ND} {vl : Value} {zs : List (Int × Value)} (h : Tw base W ns vl zs) (hl : zs.length = ns.length) (d : ND) : Tw base W (ns ++ [d]) vl zs :=
  ⟨h.row, fun q hq hq' => by rw [h.z q hq (by omega), List.getElem_append_left (by omega)], fun q hq hq' => by
    have := h.p q hq (by omega)
    rw [List.getElem_append_left (by omega)]
    exact this⟩
theorem SaAt.setNodes {w X : World} {S M base n : Nat} {s : PS} {vl vl' v1 : Value} {zs : List (Int × Value)} (h : SaAt w S M base n s vl zs) (d : ND) (hd : d.ps.length ≤ 70000) (o1 : w.ownsRow base 3 1 v1 d.ps.length (ints d.ps))
    (o3 : X.ownsRow base 59 2 vl' (zs.length + 1) (ndc zs ++ ndc [(d.z, v1)])) (g3 : (w.alloc (.cells #[.int .i64 d.z, v1] 59)).grownBy X vl.ownBlock) : SaAt (X.setCell ⟨S, 2, none⟩ vl') S M base (n + 1) { s with ns := s.ns ++ [d] } vl' (zs ++ [(d.z, v1)]) := by
  obtain ⟨D, hD, hx⟩ := h.mp
  have hS := blk_lt h.c
  have hrow : ∀ k, k < base → vl.ownBlock ≠ some k := fun k hk e => by have := (own_lt h.tw.row e).1; omega
  have t1 := (h.tw.wide h.zl d).step3 (z := d.z) (ps := d.ps) (by simp [h.zl]) (by simp [h.zl]) o1 o3 g3
  have hsz := g3.size
  simp only [World.size_alloc] at hsz
  refine ⟨?_, t1.set h.lt.1 _, by simp [h.zl], ⟨D, ((hD.alloc _).kept g3 (fun e => hrow M h.lt.2.1 e.symm)).setCell (fun e => h.lt.2.2.1 e.symm) _ |>.mono (by omega), hx⟩, ⟨h.lt.1, h.lt.2.1, h.lt.2.2.1, by rw [set_size]; have := h.lt.2.2.2; omega⟩, by have := h.nl; simp; omega, ?_, h.sl, h.xl⟩
  · have e : X.heap[S]? = w.heap[S]? := by
      rw [g3.block S (by simp; omega) (fun e => hrow S h.lt.1 e.symm), Below.heap_alloc _ _ _ hS]
    simp only [World.setCell, Array.getElem?_modify, if_true, e, h.c, Option.map_some]
    rfl
  · intro y hy
    rcases List.mem_append.1 hy with hy | hy
    · exact h.pl y hy
    · rw [List.mem_singleton.1 hy]; exact hd
theorem infoNdT : (Tryd.prog.info? 59).map (fun i => (i.zero, i.size, i.bytes)) = some (some (.agg #[.int .i64 0, .slice none 0 0]), 2, 32) := by kernel_rfl
set_option maxHeartbeats 8000000 in
set_option maxRecDepth 100000 in
set_option linter.unusedSimpArgs false in
set_option linter.unusedVariables false in
theorem node_any (N S M base n : Nat) (s : PS) (vl : Value) (zs : List (Int × Value)) (W : World) (b : Nat) (L : List (List UInt8)) (h : SaAt W S M base n s vl zs) (hw : WsAt W (some ⟨b, 0, none⟩) b 0 L) (hN : N ≤ S) (hl : L.length ≤ 70000) (hm : ∀ l ∈ L, l.length ≤ 70000) (hn : n ≤ 70000) :
    Calls Tryd.prog 33 #[.pointer (some ⟨S, 0, none⟩), .slice (some ⟨b, 0, none⟩) L.length L.length] W (Stp N S M base n s W (nodeD L s.ns.length)) := by
  obtain ⟨k0, hk0, hx0, hx1, hx2⟩ := info_parts infoNdT
  have HL := hide h.lt
  have hno : ndOk L s.ns.length = false → nodeD L s.ns.length = .no := fun e => by unfold nodeD; rw [e]; rfl
  by_cases h5 : 5 ≤ L.length
  case neg =>
    rw [hno (by unfold ndOk; rw [decide_eq_false h5]; rfl)]
    have h5' : (L.length : Int) < 5 := by omega
    clear hno h hw hm
    generalize L.length = m at *
    go_enter Tryd.func33, Tryd.ntmps33
    go_wp2_with fail
    go_ret
    exact Stp.no (Below.refl _ _) (by have := HL.out; omega) HL.out.2.2.2
  have h5' : ¬ (L.length : Int) < 5 := by omega
  have e1 := hw.at 1 (by omega)
  have e2 := hw.at 2 (by omega)
  have e3 := hw.at 3 (by omega)
  have e4 := hw.at 4 (by omega)
  have wm : ∀ i, (wAt L i).length ≤ 70000 := fun i => by
    unfold wAt
    by_cases hi : i < L.length
    · rw [List.getElem?_eq_getElem hi]; exact hm _ (List.getElem_mem hi)
    · rw [List.getElem?_eq_none (by omega)]; simp
  have NM1 := hide (fun w' => num10_any (strOf (wAt L 1)) w' (by rw [strOf_size]; have := wm 1; omega))
  have NM3 := hide (fun w' => num10_any (strOf (wAt L 3)) w' (by rw [strOf_size]; have := wm 3; omega))
  rw [strOf_data] at NM1 NM3
  have E2 := str_eq (wAt L 2) zoneW
  have E4 := str_eq (wAt L 4) partsW
  rw [show (strOf zoneW).toList = [122, 111, 110, 101] from by rw [toList_data]; rfl] at E2
  rw [show (strOf partsW).toList = [112, 97, 114, 116, 115] from by rw [toList_data]; rfl] at E4
  have hdl : (L.drop 5).length = L.length - 5 := by simp
  have RP := hide (readParts_any W (some ⟨b, 5, none⟩) b 5 (L.length - 5) (L.drop 5) (hw.drop 5) (by omega) (fun l hl => hm l (List.mem_of_mem_drop hl)))
  rw [hdl] at RP
  have RP0 : Hid (L.length = 5 → Calls Tryd.prog 50 #[.slice (some ⟨b, 0, none⟩) 0 0] W fun e w' => Below W.heap.size W w' ∧ ∃ v, e = .returned (.tuple #[v, .bool ((L.drop 5).all okN)]) ∧ (∃ ba n c, v = .slice ba n c) ∧ ((L.drop 5).all okN = true → w'.ownsRow W.heap.size 3 1 v (L.length - 5) (ints ((L.drop 5).map numV)))) := fun e => by
    have := readParts_any W (some ⟨b, 0, none⟩) b 0 0 (L.drop 5) ⟨fun h => by omega, fun h => by omega, fun q h => by omega⟩ (by omega) (fun l hl => hm l (List.mem_of_mem_drop hl))
    rw [hdl, show L.length - 5 = 0 from by omega] at this
    rw [show L.length - 5 = 0 from by omega]
    exact this
  have HOK : Hid (ndOk L s.ns.length = (decide (wAt L 2 = zoneW) && decide (wAt L 4 = partsW) && decide (numV (wAt L 1) = (s.ns.length : Int)) && okN (wAt L 3) && (L.drop 5).all okN)) := by
    show ndOk L s.ns.length = _
    unfold ndOk
    rw [decide_eq_true h5, Bool.true_and]
  have HV : Hid (ndV L = ⟨numV (wAt L 3), (L.drop 5).map numV⟩) := rfl
  have HN1 : Hid (okN (wAt L 1) = true → nmW (wAt L 1) = numV (wAt L 1)) := fun h => nmW_ok h
  have HN1' : Hid (okN (wAt L 1) = false → numV (wAt L 1) < 0) := fun h => by unfold okN at h; have := of_decide_eq_false h; omega
  have HN3 : Hid (okN (wAt L 3) = true → nmW (wAt L 3) = numV (wAt L 3)) := fun h => nmW_ok h
  have HR1 := hide (numV_le (wAt L 1))
  have HD : Hid (nodeD L s.ns.length = if ndOk L s.ns.length = true then .node (ndV L) else .no) := rfl
  have HS := hide h
  have hnl := h.nl
  have HZL := hide h.zl
  clear h hw hm wm
  generalize nodeD L s.ns.length = nd at *
  generalize ndOk L s.ns.length = ok at *
  generalize ndV L = dv at *
  generalize wAt L 1 = l1 at *
  generalize wAt L 2 = l2 at *
  generalize wAt L 3 = l3 at *
  generalize wAt L 4 = l4 at *
  have HPL : Hid (((L.drop 5).map numV).length = L.length - 5) := by show _ = _; rw [List.length_map]; exact hdl
  generalize (L.drop 5).map numV = pl at *
  generalize (L.drop 5).all okN = o5 at *
  clear hdl
  generalize L.length = m at *
  generalize okN l1 = o1 at *
  generalize okN l3 = o3 at *
  generalize nmW l1 = n1 at *
  generalize nmW l3 = n3 at *
  generalize numV l1 = v1 at *
  generalize numV l3 = v3 at *
  generalize strOf l1 = t1 at *
  generalize strOf l2 = t2 at *
  generalize strOf l3 = t3 at *
  generalize strOf l4 = t4 at *
  by_cases hz : l2 = zoneW
  case neg =>
    rw [decide_eq_false hz] at E2
    obtain rfl : nd = .no := hno (by rw [HOK.out, decide_eq_false hz]; rfl)
    clear hz hno HOK HD
    go_enter Tryd.func33, Tryd.ntmps33
    go_wp2_with fail
    go_ret
    exact Stp.no (Below.refl _ _) (by have := HL.out; omega) HL.out.2.2.2
  by_cases hp : l4 = partsW
  case neg =>
    rw [decide_eq_true hz] at E2
    rw [decide_eq_false hp] at E4
    obtain rfl : nd = .no := hno (by rw [HOK.out, decide_eq_false hp, Bool.and_false]; rfl)
    clear hz hp hno HOK HD
    go_enter Tryd.func33, Tryd.ntmps33
    go_wp2_with fail
    go_ret
    exact Stp.no (Below.refl _ _) (by have := HL.out; omega) HL.out.2.2.2
  rw [decide_eq_true hz] at E2
  rw [decide_eq_true hp] at E4
  have HO2 : Hid (ok = (decide (v1 = (s.ns.length : Int)) && o3 && o5)) := by show ok = _; rw [HOK.out, decide_eq_true hz, decide_eq_true hp]; rfl
  have HNO := hide hno
  clear hz hp HOK hno
  go_enter Tryd.func33, Tryd.ntmps33
  go_wp2_with fail
  refine Calls.mono (NM1.out _) ?_
  rintro e W1 ⟨rfl, rfl⟩
  go_wp2_with fail
  refine Calls.mono (NM3.out _) ?_
  rintro e W1 ⟨rfl, rfl⟩
  by_cases hm5 : m = 5
  case pos =>
    subst hm5
    go_wp2_with fail
    refine Calls.mono (RP0.out (by trivial)) ?_
    rintro e W5 ⟨hb, v, rfl, ⟨ba, nn, cc, rfl⟩, hO⟩
    have HB := hide hb
    have HOO := hide hO
    have S5 := hide (HS.out.keep hb)
    have c2 := S5.out.c2
    obtain ⟨bz, cz, hvl, _⟩ := own_sl S5.out.tw.row
    rw [hvl] at c2
    have HVL := hide hvl
    clear hb hO hvl
    have hzl : zs.length ≤ 70000 := by rw [HZL.out]; omega
    have HNN : Hid (decide (v1 = (s.ns.length : Int)) = decide (v1 = (zs.length : Int))) := by rw [HZL.out]; rfl
    cases o1
    · have hv1 := HN1'.out rfl
      obtain rfl : nd = .no := HNO.out (by rw [HO2.out, decide_eq_false (by omega)]; rfl)
      go_wp2_with fail
      go_ret
      exact Stp.no HB.out (by have := HL.out; omega) HL.out.2.2.2
    cases o3
    · obtain rfl : nd = .no := HNO.out (by rw [HO2.out, Bool.and_false]; rfl)
      go_wp2_with fail
      go_ret
      exact Stp.no HB.out (by have := HL.out; omega) HL.out.2.2.2
    cases o5
    · obtain rfl : nd = .no := HNO.out (by rw [HO2.out, Bool.and_false])
      go_wp2_with fail
      go_ret
      exact Stp.no HB.out (by have := HL.out; omega) HL.out.2.2.2
    obtain rfl : n1 = v1 := HN1.out rfl
    obtain rfl : n3 = v3 := HN3.out rfl
    by_cases hq : n1 = (zs.length : Int)
    case neg =>
      obtain rfl : nd = .no := HNO.out (by rw [HO2.out, HNN.out, decide_eq_false hq]; rfl)
      go_wp2_with fail
      go_ret
      exact Stp.no HB.out (by have := HL.out; omega) HL.out.2.2.2
    obtain rfl : nd = .node dv := by rw [HD.out, HO2.out, HNN.out, decide_eq_true hq]; rfl
    have O1 := hide (own_lowr (HOO.out rfl) HL.out.2.2.2)
    have f2 := S5.out.fz 2
    clear HOO HD HO2 HNO HNN HN1 HN1' HN3
    subst hq
    have hbs : base ≤ W5.heap.size := by have := HB.out.size; have := HL.out; omega
    have ROW : Hid (W5.ownsRow base 59 2 (.slice bz zs.length cz) zs.length (ndc zs)) := by rw [← HVL.out]; exact S5.out.tw.row
    have SXf : Hid (∀ X : World, (W5.alloc (.cells #[.int .i64 n3, .slice ba nn cc] 59)).grownBy X (Value.slice bz zs.length cz).ownBlock → X.cell? ⟨S, 2, none⟩ = some (.slice bz zs.length cz) ∧ X.frozen? ⟨S, 2, none⟩ = false) := fun X g => by
      have hS := blk_lt S5.out.c
      have e : X.heap[S]? = W5.heap[S]? := by
        rw [g.block S (by simp; omega) (fun e => by have := (own_lt ROW.out e.symm).1; have := HL.out; omega), Below.heap_alloc _ _ _ hS]
      constructor
      · have := S5.out.c2
        rw [HVL.out] at this
        rw [← this]
        unfold World.cell?
        simp only [e]
      · have := S5.out.fz 2
        rw [← this]
        unfold World.frozen?
        simp only [e]
    clear c2 f2
    have c2 := S5.out.c2
    rw [HVL.out] at c2
    go_wp2_with (first | refine wpList_bsNd rfl (.tmp 72) rfl rfl ?_ | (at_builtin; refine wpList_append_own_at _ rfl (.tmp 69) (.tmp 73) 22 rfl base 59 k0 _ 2 32 Tryd.underlying22 hk0 hx0 hx1 hx2 rfl (by decide) _ _ _ rfl (ROW.out.alloc _) ⟨W5.heap.size, 0, none⟩ 1 1 (ndc [(n3, .slice ba nn cc)]) rfl rfl (nd_cells W5 _ _) (nd_one rfl) (by unfold maxLen; omega) (by omega) (by simp; omega) ?_; intro vl' X3 o3 g3 n4 a3; clear n4 a3 c2; obtain ⟨bv, cv, hvv, _⟩ := own_sl o3; subst hvv; have cX := (SXf.out X3 g3).1; have fX := (SXf.out X3 g3).2))
    go_ret
    refine ⟨rfl, ?_, fun _ => ⟨.slice bv (zs.length + 1) cv, zs ++ [(n3, .slice ba nn cc)], ?_⟩⟩
    · refine Kp.set (Kp.grown (Kp.of (HB.out.alloc HB.out.size _) (by have := HL.out; omega) HL.out.2.2.2) g3 (fun k e => ?_) (by have := HB.out.size; have := HL.out; simp; omega) (by simp; omega)) hN _ _
      have := (own_lt ROW.out e).1
      have := HL.out
      exact ⟨by omega, Or.inl (by omega)⟩
    · have hdv : dv.z = n3 ∧ dv.ps = pl := by rw [HV.out]; exact ⟨rfl, rfl⟩
      have := S5.out.setNodes (v1 := .slice ba nn cc) (X := X3) dv (by rw [hdv.2, HPL.out]; omega) (by rw [hdv.2, HPL.out]; exact O1.out) (vl' := .slice bv (zs.length + 1) cv) (by rw [hdv.1]; exact o3) (by rw [hdv.1, HVL.out]; exact g3)
      rw [hdv.1] at this
      exact this
  case neg =>
    go_wp2_with fail
    refine Calls.mono RP.out ?_
    rintro e W5 ⟨hb, v, rfl, ⟨ba, nn, cc, rfl⟩, hO⟩
    have HB := hide hb
    have HOO := hide hO
    have S5 := hide (HS.out.keep hb)
    have c2 := S5.out.c2
    obtain ⟨bz, cz, hvl, _⟩ := own_sl S5.out.tw.row
    rw [hvl] at c2
    have HVL := hide hvl
    clear hb hO hvl
    have hzl : zs.length ≤ 70000 := by rw [HZL.out]; omega
    have HNN : Hid (decide (v1 = (s.ns.length : Int)) = decide (v1 = (zs.length : Int))) := by rw [HZL.out]; rfl
    cases o1
    · have hv1 := HN1'.out rfl
      obtain rfl : nd = .no := HNO.out (by rw [HO2.out, decide_eq_false (by omega)]; rfl)
      go_wp2_with fail
      go_ret
      exact Stp.no HB.out (by have := HL.out; omega) HL.out.2.2.2
    cases o3
    · obtain rfl : nd = .no := HNO.out (by rw [HO2.out, Bool.and_false]; rfl)
      go_wp2_with fail
      go_ret
      exact Stp.no HB.out (by have := HL.out; omega) HL.out.2.2.2
    cases o5
    · obtain rfl : nd = .no := HNO.out (by rw [HO2.out, Bool.and_false])
      go_wp2_with fail
      go_ret
      exact Stp.no HB.out (by have := HL.out; omega) HL.out.2.2.2
    obtain rfl : n1 = v1 := HN1.out rfl
    obtain rfl : n3 = v3 := HN3.out rfl
    by_cases hq : n1 = (zs.length : Int)
    case neg =>
      obtain rfl : nd = .no := HNO.out (by rw [HO2.out, HNN.out, decide_eq_false hq]; rfl)
      go_wp2_with fail
      go_ret
      exact Stp.no HB.out (by have := HL.out; omega) HL.out.2.2.2
    obtain rfl : nd = .node dv := by rw [HD.out, HO2.out, HNN.out, decide_eq_true hq]; rfl
    have O1 := hide (own_lowr (HOO.out rfl) HL.out.2.2.2)
    have f2 := S5.out.fz 2
    clear HOO HD HO2 HNO HNN HN1 HN1' HN3
    subst hq
    have hbs : base ≤ W5.heap.size := by have := HB.out.size; have := HL.out; omega
    have ROW : Hid (W5.ownsRow base 59 2 (.slice bz zs.length cz) zs.length (ndc zs)) := by rw [← HVL.out]; exact S5.out.tw.row
    have SXf : Hid (∀ X : World, (W5.alloc (.cells #[.int .i64 n3, .slice ba nn cc] 59)).grownBy X (Value.slice bz zs.length cz).ownBlock → X.cell? ⟨S, 2, none⟩ = some (.slice bz zs.length cz) ∧ X.frozen? ⟨S, 2, none⟩ = false) := fun X g => by
      have hS := blk_lt S5.out.c
      have e : X.heap[S]? = W5.heap[S]? := by
        rw [g.block S (by simp; omega) (fun e => by have := (own_lt ROW.out e.symm).1; have := HL.out; omega), Below.heap_alloc _ _ _ hS]
      constructor
      · have := S5.out.c2
        rw [HVL.out] at this
        rw [← this]
        unfold World.cell?
        simp only [e]
      · have := S5.out.fz 2
        rw [← this]
        unfold World.frozen?
        simp only [e]
    clear c2 f2
    have c2 := S5.out.c2
    rw [HVL.out] at c2
    go_wp2_with (first | refine wpList_bsNd rfl (.tmp 72) rfl rfl ?_ | (at_builtin; refine wpList_append_own_at _ rfl (.tmp 69) (.tmp 73) 22 rfl base 59 k0 _ 2 32 Tryd.underlying22 hk0 hx0 hx1 hx2 rfl (by decide) _ _ _ rfl (ROW.out.alloc _) ⟨W5.heap.size, 0, none⟩ 1 1 (ndc [(n3, .slice ba nn cc)]) rfl rfl (nd_cells W5 _ _) (nd_one rfl) (by unfold maxLen; omega) (by omega) (by simp; omega) ?_; intro vl' X3 o3 g3 n4 a3; clear n4 a3 c2; obtain ⟨bv, cv, hvv, _⟩ := own_sl o3; subst hvv; have cX := (SXf.out X3 g3).1; have fX := (SXf.out X3 g3).2))
    go_ret
    refine ⟨rfl, ?_, fun _ => ⟨.slice bv (zs.length + 1) cv, zs ++ [(n3, .slice ba nn cc)], ?_⟩⟩
    · refine Kp.set (Kp.grown (Kp.of (HB.out.alloc HB.out.size _) (by have := HL.out; omega) HL.out.2.2.2) g3 (fun k e => ?_) (by have := HB.out.size; have := HL.out; simp; omega) (by simp; omega)) hN _ _
      have := (own_lt ROW.out e).1
      have := HL.out
      exact ⟨by omega, Or.inl (by omega)⟩
    · have hdv : dv.z = n3 ∧ dv.ps = pl := by rw [HV.out]; exact ⟨rfl, rfl⟩
      have := S5.out.setNodes (v1 := .slice ba nn cc) (X := X3) dv (by rw [hdv.2, HPL.out]; omega) (by rw [hdv.2, HPL.out]; exact O1.out) (vl' := .slice bv (zs.length + 1) cv) (by rw [hdv.1]; exact o3) (by rw [hdv.1, HVL.out]; exact g3)
      rw [hdv.1] at this
      exact this
end Go.Proofs.YtanlnelfbfjelaaDoor
namespace Go.Proofs.YtanlnelfbfjelaaDoor
open Go.RowKit Go.Maps
theorem splitL_mem (c : UInt8) : ∀ (l cur : List UInt8) (x : List UInt8), x ∈ splitL c cur l → x.length ≤ cur.length + l.length := by
  intro l
  induction l with
  | nil => intro cur x h; simp [splitL] at h; simp [h]
  | cons b l ih =>
    intro cur x h
    rw [splitL] at h
    split at h
    · rcases List.mem_cons.1 h with rfl | h
      · simp
      · have := ih [] x h; simp at this ⊢; omega
    · have := ih _ x h; simp at this ⊢; omega
theorem splitL_len (c : UInt8) : ∀ (l cur : List UInt8), (splitL c cur l).length ≤ l.length + 1 := by
  intro l
  induction l with
  | nil => intro cur; simp [splitL]
  | cons b l ih =>
    intro cur
    rw [splitL]
    split
    · have := ih []; simp; omega
    · have := ih (cur ++ [b]); simp; omega
/-- strings.Split at one byte -/
theorem spl_any (l : List UInt8) (c : UInt8) (w : World) (m : Int) (hl : l.length ≤ 70000) (hm : w.cell? ⟨2, 0, none⟩ = some (.int .i64 m)) :
    Calls Tryd.prog 15 #[.string (strOf l), .string ⟨#[c]⟩] w fun e w' => e = .returned (.slice (some ⟨w.heap.size, 0, none⟩) (splitL c [] l).length (splitL c [] l).length) ∧ w' = w.alloc (.cells ((splitL c [] l).map fun l => Value.string (strOf l)).toArray 9) := by
  have hs : (⟨#[c]⟩ : ByteArray).data.toList = [c] := rfl
  have C := Tryd.strings_Split (strOf l) ⟨#[c]⟩ m w (by rw [strOf_size]; omega) hm (Nat.le_refl 1)
  have hd := Lib.splitB_data ⟨#[c]⟩ 0 (Lib.countB (strOf l) ⟨#[c]⟩) (strOf l)
  rw [strOf_data, hs] at hd
  have hk : Lib.splitK [c] 0 (Lib.countB (strOf l) ⟨#[c]⟩) l = splitL c [] l := splitK_L c _ l (Nat.le_refl _)
  rw [hk] at hd
  have hlen := Lib.splitB_all ⟨#[c]⟩ (Nat.le_refl 1) 0 _ (strOf l) rfl
  have e1 : (splitL c [] l).length = Lib.countB (strOf l) ⟨#[c]⟩ + 1 := by rw [← hd, List.length_map, hlen]
  have e2 : (Lib.splitB ⟨#[c]⟩ 0 (Lib.countB (strOf l) ⟨#[c]⟩) (strOf l)).map Value.string = (splitL c [] l).map fun l => Value.string (strOf l) := by
    rw [← hd, List.map_map]
    apply List.map_congr_left
    intro x _
    show Value.string x = Value.string (strOf x.data.toList)
    rw [strOf_toList]
  rw [e1, ← e2]
  exact C
theorem rdL_non {l : List UInt8} (h : l = [] ∨ l.head? = some 35) (k : Nat) : rdL l k = .non := by unfold rdL; rw [if_pos h]
theorem rdL_words {l : List UInt8} (h : ¬ (l = [] ∨ l.head? = some 35)) (k : Nat) : rdL l k = rdW (splitL 32 [] l) k := by unfold rdL; rw [if_neg h]
theorem Stp.from {N S M base n : Nat} {s : PS} {W W1 w' : World} {d : Sd} {e : Ending} (h : Stp N S M base n s W1 d e w') (hb : Below W.heap.size W W1) (hN : N ≤ W.heap.size) (hs : base ≤ W.heap.size) : Stp N S M base n s W d e w' :=
  ⟨h.er, (Kp.of hb hN hs).trans h.kp, h.nx⟩
theorem Stp.non {N S M base n : Nat} {s : PS} {W : World} {vl : Value} {zs : List (Int × Value)} (h : SaAt W S M base n s vl zs) : Stp N S M base n s W .non (.returned (.int .i64 0)) W :=
  ⟨rfl, Kp.refl _ _ _ _ _, fun _ => ⟨vl, zs, h.more (by omega)⟩⟩
set_option maxHeartbeats 8000000 in
set_option maxRecDepth 100000 in
set_option linter.unusedSimpArgs false in
set_option linter.unusedVariables false in
theorem line_any (N S M base n : Nat) (s : PS) (vl : Value) (zs : List (Int × Value)) (W : World) (l : List UInt8) (mx : Int) (h : SaAt W S M base n s vl zs) (hN : N ≤ S) (hN2 : N ≤ M) (hl : l.length ≤ 65536) (hn : n ≤ 70000) (hm : W.cell? ⟨2, 0, none⟩ = some (.int .i64 mx)) :
    Calls Tryd.prog 16 #[.pointer (some ⟨S, 0, none⟩), .string (strOf l)] W (Stp N S M base n s W (rdL l s.ns.length)) := by
  have HL := hide h.lt
  have HS := hide h
  have EE := emp_eq l
  by_cases h0 : l = []
  · rw [rdL_non (Or.inl h0)]
    rw [decide_eq_true h0] at EE
    clear h h0 hm
    generalize strOf l = t at *
    go_enter Tryd.func16, Tryd.ntmps16
    go_wp2_with fail
    go_ret
    exact Stp.non HS.out
  rw [decide_eq_false h0] at EE
  have hp : 0 < (strOf l).size := by
    rw [strOf_size]
    exact List.length_pos_iff.2 h0
  have hx0 : ∀ w', (Instr.index 9 (.string (strOf l)) (.int .i64 0)).run Tryd.prog w' = .ok (.int .u8 (((strOf l)[0]'hp).toNat : Int)) w' := fun w' => ix_str w' (strOf l) 0 hp
  have hhd : l.head? = some ((strOf l)[0]'hp) := by
    rw [List.head?_eq_getElem?]; exact Lib.data_getElem? (strOf l) 0 hp
  have hd35 : ((strOf l)[0]'hp = 35 ↔ ((((strOf l)[0]'hp).toNat : Int) = 35)) := by
    constructor
    · intro h; rw [h]; rfl
    · intro h; rw [← UInt8.toNat_inj]; show _ = 35; omega
  have SP := hide (spl_any l 32 W mx (by omega) hm)
  have HSL := hide (splitL_len 32 l [])
  have HSM := hide (fun x hx => splitL_mem 32 l [] x hx)
  have HSP := hide (splitL_pos 32 l [])
  generalize hc0 : ((strOf l)[0]'hp) = c0 at *
  clear hc0 hp
  by_cases h35 : c0 = 35
  · rw [rdL_non (Or.inr (by rw [hhd, h35]))]
    have e35 : (c0.toNat : Int) = 35 := hd35.1 h35
    clear h h0 hm h35 hhd hd35 SP HSL HSM HSP
    generalize strOf l = t at *
    go_enter Tryd.func16, Tryd.ntmps16
    go_wp2_with fail
    go_ret
    exact Stp.non HS.out
  have e35 : ¬ (c0.toNat : Int) = 35 := fun e => h35 (hd35.2 e)
  rw [rdL_words (fun h => h.elim h0 (fun h => by rw [hhd] at h; exact h35 (Option.some.inj h))), rdW_eq]
  clear hhd hd35 h35 h0 hm h
  generalize splitL 32 [] l = L at *
  obtain ⟨W1, hW1⟩ : ∃ W1, W1 = W.alloc (.cells (L.map fun l => Value.string (strOf l)).toArray 9) := ⟨_, rfl⟩
  have HB : Hid (Below W.heap.size W W1) := by rw [hW1]; exact (Below.refl _ _).alloc (Nat.le_refl _) _
  have HW : Hid (WsAt W1 (some ⟨W.heap.size, 0, none⟩) W.heap.size 0 L) := by rw [hW1]; exact wsAt_new W L
  have S1 := hide (HS.out.keep HB.out)
  rw [← hW1] at SP
  have hLl : L.length ≤ 70000 := by have := HSL.out; omega
  have hLm : Hid (∀ x ∈ L, x.length ≤ 70000) := fun x hx => by have := HSM.out x hx; simp at this; omega
  have CN := hide (name_any N S M base n s vl zs W1 W.heap.size L.length L S1.out HW.out hN hLl hLm.out)
  have CS := hide (setting_any N S M base n s vl zs W1 W.heap.size L.length L S1.out HW.out hN hN2 hLl hLm.out hn)
  have CO := hide (node_any N S M base n s vl zs W1 W.heap.size L S1.out HW.out hN hLl hLm.out hn)
  have e0 := HW.out.at 0 HSP.out
  have E1 := str_eq (wAt L 0) storeW
  have E2 := str_eq (wAt L 0) nodeW
  rw [show (strOf storeW).toList = [115, 116, 111, 114, 101] from by rw [toList_data]; rfl] at E1
  rw [show (strOf nodeW).toList = [110, 111, 100, 101] from by rw [toList_data]; rfl] at E2
  have hpos : 0 < (L.length : Int) := by have := HSP.out; omega
  clear hW1 HSL HSM HSP hLm
  generalize wAt L 0 = l0 at *
  generalize strOf l0 = t0 at *
  generalize strOf l = t at *
  generalize nameD L = d1 at *
  generalize setD L = d2 at *
  generalize nodeD L s.ns.length = d3 at *
  generalize L.length = k at *
  by_cases q1 : l0 = storeW
  · rw [if_pos q1]
    rw [decide_eq_true q1] at E1
    clear q1 CS CO E2
    go_enter Tryd.func16, Tryd.ntmps16
    go_wp2_with fail
    refine Calls.mono SP.out ?_
    rintro e W2 ⟨rfl, rfl⟩
    go_wp2_with fail
    refine Calls.mono CN.out ?_
    rintro e W3 ⟨rfl, hk, hx⟩
    go_wp2_with fail
    go_ret
    exact Stp.from ⟨rfl, hk, hx⟩ HB.out (by have := HL.out; omega) HL.out.2.2.2
  rw [if_neg q1]
  rw [decide_eq_false q1] at E1
  clear q1 CN
  by_cases q2 : l0 = nodeW
  · rw [if_pos q2]
    rw [decide_eq_true q2] at E2
    clear q2 CS
    go_enter Tryd.func16, Tryd.ntmps16
    go_wp2_with fail
    refine Calls.mono SP.out ?_
    rintro e W2 ⟨rfl, rfl⟩
    go_wp2_with fail
    refine Calls.mono CO.out ?_
    rintro e W3 ⟨rfl, hk, hx⟩
    go_wp2_with fail
    go_ret
    exact Stp.from ⟨rfl, hk, hx⟩ HB.out (by have := HL.out; omega) HL.out.2.2.2
  · rw [if_neg q2]
    rw [decide_eq_false q2] at E2
    clear q2 CO
    go_enter Tryd.func16, Tryd.ntmps16
    go_wp2_with fail
    refine Calls.mono SP.out ?_
    rintro e W2 ⟨rfl, rfl⟩
    go_wp2_with fail
    refine Calls.mono CS.out ?_
    rintro e W3 ⟨rfl, hk, hx⟩
    go_wp2_with fail
    go_ret
    exact Stp.from ⟨rfl, hk, hx⟩ HB.out (by have := HL.out; omega) HL.out.2.2.2
end Go.Proofs.YtanlnelfbfjelaaDoor
