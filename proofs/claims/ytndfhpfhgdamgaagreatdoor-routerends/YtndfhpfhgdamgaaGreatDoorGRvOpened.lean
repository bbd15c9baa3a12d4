import Derived.Test.YtndfhpfhgdamgaaGreatDoorGRvDesk
namespace Go.Proofs.YtndfhpfhgdamgaaGreatDoor.Cn
open Go.RowKit
theorem wp_apT {w : World} {o : Oper} {a : Act} {K : Act → World → Prop} {Q : Exit → Act → World → Prop} (x y : Operand) (ho : o.op = .call { callee := .builtin .append, args := #[x, y], argTypes := #[56, 56] }) (base : Nat) (v : Value) (L : List ByteArray) (hx : a.eval x = v) (hv : w.ownsRow base 9 1 v L.length (txs L)) (g : Nat) (m : ByteArray) (hy : a.eval y = .slice (some ⟨g, 0, none⟩) 1 1) (hg : w.heap[g]? = some (.cells #[.string m] 9)) (hl : L.length ≤ 8796093022200) (hb : base ≤ w.heap.size)
    (h : ∀ v' w', w'.ownsRow base 9 1 v' (L.length + 1) (txs (L ++ [m])) → w.grownBy w' v.ownBlock → (v'.ownBlock = v.ownBlock ∨ v'.ownBlock = some w.heap.size) → K (a.put o.dst v') w') : o.wp Tryz.prog a w K Q := by
  obtain ⟨v', w', hr, h2, h3, h5⟩ := run_apT o.type hv g m hg hl hb
  unfold Oper.wp execOp
  simp only [ho, resolve, invoke, builtin, Sem.run_bind, Sem.run_pure, Result.andThen_ok, List.map_toArray, List.map_cons, List.map_nil, hx, hy, hr]
  exact h v' w' h2 h3 h5
theorem wpList_apT {w : World} {ops : Array Oper} {rest : List Oper} {o : Oper} {a : Act} {Q : Exit → Act → World → Prop} (hgd : o.guard = none) (x y : Operand) (ho : o.op = .call { callee := .builtin .append, args := #[x, y], argTypes := #[56, 56] }) (base : Nat) (v : Value) (L : List ByteArray) (hx : a.eval x = v) (hv : w.ownsRow base 9 1 v L.length (txs L)) (g : Nat) (m : ByteArray) (hy : a.eval y = .slice (some ⟨g, 0, none⟩) 1 1) (hg : w.heap[g]? = some (.cells #[.string m] 9)) (hl : L.length ≤ 8796093022200) (hb : base ≤ w.heap.size)
    (h : ∀ v' w', w'.ownsRow base 9 1 v' (L.length + 1) (txs (L ++ [m])) → w.grownBy w' v.ownBlock → (v'.ownBlock = v.ownBlock ∨ v'.ownBlock = some w.heap.size) → wpList Tryz.prog ops Q rest (a.put o.dst v') w') : wpList Tryz.prog ops Q (o :: rest) a w :=
  wpList_plain hgd fun _ hK => wp_apT x y ho base v L hx hv g m hy hg hl hb (fun v' w' a1 a2 a3 => hK _ _ (h v' w' a1 a2 a3))
theorem wpList_apB {w : World} {ops : Array Oper} {rest : List Oper} {o : Oper} {a : Act} {Q : Exit → Act → World → Prop} (hgd : o.guard = none) (x y : Operand) (ho : o.op = .call { callee := .builtin .append, args := #[x, y], argTypes := #[61, 61] }) (base : Nat) (v : Value) (L : List Bool) (hx : a.eval x = v) (hv : w.ownsRow base 4 1 v L.length (bls L)) (g : Nat) (m : Bool) (hy : a.eval y = .slice (some ⟨g, 0, none⟩) 1 1) (hg : w.heap[g]? = some (.cells #[.bool m] 4)) (hl : L.length ≤ 1000000000000) (hb : base ≤ w.heap.size)
    (h : ∀ v' w', w'.ownsRow base 4 1 v' (L.length + 1) (bls (L ++ [m])) → w.grownBy w' v.ownBlock → (v'.ownBlock = v.ownBlock ∨ v'.ownBlock = some w.heap.size) → wpList Tryz.prog ops Q rest (a.put o.dst v') w') : wpList Tryz.prog ops Q (o :: rest) a w := by
  refine wpList_plain hgd fun K hK => ?_
  obtain ⟨v', w', hr, h2, h3, h5⟩ := run_apB o.type hv g m hg hl hb
  unfold Oper.wp execOp
  simp only [ho, resolve, invoke, builtin, Sem.run_bind, Sem.run_pure, Result.andThen_ok, List.map_toArray, List.map_cons, List.map_nil, hx, hy, hr]
  exact hK _ _ (h v' w' h2 h3 h5)
theorem fill_tx (m : ByteArray) : Instr.fill (fun i => some (i * 1, 1)) ((Array.range (1 * 1)).map ((Value.string ⟨#[]⟩).cells[· % (Value.string ⟨#[]⟩).cells.size]!)) [(0, .string m)] = some #[.string m] := by kernel_rfl
theorem wp_bsT {w : World} {o : Oper} {a : Act} {K : Act → World → Prop} {Q : Exit → Act → World → Prop} (x : Operand) (ho : o.op = .buildSlice 56 1 #[(0, x)]) (m : ByteArray) (hx : a.eval x = .string m)
    (h : K (a.put o.dst (.slice (some ⟨w.heap.size, 0, none⟩) 1 1)) (w.alloc (.cells #[.string m] 9))) : o.wp Tryz.prog a w K Q := by
  obtain ⟨i0, hi, hz0, hz1, hz2⟩ := mg_parts tx_infos
  refine wp_buildSlice 56 9 1 _ ho #[.string m] i0 _ Tryz.underlying56 hi hz0 (by rw [hz1]; decide) (by rw [hz1]; decide) ?_ h
  rw [hz1]
  simp only [List.map_toArray, List.map_cons, List.map_nil, hx]
  exact fill_tx m
/-- gets were opened -/
def Dk.opn (k : Dk) (ks : List ByteArray) : Dk := { k with keys := k.keys ++ ks, done := k.done ++ List.replicate ks.length false }
def Dk.wnt (k : Dk) (L : List Mg) : Dk := { k with went := k.went ++ L }
theorem opn_take {k : Dk} {ks : List ByteArray} {i : Nat} (h : i < ks.length) : k.opn (ks.take (i + 1)) = { k.opn (ks.take i) with keys := (k.opn (ks.take i)).keys ++ [ks[i]], done := (k.opn (ks.take i)).done ++ [false] } := by
  unfold Dk.opn
  simp only [List.length_take]
  rw [List.take_succ_eq_append_getElem h, ← List.append_assoc, show min (i + 1) ks.length = min i ks.length + 1 by omega, List.replicate_succ', ← List.append_assoc]
theorem DkX.appd {w w1 : World} {base B R : Nat} {vw vk vd vd' : Value} {k : Dk} (h : DkX w base B R vw vk vd k) (o7 : w1.ownsRow base 4 1 vd' (k.done.length + 1) (bls (k.done ++ [false]))) (g7 : w.grownBy w1 vd.ownBlock) (n7 : vd'.ownBlock = vd.ownBlock ∨ vd'.ownBlock = some w.heap.size) : ∃ da' dc', vd' = .slice da' (k.done.length + 1) dc' ∧ w1.cell? ⟨B, 3, none⟩ = some vd ∧ w1.frozen? ⟨B, 3, none⟩ = false ∧ Hid (DkX (w1.setCell ⟨B, 3, none⟩ vd') base B R vw vk vd' { k with done := k.done ++ [false] }) ∧ Hid (Kp w (w1.setCell ⟨B, 3, none⟩ vd') (DkS B vw vk vd)) ∧ Hid (∀ j, DkS B vw vk vd' j → DkS B vw vk vd j ∨ w.heap.size ≤ j) := by
  obtain ⟨da', dc', hv⟩ := own_sl o7
  obtain ⟨e7, x8, k8, s8⟩ := h.putd (L := k.done ++ [false]) (by rw [List.length_append]; exact o7) (Kp.of_grown g7 |>.mono (fun j e => e.symm)) (fun j e => by
    rcases n7 with r | r
    · exact Or.inl (r.symm.trans e)
    · rw [e] at r
      simp at r
      exact Or.inr (by omega))
  exact ⟨da', dc', hv, by rw [cell_row (e7.trans h.blk)]; rfl, fz_row (e7.trans h.blk) 3, x8, k8, s8⟩
set_option maxHeartbeats 16000000 in
set_option maxRecDepth 100000 in
set_option linter.unusedSimpArgs false in
set_option linter.unusedVariables false in
theorem opened_any {w : World} {base B R bo : Nat} {T : Nat → Prop} {k : Dk} {vo : Value} {L : List Mg} (h : DkAt w base T B R k) (ho : w.ownsRow bo 58 11 vo L.length (mgs L)) (hoT : ∀ j, vo.ownBlock = some j → ¬ T j) (t : Int) (ht : t = (k.keys.length : Int) + 1) (ao : Option Addr) (kb ko kcap : Nat) (ks : List ByteArray) (hk : KsAt w ao kb ko ks) (hkT : 0 < ks.length → ¬ T kb) (hL : L.length = ks.length) (hm : ∀ (i : Nat) (h1 : i < L.length) (h2 : i < ks.length), L[i].kind = 11 ∧ L[i].id = t + (i : Int) ∧ L[i].key = ks[i]) (hkl : k.keys.length ≤ 400000000000) (hdl : k.done.length = k.keys.length) (hwl : k.went.length ≤ 400000000000) (hksl : ks.length ≤ 1000000) (hb : base ≤ w.heap.size) :
    Calls Tryz.prog 43 #[.pointer (some ⟨B, 0, none⟩), .int .i64 t, .slice ao ks.length kcap, vo] w fun e w' => ∃ T', e = .returned (.bool true) ∧ DkAt w' base T' B R ((k.opn ks).wnt L) ∧ Kp w w' T ∧ ∀ j, T' j → T j ∨ w.heap.size ≤ j := by
  obtain ⟨oa, oc, hvo⟩ := own_sl ho
  subst hvo
  subst ht
  rw [hL] at ho hoT ⊢
  have HD := hide h
  have HO := hide ho
  have HOT := hide hoT
  have HKS := hide hk
  have HKT := hide hkT
  have HM := hide hm
  have c2 : ∃ ka kc, w.cell? ⟨B, 2, none⟩ = some (.slice ka k.keys.length kc) := by
    obtain ⟨vw, vk, vd, hx, hT⟩ := h
    obtain ⟨ka, kc, hvk⟩ := own_sl hx.fk
    exact ⟨ka, kc, by rw [cell_row hx.blk, hvk]; rfl⟩
  obtain ⟨ka0, kc0, c2⟩ := c2
  have hw := wrap_in (x := (k.keys.length : Int) + 1) (by omega) (by omega)
  have HLh := hide hL
  clear h ho hoT hk hkT hm hL
  go_enter Tryz.func43, Tryz.ntmps43
  go_upto_region 3 with fail
  clear c2 hw
  go_wp2_with fail
  go_loopw [9] (fun vi wr => ∃ (i : Nat), i ≤ ks.length ∧ vi = .int .i64 (i : Int) ∧ ∃ T' : Nat → Prop, DkAt wr base T' B R (k.opn (ks.take i)) ∧ Kp w wr T ∧ ∀ j, T' j → T j ∨ w.heap.size ≤ j) (fun vi _ => ks.length - (intOf vi).toNat)
  case atStart =>
    refine ⟨0, Nat.zero_le _, rfl, T, ?_, Kp.refl _ _, fun j q => Or.inl q⟩
    have : k.opn (ks.take 0) = k := by cases k; simp [Dk.opn]
    rw [this]
    exact HD.out
  case round =>
    obtain ⟨i, hi, rfl, T', hR, hKr, hTs⟩ := hrel
    have KR := hide hKr
    have TS := hide hTs
    by_cases hin : i < ks.length
    case pos =>
      have hii : (i : Int) < (ks.length : Int) := by omega
      have hiL : i < L.length := by have := HLh.out; omega
      have hst := opn_take (k := k) hin
      have kcw : Hid (w.cell? ⟨kb, ko + i, none⟩ = some (.string ks[i])) := HKS.out.cell i hin
      have HMi := hide (HM.out i hiL hin)
      have hao := HKS.out.at0 (by omega)
      subst hao
      have kbw : Hid (kb < w.heap.size) := World.block_lt_of_cell? w _ kcw.out
      have kbT : Hid (¬ T kb) := HKT.out (by omega)
      have hkk : (k.opn (ks.take i)).keys.length = k.keys.length + i ∧ (k.opn (ks.take i)).done.length = k.done.length + i := by
        unfold Dk.opn
        simp only [List.length_append, List.length_take, List.length_replicate]
        omega
      generalize ks[i] = key at *
      generalize hkkd : k.opn (ks.take i) = kk at *
      have hKL : Hid (kk.keys.length ≤ 8796093022200) := by show _ ≤ _; omega
      have hDL : Hid (kk.done.length ≤ 1000000000000) := by show _ ≤ _; omega
      obtain ⟨vw, vk, vd, hx, hT'⟩ := hR
      obtain ⟨ka, kc, hvk⟩ := own_sl hx.fk
      obtain ⟨da, dc, hvd⟩ := own_sl hx.fd
      subst hvk
      subst hvd
      have kcr : wr.cell? ⟨kb, ko + i, none⟩ = some (.string key) := (hKr.cell kbw.out kbT.out).trans kcw.out
      have KBN : Hid (∀ j, DkS B vw (.slice ka kk.keys.length kc) (.slice da kk.done.length dc) j → j ≠ kb) := fun j q e => by
        rcases hTs j ((hT' j).2 q) with r | r
        · exact kbT.out (e ▸ r)
        · have := kbw.out; omega
      have o1 : wr.cell? ⟨B, 2, none⟩ = some (.slice ka kk.keys.length kc) := by rw [cell_row hx.blk]; rfl
      obtain ⟨J, hJ⟩ : ∃ J, J = wr.heap.size := ⟨_, rfl⟩
      obtain ⟨W3, hW3⟩ : ∃ W3, W3 = (wr.drew).alloc (.cells #[.string key] 9) := ⟨_, rfl⟩
      have ky3 : Kp wr W3 non := by rw [hW3]; exact ((Kp.refl wr non).drew).alloc _
      have J3 : Hid (W3.heap[J]? = some (.cells #[.string key] 9)) := by rw [hW3, hJ]; exact heap_last _ _
      have X3 := hide (hx.kp ky3 (fun _ _ f => f))
      have kbr : kb < wr.heap.size := Nat.lt_of_lt_of_le kbw.out hKr.size
      have kbl : Hid (kb < W3.heap.size) := Nat.lt_of_lt_of_le kbr ky3.size
      have C1 : Hid (wr.cell? ⟨kb, ko + i, none⟩ = some (.string key)) := kcr
      have D3 : Hid (W3.cell? ⟨kb, ko + i, none⟩ = some (.string key)) := (ky3.cell kbr (fun f => f)).trans kcr
      have C3 : Hid (W3.cell? ⟨B, 2, none⟩ = some (.slice ka kk.keys.length kc)) := (ky3.cell (blk_lt hx.blk) (fun f => f)).trans o1
      have KY3 := hide ky3
      have hJb : Hid (base ≤ W3.heap.size) := Nat.le_trans hb (Nat.le_trans hKr.size ky3.size)
      have HT' := hide hT'
      have HST := hide hst
      clear hx hT' hKr hTs ky3 hst hkk kcr kbr hkkd
      go_upto_region 6 with fail
      refine wp_region_held_drew (S := fun X => X.cell? ⟨kb, ko + i, none⟩ = some (.string key)) (by kernel_rfl) C1.out (fun hHeld => ?_)
      refine wpAnyH_take (i := 0) (v := (.pointer (some ⟨B, 0, none⟩))) rfl (by kernel_rfl) (by kernel_rfl) (by kernel_rfl) (fun _ _ _ h => h) (Or.inl ⟨by rfl, ?_⟩) (by assumption) ?_
      · intro w' hSw
        (try dsimp only at hSw)
        go_simp
      (try simp only [Act.put, List.getElem_toArray, List.getElem_cons_zero, List.getElem_cons_succ, List.setIfInBounds_toArray, List.set_cons_zero, List.set_cons_succ])
      refine wpAnyH_take (i := 1) (v := (.pointer (some ⟨B, 0, none⟩))) rfl (by kernel_rfl) (by kernel_rfl) (by kernel_rfl) (fun _ _ _ h => h) (Or.inl ⟨by rfl, ?_⟩) (by assumption) ?_
      · intro w' hSw
        (try dsimp only at hSw)
        go_simp
      (try simp only [Act.put, List.getElem_toArray, List.getElem_cons_zero, List.getElem_cons_succ, List.setIfInBounds_toArray, List.set_cons_zero, List.set_cons_succ])
      refine wpAnyH_take (i := 2) (v := (.pointer (some ⟨B, 0, none⟩))) rfl (by kernel_rfl) (by kernel_rfl) (by kernel_rfl) (fun _ _ _ h => h) (Or.inl ⟨by rfl, ?_⟩) (by assumption) ?_
      · intro w' hSw
        (try dsimp only at hSw)
        go_simp
      (try simp only [Act.put, List.getElem_toArray, List.getElem_cons_zero, List.getElem_cons_succ, List.setIfInBounds_toArray, List.set_cons_zero, List.set_cons_succ])
      refine wpAnyH_take (i := 3) (v := (.pointer (some ⟨B, 2, none⟩))) rfl (by kernel_rfl) (by kernel_rfl) (by kernel_rfl) (fun _ _ _ h => h) (Or.inl ⟨by rfl, ?_⟩) (by assumption) ?_
      · intro w' hSw
        (try dsimp only at hSw)
        go_simp
      (try simp only [Act.put, List.getElem_toArray, List.getElem_cons_zero, List.getElem_cons_succ, List.setIfInBounds_toArray, List.set_cons_zero, List.set_cons_succ])
      refine wpAnyH_take (i := 5) (v := (.slice (some ⟨kb, ko, none⟩) ks.length kcap)) rfl (by kernel_rfl) (by kernel_rfl) (by kernel_rfl) (fun _ _ _ h => h) (Or.inl ⟨by rfl, ?_⟩) (by assumption) ?_
      · intro w' hSw
        (try dsimp only at hSw)
        go_simp
      (try simp only [Act.put, List.getElem_toArray, List.getElem_cons_zero, List.getElem_cons_succ, List.setIfInBounds_toArray, List.set_cons_zero, List.set_cons_succ])
      refine wpAnyH_take (i := 6) (v := (.int .i64 (i : Int))) rfl (by kernel_rfl) (by kernel_rfl) (by kernel_rfl) (fun _ _ _ h => h) (Or.inl ⟨by rfl, ?_⟩) (by assumption) ?_
      · intro w' hSw
        (try dsimp only at hSw)
        go_simp
      (try simp only [Act.put, List.getElem_toArray, List.getElem_cons_zero, List.getElem_cons_succ, List.setIfInBounds_toArray, List.set_cons_zero, List.set_cons_succ])
      refine wpAnyH_take (i := 7) (v := (.pointer (some ⟨kb, ko + i, none⟩))) rfl (by kernel_rfl) (by kernel_rfl) (by kernel_rfl) (fun _ _ _ h => h) (Or.inl ⟨by rfl, ?_⟩) (by assumption) ?_
      · intro w' hSw
        (try dsimp only at hSw)
        go_simp
      (try simp only [Act.put, List.getElem_toArray, List.getElem_cons_zero, List.getElem_cons_succ, List.setIfInBounds_toArray, List.set_cons_zero, List.set_cons_succ])
      refine wpAnyH_take (i := 8) (v := (.string key)) rfl (by kernel_rfl) (by kernel_rfl) (by kernel_rfl) (fun _ _ _ h => h) (Or.inl ⟨by rfl, ?_⟩) (by assumption) ?_
      · intro w' hSw
        (try dsimp only at hSw)
        go_simp
      (try simp only [Act.put, List.getElem_toArray, List.getElem_cons_zero, List.getElem_cons_succ, List.setIfInBounds_toArray, List.set_cons_zero, List.set_cons_succ])
      refine wpAnyH_ready (rs := [4, 9]) (by kernel_rfl) (by simp) ?_
      refine AllReadyH.cons rfl (fun K hK => ?_) (AllReadyH.cons rfl (fun K hK => ?_) AllReadyH.nil)
      · go_simp
        refine hK.out _ _ (C1.out) (fun hHeld => ?_)
        clear hK
        (try simp only [Act.put, List.setIfInBounds_toArray, List.set_cons_zero, List.set_cons_succ])
        refine wpAnyH_ready (rs := [9]) (by kernel_rfl) (by simp) ?_
        refine AllReadyH.cons rfl (fun K hK => ?_) AllReadyH.nil
        refine wp_bsT (.tmp 39) rfl key rfl ?_
        rw [← hW3]
        clear hW3
        refine hK.out _ _ (D3.out) (fun hHeld => ?_)
        clear hK
        (try simp only [Act.put, List.setIfInBounds_toArray, List.set_cons_zero, List.set_cons_succ])
        clear o1
        refine wpAnyH_ready (rs := [10]) (by kernel_rfl) (by simp) ?_
        refine AllReadyH.cons rfl (fun K hK => ?_) AllReadyH.nil
        refine wp_apT (.tmp 35) (.tmp 40) rfl base (.slice ka kk.keys.length kc) kk.keys rfl X3.out.fk J key (by rw [hJ]; rfl) J3.out hKL.out hJb.out ?_
        intro vk' W4 ho hg hnb
        obtain ⟨oa', oc', hvk'⟩ := own_sl ho
        subst hvk'
        obtain ⟨e4, n5, k5, s5⟩ := X3.out.putk (L := kk.keys ++ [key]) (by rw [List.length_append]; exact ho) (Kp.of_grown hg |>.mono (fun j e => e.symm)) (fun j e => by
          rcases hnb with r | r
          · exact Or.inl (r.symm.trans e)
          · rw [e] at r
            simp at r
            exact Or.inr (by omega))
        have kg := Kp.of_grown hg
        have c4 : W4.cell? ⟨B, 2, none⟩ = some (.slice ka kk.keys.length kc) := by rw [cell_row (e4.trans X3.out.blk)]; rfl
        have f4 : W4.frozen? ⟨B, 2, none⟩ = false := fz_row (e4.trans X3.out.blk) 2
        have D4 : Hid (W4.cell? ⟨kb, ko + i, none⟩ = some (.string key)) := (kg.cell kbl.out (fun e => KBN.out kb (Or.inr (Or.inr (Or.inl e.symm))) rfl)).trans D3.out
        have ks : Kp W4 (W4.setCell ⟨B, 2, none⟩ (.slice oa' (kk.keys.length + 1) oc')) (fun j => j = B) := (Kp.refl W4 (fun j => j = B)).set (Or.inl rfl) _ _
        have D5 : Hid ((W4.setCell ⟨B, 2, none⟩ (.slice oa' (kk.keys.length + 1) oc')).cell? ⟨kb, ko + i, none⟩ = some (.string key)) := (ks.cell (Nat.lt_of_lt_of_le kbl.out kg.size) (fun e => KBN.out kb (Or.inl e) rfl)).trans D4.out
        have X5 := hide n5
        have K5 := hide k5
        have S5 := hide s5
        clear ho hg hnb n5 k5 s5 kg e4 J3 ks
        refine hK.out _ _ (D4.out) (fun hHeld => ?_)
        clear hK
        (try simp only [Act.put, List.setIfInBounds_toArray, List.set_cons_zero, List.set_cons_succ])
        refine wpAnyH_take (i := 11) (v := (.pointer (some ⟨B, 0, none⟩))) rfl (by kernel_rfl) (by kernel_rfl) (by kernel_rfl) (fun _ _ _ h => h) (Or.inl ⟨by rfl, ?_⟩) (by assumption) ?_
        · intro w' hSw
          (try dsimp only at hSw)
          go_simp
        (try simp only [Act.put, List.getElem_toArray, List.getElem_cons_zero, List.getElem_cons_succ, List.setIfInBounds_toArray, List.set_cons_zero, List.set_cons_succ])
        refine wpAnyH_take (i := 12) (v := (.pointer (some ⟨B, 2, none⟩))) rfl (by kernel_rfl) (by kernel_rfl) (by kernel_rfl) (fun _ _ _ h => h) (Or.inl ⟨by rfl, ?_⟩) (by assumption) ?_
        · intro w' hSw
          (try dsimp only at hSw)
          go_simp
        (try simp only [Act.put, List.getElem_toArray, List.getElem_cons_zero, List.getElem_cons_succ, List.setIfInBounds_toArray, List.set_cons_zero, List.set_cons_succ])
        refine wpAnyH_ready (rs := [13]) (by kernel_rfl) (by simp) ?_
        refine AllReadyH.cons rfl (fun K hK => ?_) AllReadyH.nil
        go_simp
        obtain ⟨W5, hW5⟩ : ∃ W5, W5 = W4.setCell ⟨B, 2, none⟩ (.slice oa' (kk.keys.length + 1) oc') := ⟨_, rfl⟩
        rw [← hW5] at D5 X5 K5 ⊢
        clear hW5 c4 f4
        refine hK.out _ _ (D5.out) (fun hHeld => ?_)
        clear hK
        (try simp only [Act.put, List.setIfInBounds_toArray, List.set_cons_zero, List.set_cons_succ])
        refine wpAnyH_done (by kernel_rfl) ?_ _
        have K6 : Hid (Kp w W5 T) := (KR.out.trans KY3.out (fun _ f => f.elim)).trans K5.out (fun j q => TS.out j ((HT'.out j).2 q))
        have S6 : Hid (∀ j, DkS B vw (.slice oa' (kk.keys.length + 1) oc') (.slice da kk.done.length dc) j → T j ∨ w.heap.size ≤ j) := fun j q => by
          have z1 := KR.out.size
          have z3 := KY3.out.size
          rcases S5.out j q with q | q
          · exact TS.out j ((HT'.out j).2 q)
          · exact Or.inr (by omega)
        have d3 : W5.cell? ⟨B, 3, none⟩ = some (.slice da kk.done.length dc) := by rw [cell_row X5.out.blk]; rfl
        obtain ⟨W6, hW6⟩ : ∃ W6, W6 = W5.alloc (.cells #[.bool false] 4) := ⟨_, rfl⟩
        have k6 : Kp W5 W6 non := by rw [hW6]; exact (Kp.refl W5 non).alloc _
        have G6 : Hid (W6.heap[W5.heap.size]? = some (.cells #[.bool false] 4)) := by rw [hW6]; exact heap_last _ _
        have X6 := hide (X5.out.kp k6 (fun _ _ f => f))
        have K6' : Hid (Kp w W6 T) := K6.out.trans k6 (fun _ f => f.elim)
        have hb6 : Hid (base ≤ W6.heap.size) := Nat.le_trans hb K6'.out.size
        have hz6 : Hid (W5.heap.size ≤ W6.heap.size ∧ w.heap.size ≤ W5.heap.size) := ⟨k6.size, K6.out.size⟩
        clear k6 D5 D4 D3 K5 S5 X3
        go_upto_region 7 with fail
        go_wp2_with (at_builtin; rw [← hW6]; refine wpList_apB rfl (.tmp 48) (.tmp 49) rfl base (.slice da kk.done.length dc) kk.done rfl X6.out.fd W5.heap.size false rfl G6.out hDL.out hb6.out ?_; intro vd' W7 o7 g7 n7; obtain ⟨da', dc', rfl, c7, f7, X8, K8, S8⟩ := X6.out.appd o7 g7 n7; clear o7 g7 n7)
        obtain ⟨W8, hW8⟩ : ∃ W8, W8 = W7.setCell ⟨B, 3, none⟩ (.slice da' (kk.done.length + 1) dc') := ⟨_, rfl⟩
        rw [← hW8] at X8 K8
        have K9 : Hid (Kp w W8 T) := K6'.out.trans K8.out (fun j q => S6.out j q)
        have S9 : Hid (∀ j, DkS B vw (.slice oa' (kk.keys.length + 1) oc') (.slice da' (kk.done.length + 1) dc') j → T j ∨ w.heap.size ≤ j) := fun j q => by
          rcases S8.out j q with q | q
          · exact S6.out j q
          · exact Or.inr (by have := hz6.out; omega)
        have ow8 := own_kp HO.out K9.out HOT.out
        obtain ⟨og, ogc, hog⟩ := own_g HO.out (by omega)
        injection hog with hog _ hogc
        subst hog
        subst hogc
        have RGm := mg_range ow8 hiL HLh.out.symm
        have e0 : W8.cell? ⟨og, i * 11, none⟩ = some (.int .i64 11) := by
          have := RGm 0 _ rfl
          rw [Nat.add_zero] at this
          rw [this]
          rw [HMi.out.1]
        have e3 : W8.cell? ⟨og, i * 11 + 3, none⟩ = some (.int .i64 ((k.keys.length : Int) + 1 + (i : Int))) := by
          have := RGm 3 _ rfl
          rw [this]
          rw [HMi.out.2.1]
        have e9 : W8.cell? ⟨og, i * 11 + 9, none⟩ = some (.string key) := by
          have := RGm 9 _ rfl
          rw [this]
          rw [HMi.out.2.2]
        have ek8 : W8.cell? ⟨kb, ko + i, none⟩ = some (.string key) := (K9.out.cell kbw.out kbT.out).trans kcw.out
        have hwt := wrap_in (x := (k.keys.length : Int) + 1 + (i : Int)) (by omega) (by omega)
        clear RGm ow8
        rw [← hW8]
        clear hW8 c7 f7 d3 hdl HM HKT HD HKS
        go_quiet (fail)
        have kd := (Kp.refl W8 non).drewN nq
        have XF := hide (X8.out.kp kd (fun _ _ f => f))
        have KF : Hid (Kp w (W8.drewN nq) T) := K9.out.trans kd (fun _ f => f.elim)
        clear kd e0 e3 e9 ek8 hwt
        go_wp2_with fail
        go_roundw
        case rel => exact ⟨i + 1, by omega, by go_num, _, by rw [HST.out]; exact ⟨_, _, _, XF.out, fun _ => Iff.rfl⟩, KF.out, S9.out⟩
        case measure => simp [intOf]; omega
      · skip
        refine wp_bsT (.tmp 39) rfl key rfl ?_
        rw [← hW3]
        clear hW3
        refine hK.out _ _ (D3.out) (fun hHeld => ?_)
        clear hK
        (try simp only [Act.put, List.setIfInBounds_toArray, List.set_cons_zero, List.set_cons_succ])
        clear o1
        refine wpAnyH_ready (rs := [4]) (by kernel_rfl) (by simp) ?_
        refine AllReadyH.cons rfl (fun K hK => ?_) AllReadyH.nil
        have o3 := C3.out
        go_simp
        clear o3
        refine hK.out _ _ (D3.out) (fun hHeld => ?_)
        clear hK
        (try simp only [Act.put, List.setIfInBounds_toArray, List.set_cons_zero, List.set_cons_succ])
        refine wpAnyH_ready (rs := [10]) (by kernel_rfl) (by simp) ?_
        refine AllReadyH.cons rfl (fun K hK => ?_) AllReadyH.nil
        refine wp_apT (.tmp 35) (.tmp 40) rfl base (.slice ka kk.keys.length kc) kk.keys rfl X3.out.fk J key (by rw [hJ]; rfl) J3.out hKL.out hJb.out ?_
        intro vk' W4 ho hg hnb
        obtain ⟨oa', oc', hvk'⟩ := own_sl ho
        subst hvk'
        obtain ⟨e4, n5, k5, s5⟩ := X3.out.putk (L := kk.keys ++ [key]) (by rw [List.length_append]; exact ho) (Kp.of_grown hg |>.mono (fun j e => e.symm)) (fun j e => by
          rcases hnb with r | r
          · exact Or.inl (r.symm.trans e)
          · rw [e] at r
            simp at r
            exact Or.inr (by omega))
        have kg := Kp.of_grown hg
        have c4 : W4.cell? ⟨B, 2, none⟩ = some (.slice ka kk.keys.length kc) := by rw [cell_row (e4.trans X3.out.blk)]; rfl
        have f4 : W4.frozen? ⟨B, 2, none⟩ = false := fz_row (e4.trans X3.out.blk) 2
        have D4 : Hid (W4.cell? ⟨kb, ko + i, none⟩ = some (.string key)) := (kg.cell kbl.out (fun e => KBN.out kb (Or.inr (Or.inr (Or.inl e.symm))) rfl)).trans D3.out
        have ks : Kp W4 (W4.setCell ⟨B, 2, none⟩ (.slice oa' (kk.keys.length + 1) oc')) (fun j => j = B) := (Kp.refl W4 (fun j => j = B)).set (Or.inl rfl) _ _
        have D5 : Hid ((W4.setCell ⟨B, 2, none⟩ (.slice oa' (kk.keys.length + 1) oc')).cell? ⟨kb, ko + i, none⟩ = some (.string key)) := (ks.cell (Nat.lt_of_lt_of_le kbl.out kg.size) (fun e => KBN.out kb (Or.inl e) rfl)).trans D4.out
        have X5 := hide n5
        have K5 := hide k5
        have S5 := hide s5
        clear ho hg hnb n5 k5 s5 kg e4 J3 ks
        refine hK.out _ _ (D4.out) (fun hHeld => ?_)
        clear hK
        (try simp only [Act.put, List.setIfInBounds_toArray, List.set_cons_zero, List.set_cons_succ])
        refine wpAnyH_take (i := 11) (v := (.pointer (some ⟨B, 0, none⟩))) rfl (by kernel_rfl) (by kernel_rfl) (by kernel_rfl) (fun _ _ _ h => h) (Or.inl ⟨by rfl, ?_⟩) (by assumption) ?_
        · intro w' hSw
          (try dsimp only at hSw)
          go_simp
        (try simp only [Act.put, List.getElem_toArray, List.getElem_cons_zero, List.getElem_cons_succ, List.setIfInBounds_toArray, List.set_cons_zero, List.set_cons_succ])
        refine wpAnyH_take (i := 12) (v := (.pointer (some ⟨B, 2, none⟩))) rfl (by kernel_rfl) (by kernel_rfl) (by kernel_rfl) (fun _ _ _ h => h) (Or.inl ⟨by rfl, ?_⟩) (by assumption) ?_
        · intro w' hSw
          (try dsimp only at hSw)
          go_simp
        (try simp only [Act.put, List.getElem_toArray, List.getElem_cons_zero, List.getElem_cons_succ, List.setIfInBounds_toArray, List.set_cons_zero, List.set_cons_succ])
        refine wpAnyH_ready (rs := [13]) (by kernel_rfl) (by simp) ?_
        refine AllReadyH.cons rfl (fun K hK => ?_) AllReadyH.nil
        go_simp
        obtain ⟨W5, hW5⟩ : ∃ W5, W5 = W4.setCell ⟨B, 2, none⟩ (.slice oa' (kk.keys.length + 1) oc') := ⟨_, rfl⟩
        rw [← hW5] at D5 X5 K5 ⊢
        clear hW5 c4 f4
        refine hK.out _ _ (D5.out) (fun hHeld => ?_)
        clear hK
        (try simp only [Act.put, List.setIfInBounds_toArray, List.set_cons_zero, List.set_cons_succ])
        refine wpAnyH_done (by kernel_rfl) ?_ _
        have K6 : Hid (Kp w W5 T) := (KR.out.trans KY3.out (fun _ f => f.elim)).trans K5.out (fun j q => TS.out j ((HT'.out j).2 q))
        have S6 : Hid (∀ j, DkS B vw (.slice oa' (kk.keys.length + 1) oc') (.slice da kk.done.length dc) j → T j ∨ w.heap.size ≤ j) := fun j q => by
          have z1 := KR.out.size
          have z3 := KY3.out.size
          rcases S5.out j q with q | q
          · exact TS.out j ((HT'.out j).2 q)
          · exact Or.inr (by omega)
        have d3 : W5.cell? ⟨B, 3, none⟩ = some (.slice da kk.done.length dc) := by rw [cell_row X5.out.blk]; rfl
        obtain ⟨W6, hW6⟩ : ∃ W6, W6 = W5.alloc (.cells #[.bool false] 4) := ⟨_, rfl⟩
        have k6 : Kp W5 W6 non := by rw [hW6]; exact (Kp.refl W5 non).alloc _
        have G6 : Hid (W6.heap[W5.heap.size]? = some (.cells #[.bool false] 4)) := by rw [hW6]; exact heap_last _ _
        have X6 := hide (X5.out.kp k6 (fun _ _ f => f))
        have K6' : Hid (Kp w W6 T) := K6.out.trans k6 (fun _ f => f.elim)
        have hb6 : Hid (base ≤ W6.heap.size) := Nat.le_trans hb K6'.out.size
        have hz6 : Hid (W5.heap.size ≤ W6.heap.size ∧ w.heap.size ≤ W5.heap.size) := ⟨k6.size, K6.out.size⟩
        clear k6 D5 D4 D3 K5 S5 X3
        go_upto_region 7 with fail
        go_wp2_with (at_builtin; rw [← hW6]; refine wpList_apB rfl (.tmp 48) (.tmp 49) rfl base (.slice da kk.done.length dc) kk.done rfl X6.out.fd W5.heap.size false rfl G6.out hDL.out hb6.out ?_; intro vd' W7 o7 g7 n7; obtain ⟨da', dc', rfl, c7, f7, X8, K8, S8⟩ := X6.out.appd o7 g7 n7; clear o7 g7 n7)
        obtain ⟨W8, hW8⟩ : ∃ W8, W8 = W7.setCell ⟨B, 3, none⟩ (.slice da' (kk.done.length + 1) dc') := ⟨_, rfl⟩
        rw [← hW8] at X8 K8
        have K9 : Hid (Kp w W8 T) := K6'.out.trans K8.out (fun j q => S6.out j q)
        have S9 : Hid (∀ j, DkS B vw (.slice oa' (kk.keys.length + 1) oc') (.slice da' (kk.done.length + 1) dc') j → T j ∨ w.heap.size ≤ j) := fun j q => by
          rcases S8.out j q with q | q
          · exact S6.out j q
          · exact Or.inr (by have := hz6.out; omega)
        have ow8 := own_kp HO.out K9.out HOT.out
        obtain ⟨og, ogc, hog⟩ := own_g HO.out (by omega)
        injection hog with hog _ hogc
        subst hog
        subst hogc
        have RGm := mg_range ow8 hiL HLh.out.symm
        have e0 : W8.cell? ⟨og, i * 11, none⟩ = some (.int .i64 11) := by
          have := RGm 0 _ rfl
          rw [Nat.add_zero] at this
          rw [this]
          rw [HMi.out.1]
        have e3 : W8.cell? ⟨og, i * 11 + 3, none⟩ = some (.int .i64 ((k.keys.length : Int) + 1 + (i : Int))) := by
          have := RGm 3 _ rfl
          rw [this]
          rw [HMi.out.2.1]
        have e9 : W8.cell? ⟨og, i * 11 + 9, none⟩ = some (.string key) := by
          have := RGm 9 _ rfl
          rw [this]
          rw [HMi.out.2.2]
        have ek8 : W8.cell? ⟨kb, ko + i, none⟩ = some (.string key) := (K9.out.cell kbw.out kbT.out).trans kcw.out
        have hwt := wrap_in (x := (k.keys.length : Int) + 1 + (i : Int)) (by omega) (by omega)
        clear RGm ow8
        rw [← hW8]
        clear hW8 c7 f7 d3 hdl HM HKT HD HKS
        go_quiet (fail)
        have kd := (Kp.refl W8 non).drewN nq
        have XF := hide (X8.out.kp kd (fun _ _ f => f))
        have KF : Hid (Kp w (W8.drewN nq) T) := K9.out.trans kd (fun _ f => f.elim)
        clear kd e0 e3 e9 ek8 hwt
        go_wp2_with fail
        go_roundw
        case rel => exact ⟨i + 1, by omega, by go_num, _, by rw [HST.out]; exact ⟨_, _, _, XF.out, fun _ => Iff.rfl⟩, KF.out, S9.out⟩
        case measure => simp [intOf]; omega
    case neg =>
      obtain rfl : i = ks.length := by omega
      rw [List.take_length] at hR
      obtain ⟨vw, vk, vd, hx, hT'⟩ := hR
      obtain ⟨wa, wc, hvw⟩ := own_sl hx.fw
      subst hvw
      have hwk : (k.opn ks).went = k.went := rfl
      have b1 : wr.cell? ⟨B, 1, none⟩ = some (.slice wa (k.opn ks).went.length wc) := by rw [cell_row hx.blk]; rfl
      have JO := hide (joined_any hx.fw (by rw [HLh.out]; exact own_kp HO.out hKr HOT.out) (by rw [hwk]; have := HLh.out; omega))
      have HX := hide hx
      have HT' := hide hT'
      generalize hkke : k.opn ks = kk at *
      have HKK := hide hkke
      clear hkke
      clear hx hT' hKr hTs HKS hwk HM HKT HD hdl hkl hwl hksl
      go_upto_region 10 with fail
      go_wp2_with fail
      refine Calls.mono JO.out ?_
      rintro e W5 ⟨u, rfl, o5, b5⟩
      obtain ⟨ua, uc, hu⟩ := own_sl o5
      subst hu
      have k5 := Kp.of_below b5 non
      have ug : ∀ j, (Value.slice ua (kk.went ++ L).length uc).ownBlock = some j → wr.heap.size ≤ j := fun j q => own_ge o5 q
      have gb : base ≤ wr.heap.size := Nat.le_trans hb KR.out.size
      obtain ⟨e6, x6, k6, s6⟩ := HX.out.putw (L := kk.went ++ L) (own_base o5 gb) (k5.mono (fun _ f => f.elim)) (fun j e => Or.inr (ug j e))
      have c6 : W5.cell? ⟨B, 1, none⟩ = some (.slice wa kk.went.length wc) := by rw [cell_row (e6.trans HX.out.blk)]; rfl
      have f6 : W5.frozen? ⟨B, 1, none⟩ = false := fz_row (e6.trans HX.out.blk) 1
      have X6 := hide x6
      have K6 : Hid (Kp w _ T) := KR.out.trans k6 (fun j q => TS.out j ((HT'.out j).2 q))
      have S6 : Hid (∀ j, DkS B (.slice ua (kk.went ++ L).length uc) vk vd j → T j ∨ w.heap.size ≤ j) := fun j q => by
        have := KR.out.size
        rcases s6 j q with q | q
        · exact TS.out j ((HT'.out j).2 q)
        · exact Or.inr (by omega)
      generalize hwl' : (kk.went ++ L).length = wl at *
      clear o5 b5 k5 ug e6 x6 k6 s6 JO b1
      go_wp2_with fail
      go_ret
      exact ⟨_, rfl, by rw [HKK.out]; exact ⟨_, _, _, X6.out, fun _ => Iff.rfl⟩, K6.out, S6.out⟩
end Go.Proofs.YtndfhpfhgdamgaaGreatDoor.Cn
namespace Go.Proofs.YtndfhpfhgdamgaaGreatDoor.Cn
open Go.RowKit
set_option maxHeartbeats 8000000 in
set_option maxRecDepth 100000 in
set_option linter.unusedSimpArgs false in
set_option linter.unusedVariables false in
theorem texts_any {w : World} (ao : Option Addr) (kb ko kcap : Nat) (ks : List ByteArray) (hk : KsAt w ao kb ko ks) (hl : ks.length ≤ 8796093022200) :
    Calls Tryz.prog 22 #[.slice ao ks.length kcap] w fun e w' => ∃ v', e = .returned v' ∧ w'.ownsRow w.heap.size 9 1 v' ks.length (txs ks) ∧ Below w.heap.size w w' := by
  have HK := hide hk
  clear hk
  go_enter Tryz.func22, Tryz.ntmps22
  go_wp2_with fail
  go_loopw [3, 4] (fun v3 vi wr => ∃ (i : Nat) (a3 : Option Addr) (c3 : Nat) (QQ : List ByteArray), i ≤ ks.length ∧ vi = .int .i64 (i : Int) ∧ QQ = ks.take i ∧ v3 = .slice a3 QQ.length c3 ∧ wr.ownsRow w.heap.size 9 1 (.slice a3 QQ.length c3) QQ.length (txs QQ) ∧ Kp w wr non) (fun _ vi _ => ks.length - (intOf vi).toNat)
  case atStart => exact ⟨0, none, 0, [], Nat.zero_le _, rfl, rfl, rfl, World.ownsRow_nil _ _ _ _, Kp.refl _ _⟩
  case round =>
    obtain ⟨i, a3, c3, QQ, hi, rfl, hQ, rfl, ho, hk⟩ := hrel
    have HQ := hide hQ
    have HO := hide ho
    have KR := hide hk
    clear hQ ho hk
    by_cases hin : i < ks.length
    case pos =>
      have hii : (i : Int) < (ks.length : Int) := by omega
      have hQl : QQ.length ≤ 8796093022200 := by
        rw [HQ.out, List.length_take]
        omega
      have cw := HK.out.cell i hin
      obtain rfl := HK.out.at0 (by omega)
      have cr := (KR.out.cell (World.block_lt_of_cell? w _ cw) (fun f => f)).trans cw
      have HQ1 : Hid (QQ ++ [ks[i]] = ks.take (i + 1)) := by show _ = _; rw [HQ.out, List.take_succ_eq_append_getElem hin]
      generalize ks[i] = key at *
      obtain ⟨W4, hW4⟩ : ∃ W4, W4 = wr.alloc (.cells #[.string key] 9) := ⟨_, rfl⟩
      have k4 : Kp wr W4 non := by rw [hW4]; exact (Kp.refl wr non).alloc _
      have GG : Hid (W4.heap[wr.heap.size]? = some (.cells #[.string key] 9)) := by rw [hW4]; exact heap_last _ _
      have O4 := hide (own_kp HO.out k4 (fun _ _ f => f))
      have K4 : Hid (Kp w W4 non) := KR.out.trans k4 (fun _ f => f.elim)
      clear k4 cw
      go_wp2_with (at_builtin; rw [← hW4]; refine wpList_apT rfl (.tmp 11) (.tmp 16) rfl w.heap.size (.slice a3 QQ.length c3) QQ rfl O4.out wr.heap.size key rfl GG.out hQl K4.out.size ?_; intro v' w' o2 g2 _; have O5 := hide o2; have K5 : Hid (Kp w w' non) := (K4.out.trans (Kp.of_grown g2) (fun k hk => Or.inr (own_ge O4.out hk.symm))); clear o2 g2)
      obtain ⟨a6, c6, rfl⟩ := own_sl O5.out
      go_roundw
      case rel => exact ⟨i + 1, a6, c6, QQ ++ [key], by omega, by go_num, HQ1.out, by rw [List.length_append]; rfl, by rw [List.length_append]; exact O5.out, K5.out⟩
      case measure => simp [intOf]; omega
    case neg =>
      obtain rfl : i = ks.length := by omega
      have HQe := HQ.out
      rw [List.take_length] at HQe
      subst HQe
      go_wp2_with fail
      go_ret
      exact ⟨_, rfl, HO.out, KR.out.below⟩
theorem wpList_loadClG {w : World} {ops : Array Oper} {rest : List Oper} {o : Oper} {a : Act} {Q : Exit → Act → World → Prop} (p : Operand) (ho : o.op = .load 24 p) (hw : Region.wanted o (yielded ops a.tmps) = true) (b : Nat) (st : ByteArray) (x : Nat → Int) (nv : Value) (hx : a.eval p = .pointer (some ⟨b, 0, none⟩)) (hO : ClAt w b st x nv)
    (h : wpList Tryz.prog ops Q rest (a.put o.dst (.agg (clA st x nv))) w) : wpList Tryz.prog ops Q (o :: rest) a w := by
  refine wpList_step fun K hK => ?_
  rw [if_pos hw]
  exact wp_exec (exec_loadCl p ho hx hO) (hK _ _ h)
set_option maxHeartbeats 8000000 in
set_option maxRecDepth 100000 in
set_option linter.unusedSimpArgs false in
set_option linter.unusedVariables false in
theorem refused_any (N : Nat) (w : World) (st : ByteArray) (x : Nat → Int) (ao : Option Addr) (b o cap : Nat) (pv : Nat → Value) (ns : List ND) (h : NsAt N w ao b o pv ns) (hN : N ≤ w.heap.size) (hs : st.size ≤ 9223372036854775807) (he : errP st x ns ≠ 0) :
    Calls Tryz.prog 10 #[.agg (clA st x (.slice ao ns.length cap))] w fun e w' => e = .returned (.bool true) ∧ Below w.heap.size w w' := by
  obtain ⟨W0, hW0, hX⟩ := boxed st x cap h hN
  have HX := hide (hX.stand hN)
  have B0 := hide hX.bel
  clear hX h
  have NW := hide (New_rno N W0 st x ao b o cap pv ns HX.out.nd HX.out.le hs he)
  have CK : Hid (∀ W1, Below W0.heap.size W0 W1 → Calls Tryz.prog 9 #[.agg (clA st x (.slice ao ns.length cap))] W1 fun e w' => e = .returned (.int .i64 (errP st x ns)) ∧ Below W1.heap.size W1 w') := fun W1 hb => YtndfhpfhgdamgaaGreatDoor.check_any N W1 st x ao b o cap pv ns (HX.out.nd.below (hb.mono HX.out.le)) (Nat.le_trans HX.out.le hb.size) hs
  have NU := hide fun w n => num_r w n
  generalize errP st x ns = er at *
  have q1 : (er == 0) = false := by simp [he]
  have q2 : (er != 0) = true := by simp [he]
  go_enter Tryz.func10, Tryz.ntmps10
  go_upto_region 1 with fail
  rw [← hW0]
  clear hW0
  go_wp2_with (refine wpList_loadCl rfl (.tmp 1) rfl w.heap.size st x _ rfl HX.out.cl ?_)
  refine Calls.mono NW.out ?_
  rintro e W1 ⟨rfl, hb⟩
  have C1 := hide (HX.out.cl.below hb)
  have CK1 := hide (CK.out W1 hb)
  have B1 := hide (B0.out.trans (hb.mono B0.out.size))
  clear hb NW HX CK
  go_wp2_with (first | (go_at_call 8; refine Calls.mono (NU.out _ _) ?_; rintro e w' ⟨rfl, rfl⟩) | (refine wpList_loadClG (.tmp 1) rfl (by kernel_rfl) w.heap.size st x _ rfl C1.out ?_) | (go_at_call 9; refine Calls.mono CK1.out ?_; rintro e W2 ⟨rfl, hb2⟩; have B2 := hide (B1.out.trans (hb2.mono B1.out.size)); clear hb2))
  go_ret
  exact ⟨rfl, B2.out⟩
end Go.Proofs.YtndfhpfhgdamgaaGreatDoor.Cn
