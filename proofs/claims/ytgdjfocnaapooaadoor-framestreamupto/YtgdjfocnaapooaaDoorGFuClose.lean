import Derived.Test.YtgdjfocnaapooaaDoorGFuPure
import Derived.Test.YtgdjfocnaapooaaDoorGFsSplitP
import Derived.Laws.AppendOwnNone
namespace Go.Proofs.YtgdjfocnaapooaaDoor
open Go.RowKit
theorem sumZ_le : ∀ f (t : ByteArray), t.size ≤ f → sumZ (splT t) ≤ t.size := by
  intro f
  induction f with
  | zero => intro t h; rw [splT_zero (by omega)]; exact Nat.zero_le _
  | succ f ih =>
    intro t h
    by_cases h0 : t.size = 0
    · rw [splT_zero h0]; exact Nat.zero_le _
    · cases hn : firstP t with
      | none =>
        rw [splT_none h0 hn]
        have := ih (t.extract 1 t.size) (by rw [ByteArray.size_extract]; omega)
        rw [ByteArray.size_extract] at this
        omega
      | some y =>
        obtain ⟨n, m⟩ := y
        have hz := firstP_size hn
        rw [splT_some hn]
        have := ih (t.extract n t.size) (by rw [ByteArray.size_extract]; omega)
        rw [ByteArray.size_extract] at this
        simp only [sumZ]
        omega
theorem sumZ_append : ∀ (a b : List (Nat × MM)), sumZ (a ++ b) = sumZ a + sumZ b := by
  intro a
  induction a with
  | nil => intro b; simp [sumZ]
  | cons x a ih => intro b; rw [List.cons_append]; simp only [sumZ]; rw [ih]; omega
/-- the sizes of the first pieces -/
def zP (P : List (Nat × Nat × MM)) (q : Nat) : Nat := sumZ ((P.take q).map (·.2))
theorem zP_succ {P : List (Nat × Nat × MM)} {q : Nat} (h : q < P.length) : zP P (q + 1) = zP P q + P[q].2.1 := by
  unfold zP
  rw [List.take_succ_eq_append_getElem h, List.map_append, sumZ_append]
  rfl
theorem zP_le {h : ByteArray} (q : Nat) : zP (splitP h 0) q ≤ h.size := by
  have h1 := sumZ_le h.size h (Nat.le_refl _)
  rw [← split_all h] at h1
  have h2 : sumZ (((splitP h 0).take q).map (·.2)) + sumZ (((splitP h 0).drop q).map (·.2)) = sumZ ((splitP h 0).map (·.2)) := by
    rw [← sumZ_append, ← List.map_append, List.take_append_drop]
  unfold zP
  omega
theorem pie_info2 : (Tryd.prog.info? 38).map (·.size) = some 13 := by kernel_rfl
theorem pieA_one (i n : Nat) (m : MM) : (pieA i n m).all (·.oneCell') = true := by simp [pieA, Value.oneCell']
theorem wpList_storePie {w : World} {ops : Array Oper} {rest : List Oper} {o : Oper} {a : Act} {Q : Exit → Act → World → Prop} (hgd : o.guard = none) (p x : Operand) (ho : o.op = .store 38 p x) (b : Nat) (hp : a.eval p = .pointer (some ⟨b, 0, none⟩)) (i n : Nat) (m : MM) (c0 : Array Value) (hx : a.eval x = .agg (pieA i n m)) (hO : w.heap[b]? = some (.cells c0 38)) (hc0 : c0.size = 13)
    (h : wpList Tryd.prog ops Q rest (a.put o.dst undef) (w.setRow b (pieA i n m))) : wpList Tryd.prog ops Q (o :: rest) a w :=
  wpList_plain hgd fun _ hK => wp_store_row 38 p x ho b (pieA i n m) hp hx 38 c0 hO pie_info2 hc0 (pieA_one i n m) (hK _ _ h)
theorem laid_pie (w : World) (i n : Nat) (m : MM) (c0 : Array Value) : ∃ W : World, W = (w.alloc (.cells c0 38)).setRow w.heap.size (pieA i n m) ∧ W.heap[w.heap.size]? = some (.cells (pieA i n m) 38) ∧ Below w.heap.size w W := by
  refine ⟨_, rfl, setRow_heap _ _ _ _ _ _ (heap_last _ _), ?_⟩
  exact below_row ((Below.refl _ w).alloc (Nat.le_refl _) _) (Nat.le_refl _) _
theorem pie_msg {w : World} {B i n : Nat} {m : MM} (h : w.heap[B]? = some (.cells (pieA i n m) 38)) : w.rangeAt B 2 (msgV m).toList := by
  intro j u hj
  unfold World.cell?
  rw [h]
  show (pieA i n m)[2 + j]? = some u
  rw [← hj, ← Array.getElem?_toList, show (pieA i n m).toList = .int .i64 (i : Int) :: .int .i64 (n : Int) :: (msgV m).toList from rfl, Nat.add_comm 2 j]
  rfl
theorem pie_siz {w : World} {B i n : Nat} {m : MM} (h : w.heap[B]? = some (.cells (pieA i n m) 38)) : w.cell? ⟨B, 1, none⟩ = some (.int .i64 (n : Int)) := by
  unfold World.cell?
  rw [h]
  rfl
theorem own_keep2 {w : World} {R j : Nat} {h : ByteArray} {k : Int} (hR : RdAt w R h k) {base e s n : Nat} {v : Value} {xs : List Value} (hr : w.ownsRow base e s v n xs) (he : 77 ≠ e) {u : Value} : (w.setCell ⟨R, j, none⟩ u).ownsRow base e s v n xs :=
  hr.kept (row := some R) ⟨rfl, rfl, rfl, by rw [World.size_setCell]; exact Nat.le_refl _, fun i _ hn => Below.heap_setCell _ _ _ i (fun e => hn (by rw [e]))⟩ (.inr (fun e => blk_not_row (show w.heap[R]? = _ from hR) he hr e.symm))
/-- what the loop of Close keeps -/
def ClInv2 (R : Nat) (h : ByteArray) (k : Nat) (w : World) (b1 : Nat) (vp : Value) (P : List (Nat × Nat × MM)) (q : Nat) (vt : Value) (wr : World) : Prop :=
  RdAt wr R h ((k + h.size - zP P q : Nat) : Int) ∧ wr.ownsRow w.heap.size 27 11 vt q (mcs ((P.take q).map (·.2.2))) ∧ wr.ownsRow b1 38 13 vp P.length (pcs P) ∧ w.grownBy wr (some R)
theorem ClInv2.below {R : Nat} {h : ByteArray} {k : Nat} {w : World} {b1 : Nat} {vp : Value} {P : List (Nat × Nat × MM)} {q : Nat} {vt : Value} {wr w' : World} (hI : ClInv2 R h k w b1 vp P q vt wr) (hb : Below wr.heap.size wr w') : ClInv2 R h k w b1 vp P q vt w' :=
  ⟨hI.1.below hb, own_belowS hI.2.1 hb, own_belowS hI.2.2.1 hb, grown_below hI.2.2.2 hb⟩
theorem grown_drew {w w' : World} {R : Option Nat} (h : w.grownBy w' R) : w.grownBy w'.drew R := ⟨h.os, h.tape, h.output, h.size, h.block⟩
theorem row_apart {w : World} {e e' b b' s s' n n' : Nat} {v v' : Value} {xs xs' : List Value} (h : w.ownsRow b e s v n xs) (h' : w.ownsRow b' e' s' v' n' xs') (hne : e ≠ e') : v.ownBlock = none ∨ v.ownBlock ≠ v'.ownBlock := by
  rcases h.2 with ⟨rfl, _⟩ | ⟨g, cap, cur, rfl, _, hgb, _⟩
  · exact .inl rfl
  · refine .inr fun e1 => ?_
    rcases h'.2 with ⟨rfl, _⟩ | ⟨g', cap', cur', rfl, _, hgb', _⟩
    · cases e1
    · simp only [Value.ownBlock, Option.some.injEq] at e1
      subst e1
      have := hgb.symm.trans hgb'
      simp at this
      exact hne this.2
set_option maxHeartbeats 8000000 in
set_option maxRecDepth 100000 in
set_option linter.unusedSimpArgs false in
/-- Close -/
theorem close_any (R n₀ : Nat) (h : ByteArray) (k : Nat) (hs : h.size ≤ 800000000000) (hk : k ≤ 1000000000000000) (w : World) (hR : RdAt w R h (k : Int)) (hn₀ : n₀ ≤ R) (HT : ∀ W', Below n₀ w W' → TabF W' ∧ Tab4 5 W') :
    Calls Tryd.prog 12 #[.pointer (some ⟨R, 0, none⟩)] w fun e w' => ∃ v, e = .returned v ∧ RdAt w' R ⟨#[]⟩ ((k : Int) + skT h) ∧ w'.ownsRow w.heap.size 27 11 v (msgT h).length (mcs (msgT h)) ∧ w.grownBy w' (some R) := by
  have HTH := hide HT
  clear HT
  have hRl := blk_lt hR
  have G0 : w.grownBy (w.drew.setCell ⟨R, 1, none⟩ (.int .i64 ((k : Int) + (h.size : Int)))) (some R) := grown_set (j := 1) (grown_drew ⟨rfl, rfl, rfl, Nat.le_refl _, fun _ _ _ => rfl⟩) _
  have hR0 : RdAt (w.drew.setCell ⟨R, 1, none⟩ (.int .i64 ((k : Int) + (h.size : Int)))) R h ((k : Int) + (h.size : Int)) := RdAt.set1 (w := w.drew) (h := h) (k := (k : Int)) hR _
  have c0 : w.drew.cell? ⟨R, 0, none⟩ = some (.string h) := hR.c0
  have c1 : w.drew.cell? ⟨R, 1, none⟩ = some (.int .i64 (k : Int)) := hR.c1
  have f1 : w.drew.frozen? ⟨R, 1, none⟩ = false := hR.f0 (j := 1)
  go_enter Tryd.func12, Tryd.ntmps12
  go_wp2_with fail
  refine wp_region_held_drew (S := fun x => x.cell? ⟨R, 0, none⟩ = some (.string h)) (by kernel_rfl) c0 (fun hHeld => ?_)
  generalize w.drew = wd at *
  refine wpAnyH_take (i := 0) (v := (.pointer (some ⟨R, 0, none⟩))) rfl (by kernel_rfl) (by kernel_rfl) (by kernel_rfl) (fun _ _ _ h => h) (Or.inl ⟨by rfl, ?_⟩) (by assumption) ?_
  · intro w' hSw
    (try dsimp only at hSw)
    go_simp <;> first | exact i64_in (by omega) (by omega) | exact u32_in (by omega) (by omega) | exact u32_add _ _ | (rw [Int.tmod_eq_emod_of_nonneg (by omega)]; omega) | (rw [Int.tdiv_eq_ediv_of_nonneg (by omega)]; omega) | omega
  (try simp only [Act.put, List.setIfInBounds_toArray, List.set_cons_zero, List.set_cons_succ])
  refine wpAnyH_take (i := 1) (v := (.pointer (some ⟨R, 0, none⟩))) rfl (by kernel_rfl) (by kernel_rfl) (by kernel_rfl) (fun _ _ _ h => h) (Or.inl ⟨by rfl, ?_⟩) (by assumption) ?_
  · intro w' hSw
    (try dsimp only at hSw)
    go_simp <;> first | exact i64_in (by omega) (by omega) | exact u32_in (by omega) (by omega) | exact u32_add _ _ | (rw [Int.tmod_eq_emod_of_nonneg (by omega)]; omega) | (rw [Int.tdiv_eq_ediv_of_nonneg (by omega)]; omega) | omega
  (try simp only [Act.put, List.setIfInBounds_toArray, List.set_cons_zero, List.set_cons_succ])
  refine wpAnyH_take (i := 2) (v := (.pointer (some ⟨R, 1, none⟩))) rfl (by kernel_rfl) (by kernel_rfl) (by kernel_rfl) (fun _ _ _ h => h) (Or.inl ⟨by rfl, ?_⟩) (by assumption) ?_
  · intro w' hSw
    (try dsimp only at hSw)
    go_simp <;> first | exact i64_in (by omega) (by omega) | exact u32_in (by omega) (by omega) | exact u32_add _ _ | (rw [Int.tmod_eq_emod_of_nonneg (by omega)]; omega) | (rw [Int.tdiv_eq_ediv_of_nonneg (by omega)]; omega) | omega
  (try simp only [Act.put, List.setIfInBounds_toArray, List.set_cons_zero, List.set_cons_succ])
  refine wpAnyH_take (i := 4) (v := (.pointer (some ⟨R, 0, none⟩))) rfl (by kernel_rfl) (by kernel_rfl) (by kernel_rfl) (fun _ _ _ h => h) (Or.inl ⟨by rfl, ?_⟩) (by assumption) ?_
  · intro w' hSw
    (try dsimp only at hSw)
    go_simp <;> first | exact i64_in (by omega) (by omega) | exact u32_in (by omega) (by omega) | exact u32_add _ _ | (rw [Int.tmod_eq_emod_of_nonneg (by omega)]; omega) | (rw [Int.tdiv_eq_ediv_of_nonneg (by omega)]; omega) | omega
  (try simp only [Act.put, List.setIfInBounds_toArray, List.set_cons_zero, List.set_cons_succ])
  refine wpAnyH_take (i := 5) (v := (.pointer (some ⟨R, 0, none⟩))) rfl (by kernel_rfl) (by kernel_rfl) (by kernel_rfl) (fun _ _ _ h => h) (Or.inl ⟨by rfl, ?_⟩) (by assumption) ?_
  · intro w' hSw
    (try dsimp only at hSw)
    go_simp <;> first | exact i64_in (by omega) (by omega) | exact u32_in (by omega) (by omega) | exact u32_add _ _ | (rw [Int.tmod_eq_emod_of_nonneg (by omega)]; omega) | (rw [Int.tdiv_eq_ediv_of_nonneg (by omega)]; omega) | omega
  (try simp only [Act.put, List.setIfInBounds_toArray, List.set_cons_zero, List.set_cons_succ])
  refine wpAnyH_take (i := 6) (v := (.pointer (some ⟨R, 0, none⟩))) rfl (by kernel_rfl) (by kernel_rfl) (by kernel_rfl) (fun _ _ _ h => h) (Or.inl ⟨by rfl, ?_⟩) (by assumption) ?_
  · intro w' hSw
    (try dsimp only at hSw)
    go_simp <;> first | exact i64_in (by omega) (by omega) | exact u32_in (by omega) (by omega) | exact u32_add _ _ | (rw [Int.tmod_eq_emod_of_nonneg (by omega)]; omega) | (rw [Int.tdiv_eq_ediv_of_nonneg (by omega)]; omega) | omega
  (try simp only [Act.put, List.setIfInBounds_toArray, List.set_cons_zero, List.set_cons_succ])
  refine wpAnyH_take (i := 7) (v := (.string h)) rfl (by kernel_rfl) (by kernel_rfl) (by kernel_rfl) (fun _ _ _ h => h) (Or.inl ⟨by rfl, ?_⟩) (by assumption) ?_
  · intro w' hSw
    (try dsimp only at hSw)
    go_simp <;> first | exact i64_in (by omega) (by omega) | exact u32_in (by omega) (by omega) | exact u32_add _ _ | (rw [Int.tmod_eq_emod_of_nonneg (by omega)]; omega) | (rw [Int.tdiv_eq_ediv_of_nonneg (by omega)]; omega) | omega
  (try simp only [Act.put, List.setIfInBounds_toArray, List.set_cons_zero, List.set_cons_succ])
  refine wpAnyH_take (i := 8) (v := (.int .i64 (h.size : Int))) rfl (by kernel_rfl) (by kernel_rfl) (by kernel_rfl) (fun _ _ _ h => h) (Or.inl ⟨by rfl, ?_⟩) (by assumption) ?_
  · intro w' hSw
    (try dsimp only at hSw)
    go_simp <;> first | exact i64_in (by omega) (by omega) | exact u32_in (by omega) (by omega) | exact u32_add _ _ | (rw [Int.tmod_eq_emod_of_nonneg (by omega)]; omega) | (rw [Int.tdiv_eq_ediv_of_nonneg (by omega)]; omega) | omega
  (try simp only [Act.put, List.setIfInBounds_toArray, List.set_cons_zero, List.set_cons_succ])
  refine wpAnyH_ready (rs := [3]) (by kernel_rfl) (by simp) ?_
  refine AllReadyH.cons rfl (fun K hK => ?_) AllReadyH.nil
  go_simp
  refine hK.out _ _ (hHeld) (fun hHeld => ?_)
  clear hK
  (try simp only [Act.put, List.setIfInBounds_toArray, List.set_cons_zero, List.set_cons_succ])
  refine wpAnyH_take (i := 9) (v := (.int .i64 ((k : Int) + (h.size : Int)))) rfl (by kernel_rfl) (by kernel_rfl) (by kernel_rfl) (fun _ _ _ h => h) (Or.inl ⟨by rfl, ?_⟩) (by assumption) ?_
  · intro w' hSw
    (try dsimp only at hSw)
    go_simp <;> first | exact i64_in (by omega) (by omega) | exact u32_in (by omega) (by omega) | exact u32_add _ _ | (rw [Int.tmod_eq_emod_of_nonneg (by omega)]; omega) | (rw [Int.tdiv_eq_ediv_of_nonneg (by omega)]; omega) | omega
  (try simp only [Act.put, List.setIfInBounds_toArray, List.set_cons_zero, List.set_cons_succ])
  refine wpAnyH_take (i := 10) (v := (.pointer (some ⟨R, 0, none⟩))) rfl (by kernel_rfl) (by kernel_rfl) (by kernel_rfl) (fun _ _ _ h => h) (Or.inl ⟨by rfl, ?_⟩) (by assumption) ?_
  · intro w' hSw
    (try dsimp only at hSw)
    go_simp <;> first | exact i64_in (by omega) (by omega) | exact u32_in (by omega) (by omega) | exact u32_add _ _ | (rw [Int.tmod_eq_emod_of_nonneg (by omega)]; omega) | (rw [Int.tdiv_eq_ediv_of_nonneg (by omega)]; omega) | omega
  (try simp only [Act.put, List.setIfInBounds_toArray, List.set_cons_zero, List.set_cons_succ])
  refine wpAnyH_take (i := 11) (v := (.pointer (some ⟨R, 1, none⟩))) rfl (by kernel_rfl) (by kernel_rfl) (by kernel_rfl) (fun _ _ _ h => h) (Or.inl ⟨by rfl, ?_⟩) (by assumption) ?_
  · intro w' hSw
    (try dsimp only at hSw)
    go_simp <;> first | exact i64_in (by omega) (by omega) | exact u32_in (by omega) (by omega) | exact u32_add _ _ | (rw [Int.tmod_eq_emod_of_nonneg (by omega)]; omega) | (rw [Int.tdiv_eq_ediv_of_nonneg (by omega)]; omega) | omega
  (try simp only [Act.put, List.setIfInBounds_toArray, List.set_cons_zero, List.set_cons_succ])
  refine wpAnyH_ready (rs := [12]) (by kernel_rfl) (by simp) ?_
  refine AllReadyH.cons rfl (fun K hK => ?_) AllReadyH.nil
  go_simp
  refine hK.out _ _ (hR0.c0) (fun hHeld => ?_)
  clear hK
  (try simp only [Act.put, List.setIfInBounds_toArray, List.set_cons_zero, List.set_cons_succ])
  refine wpAnyH_done (by kernel_rfl) ?_ _
  clear hHeld c0 c1 f1
  generalize wd.setCell ⟨R, 1, none⟩ (.int .i64 ((k : Int) + (h.size : Int))) = w1 at *
  obtain ⟨t1, t2⟩ := HTH.out _ (grown_n0 G0 hn₀ hRl)
  have SP := hide (split_any h (by omega) w1 t1 t2)
  have c0 := hR0.c0
  clear t1 t2
  go_wp2_with fail
  refine Calls.mono SP.out ?_
  rintro e w2 ⟨vp, rfl, op, bp⟩
  have I0 : Hid (ClInv2 R h k w w1.heap.size vp (splitP h 0) 0 (.slice none 0 0) w2) := ⟨by
    have := hR0.below bp
    rw [show ((k + h.size - zP (splitP h 0) 0 : Nat) : Int) = (k : Int) + (h.size : Int) from by show ((k + h.size - 0 : Nat) : Int) = _; omega]; exact this, World.ownsRow_nil _ _ _ _, op, grown_below G0 bp⟩
  obtain ⟨ba, cp, rfl, _⟩ := own_pie op
  have hPl := Nat.le_trans (splitP_len h) hs
  have HZ : Hid (∀ q, zP (splitP h 0) q ≤ h.size) := fun q => zP_le q
  have HE : Hid ((splitP h 0).map (·.2) = splT h) := split_all h
  clear SP bp op c0 hR0 G0
  go_wp2_with fail
  go_loopw [3, 5, 26] (fun vt _ vi wr => ∃ q : Nat, q ≤ (splitP h 0).length ∧ vi = .int .i64 (q : Int) ∧ ClInv2 R h k w w1.heap.size (.slice ba (splitP h 0).length cp) (splitP h 0) q vt wr) (fun _ _ vi _ => (splitP h 0).length - (intOf vi).toNat)
  case atStart => exact ⟨0, Nat.zero_le _, rfl, I0.out⟩
  case round =>
    obtain ⟨q, hq, rfl, hI⟩ := hrel
    have HI := hide hI
    obtain ⟨vb, vc, rfl⟩ := own_sl hI.2.1
    by_cases hql : q < (splitP h 0).length
    case neg =>
      obtain rfl : q = (splitP h 0).length := by omega
      have k0 := hI.1.c0
      have f0 := hI.1.f0 (j := 0)
      clear hI I0
      go_wp2_with fail
      go_ret
      obtain ⟨i1, i2, i3, i4⟩ := HI.out
      have eM : msgT h = (splitP h 0).map (·.2.2) := by unfold msgT; rw [← HE.out, List.map_map]; rfl
      have eS : ((k + h.size - zP (splitP h 0) (splitP h 0).length : Nat) : Int) = (k : Int) + skT h := by
        have := HZ.out (splitP h 0).length
        unfold zP at this ⊢
        rw [List.take_length, HE.out] at this ⊢
        unfold skT
        omega
      rw [eS] at i1
      rw [List.take_length] at i2
      refine ⟨_, rfl, i1.set0 _, ?_, grown_set (j := 0) i4 _⟩
      rw [eM, List.length_map]
      exact own_set (j := 0) i1 i2 (.string ⟨#[]⟩)
    case pos =>
      obtain ⟨pg, hpb, hpl, hpc⟩ : ∃ g, ba = some ⟨g, 0, none⟩ ∧ g < wr.heap.size ∧ ∀ j u, (pcs (splitP h 0))[j]? = some u → wr.cell? ((⟨g, 0, none⟩ : Addr).add j) = some u := by
        obtain ⟨ba', cp', e1, hh⟩ := own_pie hI.2.2.1
        obtain ⟨g, hg⟩ := hh (by omega)
        cases e1
        exact ⟨g, hg⟩
      subst hpb
      have RG := pcs_range hpc q hql
      obtain ⟨⟨pi, pn, pm⟩, hpe⟩ : ∃ p, p = (splitP h 0)[q] := ⟨_, rfl⟩
      rw [← hpe] at RG
      have hqi : (q : Int) < ((splitP h 0).length : Int) := by omega
      obtain ⟨WX, eX, hX, bX⟩ := laid_pie wr pi pn pm #[.int .i64 0, .int .i64 0, .int .i64 0, .int .i64 0, .int .i64 0, .int .i64 0, .int .i64 0, .int .i64 0, .int .i64 0, .int .i64 0, .int .i64 0, .string ⟨#[]⟩, .string ⟨#[]⟩]
      have IX := hide (HI.out.below bX)
      have EP : Hid ((splitP h 0).take (q + 1) = (splitP h 0).take q ++ [(pi, pn, pm)] ∧ zP (splitP h 0) (q + 1) = zP (splitP h 0) q + pn) := ⟨by rw [List.take_succ_eq_append_getElem hql, hpe], by rw [zP_succ hql, ← hpe]⟩
      obtain ⟨hm1, hm2⟩ := msg_room (k := q) (by omega)
      obtain ⟨i0, hi0, hz0, hz1, hz2⟩ := info_partsF infoMg
      have s1 : w.heap.size ≤ WX.heap.size := IX.out.2.2.2.size
      have z1 := HZ.out q
      have z2 := HZ.out (q + 1)
      rw [EP.out.2] at z2
      clear hI I0 HI hpc bX hpe hpl
      generalize splitP h 0 = P at *
      go_upto_region 8 with (first | (refine wpList_load_mid rfl 38 (.tmp 28) rfl pg (q * 13) rfl (pieL (pi, pn, pm)) _ RG Tryd.underlying38 rfl infoPc13 ?_) | (refine wpList_storePie rfl (.tmp 5) (.tmp 29) rfl wr.heap.size rfl pi pn pm _ rfl (heap_last _ _) rfl ?_))
      rw [← eX]
      clear eX
      have RM := pie_msg hX
      go_upto_region 9 with (first | (refine wpList_load_mid rfl 27 (.tmp 31) rfl wr.heap.size 2 rfl (msgV pm).toList _ RM Tryd.underlying27 rfl infoMs11 ?_) | (refine wpList_bsMsg rfl (.tmp 32) rfl pm rfl ?_) | (at_builtin; refine wpList_append_own_at _ rfl _ _ 31 rfl w.heap.size 27 i0 _ 11 104 Tryd.underlying31 hi0 hz0 hz1 hz2 rfl (by decide) _ _ _ rfl (IX.out.2.1.alloc _) ⟨WX.heap.size, 0, none⟩ 1 1 (mcs [pm]) rfl (by rw [mcs_one]; rfl) (msg_cell WX pm) (msgs_one _) hm1 hm2 (by simp; omega) ?_; intro v2 w3 o2 g2 n2 a2; clear n2 a2))
      obtain ⟨i1, i2, i3, i4⟩ := IX.out
      have bA : Below WX.heap.size WX (WX.alloc (.cells (msgV pm) 27)) := (Below.refl _ _).alloc (Nat.le_refl _) _
      have hX3 : w3.heap[wr.heap.size]? = some (.cells (pieA pi pn pm) 38) := (g2.block _ (blk_lt (blk_keep hX bA)) (blk_not_row hX (by decide) i2)).trans (blk_keep hX bA)
      have hR3 : RdAt w3 R h ((k + h.size - zP P q : Nat) : Int) := (g2.block R (blk_lt (i1.below bA)) ((i1.below bA).not_row (i2.alloc _))).trans (i1.below bA)
      have i33 : w3.ownsRow w1.heap.size 38 13 (.slice (some ⟨pg, 0, none⟩) P.length cp) P.length (pcs P) := (i3.alloc _).kept g2 (row_apart i3 i2 (by decide))
      have g1 := grown_below i4 bA
      have i43 : w.grownBy w3 (some R) := ⟨g2.os.trans g1.os, g2.tape.trans g1.tape, g2.output.trans g1.output, Nat.le_trans g1.size g2.size, fun i hi hn => (g2.block i (Nat.lt_of_lt_of_le hi g1.size) (fun e => by have := (i2.lt i e.symm).1; omega)).trans (g1.block i hi hn)⟩
      obtain ⟨A, hA⟩ : ∃ A, k + h.size - zP P q = A := ⟨_, rfl⟩
      have hA2 : k + h.size - (zP P q + pn) = A - pn := by omega
      have hAp : pn ≤ A := by omega
      have hAl : A ≤ 2000000000000000 := by omega
      rw [hA] at hR3
      have bD : Below w3.heap.size w3 w3.drew := (Below.refl _ w3).drew
      have rD := hR3.below bD
      have NX : Hid (ClInv2 R h k w w1.heap.size (.slice (some ⟨pg, 0, none⟩) P.length cp) P (q + 1) v2 (w3.drew.setCell ⟨R, 1, none⟩ (.int .i64 ((A : Int) - (pn : Int))))) := by
        refine ⟨?_, ?_, ?_, grown_set (j := 1) (grown_below i43 bD) _⟩
        · have := rD.set1 ((A : Int) - (pn : Int))
          rw [EP.out.2, hA2, show ((A - pn : Nat) : Int) = (A : Int) - (pn : Int) by omega]
          exact this
        · rw [EP.out.1, List.map_append, mcs_append]
          exact own_set (j := 1) rD (own_belowS o2 bD) _
        · exact own_keep2 rD (own_belowS i33 bD) (by decide)
      have cz : w3.drew.cell? ⟨wr.heap.size, 1, none⟩ = some (.int .i64 (pn : Int)) := pie_siz (blk_keep hX3 bD)
      have hne : wr.heap.size ≠ R := fun e => by rw [e] at hX3; have := (show w3.heap[R]? = _ from hR3).symm.trans hX3; simp at this
      have hXD := blk_keep hX3 bD
      obtain ⟨v2b, v2c, hv2⟩ := own_sl o2
      subst hv2
      clear i1 i2 i3 i4 g1 g2 o2 i33 i43 bD hX hX3 hR3 IX EP RM RG bA
      refine wp_region_held_drew (S := fun x => x.cell? ⟨wr.heap.size, 1, none⟩ = some (.int .i64 (pn : Int))) (by kernel_rfl) cz (fun hHeld => ?_)
      generalize w3.drew = wd3 at *
      have c1 := rD.c1
      have f1 := rD.f0 (j := 1)
      refine wpAnyH_take (i := 0) (v := (.pointer (some ⟨R, 0, none⟩))) rfl (by kernel_rfl) (by kernel_rfl) (by kernel_rfl) (fun _ _ _ h => h) (Or.inl ⟨by rfl, ?_⟩) (by assumption) ?_
      · intro w' hSw
        (try dsimp only at hSw)
        go_simp <;> first | exact i64_in (by omega) (by omega) | exact u32_in (by omega) (by omega) | exact u32_add _ _ | (rw [Int.tmod_eq_emod_of_nonneg (by omega)]; omega) | (rw [Int.tdiv_eq_ediv_of_nonneg (by omega)]; omega) | omega
      (try simp only [Act.put, List.setIfInBounds_toArray, List.set_cons_zero, List.set_cons_succ])
      refine wpAnyH_take (i := 1) (v := (.pointer (some ⟨R, 0, none⟩))) rfl (by kernel_rfl) (by kernel_rfl) (by kernel_rfl) (fun _ _ _ h => h) (Or.inl ⟨by rfl, ?_⟩) (by assumption) ?_
      · intro w' hSw
        (try dsimp only at hSw)
        go_simp <;> first | exact i64_in (by omega) (by omega) | exact u32_in (by omega) (by omega) | exact u32_add _ _ | (rw [Int.tmod_eq_emod_of_nonneg (by omega)]; omega) | (rw [Int.tdiv_eq_ediv_of_nonneg (by omega)]; omega) | omega
      (try simp only [Act.put, List.setIfInBounds_toArray, List.set_cons_zero, List.set_cons_succ])
      refine wpAnyH_take (i := 2) (v := (.pointer (some ⟨R, 1, none⟩))) rfl (by kernel_rfl) (by kernel_rfl) (by kernel_rfl) (fun _ _ _ h => h) (Or.inl ⟨by rfl, ?_⟩) (by assumption) ?_
      · intro w' hSw
        (try dsimp only at hSw)
        go_simp <;> first | exact i64_in (by omega) (by omega) | exact u32_in (by omega) (by omega) | exact u32_add _ _ | (rw [Int.tmod_eq_emod_of_nonneg (by omega)]; omega) | (rw [Int.tdiv_eq_ediv_of_nonneg (by omega)]; omega) | omega
      (try simp only [Act.put, List.setIfInBounds_toArray, List.set_cons_zero, List.set_cons_succ])
      refine wpAnyH_take (i := 4) (v := (.pointer (some ⟨wr.heap.size, 1, none⟩))) rfl (by kernel_rfl) (by kernel_rfl) (by kernel_rfl) (fun _ _ _ h => h) (Or.inl ⟨by rfl, ?_⟩) (by assumption) ?_
      · intro w' hSw
        (try dsimp only at hSw)
        go_simp <;> first | exact i64_in (by omega) (by omega) | exact u32_in (by omega) (by omega) | exact u32_add _ _ | (rw [Int.tmod_eq_emod_of_nonneg (by omega)]; omega) | (rw [Int.tdiv_eq_ediv_of_nonneg (by omega)]; omega) | omega
      (try simp only [Act.put, List.setIfInBounds_toArray, List.set_cons_zero, List.set_cons_succ])
      refine wpAnyH_take (i := 5) (v := (.int .i64 (pn : Int))) rfl (by kernel_rfl) (by kernel_rfl) (by kernel_rfl) (fun _ _ _ h => h) (Or.inl ⟨by rfl, ?_⟩) (by assumption) ?_
      · intro w' hSw
        (try dsimp only at hSw)
        go_simp <;> first | exact i64_in (by omega) (by omega) | exact u32_in (by omega) (by omega) | exact u32_add _ _ | (rw [Int.tmod_eq_emod_of_nonneg (by omega)]; omega) | (rw [Int.tdiv_eq_ediv_of_nonneg (by omega)]; omega) | omega
      (try simp only [Act.put, List.setIfInBounds_toArray, List.set_cons_zero, List.set_cons_succ])
      refine wpAnyH_ready (rs := [3]) (by kernel_rfl) (by simp) ?_
      refine AllReadyH.cons rfl (fun K hK => ?_) AllReadyH.nil
      go_simp
      refine hK.out _ _ (hHeld) (fun hHeld => ?_)
      clear hK
      (try simp only [Act.put, List.setIfInBounds_toArray, List.set_cons_zero, List.set_cons_succ])
      refine wpAnyH_take (i := 6) (v := (.int .i64 ((A : Int) - (pn : Int)))) rfl (by kernel_rfl) (by kernel_rfl) (by kernel_rfl) (fun _ _ _ h => h) (Or.inl ⟨by rfl, ?_⟩) (by assumption) ?_
      · intro w' hSw
        (try dsimp only at hSw)
        go_simp <;> first | exact i64_in (by omega) (by omega) | exact u32_in (by omega) (by omega) | exact u32_add _ _ | (rw [Int.tmod_eq_emod_of_nonneg (by omega)]; omega) | (rw [Int.tdiv_eq_ediv_of_nonneg (by omega)]; omega) | omega
      (try simp only [Act.put, List.setIfInBounds_toArray, List.set_cons_zero, List.set_cons_succ])
      refine wpAnyH_take (i := 7) (v := (.pointer (some ⟨R, 0, none⟩))) rfl (by kernel_rfl) (by kernel_rfl) (by kernel_rfl) (fun _ _ _ h => h) (Or.inl ⟨by rfl, ?_⟩) (by assumption) ?_
      · intro w' hSw
        (try dsimp only at hSw)
        go_simp <;> first | exact i64_in (by omega) (by omega) | exact u32_in (by omega) (by omega) | exact u32_add _ _ | (rw [Int.tmod_eq_emod_of_nonneg (by omega)]; omega) | (rw [Int.tdiv_eq_ediv_of_nonneg (by omega)]; omega) | omega
      (try simp only [Act.put, List.setIfInBounds_toArray, List.set_cons_zero, List.set_cons_succ])
      refine wpAnyH_take (i := 8) (v := (.pointer (some ⟨R, 1, none⟩))) rfl (by kernel_rfl) (by kernel_rfl) (by kernel_rfl) (fun _ _ _ h => h) (Or.inl ⟨by rfl, ?_⟩) (by assumption) ?_
      · intro w' hSw
        (try dsimp only at hSw)
        go_simp <;> first | exact i64_in (by omega) (by omega) | exact u32_in (by omega) (by omega) | exact u32_add _ _ | (rw [Int.tmod_eq_emod_of_nonneg (by omega)]; omega) | (rw [Int.tdiv_eq_ediv_of_nonneg (by omega)]; omega) | omega
      (try simp only [Act.put, List.setIfInBounds_toArray, List.set_cons_zero, List.set_cons_succ])
      refine wpAnyH_ready (rs := [9]) (by kernel_rfl) (by simp) ?_
      refine AllReadyH.cons rfl (fun K hK => ?_) AllReadyH.nil
      go_simp
      refine hK.out _ _ (pie_siz ((Below.heap_setCell _ _ _ wr.heap.size hne).trans hXD)) (fun hHeld => ?_)
      clear hK
      (try simp only [Act.put, List.setIfInBounds_toArray, List.set_cons_zero, List.set_cons_succ])
      refine wpAnyH_done (by kernel_rfl) ?_ _
      clear hHeld c1 f1 cz rD hXD
      go_wp2_with fail
      go_roundw
      case rel => exact ⟨q + 1, by omega, by go_num, NX.out⟩
      case measure => simp [intOf]; omega
end Go.Proofs.YtgdjfocnaapooaaDoor
namespace Go.Proofs.YtgdjfocnaapooaaDoor
open Go.RowKit
/-- a frame at the head of a text is its first one -/
theorem first_enc (m : MM) (k : Nat) (h1 : 1 ≤ k) (h16 : k ≤ 16) (hk : m.kind = (k : Int)) (hf : fitM m = true) (X : ByteArray) : firstP (encS m ++ X) = some ((encS m).size, m) := by
  obtain ⟨d1, _⟩ := dec_fwd m k h1 h16 hk hf
  have hc : chkE (encS m) = 0 := by
    by_cases hc : chkE (encS m) = 0
    · exact hc
    · unfold decM at d1; rw [if_neg hc] at d1; cases d1
  obtain ⟨c1, _, _, _, c5, _⟩ := chk_lt hc
  have eb := bsz_app (u := X) (show 20 ≤ (encS m).size by omega)
  unfold firstP
  rw [eb, ByteArray.size_append, if_neg (by omega), ← c5, ext_app_l (Nat.le_refl _), ext_all, d1]
theorem mcs_len (L : List MM) : (mcs L).length = L.length * 11 := by
  induction L with
  | nil => rfl
  | cons m L ih =>
    have e : mcs (m :: L) = (msgV m).toList ++ mcs L := by unfold mcs; rw [List.flatMap_cons]
    rw [e, List.length_append, ih, List.length_cons]
    have : (msgV m).toList.length = 11 := rfl
    omega
theorem mcs_cells (L : List MM) : ∀ u ∈ mcs L, u.oneCell' = true := by
  intro u hu
  unfold mcs at hu
  rw [List.mem_flatMap] at hu
  obtain ⟨m, _, hm⟩ := hu
  exact msgs_one m u (by rw [mcs_one]; exact hm)
theorem mcs_at : ∀ (L : List MM) (q : Nat) (hq : q < L.length) (j : Nat), j < 11 → (mcs L)[q * 11 + j]? = (msgV L[q]).toList[j]? := by
  intro L
  induction L with
  | nil => intro q hq; simp at hq
  | cons p L ih =>
    intro q hq j hj
    have e : mcs (p :: L) = (msgV p).toList ++ mcs L := by unfold mcs; rw [List.flatMap_cons]
    have l11 : (msgV p).toList.length = 11 := rfl
    rw [e]
    cases q with
    | zero => rw [Nat.zero_mul, Nat.zero_add, List.getElem?_append_left (by rw [l11]; exact hj)]; rfl
    | succ q =>
      rw [List.getElem?_append_right (by rw [l11]; omega), l11, show (q + 1) * 11 + j - 11 = q * 11 + j by omega]
      exact ih q (by simpa using hq) j hj
theorem mcs_range {w : World} {g : Nat} {L : List MM} (h : ∀ j u, (mcs L)[j]? = some u → w.cell? ((⟨g, 0, none⟩ : Addr).add j) = some u) (q : Nat) (hq : q < L.length) : w.rangeAt g (q * 11) (msgV L[q]).toList := by
  intro j v hv
  have hj : j < 11 := (List.getElem?_eq_some_iff.1 hv).1
  have := h (q * 11 + j) v (by rw [mcs_at L q hq j hj]; exact hv)
  rw [Addr.add_mid, Nat.zero_add] at this
  exact this
theorem own_msg {w : World} {base : Nat} {v : Value} {L : List MM} (h : w.ownsRow base 27 11 v L.length (mcs L)) : ∃ ba cap, v = .slice ba L.length cap ∧ (0 < L.length → ∃ g, ba = some ⟨g, 0, none⟩ ∧ base ≤ g ∧ g < w.heap.size ∧ ∀ j u, (mcs L)[j]? = some u → w.cell? ((⟨g, 0, none⟩ : Addr).add j) = some u) := by
  rcases h.2 with ⟨hv, h0⟩ | ⟨g, cap, cur, hv, _, _, _, _, _, _⟩
  · exact ⟨none, 0, by rw [hv, h0], fun x => by omega⟩
  · subst hv
    exact ⟨_, _, rfl, fun _ => ⟨g, rfl, (h.lt g rfl).1, (h.lt g rfl).2, h.cells (g := g) rfl⟩⟩
/-- got = append(got, l...) -/
theorem wp_appMsgs {w : World} {o : Oper} {a : Act} {K : Act → World → Prop} {Q : Exit → Act → World → Prop} (s x : Operand) (ho : o.op = .call { callee := .builtin .append, args := #[s, x], argTypes := #[31, 31] }) (base b2 : Nat) (vl vm : Value) (L M : List MM) (hs : a.eval s = vl) (hx : a.eval x = vm)
    (h1 : w.ownsRow base 27 11 vl L.length (mcs L)) (h2 : w.ownsRow b2 27 11 vm M.length (mcs M)) (hroom : L.length + M.length ≤ 1000000000000) (hbase : base ≤ w.heap.size)
    (h : ∀ v' w', w'.ownsRow base 27 11 v' (L ++ M).length (mcs (L ++ M)) → w.grownBy w' vl.ownBlock → K (a.put o.dst v') w') : o.wp Tryd.prog a w K Q := by
  obtain ⟨i0, hi0, hz0, hz1, hz2⟩ := info_partsF infoMg
  rcases h2.2 with ⟨hv, h0⟩ | ⟨g, cap, cur, hv, _, _, _, _, _, _⟩
  · subst hv
    have hM : M = [] := List.eq_nil_of_length_eq_zero h0
    have hrun := run_append_owned_none (P := Tryd.prog) (w := w) base 31 o.type 27 i0 11 Tryd.underlying31 hi0 vl L.length (mcs L) h1
    unfold Oper.wp
    simp only [execOp, ho, resolve, invoke, builtin, Sem.run_bind, Sem.run_pure, List.map_toArray, List.map_cons, List.map_nil, hs, hx, hrun, Result.andThen]
    refine h vl w ?_ ⟨rfl, rfl, rfl, Nat.le_refl _, fun _ _ _ => rfl⟩
    rw [hM, List.append_nil]
    exact h1
  · subst hv
    refine wp_append_own w s x 31 ho base 27 i0 _ 11 104 Tryd.underlying31 hi0 hz0 hz1 hz2 rfl (by decide) vl L.length (mcs L) hs h1 ⟨g, 0, none⟩ M.length cap (mcs M) hx (mcs_len M) (h2.cells (g := g) rfl) (mcs_cells M) (by unfold maxLen; omega) (by omega) hbase ?_
    intro v' w' o2 g2 _
    refine h v' w' ?_ g2
    rw [mcs_append, List.length_append]
    exact o2
theorem wpList_appMsgs {w : World} {ops : Array Oper} {rest : List Oper} {o : Oper} {a : Act} {Q : Exit → Act → World → Prop} (hgd : o.guard = none) (s x : Operand) (ho : o.op = .call { callee := .builtin .append, args := #[s, x], argTypes := #[31, 31] }) (base b2 : Nat) (vl vm : Value) (L M : List MM) (hs : a.eval s = vl) (hx : a.eval x = vm)
    (h1 : w.ownsRow base 27 11 vl L.length (mcs L)) (h2 : w.ownsRow b2 27 11 vm M.length (mcs M)) (hroom : L.length + M.length ≤ 1000000000000) (hbase : base ≤ w.heap.size)
    (h : ∀ v' w', w'.ownsRow base 27 11 v' (L ++ M).length (mcs (L ++ M)) → w.grownBy w' vl.ownBlock → wpList Tryd.prog ops Q rest (a.put o.dst v') w') : wpList Tryd.prog ops Q (o :: rest) a w :=
  wpList_plain hgd fun _ hK => wp_appMsgs s x ho base b2 vl vm L M hs hx h1 h2 hroom hbase (fun v' w' x1 x2 => hK _ _ (h v' w' x1 x2))
theorem wp_neqMsg {o : Oper} {a : Act} {w : World} {K : Act → World → Prop} {Q : Exit → Act → World → Prop} (x y : Operand) (t2 : TypeId) (ho : o.op = .binOp .neq 27 x y t2) (m n : MM) (hx : a.eval x = .agg (msgV m)) (hy : a.eval y = .agg (msgV n))
    (h : K (a.put o.dst (.bool (!sameM m n))) w) : o.wp Tryd.prog a w K Q := by
  unfold Oper.wp execOp
  have hg : Tryd.prog.eqGuardType Tryd.prog.depth 27 = false := by kernel_rfl
  simp only [ho, Sem.run_bind, Sem.run_pure, Result.andThen_ok, hx, hy, neqMsg, run_eqGuard_agg w .neq 27 x y (msgV m) (msgV n) hg]
  exact h
end Go.Proofs.YtgdjfocnaapooaaDoor
