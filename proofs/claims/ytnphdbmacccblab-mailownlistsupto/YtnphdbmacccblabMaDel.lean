import Derived.Test.YtnphdbmacccblabMaAll
import Derived.Deep.RegionLaw
import Derived.Lib.SliceRun
namespace Go.Proofs.Ytnphdbmacccblab
open Go.RowKit
theorem setCells_heap (b : Nat) (t : TypeId) : ∀ (vs : List Value) (o : Nat) (w : World) (c : Array Value), w.heap[b]? = some (.cells c t (0, 0)) → o + vs.length ≤ c.size → (w.setCells b o vs).heap[b]? = some (.cells (c.toList.take o ++ vs ++ c.toList.drop (o + vs.length)).toArray t (0, 0))
  | [], o, w, c, h, _ => by
    simp only [World.setCells, List.append_nil, List.length_nil, Nat.add_zero, List.take_append_drop, Array.toArray_toList]
    exact h
  | v :: r, o, w, c, h, hl => by
    have hl' : o + 1 + r.length ≤ c.size := by simp at hl; omega
    rw [World.setCells, setCells_heap b t r (o + 1) _ (c.setIfInBounds o v) (heap_setCell _ _ _ _ _ _ _ h) (by simpa using hl')]
    congr 3
    have e := list_seg_step c.toList o v r (by simp at hl ⊢; omega)
    simpa [Array.toList_setIfInBounds, Nat.add_assoc] using e
theorem setCells_grown (b : Nat) : ∀ (vs : List Value) (o : Nat) (w : World), w.grownBy (w.setCells b o vs) (some b)
  | [], _, w => ⟨rfl, rfl, rfl, Nat.le_refl _, fun _ _ _ => rfl⟩
  | v :: r, o, w => by
    have h := setCells_grown b r (o + 1) (w.setCell ⟨b, o, none⟩ v)
    rw [World.setCells]
    exact ⟨h.os, h.tape, h.output, by have := h.size; rw [World.size_setCell] at this; exact this, fun i hi hn => (h.block i (by rw [World.size_setCell]; exact hi) hn).trans (Below.heap_setCell _ _ _ i (fun e => hn (by rw [e])))⟩
theorem run_clear_one (w : World) (ty : TypeId) (g o c : Nat) (hc : ∀ j, j < 4 → (w.cell? ⟨g, o + j, none⟩).isSome = true) (hf : ∀ j, j < 4 → w.frozen? ⟨g, o + j, none⟩ = false) :
    (Builtin.clear_ #[36] ty #[.slice (some ⟨g, o, none⟩) 1 c]).run Try.prog w = .ok (.tuple #[]) (w.setCells g o (ltc [noL])) := by
  have hv : ∀ w, (zeroValue 53).run Try.prog w = .ok (.agg #[.int .i64 0, .int .i64 0, .int .i64 0, .string ⟨#[]⟩]) w := fun w => by kernel_rfl
  have hzc : (Builtin.zeroCells (Value.agg #[.int .i64 0, .int .i64 0, .int .i64 0, .string ⟨#[]⟩]).cells 1).toList = ltc [noL] := by kernel_rfl
  have hst := run_storeCells_cells (P := Try.prog) g o (ltc [noL]) 0 w (by simpa [ltc, Lt.cs] using hc) (by simpa [ltc, Lt.cs] using hf) (ltc_one _)
  simp only [Nat.add_zero] at hst
  simp [Builtin.clear_, run_underlying Try.underlying36, hv, hzc, hst]
theorem eraseIdx_ltc (L : List Lt) (i : Nat) : ltc (L.eraseIdx i) = ltc (L.take i) ++ ltc (L.drop (i + 1)) := by
  rw [List.eraseIdx_eq_take_drop_succ, ltc_append]
theorem row_del {c : List Value} {X Y : List Value} {a m : Nat} (hX : X.length = a) (hY : Y.length = m) (h : c.take a = X) : (c.take a ++ Y ++ c.drop (a + Y.length)).take (a + m) = X ++ Y := by
  rw [h, List.append_assoc, List.take_append, List.take_of_length_le (by omega), hX, Nat.add_sub_cancel_left, List.take_append, List.take_of_length_le (by omega), hY]
  simp
set_option maxHeartbeats 4000000 in
set_option maxRecDepth 100000 in
set_option linter.unusedSimpArgs false in
set_option linter.unusedVariables false in
theorem delete_any (w : World) (g cap i : Nat) (L : List Lt) (h : w.ownsRow 0 53 4 (.slice (some ⟨g, 0, none⟩) L.length cap) L.length (ltc L)) (hi : i < L.length) (hL : L.length ≤ 1048576) :
    Calls Try.prog 53 #[.slice (some ⟨g, 0, none⟩) L.length cap, .int .i64 (i : Int), .int .i64 ((i : Int) + 1)] w fun e w' => e = .returned (.slice (some ⟨g, 0, none⟩) (L.length - 1) cap) ∧ w'.ownsRow 0 53 4 (.slice (some ⟨g, 0, none⟩) (L.length - 1) cap) (L.length - 1) (ltc (L.eraseIdx i)) ∧ w.grownBy w' (some g) := by
  obtain ⟨i0, hi0, hz0, hz1, hz2⟩ := info_parts4 infoLt
  obtain ⟨cur, hg, hcap, hcm, hcs, htk⟩ : ∃ cur, w.heap[g]? = some (.cells cur 53 (0, 0)) ∧ L.length ≤ cap ∧ cap ≤ maxLen ∧ cur.size = cap * 4 ∧ cur.toList.take (L.length * 4) = ltc L := by
    rcases h.2 with ⟨e, _⟩ | ⟨g', cap', cur, e, _, h1, h2, h3, h4, h5⟩
    · simp at e
    · simp only [Value.slice.injEq, Option.some.injEq, Addr.mk.injEq, true_and] at e
      obtain ⟨⟨rfl, _⟩, rfl⟩ := e
      exact ⟨cur, h1, h2, h3, h4, h5⟩
  obtain ⟨news, hnews⟩ : ∃ news, news = ltc (L.drop (i + 1)) := ⟨_, rfl⟩
  have hlen : news.length = (L.length - (i + 1)) * 4 := by rw [hnews, ltc_len, List.length_drop]
  have hcell : ∀ k u, (ltc L)[k]? = some u → w.drew.cell? ⟨g, k, none⟩ = some u := fun k u hu => by
    have hk : k < L.length * 4 := by
      have := (List.getElem?_eq_some_iff.1 hu).1
      rwa [ltc_len] at this
    exact (h.cellAt k (by omega)).trans hu
  obtain ⟨A, hA, hsrc⟩ : ∃ A : Addr, (if cap = i + 1 then some (⟨g, 0, none⟩ : Addr) else some ⟨g, (i + 1) * 4, none⟩) = some A ∧ Hid (∀ t u, news[t]? = some u → w.drew.cell? (A.add t) = some u) := by
    by_cases hh : cap = i + 1
    · refine ⟨⟨g, 0, none⟩, by simp [hh], fun t u hu => ?_⟩
      have h0 : news.length = 0 := by rw [hlen]; omega
      rw [List.length_eq_zero_iff.1 h0] at hu
      simp at hu
    · refine ⟨⟨g, (i + 1) * 4, none⟩, by simp [hh], fun t u hu => ?_⟩
      rw [Addr.add_lit]
      refine hcell _ u ?_
      rw [hnews, ← ltc_drop, List.getElem?_drop] at hu
      exact hu
  have s1 : Hid (news.length = (L.length - (i + 1)) * 4) := hlen
  have s2 : Hid (∀ u ∈ news, u.oneCell' = true) := by rw [hnews]; exact ltc_one _
  have s3 : Hid (∀ t, t < news.length → (w.drew.cell? ⟨g, 0 + i * 4 + t, none⟩).isSome = true ∧ w.drew.frozen? ⟨g, 0 + i * 4 + t, none⟩ = false) := by
    intro t ht
    refine ⟨?_, by unfold World.frozen?; rw [show w.drew.heap[g]? = _ from hg]; simp⟩
    unfold World.cell?
    rw [show w.drew.heap[g]? = _ from hg]
    simp only [hcs]
    rw [Array.getElem?_eq_getElem (by omega)]
    rfl
  obtain ⟨W1, hW1⟩ : ∃ W1, W1 = w.drew.setCells g (0 + i * 4) news := ⟨_, rfl⟩
  have hH1 : W1.heap[g]? = some (.cells (cur.toList.take (i * 4) ++ news ++ cur.toList.drop (i * 4 + news.length)).toArray 53 (0, 0)) := by
    rw [hW1, Nat.zero_add]
    exact setCells_heap g _ news (i * 4) w.drew cur hg (by omega)
  have hG1 : w.grownBy W1 (some g) := by
    have := setCells_grown g news (0 + i * 4) w.drew
    rw [← hW1] at this
    exact ⟨this.os, this.tape, this.output, this.size, this.block⟩
  have htk2 : cur.toList.take (i * 4) = ltc (L.take i) := by
    have := congrArg (List.take (i * 4)) htk
    rw [List.take_take, Nat.min_eq_left (by omega), ltc_take] at this
    exact this
  have hlt : (ltc (L.take i)).length = i * 4 := by rw [ltc_len, List.length_take, Nat.min_eq_left (by omega)]
  obtain ⟨cu1, hcu1⟩ : ∃ cu1, cu1 = cur.toList.take (i * 4) ++ news ++ cur.toList.drop (i * 4 + news.length) := ⟨_, rfl⟩
  have hc1l : cu1.length = cap * 4 := by
    rw [hcu1, htk2]
    simp only [List.length_append, List.length_drop, Array.length_toList, hlt]
    omega
  have hc1t : cu1.take ((L.length - 1) * 4) = ltc (L.eraseIdx i) := by
    rw [hcu1, show (L.length - 1) * 4 = i * 4 + news.length by omega, eraseIdx_ltc L i, ← hnews]
    exact row_del hlt rfl htk2
  rw [← hcu1] at hH1
  have hcl : ∀ ty, (Builtin.clear_ #[36] ty #[.slice (some ⟨g, (L.length - 1) * 4, none⟩) 1 (cap - (L.length - 1))]).run Try.prog W1 = .ok (.tuple #[]) (W1.setCells g ((L.length - 1) * 4) (ltc [noL])) := fun ty => run_clear_one W1 ty g _ _ (fun j hj => by unfold World.cell?; rw [hH1]; simp only []; rw [Array.getElem?_eq_getElem (by simp [hc1l]; omega)]; rfl) (fun j hj => by unfold World.frozen?; rw [hH1]; simp)
  have OK : Hid ((W1.setCells g ((L.length - 1) * 4) (ltc [noL])).ownsRow 0 53 4 (.slice (some ⟨g, 0, none⟩) (L.length - 1) cap) (L.length - 1) (ltc (L.eraseIdx i)) ∧ w.grownBy (W1.setCells g ((L.length - 1) * 4) (ltc [noL])) (some g)) := by
    refine ⟨⟨by rw [ltc_len, List.length_eraseIdx, if_pos hi], .inr ⟨g, cap, _, rfl, Nat.zero_le _, setCells_heap g _ _ _ W1 _ hH1 (by simp [hc1l, ltc, Lt.cs]; omega), by omega, hcm, ?_, ?_⟩⟩, ?_⟩
    · simp only [List.size_toArray, List.toList_toArray, List.length_append, List.length_take, List.length_drop, hc1l, ltc_len, List.length_cons, List.length_nil]
      omega
    · simp only [List.toList_toArray]
      rw [List.append_assoc, List.take_append, List.length_take, hc1l, Nat.min_eq_left (by omega), Nat.sub_self, List.take_zero, List.append_nil, List.take_take, Nat.min_self, hc1t]
    · have g2 := setCells_grown g (ltc [noL]) ((L.length - 1) * 4) W1
      exact ⟨g2.os.trans hG1.os, g2.tape.trans hG1.tape, g2.output.trans hG1.output, Nat.le_trans hG1.size g2.size, fun k hk hn => (g2.block k (Nat.lt_of_lt_of_le hk hG1.size) hn).trans (hG1.block k hk hn)⟩
  have hW : Hid (W1 = w.drew.setCells g (0 + i * 4) news) := hW1
  have hic : i ≤ cap := by omega
  have hjc : i + 1 ≤ cap := by omega
  have e1 : i + (L.length - (i + 1)) = L.length - 1 := by omega
  have e2 : L.length - (L.length - 1) = 1 := by omega
  clear hW1 hH1 hG1 htk2 hlt hcu1 hc1l hc1t hcell hlen hnews htk hcs hg h
  go_enter Try.func53, Try.ntmps53
  go_wp2_with fail
  refine wp_region_held_drew (S := fun X => True) (by kernel_rfl) trivial (fun hHeld => ?_)
  refine wpAnyH_take (i := 0) (v := (.slice (some ⟨g, 0, none⟩) L.length cap)) rfl (by kernel_rfl) (by kernel_rfl) (by kernel_rfl) (fun _ _ _ h => h) (Or.inl ⟨by rfl, ?_⟩) (by assumption) ?_
  · intro w' hSw
    (try dsimp only at hSw)
    go_simp
  (try simp only [Act.put, List.setIfInBounds_toArray, List.set_cons_zero, List.set_cons_succ])
  refine wpAnyH_take (i := 1) (v := (.int .i64 (i : Int))) rfl (by kernel_rfl) (by kernel_rfl) (by kernel_rfl) (fun _ _ _ h => h) (Or.inl ⟨by rfl, ?_⟩) (by assumption) ?_
  · intro w' hSw
    (try dsimp only at hSw)
    go_simp
  (try simp only [Act.put, List.setIfInBounds_toArray, List.set_cons_zero, List.set_cons_succ])
  refine wpAnyH_take (i := 2) (v := (.slice (some ⟨g, 0, none⟩) i cap)) rfl (by kernel_rfl) (by kernel_rfl) (by kernel_rfl) (fun _ _ _ h => h) (Or.inl ⟨by rfl, ?_⟩) (by assumption) ?_
  · intro w' hSw
    (try dsimp only at hSw)
    go_simp
  (try simp only [Act.put, List.setIfInBounds_toArray, List.set_cons_zero, List.set_cons_succ])
  refine wpAnyH_take (i := 3) (v := (.slice (some ⟨g, 0, none⟩) L.length cap)) rfl (by kernel_rfl) (by kernel_rfl) (by kernel_rfl) (fun _ _ _ h => h) (Or.inl ⟨by rfl, ?_⟩) (by assumption) ?_
  · intro w' hSw
    (try dsimp only at hSw)
    go_simp
  (try simp only [Act.put, List.setIfInBounds_toArray, List.set_cons_zero, List.set_cons_succ])
  refine wpAnyH_take (i := 4) (v := (.int .i64 ((i : Int) + 1))) rfl (by kernel_rfl) (by kernel_rfl) (by kernel_rfl) (fun _ _ _ h => h) (Or.inl ⟨by rfl, ?_⟩) (by assumption) ?_
  · intro w' hSw
    (try dsimp only at hSw)
    go_simp
  (try simp only [Act.put, List.setIfInBounds_toArray, List.set_cons_zero, List.set_cons_succ])
  refine wpAnyH_take (i := 5) (v := (.slice (some A) (L.length - (i + 1)) (cap - (i + 1)))) rfl (by kernel_rfl) (by kernel_rfl) (by kernel_rfl) (fun _ _ _ h => h) (Or.inl ⟨by rfl, ?_⟩) (by assumption) ?_
  · intro w' hSw
    (try dsimp only at hSw)
    (go_simp; intro hx; exact absurd (hx (by omega)) (by omega))
  (try simp only [Act.put, List.setIfInBounds_toArray, List.set_cons_zero, List.set_cons_succ])
  refine wpAnyH_ready (rs := [6]) (by kernel_rfl) (by simp) ?_
  refine AllReadyH.cons rfl (fun K hK => ?_) AllReadyH.nil
  refine step_append_room rfl (.tmp 22) (.tmp 25) 36 rfl 53 i0 4 Try.underlying36 hi0 hz1 g 0 i cap (by kernel_rfl) A (L.length - (i + 1)) (cap - (i + 1)) news (by kernel_rfl) s1.out hsrc.out s2.out (by omega) s3.out ?_
  rw [← hW.out, e1]
  refine hK.out _ _ (trivial) (fun hHeld => ?_)
  clear hK
  (try simp only [Act.put, List.setIfInBounds_toArray, List.set_cons_zero, List.set_cons_succ])
  refine wpAnyH_ready (rs := [7]) (by kernel_rfl) (by simp) ?_
  refine AllReadyH.cons rfl (fun K hK => ?_) AllReadyH.nil
  go_simp
  refine hK.out _ _ (trivial) (fun hHeld => ?_)
  clear hK
  (try simp only [Act.put, List.setIfInBounds_toArray, List.set_cons_zero, List.set_cons_succ])
  refine wpAnyH_done (by kernel_rfl) ?_ _
  clear hHeld hW s1 s2 s3 hsrc hA e1
  go_wp2_with fail
  go_ret
  exact ⟨rfl, OK.out⟩
end Go.Proofs.Ytnphdbmacccblab
