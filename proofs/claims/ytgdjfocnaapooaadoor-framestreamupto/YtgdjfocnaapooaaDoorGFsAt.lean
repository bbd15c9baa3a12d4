import Derived.Test.YtgdjfocnaapooaaDoorGFdDocD
import Derived.Test.YtgdjfocnaapooaaDoorGFsFirst
import Derived.RangeFuncNested
import Derived.RangeFuncBound
import Derived.RangeFuncCalls
import Derived.RangeFuncLeaves
import Derived.Shelf.Abstract
import Derived.Shelf.RegionOpen
import Derived.OwnWalkIn
import Derived.TacticsInMore
import Derived.LoopNIn
import Derived.LoopIn
import Derived.Maps.OwnIn
import Derived.Sort.CutIn
namespace Go.Proofs.YtgdjfocnaapooaaDoor
open Go.RowKit
theorem res_msg3 {fn : Func} {p q : Tmp} (h : fn.results = #[.tmp q, .cell p 27]) (tmps : Array Value) (m : MM) (w : World) (b : Nat) (ht : tmps.getD p undef = .pointer (some ⟨b, 0, none⟩)) (v : Value) (hv : tmps.getD q undef = v) (hO : w.heap[b]? = some (.cells (msgV m) 27)) : (results fn tmps).run Tryd.prog w = .ok (.tuple #[v, .agg (msgV m)]) w := by
  have hl := res_msgv m w b hO
  have ht' : tmps[p]?.getD undef = .pointer (some ⟨b, 0, none⟩) := by simpa using ht
  have hv' : tmps[q]?.getD undef = v := by simpa using hv
  unfold results
  rw [h]
  simp [ht', hv', asAddr, hl]
theorem run_loadM (m : MM) (w : World) (b : Nat) (hO : w.heap[b]? = some (.cells (msgV m) 27)) : (Instr.loadAt 27 (.pointer (some ⟨b, 0, none⟩))).run Tryd.prog w = .ok (.agg (msgV m)) w := by
  simp only [Instr.loadAt, Instr.sureAddr, Sem.run_bind, Sem.run_pure, Result.andThen]
  exact run_loadVar_row _ _ 27 27 (msgV m) (0, 0) _ hO Tryd.underlying27 rfl msg_info
theorem msg_cells (m : MM) (w : World) (Q : Nat) (h : w.heap[Q]? = some (.cells (msgV m) 27)) : w.cell? ⟨Q, 0, none⟩ = some (.int .i64 m.kind) ∧ w.cell? ⟨Q, 1, none⟩ = some (.int .i64 m.n0) ∧ w.cell? ⟨Q, 2, none⟩ = some (.int .i64 m.n1) ∧ w.cell? ⟨Q, 3, none⟩ = some (.int .i64 m.n2) ∧ w.cell? ⟨Q, 4, none⟩ = some (.int .i64 m.n3) ∧ w.cell? ⟨Q, 5, none⟩ = some (.int .i64 m.n4) ∧ w.cell? ⟨Q, 6, none⟩ = some (.int .i64 m.n5) ∧ w.cell? ⟨Q, 7, none⟩ = some (.int .i64 m.n6) ∧ w.cell? ⟨Q, 8, none⟩ = some (.int .i64 m.n7) ∧ w.cell? ⟨Q, 9, none⟩ = some (.string m.key) ∧ w.cell? ⟨Q, 10, none⟩ = some (.string m.val) :=
  ⟨msg_at0 m w Q h 0, msg_at0 m w Q h 1, msg_at0 m w Q h 2, msg_at0 m w Q h 3, msg_at0 m w Q h 4, msg_at0 m w Q h 5, msg_at0 m w Q h 6, msg_at0 m w Q h 7, msg_at0 m w Q h 8, msg_at0 m w Q h 9, msg_at0 m w Q h 10⟩
/-- what at answers -/
def atV (s : ByteArray) (i : Nat) : Value := match nextP s i with
  | none => .tuple #[.int .i64 0, .agg (msgV (mm0 0))]
  | some (n, m) => .tuple #[.int .i64 (n : Int), .agg (msgV m)]
theorem atV_none {s : ByteArray} {i : Nat} (h : nextP s i = none) : atV s i = .tuple #[.int .i64 0, .agg (msgV (mm0 0))] := by unfold atV; rw [h]
theorem atV_some {s : ByteArray} {i n : Nat} {m : MM} (h : nextP s i = some (n, m)) : atV s i = .tuple #[.int .i64 (n : Int), .agg (msgV m)] := by unfold atV; rw [h]
set_option maxHeartbeats 16000000 in
set_option maxRecDepth 100000 in
set_option linter.unusedSimpArgs false in
/-- the document's at -/
theorem at_any (s : ByteArray) (i : Nat) (hi : i < s.size) (hs : s.size ≤ 900000000000) (w : World) (hT : TabR w) :
    Calls Tryd.prog 34 #[.string s, .int .i64 (i : Int)] w fun e w' => e = .returned (atV s i) ∧ Below w.heap.size w w' := by
  obtain ⟨W0, hW0⟩ : ∃ W0, W0 = w.alloc (.cells #[.int .i64 0, .int .i64 0, .int .i64 0, .int .i64 0, .int .i64 0, .int .i64 0, .int .i64 0, .int .i64 0, .int .i64 0, .string ⟨#[]⟩, .string ⟨#[]⟩] 27) := ⟨_, rfl⟩
  have b0 : Below w.heap.size w W0 := by rw [hW0]; exact (Below.refl _ w).alloc (Nat.le_refl _) _
  have hM0 : W0.heap[w.heap.size]? = some (.cells (msgV (mm0 0)) 27) := by rw [hW0]; exact heap_last w _
  have W0L : Hid (w.heap.size < W0.heap.size) := by show w.heap.size < W0.heap.size; rw [hW0]; simp
  obtain ⟨WX, eX, hX, bX1, bX⟩ := laid_new b0 (mm0 0)
  have hR := blk_keep hM0 bX1
  have hN := hX
  have KC : Hid (∀ w', Below WX.heap.size WX w' → w'.heap[w.heap.size]? = some (.cells (msgV (mm0 0)) 27) ∧ w'.heap[W0.heap.size]? = some (.cells (msgV (mm0 0)) 27) ∧ Below w.heap.size w w' ∧ TabR w') := fun w' hb => ⟨blk_keep hR hb, blk_keep hX hb, bX.trans (hb.mono bX.size), hT.below (bX.trans (hb.mono bX.size))⟩
  clear hM0 b0 hX bX1 bX hT
  go_enter Tryd.func34, Tryd.ntmps34
  go_upto_region 1 with fail
  rw [← hW0]
  clear hW0
  go_upto_region 2 with (first | (refine wpList_build0 rfl rfl ?_) | (refine wpList_storeMsg rfl (.tmp 6) (.tmp 10) rfl W0.heap.size rfl (mm0 0) (mm0 0) rfl (heap_last _ _) ?_))
  rw [← eX]
  clear eX
  by_cases h24 : s.size < i + 24
  case pos =>
    have E := hide (atV_none (next_far (by omega) h24))
    have g : (s.size : Int) - (i : Int) < 24 := by omega
    go_upto_region 3 with fail
    have BW : Hid (Below WX.heap.size WX (WX).drew) := ((Below.refl _ _) : Below WX.heap.size WX WX).drew
    refine wp_region_held_drew (S := fun x => x.heap[W0.heap.size]? = some (.cells (msgV (mm0 0)) 27)) (by kernel_rfl) (KC.out _ BW.out).2.1 (fun hHeld => ?_)
    generalize (WX).drew = Wd at *
    have hRd := (KC.out _ BW.out).1
    have HBd := hide (KC.out _ BW.out).2.2.1
    refine wpAnyH_take (i := 0) (v := (.agg (msgV (mm0 0)))) rfl (by kernel_rfl) (by kernel_rfl) (by kernel_rfl) (fun _ _ _ h => h) (Or.inl ⟨by rfl, ?_⟩) (by assumption) ?_
    · intro w' hSw
      (try dsimp only at hSw)
      (obtain ⟨c0, c1, c2, c3, c4, c5, c6, c7, c8, c9, c10⟩ := msg_cells (mm0 0) _ _ hSw; clear hSw; go_simp; try rfl)
    (try simp only [Act.put, List.setIfInBounds_toArray, List.set_cons_zero, List.set_cons_succ])
    refine wpAnyH_take (i := 1) (v := (.int .i64 0)) rfl (by kernel_rfl) (by kernel_rfl) (by kernel_rfl) (fun _ _ _ h => h) (Or.inl ⟨by rfl, ?_⟩) (by assumption) ?_
    · intro w' hSw
      (try dsimp only at hSw)
      go_simp <;> first | exact i64_in (by omega) (by omega) | exact u32_in (by omega) (by omega) | exact u32_add _ _ | (rw [Int.tmod_eq_emod_of_nonneg (by omega)]; omega) | (rw [Int.tdiv_eq_ediv_of_nonneg (by omega)]; omega) | omega
    (try simp only [Act.put, List.setIfInBounds_toArray, List.set_cons_zero, List.set_cons_succ])
    refine wpAnyH_ready (rs := [2]) (by kernel_rfl) (by simp) ?_
    refine AllReadyH.cons rfl (fun K hK => ?_) AllReadyH.nil
    rw [if_pos (by kernel_rfl)]
    refine wp_store_row 27 (.tmp 5) (.tmp 22) rfl w.heap.size (msgV (mm0 0)) rfl rfl 27 (msgV (mm0 0)) hRd msg_info rfl (msg_one (mm0 0)) ?_
    refine hK.out _ _ (((setRow_other Wd _ _ _ (by have := (Array.getElem?_eq_some_iff.1 hRd).1; have := HBd.out.size; have := W0L.out; omega)).trans (KC.out _ BW.out).2.1)) (fun hHeld => ?_)
    clear hK
    (try simp only [Act.put, List.setIfInBounds_toArray, List.set_cons_zero, List.set_cons_succ])
    refine wpAnyH_done (by kernel_rfl) ?_ _
    clear hHeld
    (try simp only [Act.put, List.getElem_toArray, List.getElem_cons_zero, List.getElem_cons_succ])
    go_wp2_with fail
    refine bodyPost_ret (v := .tuple #[.int .i64 0, .agg (msgV (mm0 0))]) (res_msg3 Tryd.results34 _ (mm0 0) _ w.heap.size rfl _ rfl (setRow_heap _ _ _ _ _ _ hRd)) rfl ⟨by rw [E.out], ?_⟩
    exact below_row HBd.out (Nat.le_refl _) _
  case neg =>
    have g : ¬ (s.size : Int) - (i : Int) < 24 := by omega
    have IXI : Hid (∀ w', (Instr.index 9 (.string s) (.int .i64 (i : Int))).run Tryd.prog w' = .ok (.int .u8 (byA s i : Int)) w') := fun w' => by
      rw [← byA_at s i hi]; exact ix_str w' s i hi
    have hii : (i : Int) < (s.size : Int) := by omega
    by_cases hb : byA s i = 71
    case neg =>
      have E := hide (atV_none (next_magic (by omega) hb))
      generalize byA s i = B at *
      have hxi := IXI.out
      have hb' : ((B : Int) != 71) = true := by simp; omega
      clear IXI
      go_upto_region 3 with fail
      have BW : Hid (Below WX.heap.size WX (WX).drew) := ((Below.refl _ _) : Below WX.heap.size WX WX).drew
      refine wp_region_held_drew (S := fun x => x.heap[W0.heap.size]? = some (.cells (msgV (mm0 0)) 27)) (by kernel_rfl) (KC.out _ BW.out).2.1 (fun hHeld => ?_)
      generalize (WX).drew = Wd at *
      have hRd := (KC.out _ BW.out).1
      have HBd := hide (KC.out _ BW.out).2.2.1
      refine wpAnyH_take (i := 0) (v := (.agg (msgV (mm0 0)))) rfl (by kernel_rfl) (by kernel_rfl) (by kernel_rfl) (fun _ _ _ h => h) (Or.inl ⟨by rfl, ?_⟩) (by assumption) ?_
      · intro w' hSw
        (try dsimp only at hSw)
        (obtain ⟨c0, c1, c2, c3, c4, c5, c6, c7, c8, c9, c10⟩ := msg_cells (mm0 0) _ _ hSw; clear hSw; go_simp; try rfl)
      (try simp only [Act.put, List.setIfInBounds_toArray, List.set_cons_zero, List.set_cons_succ])
      refine wpAnyH_take (i := 1) (v := (.int .i64 0)) rfl (by kernel_rfl) (by kernel_rfl) (by kernel_rfl) (fun _ _ _ h => h) (Or.inl ⟨by rfl, ?_⟩) (by assumption) ?_
      · intro w' hSw
        (try dsimp only at hSw)
        go_simp <;> first | exact i64_in (by omega) (by omega) | exact u32_in (by omega) (by omega) | exact u32_add _ _ | (rw [Int.tmod_eq_emod_of_nonneg (by omega)]; omega) | (rw [Int.tdiv_eq_ediv_of_nonneg (by omega)]; omega) | omega
      (try simp only [Act.put, List.setIfInBounds_toArray, List.set_cons_zero, List.set_cons_succ])
      refine wpAnyH_ready (rs := [2]) (by kernel_rfl) (by simp) ?_
      refine AllReadyH.cons rfl (fun K hK => ?_) AllReadyH.nil
      rw [if_pos (by kernel_rfl)]
      refine wp_store_row 27 (.tmp 5) (.tmp 22) rfl w.heap.size (msgV (mm0 0)) rfl rfl 27 (msgV (mm0 0)) hRd msg_info rfl (msg_one (mm0 0)) ?_
      refine hK.out _ _ (((setRow_other Wd _ _ _ (by have := (Array.getElem?_eq_some_iff.1 hRd).1; have := HBd.out.size; have := W0L.out; omega)).trans (KC.out _ BW.out).2.1)) (fun hHeld => ?_)
      clear hK
      (try simp only [Act.put, List.setIfInBounds_toArray, List.set_cons_zero, List.set_cons_succ])
      refine wpAnyH_done (by kernel_rfl) ?_ _
      clear hHeld
      (try simp only [Act.put, List.getElem_toArray, List.getElem_cons_zero, List.getElem_cons_succ])
      go_wp2_with fail
      refine bodyPost_ret (v := .tuple #[.int .i64 0, .agg (msgV (mm0 0))]) (res_msg3 Tryd.results34 _ (mm0 0) _ w.heap.size rfl _ rfl (setRow_heap _ _ _ _ _ _ hRd)) rfl ⟨by rw [E.out], ?_⟩
      exact below_row HBd.out (Nat.le_refl _) _
    case pos =>
    have HB := hide hb
    rw [hb] at IXI
    have hxi : ∀ w', (Instr.index 9 (.string s) (.int .i64 (i : Int))).run Tryd.prog w' = .ok (.int .u8 71) w' := fun w' => IXI.out w'
    clear IXI hb
    have NB : Hid (∀ w', Calls Tryd.prog 59 #[.string s, .int .i64 ((i : Int) + 16), .int .i64 4] w' fun e w'' => e = .returned (.int .i64 (val (numB s (i + 16) 4) : Int)) ∧ w' = w'') := fun w' => by
      have e := number_any s (i + 16) 4 (by omega) (by omega) w'
      rw [numD4, show ((i + 16 : Nat) : Int) = (i : Int) + 16 by omega] at e
      exact e
    have EL := hide (fun h => atV_none (next_long (s := s) (i := i) (by omega) h))
    have NS := hide (fun h => next_some (s := s) (i := i) (by omega) h)
    have hL4 := numB4 s (i + 16)
    generalize val (numB s (i + 16) 4) = Ln at *
    by_cases l1 : Ln > 4383
    case pos =>
      have E := hide (EL.out (.inl l1))
      have l1' : (4383 : Int) < (Ln : Int) := by omega
      clear EL NS l1
      go_wp2_with fail
      refine Calls.mono (NB.out _) ?_
      rintro e wx ⟨rfl, rfl⟩
      go_upto_region 6 with fail
      have BW : Hid (Below WX.heap.size WX (WX).drew) := ((Below.refl _ _) : Below WX.heap.size WX WX).drew
      refine wp_region_held_drew (S := fun x => x.heap[W0.heap.size]? = some (.cells (msgV (mm0 0)) 27)) (by kernel_rfl) (KC.out _ BW.out).2.1 (fun hHeld => ?_)
      generalize (WX).drew = Wd at *
      have hRd := (KC.out _ BW.out).1
      have HBd := hide (KC.out _ BW.out).2.2.1
      refine wpAnyH_take (i := 0) (v := (.agg (msgV (mm0 0)))) rfl (by kernel_rfl) (by kernel_rfl) (by kernel_rfl) (fun _ _ _ h => h) (Or.inl ⟨by rfl, ?_⟩) (by assumption) ?_
      · intro w' hSw
        (try dsimp only at hSw)
        (obtain ⟨c0, c1, c2, c3, c4, c5, c6, c7, c8, c9, c10⟩ := msg_cells (mm0 0) _ _ hSw; clear hSw; go_simp; try rfl)
      (try simp only [Act.put, List.setIfInBounds_toArray, List.set_cons_zero, List.set_cons_succ])
      refine wpAnyH_take (i := 1) (v := (.int .i64 0)) rfl (by kernel_rfl) (by kernel_rfl) (by kernel_rfl) (fun _ _ _ h => h) (Or.inl ⟨by rfl, ?_⟩) (by assumption) ?_
      · intro w' hSw
        (try dsimp only at hSw)
        go_simp <;> first | exact i64_in (by omega) (by omega) | exact u32_in (by omega) (by omega) | exact u32_add _ _ | (rw [Int.tmod_eq_emod_of_nonneg (by omega)]; omega) | (rw [Int.tdiv_eq_ediv_of_nonneg (by omega)]; omega) | omega
      (try simp only [Act.put, List.setIfInBounds_toArray, List.set_cons_zero, List.set_cons_succ])
      refine wpAnyH_ready (rs := [2]) (by kernel_rfl) (by simp) ?_
      refine AllReadyH.cons rfl (fun K hK => ?_) AllReadyH.nil
      rw [if_pos (by kernel_rfl)]
      refine wp_store_row 27 (.tmp 5) (.tmp 38) rfl w.heap.size (msgV (mm0 0)) rfl rfl 27 (msgV (mm0 0)) hRd msg_info rfl (msg_one (mm0 0)) ?_
      refine hK.out _ _ (((setRow_other Wd _ _ _ (by have := (Array.getElem?_eq_some_iff.1 hRd).1; have := HBd.out.size; have := W0L.out; omega)).trans (KC.out _ BW.out).2.1)) (fun hHeld => ?_)
      clear hK
      (try simp only [Act.put, List.setIfInBounds_toArray, List.set_cons_zero, List.set_cons_succ])
      refine wpAnyH_done (by kernel_rfl) ?_ _
      clear hHeld
      (try simp only [Act.put, List.getElem_toArray, List.getElem_cons_zero, List.getElem_cons_succ])
      go_wp2_with fail
      refine bodyPost_ret (v := .tuple #[.int .i64 0, .agg (msgV (mm0 0))]) (res_msg3 Tryd.results34 _ (mm0 0) _ w.heap.size rfl _ rfl (setRow_heap _ _ _ _ _ _ hRd)) rfl ⟨by rw [E.out], ?_⟩
      exact below_row HBd.out (Nat.le_refl _) _
    case neg =>
    have l1' : ¬ (4383 : Int) < (Ln : Int) := by omega
    by_cases l2 : s.size < i + (24 + Ln)
    case pos =>
      have E := hide (EL.out (.inr l2))
      have l2' : (s.size : Int) - (i : Int) < 24 + (Ln : Int) := by omega
      clear EL NS l2 l1
      go_wp2_with fail
      refine Calls.mono (NB.out _) ?_
      rintro e wx ⟨rfl, rfl⟩
      go_upto_region 6 with fail
      have BW : Hid (Below WX.heap.size WX (WX).drew) := ((Below.refl _ _) : Below WX.heap.size WX WX).drew
      refine wp_region_held_drew (S := fun x => x.heap[W0.heap.size]? = some (.cells (msgV (mm0 0)) 27)) (by kernel_rfl) (KC.out _ BW.out).2.1 (fun hHeld => ?_)
      generalize (WX).drew = Wd at *
      have hRd := (KC.out _ BW.out).1
      have HBd := hide (KC.out _ BW.out).2.2.1
      refine wpAnyH_take (i := 0) (v := (.agg (msgV (mm0 0)))) rfl (by kernel_rfl) (by kernel_rfl) (by kernel_rfl) (fun _ _ _ h => h) (Or.inl ⟨by rfl, ?_⟩) (by assumption) ?_
      · intro w' hSw
        (try dsimp only at hSw)
        (obtain ⟨c0, c1, c2, c3, c4, c5, c6, c7, c8, c9, c10⟩ := msg_cells (mm0 0) _ _ hSw; clear hSw; go_simp; try rfl)
      (try simp only [Act.put, List.setIfInBounds_toArray, List.set_cons_zero, List.set_cons_succ])
      refine wpAnyH_take (i := 1) (v := (.int .i64 0)) rfl (by kernel_rfl) (by kernel_rfl) (by kernel_rfl) (fun _ _ _ h => h) (Or.inl ⟨by rfl, ?_⟩) (by assumption) ?_
      · intro w' hSw
        (try dsimp only at hSw)
        go_simp <;> first | exact i64_in (by omega) (by omega) | exact u32_in (by omega) (by omega) | exact u32_add _ _ | (rw [Int.tmod_eq_emod_of_nonneg (by omega)]; omega) | (rw [Int.tdiv_eq_ediv_of_nonneg (by omega)]; omega) | omega
      (try simp only [Act.put, List.setIfInBounds_toArray, List.set_cons_zero, List.set_cons_succ])
      refine wpAnyH_ready (rs := [2]) (by kernel_rfl) (by simp) ?_
      refine AllReadyH.cons rfl (fun K hK => ?_) AllReadyH.nil
      rw [if_pos (by kernel_rfl)]
      refine wp_store_row 27 (.tmp 5) (.tmp 38) rfl w.heap.size (msgV (mm0 0)) rfl rfl 27 (msgV (mm0 0)) hRd msg_info rfl (msg_one (mm0 0)) ?_
      refine hK.out _ _ (((setRow_other Wd _ _ _ (by have := (Array.getElem?_eq_some_iff.1 hRd).1; have := HBd.out.size; have := W0L.out; omega)).trans (KC.out _ BW.out).2.1)) (fun hHeld => ?_)
      clear hK
      (try simp only [Act.put, List.setIfInBounds_toArray, List.set_cons_zero, List.set_cons_succ])
      refine wpAnyH_done (by kernel_rfl) ?_ _
      clear hHeld
      (try simp only [Act.put, List.getElem_toArray, List.getElem_cons_zero, List.getElem_cons_succ])
      go_wp2_with fail
      refine bodyPost_ret (v := .tuple #[.int .i64 0, .agg (msgV (mm0 0))]) (res_msg3 Tryd.results34 _ (mm0 0) _ w.heap.size rfl _ rfl (setRow_heap _ _ _ _ _ _ hRd)) rfl ⟨by rw [E.out], ?_⟩
      exact below_row HBd.out (Nat.le_refl _) _
    case neg =>
    have l2' : ¬ (s.size : Int) - (i : Int) < 24 + (Ln : Int) := by omega
    have NS2 := hide (NS.out (by omega))
    have DD := hide (fun w' hT' => rdecode_any (s.extract i (i + (24 + Ln))) w' hT')
    have hsl : (i : Int) + 24 + (Ln : Int) = ((i + (24 + Ln) : Nat) : Int) := by omega
    have hsl1 : ¬ (s.size : Int) < ((i + (24 + Ln) : Nat) : Int) := by omega
    have hsl2 : ¬ ((i + (24 + Ln) : Nat) : Int) < (i : Int) := by omega
    have HNL : Hid (24 + (Ln : Int) = ((24 + Ln : Nat) : Int)) := by show 24 + (Ln : Int) = _; omega
    clear EL NS l1 l2
    have D1 := DD.out WX (KC.out _ (Below.refl _ _)).2.2.2
    unfold decV at D1
    go_wp2_with fail
    refine Calls.mono (NB.out _) ?_
    rintro e wx ⟨rfl, rfl⟩
    rcases decE_cases (s.extract i (i + (24 + Ln))) with ⟨hE, m, hm⟩ | ⟨hE1, hE2, hm⟩
    · have E := hide (atV_some (s := s) (i := i) (n := 24 + Ln) (m := m) (by rw [NS2.out, hm]; rfl))
      rw [hE, hm] at D1
      dsimp only [Option.getD_some] at D1
      have D1 := hide D1
      clear NS2 hE hm DD
      go_wp2_with fail
      refine Calls.mono D1.out ?_
      rintro e w1 ⟨rfl, b1⟩
      have B1 : Hid (Below WX.heap.size WX w1) := b1
      obtain ⟨WY, eY, hY, bY1, bY⟩ := laid_new B1.out m
      have BY := hide bY
      clear b1 bY1 bY D1
      go_upto_region 8 with (refine wpList_storeMsg rfl (.tmp 8) (.tmp 48) rfl w1.heap.size rfl m (mm0 0) rfl (heap_last _ _) ?_)
      rw [← eY]
      clear eY
      go_upto_region 10 with fail
      have BW : Hid (Below WX.heap.size WX WY.drew) := BY.out.drew
      have hYd : WY.drew.heap[w1.heap.size]? = some (.cells (msgV m) 27) := hY
      refine wp_region_held_drew (S := fun x => x.heap[w1.heap.size]? = some (.cells (msgV m) 27)) (by kernel_rfl) hYd (fun hHeld => ?_)
      generalize WY.drew = Wd at *
      have hRd := (KC.out _ BW.out).1
      have HBd := hide (KC.out _ BW.out).2.2.1
      have hW1 := B1.out.size
      have hWX := (Array.getElem?_eq_some_iff.1 hR).1
      have E2 : Hid (atV s i = .tuple #[.int .i64 (24 + (Ln : Int)), .agg (msgV m)]) := by
        show atV s i = _
        rw [E.out, HNL.out]
      clear hsl hsl1 hsl2 HNL E
      refine wpAnyH_take (i := 0) (v := (.int .i64 (Ln : Int))) rfl (by kernel_rfl) (by kernel_rfl) (by kernel_rfl) (fun _ _ _ h => h) (Or.inl ⟨by rfl, ?_⟩) (by assumption) ?_
      · intro w' hSw
        (try dsimp only at hSw)
        go_simp <;> first | exact i64_in (by omega) (by omega) | exact u32_in (by omega) (by omega) | exact u32_add _ _ | (rw [Int.tmod_eq_emod_of_nonneg (by omega)]; omega) | (rw [Int.tdiv_eq_ediv_of_nonneg (by omega)]; omega) | omega
      (try simp only [Act.put, List.setIfInBounds_toArray, List.set_cons_zero, List.set_cons_succ])
      refine wpAnyH_take (i := 1) (v := (.int .i64 (24 + (Ln : Int)))) rfl (by kernel_rfl) (by kernel_rfl) (by kernel_rfl) (fun _ _ _ h => h) (Or.inl ⟨by rfl, ?_⟩) (by assumption) ?_
      · intro w' hSw
        (try dsimp only at hSw)
        go_simp <;> first | exact i64_in (by omega) (by omega) | exact u32_in (by omega) (by omega) | exact u32_add _ _ | (rw [Int.tmod_eq_emod_of_nonneg (by omega)]; omega) | (rw [Int.tdiv_eq_ediv_of_nonneg (by omega)]; omega) | omega
      (try simp only [Act.put, List.setIfInBounds_toArray, List.set_cons_zero, List.set_cons_succ])
      refine wpAnyH_take (i := 2) (v := (.agg (msgV m))) rfl (by kernel_rfl) (by kernel_rfl) (by kernel_rfl) (fun _ _ _ h => h) (Or.inl ⟨by rfl, ?_⟩) (by assumption) ?_
      · intro w' hSw
        (try dsimp only at hSw)
        (obtain ⟨c0, c1, c2, c3, c4, c5, c6, c7, c8, c9, c10⟩ := msg_cells m _ _ hSw; clear hSw; go_simp; try rfl)
      (try simp only [Act.put, List.setIfInBounds_toArray, List.set_cons_zero, List.set_cons_succ])
      refine wpAnyH_take (i := 3) (v := (.int .i64 (24 + (Ln : Int)))) rfl (by kernel_rfl) (by kernel_rfl) (by kernel_rfl) (fun _ _ _ h => h) (Or.inl ⟨by rfl, ?_⟩) (by assumption) ?_
      · intro w' hSw
        (try dsimp only at hSw)
        go_simp <;> first | exact i64_in (by omega) (by omega) | exact u32_in (by omega) (by omega) | exact u32_add _ _ | (rw [Int.tmod_eq_emod_of_nonneg (by omega)]; omega) | (rw [Int.tdiv_eq_ediv_of_nonneg (by omega)]; omega) | omega
      (try simp only [Act.put, List.setIfInBounds_toArray, List.set_cons_zero, List.set_cons_succ])
      refine wpAnyH_ready (rs := [4]) (by kernel_rfl) (by simp) ?_
      refine AllReadyH.cons rfl (fun K hK => ?_) AllReadyH.nil
      rw [if_pos (by kernel_rfl)]
      refine wp_store_row 27 (.tmp 5) (.tmp 55) rfl w.heap.size (msgV m) rfl rfl 27 (msgV (mm0 0)) hRd msg_info rfl (msg_one m) ?_
      refine hK.out _ _ (((setRow_other Wd _ _ _ (by omega)).trans hYd)) (fun hHeld => ?_)
      clear hK
      (try simp only [Act.put, List.setIfInBounds_toArray, List.set_cons_zero, List.set_cons_succ])
      refine wpAnyH_done (by kernel_rfl) ?_ _
      clear hHeld
      (try simp only [Act.put, List.getElem_toArray, List.getElem_cons_zero, List.getElem_cons_succ])
      go_wp2_with fail
      refine bodyPost_ret (v := .tuple #[.int .i64 (24 + (Ln : Int)), .agg (msgV m)]) (res_msg3 Tryd.results34 _ m _ w.heap.size rfl _ rfl (setRow_heap _ _ _ _ _ _ hRd)) rfl ⟨by rw [E2.out], ?_⟩
      exact below_row HBd.out (Nat.le_refl _) _
    · have E := hide (atV_none (s := s) (i := i) (by rw [NS2.out, hm]; rfl))
      rw [hm] at D1
      dsimp only [Option.getD_none] at D1
      have D1 := hide D1
      clear NS2 hm DD
      generalize decE (s.extract i (i + (24 + Ln))) = EE at *
      have hE0 : (EE != 0) = true := by simp; omega
      go_wp2_with fail
      refine Calls.mono D1.out ?_
      rintro e w1 ⟨rfl, b1⟩
      have B1 : Hid (Below WX.heap.size WX w1) := b1
      obtain ⟨WY, eY, hY, bY1, bY⟩ := laid_new B1.out (mm0 0)
      have BY := hide bY
      clear b1 bY1 bY D1 hY
      go_upto_region 8 with (refine wpList_storeMsg rfl (.tmp 8) (.tmp 48) rfl w1.heap.size rfl (mm0 0) (mm0 0) rfl (heap_last _ _) ?_)
      rw [← eY]
      clear eY
      go_upto_region 9 with fail
      have BW : Hid (Below WX.heap.size WX (WY).drew) := (BY.out : Below WX.heap.size WX WY).drew
      refine wp_region_held_drew (S := fun x => x.heap[W0.heap.size]? = some (.cells (msgV (mm0 0)) 27)) (by kernel_rfl) (KC.out _ BW.out).2.1 (fun hHeld => ?_)
      generalize (WY).drew = Wd at *
      have hRd := (KC.out _ BW.out).1
      have HBd := hide (KC.out _ BW.out).2.2.1
      refine wpAnyH_take (i := 0) (v := (.agg (msgV (mm0 0)))) rfl (by kernel_rfl) (by kernel_rfl) (by kernel_rfl) (fun _ _ _ h => h) (Or.inl ⟨by rfl, ?_⟩) (by assumption) ?_
      · intro w' hSw
        (try dsimp only at hSw)
        (obtain ⟨c0, c1, c2, c3, c4, c5, c6, c7, c8, c9, c10⟩ := msg_cells (mm0 0) _ _ hSw; clear hSw; go_simp; try rfl)
      (try simp only [Act.put, List.setIfInBounds_toArray, List.set_cons_zero, List.set_cons_succ])
      refine wpAnyH_take (i := 1) (v := (.int .i64 0)) rfl (by kernel_rfl) (by kernel_rfl) (by kernel_rfl) (fun _ _ _ h => h) (Or.inl ⟨by rfl, ?_⟩) (by assumption) ?_
      · intro w' hSw
        (try dsimp only at hSw)
        go_simp <;> first | exact i64_in (by omega) (by omega) | exact u32_in (by omega) (by omega) | exact u32_add _ _ | (rw [Int.tmod_eq_emod_of_nonneg (by omega)]; omega) | (rw [Int.tdiv_eq_ediv_of_nonneg (by omega)]; omega) | omega
      (try simp only [Act.put, List.setIfInBounds_toArray, List.set_cons_zero, List.set_cons_succ])
      refine wpAnyH_ready (rs := [2]) (by kernel_rfl) (by simp) ?_
      refine AllReadyH.cons rfl (fun K hK => ?_) AllReadyH.nil
      rw [if_pos (by kernel_rfl)]
      refine wp_store_row 27 (.tmp 5) (.tmp 52) rfl w.heap.size (msgV (mm0 0)) rfl rfl 27 (msgV (mm0 0)) hRd msg_info rfl (msg_one (mm0 0)) ?_
      refine hK.out _ _ (((setRow_other Wd _ _ _ (by have := (Array.getElem?_eq_some_iff.1 hRd).1; have := HBd.out.size; have := W0L.out; omega)).trans (KC.out _ BW.out).2.1)) (fun hHeld => ?_)
      clear hK
      (try simp only [Act.put, List.setIfInBounds_toArray, List.set_cons_zero, List.set_cons_succ])
      refine wpAnyH_done (by kernel_rfl) ?_ _
      clear hHeld
      (try simp only [Act.put, List.getElem_toArray, List.getElem_cons_zero, List.getElem_cons_succ])
      go_wp2_with fail
      refine bodyPost_ret (v := .tuple #[.int .i64 0, .agg (msgV (mm0 0))]) (res_msg3 Tryd.results34 _ (mm0 0) _ w.heap.size rfl _ rfl (setRow_heap _ _ _ _ _ _ hRd)) rfl ⟨by rw [E.out], ?_⟩
      exact below_row HBd.out (Nat.le_refl _) _
end Go.Proofs.YtgdjfocnaapooaaDoor
namespace Go.Proofs.YtgdjfocnaapooaaDoor
open Go.RowKit Go.Shelf
attribute [local go_sem] Oper.semAt_some
/-- a message into a block that is there, inside a fence -/
theorem wpListIn_storeMsg {F : Fence} {n : Nat} {w : World} {ops : Array Oper} {rest : List Oper} {o : Oper} {a : Act} {Q : Exit → Act → World → Prop} (hgd : o.guard = none) (p x : Operand) (ho : o.op = .store 27 p x) (b : Nat) (hp : a.eval p = .pointer (some ⟨b, 0, none⟩)) (m m0 : MM) (hx : a.eval x = .agg (msgV m)) (hO : w.heap[b]? = some (.cells (msgV m0) 27))
    (h : wpListIn F n Tryd.prog ops Q rest (a.put o.dst undef) (w.setRow b (msgV m))) : wpListIn F n Tryd.prog ops Q (o :: rest) a w := by
  refine wpListIn_plain hgd fun K hK => ?_
  unfold Oper.wpIn
  refine ⟨by simp [Oper.about, ho], ?_⟩
  rw [Oper.semAt_plain F _ _ (by rw [ho]; intro c hc'; cases hc')]
  simp only [execOp, ho, Sem.run_bind, Sem.run_pure, hp, hx, run_storeMsg m m0 w b hO, Result.andThen]
  exact hK _ _ h
theorem wpListIn_loadMsg {F : Fence} {n : Nat} {w : World} {ops : Array Oper} {rest : List Oper} {o : Oper} {a : Act} {Q : Exit → Act → World → Prop} (hgd : o.guard = none) (x : Operand) (ho : o.op = .load 27 x) (m : MM) (b : Nat) (hx : a.eval x = .pointer (some ⟨b, 0, none⟩)) (hO : w.heap[b]? = some (.cells (msgV m) 27))
    (h : wpListIn F n Tryd.prog ops Q rest (a.put o.dst (.agg (msgV m))) w) : wpListIn F n Tryd.prog ops Q (o :: rest) a w := by
  refine wpListIn_plain hgd fun K hK => ?_
  unfold Oper.wpIn
  refine ⟨by simp [Oper.about, ho], ?_⟩
  rw [Oper.semAt_plain F _ _ (by rw [ho]; intro c hc'; cases hc')]
  simp only [execOp, ho, Sem.run_bind, Sem.run_pure, hx, run_loadM m w b hO, Result.andThen]
  exact hK _ _ h
/-- what Scan tells -/
def scanP (s : ByteArray) (i : Nat) : List (Nat × MM) := (splitP s i).map fun p => (p.1, p.2.2)
end Go.Proofs.YtgdjfocnaapooaaDoor
namespace Go.Proofs.YtgdjfocnaapooaaDoor
open Go.RowKit Go.Shelf
attribute [local go_sem] Oper.semAt_some
/-- a place and the message of the frame that begins there -/
def FrAt (s : ByteArray) : Type := { x : Nat × MM // x.1 < s.size ∧ nextP s x.1 = some (24 + bszF (s.extract x.1 s.size), x.2) }
theorem firstP_is {t : ByteArray} {n : Nat} {m : MM} (h : firstP t = some (n, m)) : n = 24 + bszF t := by
  unfold firstP at h
  split at h
  · simp at h
  · split at h
    · simp at h
    · simp only [Option.some.injEq, Prod.mk.injEq] at h
      exact h.1.symm
def scanF (s : ByteArray) : Nat → Nat → List (FrAt s)
  | 0, _ => []
  | f + 1, i => if h : i < s.size then
      if hn : (nextP s i).isSome then
        ⟨(i, ((nextP s i).get hn).2), h, by
          show nextP s i = _
          have e : nextP s i = some ((nextP s i).get hn) := (Option.some_get hn).symm
          generalize (nextP s i).get hn = y at e
          obtain ⟨n, m⟩ := y
          rw [e]
          rw [← firstP_is e]⟩ :: scanF s f (i + (24 + bszF (s.extract i s.size)))
      else scanF s f (i + 1)
    else []
theorem scanF_end (s : ByteArray) (f i : Nat) (h : s.size ≤ i) : scanF s f i = [] := by
  cases f with
  | zero => rfl
  | succ f => unfold scanF; rw [dif_neg (by omega)]
theorem scanF_fuel (s : ByteArray) : ∀ f i g, s.size ≤ i + f → s.size ≤ i + g → scanF s f i = scanF s g i := by
  intro f
  induction f with
  | zero => intro i g h _; rw [scanF_end s 0 i (by omega), scanF_end s g i (by omega)]
  | succ f ih =>
    intro i g hf hg
    cases g with
    | zero => rw [scanF_end s _ i (by omega), scanF_end s _ i (by omega)]
    | succ g =>
      unfold scanF
      by_cases hi : i < s.size
      · rw [dif_pos hi, dif_pos hi]
        by_cases hn : (nextP s i).isSome
        · rw [dif_pos hn, dif_pos hn, ih (i + (24 + bszF (s.extract i s.size))) g (by omega) (by omega)]
        · rw [dif_neg hn, dif_neg hn, ih (i + 1) g (by omega) (by omega)]
      · rw [dif_neg hi, dif_neg hi]
def scanQ (s : ByteArray) (i : Nat) : List (FrAt s) := scanF s (s.size - i) i
theorem scanQ_end {s : ByteArray} {i : Nat} (h : s.size ≤ i) : scanQ s i = [] := scanF_end s _ i h
theorem scanQ_none {s : ByteArray} {i : Nat} (h : i < s.size) (hn : nextP s i = none) : scanQ s i = scanQ s (i + 1) := by
  unfold scanQ
  obtain ⟨f, hf⟩ : ∃ f, s.size - i = f + 1 := ⟨s.size - i - 1, by omega⟩
  rw [hf]
  conv => lhs; unfold scanF
  rw [dif_pos h, dif_neg (by rw [hn]; simp)]
  exact scanF_fuel s _ _ _ (by omega) (by omega)
theorem scanQ_some {s : ByteArray} {i n : Nat} {m : MM} (h : i < s.size) (hn : nextP s i = some (n, m)) : ∃ x : FrAt s, x.1 = (i, m) ∧ scanQ s i = x :: scanQ s (i + n) := by
  have hz := firstP_is hn
  have hsz := firstP_size hn
  have hsome : (nextP s i).isSome = true := by rw [hn]; rfl
  have hget : ((nextP s i).get hsome).2 = m := by simp only [hn, Option.get_some]
  refine ⟨⟨(i, m), h, by show nextP s i = some (24 + bszF (s.extract i s.size), m); rw [hn, ← hz]⟩, rfl, ?_⟩
  unfold scanQ
  obtain ⟨f, hf⟩ : ∃ f, s.size - i = f + 1 := ⟨s.size - i - 1, by omega⟩
  rw [hf]
  conv => lhs; unfold scanF
  rw [dif_pos h, dif_pos hsome]
  congr 1
  · exact Subtype.ext (by show (i, ((nextP s i).get hsome).2) = (i, m); rw [hget])
  · rw [← hz]; exact scanF_fuel s f (i + n) (s.size - (i + n)) (by omega) (by omega)
set_option maxHeartbeats 8000000 in
set_option maxRecDepth 100000 in
/-- what Scan answers, ranged over by any loop that keeps its word -/
theorem scan1_in (n : Nat) (hn : 1 ≤ n) (l Bn : Nat) (s : ByteArray) (hs : s.size ≤ 900000000000) (Kp : World → World → Prop) (hKr : ∀ A, Kp A A) (hKt : ∀ {A B C : World}, Kp A B → Kp B C → Kp A C) (hKn : ∀ A B, Below A.heap.size A B → Kp A B) (J Jx : List (FrAt s) → World → Prop)
    (hJ : ∀ pre A B, J pre A → Below A.heap.size A B → J pre B)
    (hY : ∀ pre x W, J pre W → pre.length < (scanQ s 0).length → YieldAt Fence.wide (n - 1) Tryd.prog l #[.int .i64 (x.1.1 : Int), .agg (msgV x.1.2)] W fun e W' =>
      (e = .returned (.bool true) ∧ J (pre ++ [x]) W' ∧ Kp W W') ∨ (e = .returned (.bool false) ∧ Jx (pre ++ [x]) W'))
    (W : World) (HT : ∀ W', Kp W W' → TabF W' ∧ Tab4 5 W' ∧ W'.cell? ⟨Bn, 0, none⟩ = some (.string s)) (h0 : J [] W) :
    CallsIn Fence.wide n Tryd.prog 35 #[.func (.yield l) #[] #[], .pointer (some ⟨Bn, 0, none⟩)] W fun e W' => (∃ v, e = .returned v) ∧
      ((∃ ys, ys = scanQ s 0 ∧ J ys W') ∨ (∃ pre, pre <+: scanQ s 0 ∧ Jx pre W')) := by
  have HTH := hide HT
  clear HT
  refine callsIn_of_wp Tryd.func35 rfl trivial ?_ rfl
  simp only [Tryd.ntmps35, List.size_toArray, List.length_cons, List.length_nil, Nat.reduceAdd, Nat.reduceSub, Array.replicate_succ, Array.replicate_zero, List.push_toArray, List.append_toArray, List.nil_append, List.cons_append]
  gi_wp2
  gi_loopw [3, 5] (fun a _ wr => ∃ (k : Nat) (pre : List (FrAt s)), a = .int .i64 (k : Int) ∧ k ≤ s.size ∧ pre ++ scanQ s k = scanQ s 0 ∧ J pre wr ∧ Kp W wr) (fun a _ _ => s.size - (intOf a).toNat)
  case atStart => exact ⟨0, [], rfl, Nat.zero_le _, rfl, h0, hKr _⟩
  case round =>
    obtain ⟨k, pre, rfl, hk, hp, hJp, hB⟩ := hrel
    obtain ⟨t1, t2, hc⟩ := HTH.out _ hB
    by_cases hkl : k < s.size
    case neg =>
      obtain rfl : k = s.size := by omega
      rw [scanQ_end (Nat.le_refl _), List.append_nil] at hp
      gi_wp2
      go_end0
      exact ⟨⟨_, rfl⟩, .inl ⟨_, hp, hJp⟩⟩
    case pos =>
      have FC := first_any (s.extract k s.size) wr t1 t2
      have hki : (k : Int) < (s.size : Int) := by omega
      have hki2 : ¬ (s.size : Int) < (k : Int) := by omega
      clear t1 t2
      cases hnx : nextP s k with
      | none =>
        rw [firV_none hnx] at FC
        rw [scanQ_none hkl hnx] at hp
        have HP := hide hp
        have HF := hide FC
        clear FC hp hnx
        gi_wp2_with fail
        refine ⟨trivial, (callsIn_wide.2 HF.out).mono ?_⟩
        rintro e w1 ⟨rfl, b1⟩
        obtain ⟨WX, eX, _, bX1, bX⟩ := laid_new b1 (mm0 0)
        have J1 := hide (hJ _ _ _ hJp bX)
        have B1 := hide (hKt hB (hKn _ _ bX))
        clear b1 bX1 bX HF hJp hB
        gi_wp2_with (refine wpListIn_storeMsg rfl (.tmp 4) (.tmp 15) rfl w1.heap.size rfl (mm0 0) (mm0 0) rfl (heap_last _ _) ?_)
        rw [← eX]
        go_roundw
        case rel => exact ⟨k + 1, pre, by go_num, by omega, HP.out, J1.out, B1.out⟩
        case measure => simp [intOf]; omega
      | some x =>
        obtain ⟨nz, m⟩ := x
        obtain ⟨n24, nle, n44, _⟩ := firstP_size hnx
        rw [ByteArray.size_extract] at nle
        rw [firV_some hnx] at FC
        obtain ⟨x0, hx0, hxs⟩ := scanQ_some hkl hnx
        rw [hxs] at hp
        have hlen : pre.length < (scanQ s 0).length := by rw [← hp, List.length_append]; simp
        have HP : Hid ((pre ++ [x0]) ++ scanQ s (k + nz) = scanQ s 0) := by show _ = _; rw [List.append_assoc]; exact hp
        have HF := hide FC
        have hz0 : ((nz : Int) == 0) = false := by simp; omega
        clear FC hp hnx hxs
        gi_wp2_with fail
        refine ⟨trivial, (callsIn_wide.2 HF.out).mono ?_⟩
        rintro e w1 ⟨rfl, b1⟩
        obtain ⟨WX, eX, hX, bX1, bX⟩ := laid_new b1 m
        have J1 := hJ _ _ _ hJp bX
        have B1 := hide (hKt hB (hKn _ _ bX))
        obtain ⟨fn, tmps, assign, body, hy, hR⟩ := hY pre x0 WX J1 hlen
        rw [hx0] at hy
        dsimp only at hy
        clear b1 bX1 bX HF hJp hB J1
        gi_upto_region 3 with (refine wpListIn_storeMsg rfl (.tmp 4) (.tmp 15) rfl w1.heap.size rfl m (mm0 0) rfl (heap_last _ _) ?_)
        rw [← eX]
        clear eX
        gi_wp2_with (refine wpListIn_loadMsg rfl (.tmp 4) rfl m w1.heap.size rfl hX ?_)
        refine hR.mono ?_
        rintro e W3 (⟨rfl, hJ3, hk3⟩ | ⟨rfl, hJx3⟩)
        · have J3 := hide hJ3
          have B3 := hide (hKt B1.out hk3)
          clear hJ3 hk3 hR hy
          gi_wp2_with fail
          go_roundw
          case rel => exact ⟨k + nz, pre ++ [x0], by go_num, by omega, HP.out, J3.out, B3.out⟩
          case measure => simp [intOf]; omega
        · have JX := hide hJx3
          clear hJx3 hR hy
          gi_wp2_with fail
          refine bodyPost_ret (results_none rfl _ _ _) rfl ?_
          exact ⟨⟨_, rfl⟩, .inr ⟨pre ++ [x0], ⟨scanQ s (k + nz), HP.out⟩, JX.out⟩⟩
end Go.Proofs.YtgdjfocnaapooaaDoor
namespace Go.Proofs.YtgdjfocnaapooaaDoor
open Go.RowKit Go.Shelf
set_option maxHeartbeats 2000000 in
set_option maxRecDepth 100000 in
/-- Scan: a function over the stream -/
theorem scan_any (s : ByteArray) (w : World) :
    Calls Tryd.prog 17 #[.string s] w fun e w' => e = .returned (.func (.func 35) #[] #[.pointer (some ⟨w.heap.size, 0, none⟩)]) ∧ w.alloc (.cells #[.string s] 9) = w' := by
  go_enter Tryd.func17, Tryd.ntmps17
  go_wp2_with fail
  go_ret
  exact ⟨rfl, rfl⟩
/-- what a round keeps: what lay below n0, and the captured text -/
def KpS (n₀ Bn : Nat) (s : ByteArray) (A B : World) : Prop := Below n₀ A B ∧ (A.cell? ⟨Bn, 0, none⟩ = some (.string s) → B.cell? ⟨Bn, 0, none⟩ = some (.string s)) ∧ A.heap.size ≤ B.heap.size
theorem KpS.t {n₀ Bn : Nat} {s : ByteArray} {A B C : World} (h : KpS n₀ Bn s A B) (k : KpS n₀ Bn s B C) : KpS n₀ Bn s A C := ⟨h.1.trans k.1, fun x => k.2.1 (h.2.1 x), Nat.le_trans h.2.2 k.2.2⟩
/-- the contract in the form that the law of a range asks -/
theorem scan1_stops (n : Nat) (hn : 1 ≤ n) (Bn n₀ : Nat) (s : ByteArray) (hs : s.size ≤ 900000000000) (w : World) (hn0 : n₀ ≤ w.heap.size) (hc : w.cell? ⟨Bn, 0, none⟩ = some (.string s)) (HT : ∀ W', Below n₀ w W' → TabF W' ∧ Tab4 5 W') :
    SeqStopsK Fence.wide n Tryd.prog 35 #[.pointer (some ⟨Bn, 0, none⟩)] (fun x : FrAt s => #[.int .i64 (x.1.1 : Int), .agg (msgV x.1.2)]) (fun A B => n₀ ≤ A.heap.size → KpS n₀ Bn s A B) (fun ys => ys = scanQ s 0) (fun pre => pre <+: scanQ s 0) (scanQ s 0).length w := by
  intro l J Jx W hW hJ hJx hY h0
  have hnW := Nat.le_trans hn0 hW.size
  have hcW : W.cell? ⟨Bn, 0, none⟩ = some (.string s) := (hW.cell (World.block_lt_of_cell? w _ hc)).trans hc
  refine scan1_in n hn l Bn s hs (fun A B => n₀ ≤ A.heap.size → KpS n₀ Bn s A B) (fun A _ => ⟨Below.refl _ _, fun x => x, Nat.le_refl _⟩) (fun h k hA => (h hA).t (k (Nat.le_trans hA (h hA).2.2))) (fun A B hb hA => ⟨hb.mono hA, fun x => (hb.cell (World.block_lt_of_cell? A _ x)).trans x, hb.size⟩) J Jx (fun pre A B hA hb => hJ pre A B none hA ⟨hb.os, hb.tape, hb.output, hb.size, fun i hi _ => hb.block i hi⟩ (fun r e => by cases e)) hY W (fun W' hk => ?_) h0
  obtain ⟨h1, h2, _⟩ := hk hnW
  obtain ⟨t1, t2⟩ := HT W' ((hW.mono hn0).trans h1)
  exact ⟨t1, t2, h2 hcW⟩
/-- the piece of a place -/
def toP {s : ByteArray} (x : FrAt s) : Nat × Nat × MM := (x.1.1, 24 + bszF (s.extract x.1.1 s.size), x.1.2)
theorem scan_split (s : ByteArray) : ∀ f i, s.size ≤ i + f → (scanQ s i).map toP = splitP s i := by
  intro f
  induction f with
  | zero => intro i h; rw [scanQ_end (by omega), splitP_end (by omega)]; rfl
  | succ f ih =>
    intro i h
    by_cases hi : i < s.size
    · cases hn : nextP s i with
      | none => rw [scanQ_none hi hn, splitP_none hi hn]; exact ih (i + 1) (by omega)
      | some x =>
        obtain ⟨n, m⟩ := x
        have hz := firstP_is hn
        have hsz := firstP_size hn
        obtain ⟨x0, hx0, hxs⟩ := scanQ_some hi hn
        rw [hxs, splitP_some hi hn, List.map_cons, ih (i + n) (by omega)]
        congr 1
        unfold toP
        rw [hx0]
        dsimp only
        rw [← hz]
    · rw [scanQ_end (by omega), splitP_end (by omega)]; rfl
end Go.Proofs.YtgdjfocnaapooaaDoor
