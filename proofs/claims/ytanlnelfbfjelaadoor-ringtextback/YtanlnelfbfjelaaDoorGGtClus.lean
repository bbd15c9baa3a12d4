import Derived.Test.YtanlnelfbfjelaaDoorGGtMap
import Derived.Test.YtanlnelfbfjelaaDoorGGcChk
import Derived.Test.YtanlnelfbfjelaaDoorGGcTwin2
namespace Go.Proofs.YtanlnelfbfjelaaDoor
open Go.RowKit Go.Maps
theorem clA_congr {st : ByteArray} {x y : Nat → Int} {nv : Value} (h : ∀ i, i < 21 → x i = y i) : clA st x nv = clA st y nv := by
  unfold clA
  rw [h 0 (by omega), h 1 (by omega), h 2 (by omega), h 3 (by omega), h 4 (by omega), h 5 (by omega), h 6 (by omega), h 7 (by omega), h 8 (by omega), h 9 (by omega), h 10 (by omega), h 11 (by omega), h 12 (by omega), h 13 (by omega), h 14 (by omega), h 15 (by omega), h 16 (by omega), h 17 (by omega), h 18 (by omega), h 19 (by omega), h 20 (by omega)]
/-- the settings that are set so far -/
def yq (x : Nat → Int) (q : Nat) : Nat → Int := fun j => if j < q then x j else 0
theorem clA_set (st : ByteArray) (x : Nat → Int) (nv : Value) (i : Nat) (h : i < 21) (v : Int) : (clA st x nv).setIfInBounds (i + 1) (.int .i64 v) = clA st (put1 x i v) nv := by
  have : i = 0 ∨ i = 1 ∨ i = 2 ∨ i = 3 ∨ i = 4 ∨ i = 5 ∨ i = 6 ∨ i = 7 ∨ i = 8 ∨ i = 9 ∨ i = 10 ∨ i = 11 ∨ i = 12 ∨ i = 13 ∨ i = 14 ∨ i = 15 ∨ i = 16 ∨ i = 17 ∨ i = 18 ∨ i = 19 ∨ i = 20 := by omega
  rcases this with rfl | rfl | rfl | rfl | rfl | rfl | rfl | rfl | rfl | rfl | rfl | rfl | rfl | rfl | rfl | rfl | rfl | rfl | rfl | rfl | rfl <;> rfl
theorem ClAt.put {w : World} {b : Nat} {st : ByteArray} {x : Nat → Int} {nv : Value} (h : ClAt w b st x nv) (i : Nat) (hi : i < 21) (v : Int) : ClAt (w.setCell ⟨b, i + 1, none⟩ (.int .i64 v)) b st (put1 x i v) nv := by
  unfold ClAt at *
  simp only [World.setCell, Array.getElem?_modify, if_true, h, Option.map_some]
  rw [← clA_set st x nv i hi v]
  rfl
theorem yq_succ (x : Nat → Int) (q : Nat) : put1 (yq x q) q (x q) = yq x (q + 1) := by
  funext j
  unfold put1 yq
  by_cases h : j = q
  · subst h; rw [if_pos rfl, if_pos (by omega)]
  · rw [if_neg h]
    by_cases h2 : j < q
    · rw [if_pos h2, if_pos (by omega)]
    · rw [if_neg h2, if_neg (by omega)]
theorem ClAt.fzT {w : World} {b : Nat} {st : ByteArray} {x : Nat → Int} {nv : Value} (h : ClAt w b st x nv) (k : Nat) : w.frozen? ⟨b, k, none⟩ = false := by unfold World.frozen?; rw [show w.heap[b]? = _ from h]; simp
theorem built_cl2 (st : ByteArray) (ba : Option Addr) (n c : Nat) : Tryd.prog.built 24 [(0, .string st), (22, .slice ba n c)] = some (clA st zx (.slice ba n c)) := by kernel_rfl
theorem exec_buildCl2 {ρ : Operand → Value} {op : Oper} {w : World} {st : ByteArray} {ba : Option Addr} {n c : Nat} (x y : Operand) (ho : op.op = .build 24 #[(0, x), (22, y)]) (hx : ρ x = .string st) (hy : ρ y = .slice ba n c) : (execOp ρ op).run Tryd.prog w = .ok (.value (.agg (clA st zx (.slice ba n c)))) w := by
  unfold execOp
  have hb := run_build (P := Tryd.prog) w 24 #[(0, .string st), (22, .slice ba n c)] _ (built_cl2 st ba n c)
  have hm : (#[(0, x), (22, y)] : Array (Nat × Operand)).map (fun (i, x) => (i, ρ x)) = #[(0, .string st), (22, .slice ba n c)] := by simp only [List.map_toArray, List.map_cons, List.map_nil, hx, hy]
  simp only [ho, hm, Sem.run_bind, hb, Result.andThen_ok, Sem.run_pure]
theorem wp_storeClN {w0 w : World} {o : Oper} {a : Act} {K : Act → World → Prop} {Q : Exit → Act → World → Prop} (hd : o.dst = none) (p y : Operand) (ho : o.op = .store 24 p y) (hp : a.eval p = .pointer (some ⟨w0.heap.size, 0, none⟩)) (st : ByteArray) (x : Nat → Int) (nv : Value) (hn : nv.oneCell' = true) (hx : a.eval y = .agg (clA st x nv)) (c : Array Value) (hc : c.size = 23) (hw : w = w0.alloc (.cells c 24))
    (h : K a (w0.alloc (.cells (clA st x nv) 24))) : o.wp Tryd.prog a w K Q := by
  subst hw
  have h' : K (a.put o.dst undef) (w0.alloc (.cells (clA st x nv) 24)) := by rw [hd]; exact h
  unfold Oper.wp execOp
  simp only [ho, Sem.run_bind, Sem.run_pure, Result.andThen_ok, hp, hx, run_storeAt_new w0 24 c (clA st x nv) infoCl (by rw [hc]; rfl) (clA_one st x hn)]
  exact h'
theorem res_cl2 {fn : Func} {p q : Tmp} (h : fn.results = #[.cell p 24, .tmp q]) (tmps : Array Value) (st : ByteArray) (x : Nat → Int) (nv : Value) (w : World) (b : Nat) (ht : tmps.getD p undef = .pointer (some ⟨b, 0, none⟩)) (hO : ClAt w b st x nv) (v : Value) (hv : tmps.getD q undef = v) : (results fn tmps).run Tryd.prog w = .ok (.tuple #[.agg (clA st x nv), v]) w := by
  have hl : (loadVar 24 ⟨b, 0, none⟩).run Tryd.prog w = .ok (.agg (clA st x nv)) w := run_loadVar_row _ _ 24 24 (clA st x nv) (0, 0) _ hO Tryd.underlying24 rfl infoCl
  have ht' : tmps[p]?.getD undef = .pointer (some ⟨b, 0, none⟩) := by simpa using ht
  have hv' : tmps[q]?.getD undef = v := by simpa using hv
  unfold results
  rw [h]
  simp [ht', hv', asAddr, hl]
theorem res_cl3 {fn : Func} {p q r : Tmp} (h : fn.results = #[.cell p 24, .tmp q, .tmp r]) (tmps : Array Value) (st : ByteArray) (x : Nat → Int) (nv : Value) (w : World) (b : Nat) (ht : tmps.getD p undef = .pointer (some ⟨b, 0, none⟩)) (hO : ClAt w b st x nv) (v u : Value) (hv : tmps.getD q undef = v) (hu : tmps.getD r undef = u) : (results fn tmps).run Tryd.prog w = .ok (.tuple #[.agg (clA st x nv), v, u]) w := by
  have hl : (loadVar 24 ⟨b, 0, none⟩).run Tryd.prog w = .ok (.agg (clA st x nv)) w := run_loadVar_row _ _ 24 24 (clA st x nv) (0, 0) _ hO Tryd.underlying24 rfl infoCl
  have ht' : tmps[p]?.getD undef = .pointer (some ⟨b, 0, none⟩) := by simpa using ht
  have hv' : tmps[q]?.getD undef = v := by simpa using hv
  have hu' : tmps[r]?.getD undef = u := by simpa using hu
  unfold results
  rw [h]
  simp [ht', hv', hu', asAddr, hl]
theorem below_ad (w : World) (o : Obj) : Below w.heap.size w (w.alloc o).drew := ((Below.refl _ _).alloc (Nat.le_refl _) o).trans ⟨rfl, rfl, rfl, Nat.le_refl _, fun _ _ => rfl⟩
/-- what a said comes to -/
noncomputable def clE (s : PS) : Int := if lackP s = true then 62 else errP (strOf s.st) s.x s.ns
noncomputable def clV (s : PS) (vl : Value) : Array Value := if clE s = 0 then clA (strOf s.st) s.x vl else clA ⟨#[]⟩ zx (.slice none 0 0)
theorem lack_x {s : PS} {i : Nat} (hi : i < 21) (h : ¬ 0 ≤ s.x i) : lackP s = true := by
  unfold lackP
  rw [range_no hi (decide_eq_false h)]
  simp
theorem lack_st {s : PS} (h : s.st = []) : lackP s = true := by unfold lackP; rw [h]; rfl
theorem lack_no {s : PS} (h : s.st ≠ []) (hx : ∀ i, i < 21 → 0 ≤ s.x i) : lackP s = false := by
  unfold lackP
  rw [List.all_eq_true.2 (fun i hi => decide_eq_true (hx i (List.mem_range.1 hi)))]
  cases hs : s.st with
  | nil => exact absurd hs h
  | cons a b => rfl
theorem clE_lack {s : PS} (h : lackP s = true) (vl : Value) : clE s = 62 ∧ clV s vl = clA ⟨#[]⟩ zx (.slice none 0 0) := by
  have e : clE s = 62 := by unfold clE; rw [if_pos h]
  exact ⟨e, by unfold clV; rw [e]; rfl⟩
theorem clE_no {s : PS} (h : lackP s = false) : clE s = errP (strOf s.st) s.x s.ns := by unfold clE; rw [h]; rfl
set_option maxHeartbeats 8000000 in
set_option maxRecDepth 100000 in
set_option linter.unusedSimpArgs false in
set_option linter.unusedVariables false in
theorem cluster_any (S M base n : Nat) (s : PS) (vl : Value) (zs : List (Int × Value)) (W : World) (h : SaAt W S M base n s vl zs) (hn : n ≤ 70000) :
    Calls Tryd.prog 17 #[.pointer (some ⟨S, 0, none⟩)] W fun e w' => e = .returned (.tuple #[.agg (clV s vl), .int .i64 (clE s)]) ∧ Below W.heap.size W w' := by
  obtain ⟨bz, nb, cz, hvl, hns⟩ := h.tw.nodes h.zl (by have := h.nl; omega) (fun q hq => Nat.le_trans (h.pl _ (List.getElem_mem hq)) (by omega))
  have NS := hide hns
  clear hns
  have HS := hide h
  have hS := blk_lt h.c
  obtain ⟨W0, hW0⟩ : ∃ W0, W0 = W.alloc (.cells (clA ⟨#[]⟩ zx (.slice none 0 0)) 24) := ⟨_, rfl⟩
  have B0 : Hid (Below W.heap.size W W0) := by rw [hW0]; exact (Below.refl _ _).alloc (Nat.le_refl _) _
  have R0 : Hid (ClAt W0 W.heap.size ⟨#[]⟩ zx (.slice none 0 0)) := by rw [hW0]; exact new_cl _ _ _ _
  have s0 : Hid (W0.heap.size = W.heap.size + 1) := by rw [hW0]; show _ = _; simp
  have S0 := hide (h.keep B0.out)
  subst hvl
  clear h
  obtain ⟨st, hst⟩ : ∃ st, st = strOf s.st := ⟨_, rfl⟩
  have HST := hide hst
  obtain ⟨W1, hW1⟩ : ∃ W1, W1 = W0.drew.alloc (.cells (clA st zx (.slice bz s.ns.length cz)) 24) := ⟨_, rfl⟩
  have B1 : Hid (Below W0.heap.size W0 W1) := by rw [hW1]; exact Below.alloc (show Below W0.heap.size W0 W0.drew from ⟨rfl, rfl, rfl, Nat.le_refl _, fun _ _ => rfl⟩) (Nat.le_refl _) _
  have C1 : Hid (ClAt W1 W0.heap.size st zx (.slice bz s.ns.length cz)) := by rw [hW1]; exact new_cl _ _ _ _
  have SF : Hid (∀ Y, Below W0.heap.size W0 Y → Y.cell? ⟨S, 0, none⟩ = some (.string st) ∧ Y.cell? ⟨S, 2, none⟩ = some (.slice bz s.ns.length cz)) := fun Y hY => by
    rw [hst]
    exact ⟨(S0.out.keep hY).c0, (S0.out.keep hY).c2⟩
  clear hst
  go_enter Tryd.func17, Tryd.ntmps17
  go_upto_region 1 with fail
  rw [show W.alloc (.cells #[.string ⟨#[]⟩, .int .i64 0, .int .i64 0, .int .i64 0, .int .i64 0, .int .i64 0, .int .i64 0, .int .i64 0, .int .i64 0, .int .i64 0, .int .i64 0, .int .i64 0, .int .i64 0, .int .i64 0, .int .i64 0, .int .i64 0, .int .i64 0, .int .i64 0, .int .i64 0, .int .i64 0, .int .i64 0, .int .i64 0, .slice none 0 0] 24) = W0 from hW0.symm]
  clear hW0
  refine wp_region_held_drew (S := fun Y => Below W0.heap.size W0 Y) (by kernel_rfl) ⟨rfl, rfl, rfl, Nat.le_refl _, fun _ _ => rfl⟩ (fun hHeld => ?_)
  refine wpAnyH_take (i := 0) (v := (.pointer (some ⟨S, 0, none⟩))) rfl (by kernel_rfl) (by kernel_rfl) (by kernel_rfl) (fun _ _ _ h => h) (Or.inl ⟨by rfl, ?_⟩) (by assumption) ?_
  · intro w' hSw
    (try dsimp only at hSw)
    go_simp
  (try simp only [Act.put, List.getElem_toArray, List.getElem_cons_zero, List.getElem_cons_succ, List.setIfInBounds_toArray, List.set_cons_zero, List.set_cons_succ])
  refine wpAnyH_take (i := 1) (v := (.pointer (some ⟨S, 0, none⟩))) rfl (by kernel_rfl) (by kernel_rfl) (by kernel_rfl) (fun _ _ _ h => h) (Or.inl ⟨by rfl, ?_⟩) (by assumption) ?_
  · intro w' hSw
    (try dsimp only at hSw)
    go_simp
  (try simp only [Act.put, List.getElem_toArray, List.getElem_cons_zero, List.getElem_cons_succ, List.setIfInBounds_toArray, List.set_cons_zero, List.set_cons_succ])
  refine wpAnyH_take (i := 2) (v := (.pointer (some ⟨S, 0, none⟩))) rfl (by kernel_rfl) (by kernel_rfl) (by kernel_rfl) (fun _ _ _ h => h) (Or.inl ⟨by rfl, ?_⟩) (by assumption) ?_
  · intro w' hSw
    (try dsimp only at hSw)
    go_simp
  (try simp only [Act.put, List.getElem_toArray, List.getElem_cons_zero, List.getElem_cons_succ, List.setIfInBounds_toArray, List.set_cons_zero, List.set_cons_succ])
  refine wpAnyH_take (i := 3) (v := (.string st)) rfl (by kernel_rfl) (by kernel_rfl) (by kernel_rfl) (fun _ _ _ h => h) (Or.inl ⟨by rfl, ?_⟩) (by assumption) ?_
  · intro w' hSw
    (try dsimp only at hSw)
    (have y := (SF.out _ hSw).1; go_simp)
  (try simp only [Act.put, List.getElem_toArray, List.getElem_cons_zero, List.getElem_cons_succ, List.setIfInBounds_toArray, List.set_cons_zero, List.set_cons_succ])
  refine wpAnyH_take (i := 4) (v := (.pointer (some ⟨S, 0, none⟩))) rfl (by kernel_rfl) (by kernel_rfl) (by kernel_rfl) (fun _ _ _ h => h) (Or.inl ⟨by rfl, ?_⟩) (by assumption) ?_
  · intro w' hSw
    (try dsimp only at hSw)
    go_simp
  (try simp only [Act.put, List.getElem_toArray, List.getElem_cons_zero, List.getElem_cons_succ, List.setIfInBounds_toArray, List.set_cons_zero, List.set_cons_succ])
  refine wpAnyH_take (i := 5) (v := (.pointer (some ⟨S, 0, none⟩))) rfl (by kernel_rfl) (by kernel_rfl) (by kernel_rfl) (fun _ _ _ h => h) (Or.inl ⟨by rfl, ?_⟩) (by assumption) ?_
  · intro w' hSw
    (try dsimp only at hSw)
    go_simp
  (try simp only [Act.put, List.getElem_toArray, List.getElem_cons_zero, List.getElem_cons_succ, List.setIfInBounds_toArray, List.set_cons_zero, List.set_cons_succ])
  refine wpAnyH_take (i := 6) (v := (.pointer (some ⟨S, 2, none⟩))) rfl (by kernel_rfl) (by kernel_rfl) (by kernel_rfl) (fun _ _ _ h => h) (Or.inl ⟨by rfl, ?_⟩) (by assumption) ?_
  · intro w' hSw
    (try dsimp only at hSw)
    go_simp
  (try simp only [Act.put, List.getElem_toArray, List.getElem_cons_zero, List.getElem_cons_succ, List.setIfInBounds_toArray, List.set_cons_zero, List.set_cons_succ])
  refine wpAnyH_take (i := 7) (v := (.slice bz s.ns.length cz)) rfl (by kernel_rfl) (by kernel_rfl) (by kernel_rfl) (fun _ _ _ h => h) (Or.inl ⟨by rfl, ?_⟩) (by assumption) ?_
  · intro w' hSw
    (try dsimp only at hSw)
    (have y := (SF.out _ hSw).2; go_simp)
  (try simp only [Act.put, List.getElem_toArray, List.getElem_cons_zero, List.getElem_cons_succ, List.setIfInBounds_toArray, List.set_cons_zero, List.set_cons_succ])
  refine wpAnyH_take (i := 8) (v := (.agg (clA st zx (.slice bz s.ns.length cz)))) rfl (by kernel_rfl) (by kernel_rfl) (by kernel_rfl) (fun _ _ _ h => h) (Or.inl ⟨by rfl, ?_⟩) (by assumption) ?_
  · intro w' hSw
    (try dsimp only at hSw)
    exact exec_buildCl2 (.tmp 13) (.tmp 17) rfl (by kernel_rfl) (by kernel_rfl)
  (try simp only [Act.put, List.getElem_toArray, List.getElem_cons_zero, List.getElem_cons_succ, List.setIfInBounds_toArray, List.set_cons_zero, List.set_cons_succ])
  refine wpAnyH_ready (rs := [9]) (by kernel_rfl) (by simp) ?_
  refine AllReadyH.cons rfl (fun K hK => ?_) AllReadyH.nil
  go_simp
  refine hK.out _ _ ((below_ad W0 _)) (fun hHeld => ?_)
  clear hK
  (try simp only [Act.put, List.setIfInBounds_toArray, List.set_cons_zero, List.set_cons_succ])
  refine wpAnyH_ready (rs := [10]) (by kernel_rfl) (by simp) ?_
  refine AllReadyH.cons rfl (fun K hK => ?_) AllReadyH.nil
  refine wp_storeClN (w0 := W0.drew) rfl (.tmp 4) (.tmp 18) rfl (by kernel_rfl) st zx (.slice bz s.ns.length cz) rfl (by kernel_rfl) _ rfl rfl ?_
  rw [← hW1]
  refine hK.out _ _ (B1.out) (fun hHeld => ?_)
  clear hK
  (try simp only [Act.put, List.setIfInBounds_toArray, List.set_cons_zero, List.set_cons_succ])
  refine wpAnyH_done (by kernel_rfl) ?_ _
  clear hHeld hW1 SF
  have SE := hide (settings_any W1 W0.heap.size)
  go_wp2_with fail
  refine Calls.mono SE.out ?_
  rintro e W2 ⟨g, rfl, hg, hgs, hb⟩
  have C2 := hide (C1.out.below hb)
  have G2 := hide hg
  have B2 := hide (B1.out.trans (hb.mono B1.out.size))
  have hg2 : g < W2.heap.size := blk_lt hg
  have hgl : W0.heap.size + 1 ≤ g := by have := blk_lt C1.out; omega
  clear hg hgs hb SE C1 B1
  go_wp2_with fail
  go_loopw [21] (fun vi wr => ∃ (q : Nat), q ≤ 21 ∧ vi = .int .i64 (q : Int) ∧ Hid (∀ j, j < q → 0 ≤ s.x j) ∧ Hid (Below W0.heap.size W0 wr ∧ ClAt wr W0.heap.size st (yq s.x q) (.slice bz s.ns.length cz) ∧ wr.heap[g]? = some (.cells (setA W0.heap.size) 78))) (fun vi _ => 21 - (intOf vi).toNat)
  case atStart =>
    refine ⟨0, Nat.zero_le _, rfl, fun j hj => absurd hj (Nat.not_lt_zero _), B2.out, ?_, G2.out⟩
    have := C2.out
    unfold ClAt at *
    rw [this, clA_congr (y := yq s.x 0) (fun i _ => by unfold yq; rw [if_neg (by omega)]; rfl)]
  case round =>
    obtain ⟨q, hq, rfl, hA, hI⟩ := hrel
    have HB := hide hI.out.1
    have HC := hide hI.out.2.1
    have HG := hide hI.out.2.2
    clear hI
    by_cases hql : q < 21
    case pos =>
      have hqi : (q : Int) < 21 := by omega
      obtain ⟨_, k1, k2, k3⟩ := setA_at W0.heap.size q hql
      have k0 := setA_wd W0.heap.size q hql
      have d0 := (set_cell HG.out (q * 4)).trans k0
      have d1 := (set_cell HG.out (q * 4 + 1)).trans k1
      have d2 := (set_cell HG.out (q * 4 + 2)).trans k2
      have d3 := (set_cell HG.out (q * 4 + 3)).trans k3
      clear k0 k1 k2 k3
      have hwl : (swd q).length ≤ 70000 := by
        have : ∀ m : Fin 21, (swd m.1).length ≤ 8 := by decide +kernel
        have := this ⟨q, hql⟩
        simp only at this
        omega
      have LK := hide (fun (X : World) (D : DataW Unit) h => look_map (W := X) (M := M) (n := n) (D := D) h (swd q) hwl)
      obtain ⟨wq, hwq⟩ : ∃ wq, wq = strOf (swd q) := ⟨_, rfl⟩
      rw [← hwq] at d0 LK
      clear hwq hwl
      generalize loS q = lo at *
      generalize hiS q = hh at *
      obtain ⟨W3, hW3⟩ : ∃ W3, W3 = wr.alloc (.cells #[.string wq, .pointer (some ⟨W0.heap.size, q + 1, none⟩), .int .i64 lo, .int .i64 hh] 78) := ⟨_, rfl⟩
      have T3 : Hid (StAt W3 wr.heap.size wq (some ⟨W0.heap.size, q + 1, none⟩) lo hh) := by rw [hW3]; exact heap_last _ _
      have b3 : Below wr.heap.size wr W3 := by rw [hW3]; exact (Below.refl _ _).alloc (Nat.le_refl _) _
      have B3 := hide (HB.out.trans (b3.mono HB.out.size))
      have C3 := hide (HC.out.below b3)
      have G3 : Hid (W3.heap[g]? = some (.cells (setA W0.heap.size) 78)) := (b3.block _ (blk_lt HG.out)).trans HG.out
      have S3 := hide (S0.out.keep B3.out)
      obtain ⟨D, hD, hx⟩ := S3.out.mp
      obtain ⟨c, hc, LR⟩ := LK.out W3 D hD
      have HH : Hid (Maps.has D (.string (swd q)) = decide (0 ≤ s.x q)) := hx.hs q hql
      have HX : Hid (0 ≤ s.x q → c = s.x q) := fun h0 => by
        have e1 := hx.get q hql h0
        unfold kL at e1
        have e2 := hc.symm.trans e1
        simp only [DataW.lit.injEq, Lit.int.injEq, true_and] at e2
        exact e2
      clear b3 hD hx hc LK
      go_upto_region 5 with fail
      rw [← hW3]
      clear hW3 d0 d1 d2 d3
      have t0 := T3.out.w0
      have c1 := S3.out.c1
      rw [HH.out] at LR
      by_cases hx : 0 ≤ s.x q
      · rw [decide_eq_true hx] at LR
        obtain rfl : c = s.x q := HX.out hx
        have HA2 : Hid (∀ j, j < q + 1 → 0 ≤ s.x j) := fun j hj => by
          by_cases e : j = q
          · subst e; exact hx
          · exact hA.out j (by omega)
        clear hx
        go_quiet (fail)
        clear LR c1 t0
        have b4 : Below W3.heap.size W3 (W3.drewN nq) := ⟨rfl, rfl, rfl, Nat.le_refl _, fun _ _ => rfl⟩
        have T4 : Hid (StAt (W3.drewN nq) wr.heap.size wq (some ⟨W0.heap.size, q + 1, none⟩) lo hh) := (b4.block _ (blk_lt T3.out)).trans T3.out
        have C4 := hide (C3.out.below b4)
        have B4 := hide (B3.out.trans (b4.mono B3.out.size))
        have G4 : Hid ((W3.drewN nq).heap[g]? = some (.cells (setA W0.heap.size) 78)) := G3.out
        clear b4 T3 C3 B3 G3 S3
        generalize W3.drewN nq = W4 at *
        have t1 := T4.out.c1
        have x1 := C4.out.x q hql
        have f1 := C4.out.fzT (q + 1)
        go_wp2_with fail
        go_roundw
        case rel =>
          refine ⟨q + 1, by omega, by go_num, HA2.out, set_below B4.out (Nat.le_refl _), ?_, ?_⟩
          · rw [← yq_succ]
            exact C4.out.put q hql _
          · rw [set_other _ _ _ _ (by omega)]
            exact G4.out
        case measure => simp [intOf]; omega
      · rw [decide_eq_false hx] at LR
        have HZ := hide (clE_lack (lack_x hql hx) (.slice bz s.ns.length cz))
        clear hx
        go_quiet (fail)
        clear LR c1 t0
        have b4 : Below W3.heap.size W3 (W3.drewN nq) := ⟨rfl, rfl, rfl, Nat.le_refl _, fun _ _ => rfl⟩
        have B4 := hide (B3.out.trans (b4.mono B3.out.size))
        have R4 := hide (R0.out.below B4.out)
        clear b4 T3 C3 B3 G3 S3
        generalize W3.drewN nq = W4 at *
        go_wp2_with (first | refine wpList_buildCl0 rfl rfl ?_ | refine wpList_store_row rfl 24 (.tmp 2) (.tmp 37) rfl W.heap.size (clA ⟨#[]⟩ zx0 (.slice none 0 0)) rfl rfl 24 _ R4.out infoCl rfl (clA_one _ _ rfl) ?_)
        have E6 : ClAt (W4.setRow W.heap.size (clA ⟨#[]⟩ zx0 (.slice none 0 0))) W.heap.size ⟨#[]⟩ zx (.slice none 0 0) := setRow_heap W4 W.heap.size _ _ 24 _ R4.out
        have B7 : Below W.heap.size W (W4.setRow W.heap.size (clA ⟨#[]⟩ zx0 (.slice none 0 0))) := below_setRow (B0.out.trans (B4.out.mono B0.out.size)) (Nat.le_refl _) _
        refine bodyPost_ret (v := .tuple #[.agg (clA ⟨#[]⟩ zx (.slice none 0 0)), .int .i64 62]) (res_cl2 Tryd.results17 _ ⟨#[]⟩ zx _ _ W.heap.size rfl E6 _ rfl) rfl ⟨by rw [HZ.out.1, HZ.out.2], B7⟩
    case neg =>
      obtain rfl : q = 21 := by omega
      have C5 : Hid (ClAt wr W0.heap.size st s.x (.slice bz s.ns.length cz)) := by
        have := HC.out
        show ClAt _ _ _ _ _
        unfold ClAt at *
        rw [this, clA_congr (y := s.x) (fun i hi => by unfold yq; rw [if_pos hi])]
      have c0 := C5.out.st
      have R4 := hide (R0.out.below HB.out)
      have BW := hide (B0.out.trans (HB.out.mono B0.out.size))
      have EE := emp_eq s.st
      rw [← HST.out] at EE
      clear HC HG
      by_cases h0 : s.st = []
      · have HZ := hide (clE_lack (lack_st h0) (.slice bz s.ns.length cz))
        rw [decide_eq_true h0] at EE
        clear h0 hA
        go_wp2_with (first | refine wpList_buildCl0 rfl rfl ?_ | refine wpList_store_row rfl 24 (.tmp 2) (.tmp 46) rfl W.heap.size (clA ⟨#[]⟩ zx0 (.slice none 0 0)) rfl rfl 24 _ R4.out infoCl rfl (clA_one _ _ rfl) ?_)
        have E6 : ClAt (wr.setRow W.heap.size (clA ⟨#[]⟩ zx0 (.slice none 0 0))) W.heap.size ⟨#[]⟩ zx (.slice none 0 0) := setRow_heap wr W.heap.size _ _ 24 _ R4.out
        have B7 : Below W.heap.size W (wr.setRow W.heap.size (clA ⟨#[]⟩ zx0 (.slice none 0 0))) := below_setRow BW.out (Nat.le_refl _) _
        refine bodyPost_ret (v := .tuple #[.agg (clA ⟨#[]⟩ zx (.slice none 0 0)), .int .i64 62]) (res_cl2 Tryd.results17 _ ⟨#[]⟩ zx _ _ W.heap.size rfl E6 _ rfl) rfl ⟨by rw [HZ.out.1, HZ.out.2], B7⟩
      · have HNL := hide (clE_no (lack_no h0 hA.out))
        rw [decide_eq_false h0] at EE
        have HV : Hid (clV s (.slice bz s.ns.length cz) = if clE s = 0 then clA (strOf s.st) s.x (.slice bz s.ns.length cz) else clA ⟨#[]⟩ zx (.slice none 0 0)) := rfl
        have CK := hide (check_any W.heap.size wr st s.x bz nb 0 cz _ s.ns (NS.out.below BW.out) BW.out.size (by rw [HST.out, strOf_size]; have := HS.out.sl; omega))
        rw [← HST.out] at HV HNL
        obtain ⟨E, hE⟩ : ∃ E, E = errP st s.x s.ns := ⟨_, rfl⟩
        rw [← hE] at CK HNL
        rw [HNL.out] at HV
        clear h0 hA hE
        go_wp2_with (refine wpList_loadCl rfl (.tmp 4) rfl W0.heap.size st s.x _ (by kernel_rfl) C5.out ?_)
        refine Calls.mono CK.out ?_
        rintro e W6 ⟨rfl, hb⟩
        have R6 := hide (R4.out.below hb)
        have C6 := hide (C5.out.below hb)
        have B6 := hide (BW.out.trans (hb.mono BW.out.size))
        clear hb CK C5 R4 BW c0
        by_cases hE : E = 0
        · subst hE
          rw [if_pos rfl] at HV
          go_wp2_with (first | refine wpList_loadCl rfl (.tmp 4) rfl W0.heap.size st s.x _ (by kernel_rfl) C6.out ?_ | refine wpList_store_row rfl 24 (.tmp 2) (.tmp 53) rfl W.heap.size (clA st s.x (.slice bz s.ns.length cz)) rfl rfl 24 _ R6.out infoCl rfl (clA_one _ _ rfl) ?_)
          have E6 : ClAt (W6.setRow W.heap.size (clA st s.x (.slice bz s.ns.length cz))) W.heap.size st s.x (.slice bz s.ns.length cz) := setRow_heap W6 W.heap.size _ _ 24 _ R6.out
          have B7 : Below W.heap.size W (W6.setRow W.heap.size (clA st s.x (.slice bz s.ns.length cz))) := below_setRow B6.out (Nat.le_refl _) _
          refine bodyPost_ret (v := .tuple #[.agg (clA st s.x (.slice bz s.ns.length cz)), .int .i64 0]) (res_cl2 Tryd.results17 _ st s.x _ _ W.heap.size rfl E6 _ rfl) rfl ⟨by rw [HV.out, HNL.out], B7⟩
        · rw [if_neg hE] at HV
          go_wp2_with (first | refine wpList_buildCl0 rfl rfl ?_ | refine wpList_store_row rfl 24 (.tmp 2) (.tmp 51) rfl W.heap.size (clA ⟨#[]⟩ zx0 (.slice none 0 0)) rfl rfl 24 _ R6.out infoCl rfl (clA_one _ _ rfl) ?_)
          have E6 : ClAt (W6.setRow W.heap.size (clA ⟨#[]⟩ zx0 (.slice none 0 0))) W.heap.size ⟨#[]⟩ zx (.slice none 0 0) := setRow_heap W6 W.heap.size _ _ 24 _ R6.out
          have B7 : Below W.heap.size W (W6.setRow W.heap.size (clA ⟨#[]⟩ zx0 (.slice none 0 0))) := below_setRow B6.out (Nat.le_refl _) _
          refine bodyPost_ret (v := .tuple #[.agg (clA ⟨#[]⟩ zx (.slice none 0 0)), .int .i64 E]) (res_cl2 Tryd.results17 _ ⟨#[]⟩ zx _ _ W.heap.size rfl E6 _ rfl) rfl ⟨by rw [HV.out, HNL.out], B7⟩
end Go.Proofs.YtanlnelfbfjelaaDoor
namespace Go.Proofs.YtanlnelfbfjelaaDoor
open Go.RowKit Go.Maps
noncomputable def psS (t : List UInt8) : PS := runS (splitL 10 [] t) (splitL 10 [] t).length
noncomputable def psE (t : List UInt8) : Int := if 65536 < t.length then 3 else if lnsE (splitL 10 [] t) = 0 then clE (psS t) else lnsE (splitL 10 [] t)
def psL (t : List UInt8) : Int := if 65536 < t.length then 0 else if lnsE (splitL 10 [] t) = 0 then 0 else ((badAt (splitL 10 [] t) : Nat) : Int) + 1
noncomputable def psV (t : List UInt8) (vl : Value) : Array Value := if psE t = 0 then clA (strOf (psS t).st) (psS t).x vl else clA ⟨#[]⟩ zx (.slice none 0 0)
theorem ps_big {t : List UInt8} (h : 65536 < t.length) (vl : Value) : psE t = 3 ∧ psL t = 0 ∧ psV t vl = clA ⟨#[]⟩ zx (.slice none 0 0) := by
  have e : psE t = 3 := by unfold psE; rw [if_pos h]
  exact ⟨e, by unfold psL; rw [if_pos h], by unfold psV; rw [e]; rfl⟩
theorem ps_bad {t : List UInt8} (h : ¬ 65536 < t.length) {q : Nat} (hq : q < (splitL 10 [] t).length) (hF : FineL (splitL 10 [] t) q) (he : lnE (runS (splitL 10 [] t) q) (splitL 10 [] t)[q] ≠ 0) (vl : Value) : psE t = lnE (runS (splitL 10 [] t) q) (splitL 10 [] t)[q] ∧ psL t = (q : Int) + 1 ∧ psV t vl = clA ⟨#[]⟩ zx (.slice none 0 0) := by
  have h1 := lnsE_at hq hF he
  have h2 := badAt_at hq hF he
  have h3 : ¬ lnsE (splitL 10 [] t) = 0 := by rw [h1]; exact he
  have e : psE t = lnE (runS (splitL 10 [] t) q) (splitL 10 [] t)[q] := by unfold psE; rw [if_neg h, if_neg h3, h1]
  exact ⟨e, by unfold psL; rw [if_neg h, if_neg h3, h2], by unfold psV; rw [e, if_neg he]⟩
theorem ps_end {t : List UInt8} (h : ¬ 65536 < t.length) (hF : FineL (splitL 10 [] t) (splitL 10 [] t).length) (vl : Value) : psE t = clE (psS t) ∧ psL t = 0 ∧ psV t vl = clV (psS t) vl := by
  have h1 := lnsE_end hF
  have e : psE t = clE (psS t) := by unfold psE; rw [if_neg h, if_pos h1]
  exact ⟨e, by unfold psL; rw [if_neg h, if_pos h1], by unfold psV clV; rw [e]⟩
theorem psV_shape (t : List UInt8) {vl : Value} (h : vl.oneCell' = true) : ∃ a y nv, psV t vl = clA a y nv ∧ nv.oneCell' = true := by
  unfold psV
  by_cases e : psE t = 0
  · rw [if_pos e]; exact ⟨_, _, _, rfl, h⟩
  · rw [if_neg e]; exact ⟨_, _, _, rfl, rfl⟩
/-- a said that is new -/
theorem saAt_new {w : World} {S M base : Nat} (hS : w.heap[S]? = some (.cells #[.string ⟨#[]⟩, .map (some M), .slice none 0 0] 47)) (hM : w.heap[M]? = some (.map #[] 0)) (h1 : S < base) (h2 : M < base) (h3 : S ≠ M) (h4 : base ≤ w.heap.size) : SaAt w S M base 0 ps0 (.slice none 0 0) [] := by
  refine ⟨hS, ⟨World.ownsRow_nil _ _ _ _, fun q hq => by simp at hq, fun q hq => by simp at hq⟩, rfl, ⟨.map [], ?_, mpIs_none⟩, ⟨h1, h2, h3, h4⟩, Nat.le_refl _, fun d hd => by simp [ps0] at hd, Nat.zero_le _, fun i hi => by show (-1 : Int) < _; omega⟩
  obtain ⟨es, cl, e1, e2, e3, e4⟩ := World.ownsMap_made (H := Unit) w Tryd.prog 9 (plainElem Tryd.prog 3)
  rw [heap_last] at e1
  cases e1
  exact ⟨_, _, hM, e2, e3, e4⟩
set_option maxHeartbeats 8000000 in
set_option maxRecDepth 100000 in
set_option linter.unusedSimpArgs false in
set_option linter.unusedVariables false in
theorem parse_any (w : World) (t : List UInt8) (mx : Int) (hm : w.cell? ⟨2, 0, none⟩ = some (.int .i64 mx)) (ht : t.length ≤ 4611686018427387904) :
    Calls Tryd.prog 5 #[.string (strOf t)] w fun e w' => Below w.heap.size w w' ∧ ∃ vl zs, e = .returned (.tuple #[.agg (psV t vl), .int .i64 (psE t), .int .i64 (psL t)]) ∧ (psE t = 0 → Tw w.heap.size w' (psS t).ns vl zs ∧ zs.length = (psS t).ns.length ∧ (psS t).ns.length ≤ 70000 ∧ (∀ d ∈ (psS t).ns, d.ps.length ≤ 70000) ∧ (psS t).st.length ≤ 70000) := by
  obtain ⟨W0, hW0⟩ : ∃ W0, W0 = w.alloc (.cells (clA ⟨#[]⟩ zx (.slice none 0 0)) 24) := ⟨_, rfl⟩
  have B0 : Hid (Below w.heap.size w W0) := by rw [hW0]; exact (Below.refl _ _).alloc (Nat.le_refl _) _
  have R0 : Hid (ClAt W0 w.heap.size ⟨#[]⟩ zx (.slice none 0 0)) := by rw [hW0]; exact new_cl _ _ _ _
  have s0 : Hid (W0.heap.size = w.heap.size + 1) := by rw [hW0]; show _ = _; simp
  have hts : (strOf t).size = t.length := strOf_size t
  by_cases hbig : 65536 < t.length
  · have HZ := hide (ps_big hbig (.slice none 0 0))
    have hb1 : (65536 : Int) < ((strOf t).size : Int) := by rw [hts]; omega
    have hb2 : (strOf t).size ≤ 4611686018427387904 := by omega
    clear hbig hts ht
    generalize strOf t = ts at *
    go_enter Tryd.func5, Tryd.ntmps5
    go_upto_region 1 with fail
    rw [show w.alloc (.cells #[.string ⟨#[]⟩, .int .i64 0, .int .i64 0, .int .i64 0, .int .i64 0, .int .i64 0, .int .i64 0, .int .i64 0, .int .i64 0, .int .i64 0, .int .i64 0, .int .i64 0, .int .i64 0, .int .i64 0, .int .i64 0, .int .i64 0, .int .i64 0, .int .i64 0, .int .i64 0, .int .i64 0, .int .i64 0, .int .i64 0, .slice none 0 0] 24) = W0 from hW0.symm]
    clear hW0
    go_wp2_with (first | refine wpList_buildCl0 rfl rfl ?_ | refine wpList_store_row rfl 24 (.tmp 2) (.tmp 14) rfl w.heap.size (clA ⟨#[]⟩ zx0 (.slice none 0 0)) rfl rfl 24 _ R0.out infoCl rfl (clA_one _ _ rfl) ?_)
    have E6 : ClAt (W0.setRow w.heap.size (clA ⟨#[]⟩ zx0 (.slice none 0 0))) w.heap.size ⟨#[]⟩ zx (.slice none 0 0) := setRow_heap W0 w.heap.size _ _ 24 _ R0.out
    have B7 : Below w.heap.size w (W0.setRow w.heap.size (clA ⟨#[]⟩ zx0 (.slice none 0 0))) := below_setRow B0.out (Nat.le_refl _) _
    refine bodyPost_ret (v := .tuple #[.agg (clA ⟨#[]⟩ zx (.slice none 0 0)), .int .i64 3, .int .i64 0]) (res_cl3 Tryd.results5 _ ⟨#[]⟩ zx _ _ w.heap.size rfl E6 _ _ rfl rfl) rfl ⟨B7, .slice none 0 0, [], by rw [HZ.out.1, HZ.out.2.1, HZ.out.2.2], fun h => by rw [HZ.out.1] at h; cases h⟩
  have hb1 : ¬ (65536 : Int) < ((strOf t).size : Int) := by rw [hts]; omega
  have hb2 : (strOf t).size ≤ 65536 := by omega
  have PB := hide (fun q hq hF he vl => ps_bad hbig (q := q) hq hF he vl)
  have PE := hide (fun hF vl => ps_end hbig hF vl)
  have HL : Hid ((splitL 10 [] t).length ≤ 65537 ∧ ∀ x ∈ splitL 10 [] t, x.length ≤ 65536) := ⟨by have := splitL_len 10 t []; omega, fun x hx => by have := splitL_mem 10 t [] x hx; simp at this; omega⟩
  have HPS : Hid (psS t = runS (splitL 10 [] t) (splitL 10 [] t).length) := rfl
  obtain ⟨W1, hW1⟩ : ∃ W1, W1 = (W0.alloc (.map #[] 0)).alloc (.cells #[.string ⟨#[]⟩, .map (some W0.heap.size), .slice none 0 0] 47) := ⟨_, rfl⟩
  have b1 : Below W0.heap.size W0 W1 := by rw [hW1]; exact ((Below.refl _ _).alloc (Nat.le_refl _) _).alloc (by simp) _
  have s1 : Hid (W1.heap.size = W0.heap.size + 2) := by rw [hW1]; show _ = _; simp
  have hm1 : W1.cell? ⟨2, 0, none⟩ = some (.int .i64 mx) := by
    have hg := World.block_lt_of_cell? w _ hm
    have := (B0.out.trans (b1.mono B0.out.size)).cell (p := ⟨2, 0, none⟩) hg
    rw [this]; exact hm
  have SP := hide (spl_any t 10 W1 mx (by omega) hm1)
  obtain ⟨W2, hW2⟩ : ∃ W2, W2 = W1.alloc (.cells ((splitL 10 [] t).map fun l => Value.string (strOf l)).toArray 9) := ⟨_, rfl⟩
  have b2 : Below W1.heap.size W1 W2 := by rw [hW2]; exact (Below.refl _ _).alloc (Nat.le_refl _) _
  have s2 : Hid (W2.heap.size = W1.heap.size + 1) := by rw [hW2]; show _ = _; simp
  have WS : Hid (WsAt W2 (some ⟨W1.heap.size, 0, none⟩) W1.heap.size 0 (splitL 10 [] t)) := by rw [hW2]; exact wsAt_new W1 _
  have hM1 : W1.heap[W0.heap.size]? = some (.map #[] 0) := by
    rw [hW1, Below.heap_alloc _ _ _ (by simp)]; exact heap_last _ _
  have hS1 : W1.heap[W0.heap.size + 1]? = some (.cells #[.string ⟨#[]⟩, .map (some W0.heap.size), .slice none 0 0] 47) := by
    have := heap_last (W0.alloc (.map #[] 0)) (.cells #[.string ⟨#[]⟩, .map (some W0.heap.size), .slice none 0 0] 47)
    rw [World.size_alloc] at this
    rw [hW1]; exact this
  have SA : Hid (SaAt W2 (W0.heap.size + 1) W0.heap.size (W0.heap.size + 3) 0 ps0 (.slice none 0 0) []) :=
    saAt_new ((b2.block _ (by have := s1.out; omega)).trans hS1) ((b2.block _ (by have := s1.out; omega)).trans hM1) (by omega) (by omega) (by omega) (by have := s1.out; have := s2.out; omega)
  have B2 := hide (b1.trans (b2.mono b1.size))
  rw [← hW2] at SP
  clear hM1 hS1 b1 b2 hm1 hW2 hbig hts
  generalize splitL 10 [] t = L at *
  have hmm := @run_makeMap Tryd.prog
  generalize strOf t = ts at *
  go_enter Tryd.func5, Tryd.ntmps5
  go_upto_region 1 with fail
  rw [show w.alloc (.cells #[.string ⟨#[]⟩, .int .i64 0, .int .i64 0, .int .i64 0, .int .i64 0, .int .i64 0, .int .i64 0, .int .i64 0, .int .i64 0, .int .i64 0, .int .i64 0, .int .i64 0, .int .i64 0, .int .i64 0, .int .i64 0, .int .i64 0, .int .i64 0, .int .i64 0, .int .i64 0, .int .i64 0, .int .i64 0, .int .i64 0, .slice none 0 0] 24) = W0 from hW0.symm]
  clear hW0
  go_upto_region 4 with fail
  rw [← hW1]
  clear hW1 hmm
  go_wp2_with fail
  refine Calls.mono SP.out ?_
  rintro e W9 ⟨rfl, rfl⟩
  clear SP
  have BB := hide (B0.out.trans (B2.out.mono B0.out.size))
  have R2 := hide (R0.out.below B2.out)
  have HMX : Hid (W9.cell? ⟨2, 0, none⟩ = some (.int .i64 mx) ∧ 2 < w.heap.size) := by
    have hg := World.block_lt_of_cell? w _ hm
    exact ⟨by rw [BB.out.cell (p := ⟨2, 0, none⟩) hg]; exact hm, hg⟩
  have hll := HL.out.1
  have HS2 : Hid (W9.heap.size = W0.heap.size + 3) := by show _ = _; have := s1.out; have := s2.out; omega
  clear hm B2 R0 s2
  go_wp2_with fail
  go_loopw [20] (fun vi wr => ∃ (q : Nat), q ≤ L.length ∧ vi = .int .i64 (q : Int) ∧ Hid (FineL L q) ∧ Hid (∃ vl zs, SaAt wr (W0.heap.size + 1) W0.heap.size (W0.heap.size + 3) q (runS L q) vl zs) ∧ Hid (Kp w.heap.size (W0.heap.size + 3) (W0.heap.size + 1) W0.heap.size W9 wr)) (fun vi _ => L.length - (intOf vi).toNat)
  case atStart => exact ⟨0, Nat.zero_le _, rfl, fine_zero L, ⟨_, _, SA.out⟩, Kp.refl _ _ _ _ _⟩
  case round =>
    obtain ⟨q, hq, rfl, hF, hSA, HK⟩ := hrel
    obtain ⟨vl, zs, hsa⟩ := hSA.out
    have HSA := hide hsa
    clear hSA hsa
    have BW := hide (BB.out.trans HK.out.lo)
    have RW : Hid (ClAt wr w.heap.size ⟨#[]⟩ zx (.slice none 0 0)) := (HK.out.mid _ (by have := s0.out; omega) (by have := s0.out; omega) (by have := s0.out; omega)).trans R2.out
    have hNw : w.heap.size ≤ W0.heap.size := by have := s0.out; omega
    by_cases hql : q < L.length
    case pos =>
      have hqi : (q : Int) < (L.length : Int) := by omega
      have e0 : wr.cell? ⟨W1.heap.size, q, none⟩ = some (.string (strOf L[q])) := by
        have h1 := WS.out.c q hql
        rw [Nat.zero_add] at h1
        have h2 := HK.out.mid W1.heap.size (by have := s1.out; omega) (by have := s1.out; omega) (by have := s1.out; omega)
        rw [← h1]
        unfold World.cell?
        simp only [h2]
      have hmw : wr.cell? ⟨2, 0, none⟩ = some (.int .i64 mx) := by
        rw [HK.out.lo.cell (p := ⟨2, 0, none⟩) HMX.out.2]; exact HMX.out.1
      have LN := hide (line_any w.heap.size (W0.heap.size + 1) W0.heap.size (W0.heap.size + 3) q (runS L q) vl zs wr L[q] mx HSA.out (by omega) hNw (HL.out.2 _ (List.getElem_mem hql)) (by omega) hmw)
      have HE : Hid (stE (runS L q) (rdL L[q] (runS L q).ns.length) = lnE (runS L q) L[q]) := rfl
      have HN : Hid (stN (runS L q) (rdL L[q] (runS L q).ns.length) = runS L (q + 1)) := (runS_succ hql).symm
      have HF2 := hide (fun he => fine_succ hF.out hql he)
      have HPB := hide (fun he => PB.out q hql hF.out he (.slice none 0 0))
      clear hmw
      generalize L[q] = l at *
      generalize rdL l (runS L q).ns.length = d at *
      generalize strOf l = ls at *
      go_wp2_with fail
      refine Calls.mono LN.out ?_
      rintro e W5 ⟨rfl, hk, hx⟩
      rw [HE.out] at hx ⊢
      rw [HN.out] at hx
      generalize lnE (runS L q) l = E at *
      have K5 := hide (HK.out.trans hk)
      have NX := hide hx
      clear hk hx LN HE HN e0
      by_cases hE : E = 0
      · subst hE
        obtain ⟨vl', zs', hs'⟩ := NX.out rfl
        have HS' : Hid (∃ vl zs, SaAt W5 (W0.heap.size + 1) W0.heap.size (W0.heap.size + 3) (q + 1) (runS L (q + 1)) vl zs) := ⟨vl', zs', hs'⟩
        have HF3 := hide (HF2.out rfl)
        clear NX HF2 HPB hs'
        go_wp2_with fail
        go_roundw
        case rel => exact ⟨q + 1, by omega, by go_num, HF3.out, HS'.out, K5.out⟩
        case measure => simp [intOf]; omega
      · have HZ := hide (HPB.out hE)
        have R5 : Hid (ClAt W5 w.heap.size ⟨#[]⟩ zx (.slice none 0 0)) := (K5.out.mid _ (by have := s0.out; omega) (by have := s0.out; omega) (by have := s0.out; omega)).trans R2.out
        have B5 := hide (BB.out.trans K5.out.lo)
        clear NX HF2 HPB
        go_wp2_with (first | refine wpList_buildCl0 rfl rfl ?_ | refine wpList_store_row rfl 24 (.tmp 2) (.tmp 29) rfl w.heap.size (clA ⟨#[]⟩ zx0 (.slice none 0 0)) rfl rfl 24 _ R5.out infoCl rfl (clA_one _ _ rfl) ?_)
        have E6 : ClAt (W5.setRow w.heap.size (clA ⟨#[]⟩ zx0 (.slice none 0 0))) w.heap.size ⟨#[]⟩ zx (.slice none 0 0) := setRow_heap W5 w.heap.size _ _ 24 _ R5.out
        have B7 : Below w.heap.size w (W5.setRow w.heap.size (clA ⟨#[]⟩ zx0 (.slice none 0 0))) := below_setRow B5.out (Nat.le_refl _) _
        refine bodyPost_ret (v := .tuple #[.agg (clA ⟨#[]⟩ zx (.slice none 0 0)), .int .i64 E, .int .i64 ((q : Int) + 1)]) (res_cl3 Tryd.results5 _ ⟨#[]⟩ zx _ _ w.heap.size rfl E6 _ _ rfl rfl) rfl ⟨B7, .slice none 0 0, [], by rw [HZ.out.1, HZ.out.2.1, HZ.out.2.2], fun h => by rw [HZ.out.1] at h; exact absurd h hE⟩
    case neg =>
      obtain rfl : q = L.length := by omega
      have HZ := hide (PE.out hF.out vl)
      have CL := hide (cluster_any (W0.heap.size + 1) W0.heap.size (W0.heap.size + 3) L.length (runS L L.length) vl zs wr HSA.out (by omega))
      rw [← HPS.out] at HSA CL
      rw [← HZ.out.1, ← HZ.out.2.2] at CL
      obtain ⟨a, y, nv, hV, hone⟩ := psV_shape t (own_one HSA.out.tw.row)
      rw [hV] at CL
      have HV := hide hV
      obtain ⟨E, hEE⟩ : ∃ E, E = psE t := ⟨_, rfl⟩
      rw [← hEE] at CL
      have HE := hide hEE
      clear hV hEE hF
      go_wp2_with fail
      refine Calls.mono CL.out ?_
      rintro e W6 ⟨rfl, hb⟩
      have R6 := hide (RW.out.below hb)
      have B6 := hide (BW.out.trans (hb.mono BW.out.size))
      have T6 := hide (HSA.out.tw.keep hb)
      obtain ⟨W7, hW7⟩ : ∃ W7, W7 = W6.alloc (.cells (clA a y nv) 24) := ⟨_, rfl⟩
      have b7 : Below W6.heap.size W6 W7 := by rw [hW7]; exact (Below.refl _ _).alloc (Nat.le_refl _) _
      have C7 : Hid (ClAt W7 W6.heap.size a y nv) := by rw [hW7]; exact new_cl _ _ _ _
      have R7 := hide (R6.out.below b7)
      have B7 := hide (B6.out.trans (b7.mono B6.out.size))
      have T7 := hide (T6.out.keep b7)
      clear hb b7 R6 B6 T6 CL
      go_upto_region 12 with (refine wpList_storeCl (w0 := W6) rfl (.tmp 9) (.tmp 36) rfl W6.heap.size (by kernel_rfl) rfl a y nv hone (by kernel_rfl) _ rfl rfl ?_)
      rw [← hW7]
      clear hW7
      go_wp2_with (first | refine wpList_loadCl rfl (.tmp 9) rfl W6.heap.size a y _ (by kernel_rfl) C7.out ?_ | refine wpList_store_row rfl 24 (.tmp 2) (.tmp 38) rfl w.heap.size (clA a y nv) rfl rfl 24 _ R7.out infoCl rfl (clA_one _ _ hone) ?_)
      have E8 : ClAt (W7.setRow w.heap.size (clA a y nv)) w.heap.size a y nv := setRow_heap W7 w.heap.size _ _ 24 _ R7.out
      have B8 : Below w.heap.size w (W7.setRow w.heap.size (clA a y nv)) := below_setRow B7.out (Nat.le_refl _) _
      have oth : ∀ i, i ≠ w.heap.size → (W7.setRow w.heap.size (clA a y nv)).heap[i]? = W7.heap[i]? := fun i hi => setRow_other W7 w.heap.size i _ (fun e => hi (by first | exact e | exact e.symm))
      have T8 : Tw w.heap.size (W7.setRow w.heap.size (clA a y nv)) (psS t).ns vl zs := by
        have hlow : w.heap.size ≤ W0.heap.size + 3 := by omega
        refine ⟨own_lowr (own_keep T7.out.row fun g hg => oth g ?_) hlow, T7.out.z, fun q hq hq' => own_lowr (own_keep (T7.out.p q hq hq') fun g hg => oth g ?_) hlow⟩
        · have := (own_lt T7.out.row hg).1; omega
        · have := (own_lt (T7.out.p q hq hq') hg).1; omega
      refine bodyPost_ret (v := .tuple #[.agg (clA a y nv), .int .i64 E, .int .i64 0]) (res_cl3 Tryd.results5 _ a y _ _ w.heap.size rfl E8 _ _ rfl rfl) rfl ⟨B8, vl, zs, by rw [HV.out, ← HE.out, HZ.out.2.1], fun _ => ⟨T8, HSA.out.zl, by have := HSA.out.nl; omega, HSA.out.pl, HSA.out.sl⟩⟩
end Go.Proofs.YtanlnelfbfjelaaDoor
