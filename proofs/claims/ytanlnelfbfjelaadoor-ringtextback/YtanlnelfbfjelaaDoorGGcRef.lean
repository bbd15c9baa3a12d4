import Derived.Test.YtanlnelfbfjelaaDoorGGcFit
namespace Go.Proofs.YtanlnelfbfjelaaDoor
open Go.RowKit
/-- the settings, as an array -/
def vA (x : Nat → Int) : Array Value := #[.int .i64 (x 0), .int .i64 (x 1), .int .i64 (x 2), .int .i64 (x 3), .int .i64 (x 4), .int .i64 (x 5), .int .i64 (x 6), .int .i64 (x 7), .int .i64 (x 8), .int .i64 (x 9), .int .i64 (x 10), .int .i64 (x 11), .int .i64 (x 12), .int .i64 (x 13), .int .i64 (x 14), .int .i64 (x 15), .int .i64 (x 16), .int .i64 (x 17), .int .i64 (x 18), .int .i64 (x 19), .int .i64 (x 20)]
theorem vA_at (x : Nat → Int) (i : Nat) (h : i < 21) : (vA x)[i]? = some (.int .i64 (x i)) := by
  have : i = 0 ∨ i = 1 ∨ i = 2 ∨ i = 3 ∨ i = 4 ∨ i = 5 ∨ i = 6 ∨ i = 7 ∨ i = 8 ∨ i = 9 ∨ i = 10 ∨ i = 11 ∨ i = 12 ∨ i = 13 ∨ i = 14 ∨ i = 15 ∨ i = 16 ∨ i = 17 ∨ i = 18 ∨ i = 19 ∨ i = 20 := by omega
  rcases this with rfl | rfl | rfl | rfl | rfl | rfl | rfl | rfl | rfl | rfl | rfl | rfl | rfl | rfl | rfl | rfl | rfl | rfl | rfl | rfl | rfl <;> rfl
theorem vA_one (x : Nat → Int) : (vA x).all (·.oneCell') = true := by simp [vA, Value.oneCell']
theorem infoV : (Tryd.prog.info? 52).map (·.size) = some 21 := by kernel_rfl
theorem built_v (x : Nat → Int) : Tryd.prog.built 52 [(0, .int .i64 (x 0)), (1, .int .i64 (x 1)), (2, .int .i64 (x 2)), (3, .int .i64 (x 3)), (4, .int .i64 (x 4)), (5, .int .i64 (x 5)), (6, .int .i64 (x 6)), (7, .int .i64 (x 7)), (8, .int .i64 (x 8)), (9, .int .i64 (x 9)), (10, .int .i64 (x 10)), (11, .int .i64 (x 11)), (12, .int .i64 (x 12)), (13, .int .i64 (x 13)), (14, .int .i64 (x 14)), (15, .int .i64 (x 15)), (16, .int .i64 (x 16)), (17, .int .i64 (x 17)), (18, .int .i64 (x 18)), (19, .int .i64 (x 19)), (20, .int .i64 (x 20))] = some (vA x) := by kernel_rfl
theorem wpList_storeV {w0 w : World} {ops : Array Oper} {rest : List Oper} {o : Oper} {a : Act} {Q : Exit → Act → World → Prop} (hgd : o.guard = none) (p y : Operand) (ho : o.op = .store 52 p y) (b : Nat) (hp : a.eval p = .pointer (some ⟨b, 0, none⟩)) (hb : b = w0.heap.size) (x : Nat → Int) (hx : a.eval y = .agg (vA x)) (c : Array Value) (hc : c.size = 21) (hw : w = w0.alloc (.cells c 52))
    (h : wpList Tryd.prog ops Q rest (a.put o.dst undef) (w0.alloc (.cells (vA x) 52))) : wpList Tryd.prog ops Q (o :: rest) a w := by
  subst hw
  subst hb
  refine wpList_plain hgd fun K hK => ?_
  unfold Oper.wp execOp
  simp only [ho, Sem.run_bind, Sem.run_pure, Result.andThen_ok, hp, hx, run_storeAt_new w0 52 c (vA x) infoV (by rw [hc]; rfl) (vA_one x)]
  exact hK _ _ h
theorem wpList_buildV {w : World} {ops : Array Oper} {rest : List Oper} {o : Oper} {a : Act} {Q : Exit → Act → World → Prop} (hgd : o.guard = none) (y0 y1 y2 y3 y4 y5 y6 y7 y8 y9 y10 y11 y12 y13 y14 y15 y16 y17 y18 y19 y20 : Operand) (ho : o.op = .build 52 #[(0, y0), (1, y1), (2, y2), (3, y3), (4, y4), (5, y5), (6, y6), (7, y7), (8, y8), (9, y9), (10, y10), (11, y11), (12, y12), (13, y13), (14, y14), (15, y15), (16, y16), (17, y17), (18, y18), (19, y19), (20, y20)]) (x : Nat → Int) (h0 : a.eval y0 = .int .i64 (x 0)) (h1 : a.eval y1 = .int .i64 (x 1)) (h2 : a.eval y2 = .int .i64 (x 2)) (h3 : a.eval y3 = .int .i64 (x 3)) (h4 : a.eval y4 = .int .i64 (x 4)) (h5 : a.eval y5 = .int .i64 (x 5)) (h6 : a.eval y6 = .int .i64 (x 6)) (h7 : a.eval y7 = .int .i64 (x 7)) (h8 : a.eval y8 = .int .i64 (x 8)) (h9 : a.eval y9 = .int .i64 (x 9)) (h10 : a.eval y10 = .int .i64 (x 10)) (h11 : a.eval y11 = .int .i64 (x 11)) (h12 : a.eval y12 = .int .i64 (x 12)) (h13 : a.eval y13 = .int .i64 (x 13)) (h14 : a.eval y14 = .int .i64 (x 14)) (h15 : a.eval y15 = .int .i64 (x 15)) (h16 : a.eval y16 = .int .i64 (x 16)) (h17 : a.eval y17 = .int .i64 (x 17)) (h18 : a.eval y18 = .int .i64 (x 18)) (h19 : a.eval y19 = .int .i64 (x 19)) (h20 : a.eval y20 = .int .i64 (x 20))
    (h : wpList Tryd.prog ops Q rest (a.put o.dst (.agg (vA x))) w) : wpList Tryd.prog ops Q (o :: rest) a w := by
  refine wpList_plain hgd fun K hK => ?_
  unfold Oper.wp execOp
  simp only [ho, List.map_toArray, List.map_cons, List.map_nil, h0, h1, h2, h3, h4, h5, h6, h7, h8, h9, h10, h11, h12, h13, h14, h15, h16, h17, h18, h19, h20, Sem.run_bind, Sem.run_pure, Result.andThen_ok, run_build w 52 _ (vA x) (built_v x)]
  exact hK _ _ h
theorem res_v {fn : Func} {p : Tmp} (h : fn.results = #[.cell p 52]) (tmps : Array Value) (x : Nat → Int) (w : World) (b : Nat) (ht : tmps.getD p undef = .pointer (some ⟨b, 0, none⟩)) (hO : w.heap[b]? = some (.cells (vA x) 52)) : (results fn tmps).run Tryd.prog w = .ok (.agg (vA x)) w := by
  have hl : (loadVar 52 ⟨b, 0, none⟩).run Tryd.prog w = .ok (.agg (vA x)) w := run_loadVar_row _ _ 52 52 (vA x) (0, 0) _ hO Tryd.underlying52 rfl infoV
  have ht' : tmps[p]?.getD undef = .pointer (some ⟨b, 0, none⟩) := by simpa using ht
  unfold results
  rw [h]
  simp [ht', asAddr, hl]
def z21 : Array Value := #[.int .i64 0, .int .i64 0, .int .i64 0, .int .i64 0, .int .i64 0, .int .i64 0, .int .i64 0, .int .i64 0, .int .i64 0, .int .i64 0, .int .i64 0, .int .i64 0, .int .i64 0, .int .i64 0, .int .i64 0, .int .i64 0, .int .i64 0, .int .i64 0, .int .i64 0, .int .i64 0, .int .i64 0]
set_option maxHeartbeats 8000000 in
set_option maxRecDepth 100000 in
set_option linter.unusedSimpArgs false in
set_option linter.unusedVariables false in
theorem values_any (w : World) (st : ByteArray) (x : Nat → Int) (nv : Value) :
    Calls Tryd.prog 21 #[.agg (clA st x nv)] w fun e w' => e = .returned (.agg (vA x)) ∧ Below w.heap.size w w' := by
  obtain ⟨W0, hW0⟩ : ∃ W0, W0 = w.alloc (.cells (clA st x nv) 24) := ⟨_, rfl⟩
  obtain ⟨W1, hW1⟩ : ∃ W1, W1 = W0.alloc (.cells z21 52) := ⟨_, rfl⟩
  have C0 : Hid (ClAt W0 w.heap.size st x nv) := by rw [hW0]; exact new_cl _ _ _ _
  have B0 : Hid (Below w.heap.size w W0) := by rw [hW0]; exact (Below.refl _ _).alloc (Nat.le_refl _) _
  have C1 : Hid (ClAt W1 w.heap.size st x nv) := by rw [hW1]; exact C0.out.below ((Below.refl _ _).alloc (Nat.le_refl _) _)
  have s0 : Hid (w.heap.size + 1 = W0.heap.size) := by rw [hW0]; show _ = _; simp
  have y0 := C1.out.x 0 (by omega)
  have y1 := C1.out.x 1 (by omega)
  have y2 := C1.out.x 2 (by omega)
  have y3 := C1.out.x 3 (by omega)
  have y4 := C1.out.x 4 (by omega)
  have y5 := C1.out.x 5 (by omega)
  have y6 := C1.out.x 6 (by omega)
  have y7 := C1.out.x 7 (by omega)
  have y8 := C1.out.x 8 (by omega)
  have y9 := C1.out.x 9 (by omega)
  have y10 := C1.out.x 10 (by omega)
  have y11 := C1.out.x 11 (by omega)
  have y12 := C1.out.x 12 (by omega)
  have y13 := C1.out.x 13 (by omega)
  have y14 := C1.out.x 14 (by omega)
  have y15 := C1.out.x 15 (by omega)
  have y16 := C1.out.x 16 (by omega)
  have y17 := C1.out.x 17 (by omega)
  have y18 := C1.out.x 18 (by omega)
  have y19 := C1.out.x 19 (by omega)
  have y20 := C1.out.x 20 (by omega)
  go_enter Tryd.func21, Tryd.ntmps21
  go_upto_region 1 with fail
  rw [← hW0]
  rw [show W0.alloc (.cells #[.int .i64 0, .int .i64 0, .int .i64 0, .int .i64 0, .int .i64 0, .int .i64 0, .int .i64 0, .int .i64 0, .int .i64 0, .int .i64 0, .int .i64 0, .int .i64 0, .int .i64 0, .int .i64 0, .int .i64 0, .int .i64 0, .int .i64 0, .int .i64 0, .int .i64 0, .int .i64 0, .int .i64 0] 52) = W1 from hW1.symm]
  have HW1 := hide hW1
  clear hW1 hW0
  go_wp2_with (first | (refine wpList_buildV rfl _ _ _ _ _ _ _ _ _ _ _ _ _ _ _ _ _ _ _ _ _ rfl x rfl rfl rfl rfl rfl rfl rfl rfl rfl rfl rfl rfl rfl rfl rfl rfl rfl rfl rfl rfl rfl ?_) | (refine wpList_storeV (w0 := W0) rfl (.tmp 2) (.tmp 45) rfl _ rfl s0.out x rfl z21 rfl HW1.out ?_))
  refine bodyPost_ret (v := .agg (vA x)) (res_v Tryd.results21 _ x _ (w.heap.size + 1) rfl ?_) rfl ⟨rfl, B0.out.alloc B0.out.size _⟩
  rw [s0.out]
  exact heap_last W0 _
end Go.Proofs.YtanlnelfbfjelaaDoor
namespace Go.Proofs.YtanlnelfbfjelaaDoor
open Go.RowKit
/-- the document's table -/
def TabG (w : World) : Prop := ∀ j, j < 21 → w.cell? ⟨0, j, none⟩ = some (.int .i64 (hiS j))
theorem TabG.lt {w : World} (h : TabG w) : 0 < w.heap.size := World.block_lt_of_cell? w _ (h 0 (by omega))
theorem TabG.below {w w' : World} (h : TabG w) (hb : Below w.heap.size w w') : TabG w' := fun j hj => (hb.cell h.lt).trans (h j hj)
theorem lo_one {i : Nat} (h : i < 20) : loS i = 1 := by
  have : i = 0 ∨ i = 1 ∨ i = 2 ∨ i = 3 ∨ i = 4 ∨ i = 5 ∨ i = 6 ∨ i = 7 ∨ i = 8 ∨ i = 9 ∨ i = 10 ∨ i = 11 ∨ i = 12 ∨ i = 13 ∨ i = 14 ∨ i = 15 ∨ i = 16 ∨ i = 17 ∨ i = 18 ∨ i = 19 := by omega
  rcases this with rfl | rfl | rfl | rfl | rfl | rfl | rfl | rfl | rfl | rfl | rfl | rfl | rfl | rfl | rfl | rfl | rfl | rfl | rfl | rfl <;> rfl
theorem lo_home : loS 20 = 0 := rfl
def VAt (w : World) (b : Nat) (x : Nat → Int) : Prop := w.heap[b]? = some (.cells (vA x) 52)
theorem VAt.c {w : World} {b : Nat} {x : Nat → Int} (h : VAt w b x) (i : Nat) (hi : i < 21) : w.cell? ⟨b, i, none⟩ = some (.int .i64 (x i)) := by
  unfold World.cell?
  rw [show w.heap[b]? = _ from h]
  exact vA_at x i hi
set_option maxHeartbeats 8000000 in
set_option maxRecDepth 100000 in
set_option linter.unusedSimpArgs false in
set_option linter.unusedVariables false in
theorem set_any (w : World) (st : ByteArray) (x : Nat → Int) (nv : Value) (hT : TabG w) :
    Calls Tryd.prog 38 #[.agg (clA st x nv)] w fun e w' => e = .returned (.bool (sfP x)) ∧ Below w.heap.size w w' := by
  obtain ⟨W0, hW0⟩ : ∃ W0, W0 = w.alloc (.cells (clA st x nv) 24) := ⟨_, rfl⟩
  have C0 : Hid (ClAt W0 w.heap.size st x nv) := by rw [hW0]; exact new_cl _ _ _ _
  have B0 : Hid (Below w.heap.size w W0) := by rw [hW0]; exact (Below.refl _ _).alloc (Nat.le_refl _) _
  have VA := hide (values_any W0 st x nv)
  have HT := hide hT
  clear hT
  go_enter Tryd.func38, Tryd.ntmps38
  go_upto_region 1 with fail
  rw [← hW0]
  clear hW0
  go_wp2_with (refine wpList_loadCl rfl (.tmp 1) rfl w.heap.size st x _ rfl C0.out ?_)
  refine Calls.mono VA.out ?_
  rintro e W1 ⟨rfl, hb⟩
  obtain ⟨W2, hW2⟩ : ∃ W2, W2 = W1.alloc (.cells (vA x) 52) := ⟨_, rfl⟩
  have B1 := hide (B0.out.trans (hb.mono B0.out.size))
  have C1 := C0.out.below hb
  have C2 : Hid (ClAt W2 w.heap.size st x nv) := by rw [hW2]; exact C1.below ((Below.refl _ _).alloc (Nat.le_refl _) _)
  have B2 : Hid (Below w.heap.size w W2) := by rw [hW2]; exact B1.out.alloc B1.out.size _
  have V2 : Hid (VAt W2 W1.heap.size x) := by rw [hW2]; exact heap_last _ _
  clear VA C0 B0 hb C1 B1
  go_wp2_with (refine wpList_storeV (w0 := W1) rfl (.tmp 3) (.tmp 6) rfl _ rfl rfl x rfl z21 rfl rfl ?_)
  rw [← hW2]
  clear hW2
  have HT2 := hide (HT.out.below B2.out)
  go_loopw [4] (fun vi wr => ∃ (q : Nat), q ≤ 21 ∧ vi = .int .i64 (q : Int) ∧ Hid ((List.range q).all (sfAt x) = true) ∧ Below W2.heap.size W2 wr) (fun vi _ => 21 - (intOf vi).toNat)
  case atStart => exact ⟨0, Nat.zero_le _, rfl, rfl, Below.refl _ _⟩
  case round =>
    obtain ⟨q, hq, rfl, hA, hB⟩ := hrel
    have HB := hide hB
    clear hB
    by_cases hql : q < 21
    case pos =>
      have hqi : (q : Int) < 21 := by omega
      have d1 : wr.cell? ⟨W1.heap.size, q, none⟩ = some (.int .i64 (x q)) := (HB.out.cell (show W1.heap.size < W2.heap.size from blk_lt V2.out)).trans (V2.out.c q hql)
      have d2 : wr.cell? ⟨0, q, none⟩ = some (.int .i64 (hiS q)) := (HT2.out.below HB.out) q hql
      have HTk := hide (range_step hA.out)
      have HF := hide (range_no (f := sfAt x) hql)
      have hz : Hid (sfAt x q = (decide (loS q ≤ x q) && decide (x q ≤ hiS q))) := rfl
      have hl : (q < 20 ∧ loS q = 1) ∨ (q = 20 ∧ loS q = 0) := by
        by_cases h20 : q < 20
        · exact Or.inl ⟨h20, lo_one h20⟩
        · obtain rfl : q = 20 := by omega
          exact Or.inr ⟨rfl, lo_home⟩
      generalize loS q = l at *
      generalize hiS q = hh at *
      generalize x q = v at *
      by_cases v1 : v < 0
      · have HZ := hide (HF.out (by rw [hz.out, decide_eq_false (by omega)]; rfl))
        have v1' : decide (v < 0) = true := decide_eq_true v1
        clear hl
        go_wp2_with fail
        go_quiet (fail)
        replace HB : Hid (Below W2.heap.size W2 (wr.drewN nq)) := HB.out.trans ⟨rfl, rfl, rfl, Nat.le_refl _, fun _ _ => rfl⟩
        generalize wr.drewN nq = W3 at *
        clear d1 d2
        go_wp2_with fail
        go_ret
        exact ⟨ret_bool (by unfold sfP; rw [HZ.out]; rfl), B2.out.trans (HB.out.mono B2.out.size)⟩
      have v1' : decide (v < 0) = false := decide_eq_false v1
      by_cases v2 : hh < v
      · have HZ := hide (HF.out (by rw [hz.out, decide_eq_false (by omega : ¬ v ≤ hh), Bool.and_false]))
        have v2' : decide (hh < v) = true := decide_eq_true v2
        clear hl
        go_wp2_with fail
        go_quiet (fail)
        replace HB : Hid (Below W2.heap.size W2 (wr.drewN nq)) := HB.out.trans ⟨rfl, rfl, rfl, Nat.le_refl _, fun _ _ => rfl⟩
        generalize wr.drewN nq = W3 at *
        clear d1 d2
        go_wp2_with fail
        go_ret
        exact ⟨ret_bool (by unfold sfP; rw [HZ.out]; rfl), B2.out.trans (HB.out.mono B2.out.size)⟩
      have v2' : decide (hh < v) = false := decide_eq_false v2
      by_cases v3 : v = 0
      · subst v3
        by_cases q20 : q < 20
        · have HZ := hide (HF.out (by rw [hz.out, decide_eq_false (by omega)]; rfl))
          have q20' : decide ((q : Int) < 20) = true := decide_eq_true (by omega)
          clear hl
          go_wp2_with fail
          go_quiet (fail)
          replace HB : Hid (Below W2.heap.size W2 (wr.drewN nq)) := HB.out.trans ⟨rfl, rfl, rfl, Nat.le_refl _, fun _ _ => rfl⟩
          generalize wr.drewN nq = W3 at *
          clear d1 d2
          go_wp2_with fail
          go_ret
          exact ⟨ret_bool (by unfold sfP; rw [HZ.out]; rfl), B2.out.trans (HB.out.mono B2.out.size)⟩
        · have HZ := hide (HTk.out (by rw [hz.out, decide_eq_true (by omega), decide_eq_true (by omega)]; rfl))
          have q20' : decide ((q : Int) < 20) = false := decide_eq_false (by omega)
          clear hl
          go_wp2_with fail
          go_quiet (fail)
          replace HB : Hid (Below W2.heap.size W2 (wr.drewN nq)) := HB.out.trans ⟨rfl, rfl, rfl, Nat.le_refl _, fun _ _ => rfl⟩
          generalize wr.drewN nq = W3 at *
          clear d1 d2
          go_wp2_with fail
          go_roundw
          case rel => exact ⟨q + 1, by omega, by go_num, HZ.out, HB.out⟩
          case measure => simp [intOf]; omega
      · have HZ := hide (HTk.out (by rw [hz.out, decide_eq_true (by omega), decide_eq_true (by omega)]; rfl))
        have v3' : (v == 0) = false := by simpa using v3
        clear hl
        go_wp2_with fail
        go_quiet (fail)
        replace HB : Hid (Below W2.heap.size W2 (wr.drewN nq)) := HB.out.trans ⟨rfl, rfl, rfl, Nat.le_refl _, fun _ _ => rfl⟩
        generalize wr.drewN nq = W3 at *
        clear d1 d2
        go_wp2_with fail
        go_roundw
        case rel => exact ⟨q + 1, by omega, by go_num, HZ.out, HB.out⟩
        case measure => simp [intOf]; omega
    case neg =>
      obtain rfl : q = 21 := by omega
      have CW := C2.out.below HB.out
      have y4 := CW.x4
      have y7 := CW.x7
      have y9 := CW.x9
      have y10 := CW.x10
      have HZ : Hid (sfP x = (decide (x 4 ≤ x 7) && decide (x 9 ≤ x 10))) := by
        show sfP x = _
        unfold sfP
        rw [hA.out, Bool.true_and]
      clear CW hA
      generalize x 4 = z4 at *
      generalize x 7 = z7 at *
      generalize x 9 = z9 at *
      generalize x 10 = z10 at *
      by_cases k1 : z4 ≤ z7
      · have k1' : decide (z4 ≤ z7) = true := decide_eq_true k1
        go_wp2_with fail
        go_ret
        exact ⟨ret_bool (by rw [HZ.out, k1']; rfl), B2.out.trans (HB.out.mono B2.out.size)⟩
      · have k1' : decide (z4 ≤ z7) = false := decide_eq_false k1
        go_wp2_with fail
        go_ret
        exact ⟨ret_bool (by rw [HZ.out, k1']; rfl), B2.out.trans (HB.out.mono B2.out.size)⟩
/-- what a reader of a definition has, behind its box -/
structure Boxed (N : Nat) (w W0 : World) (st : ByteArray) (x : Nat → Int) (ao : Option Addr) (b o cap : Nat) (pv : Nat → Value) (ns : List ND) : Prop where
  cl : ClAt W0 w.heap.size st x (.slice ao ns.length cap)
  nd : NsAt N W0 ao b o pv ns
  bel : Below w.heap.size w W0
theorem boxed {N : Nat} {w : World} (st : ByteArray) (x : Nat → Int) {ao : Option Addr} {b o : Nat} (cap : Nat) {pv : Nat → Value} {ns : List ND} (h : NsAt N w ao b o pv ns) (hN : N ≤ w.heap.size) : ∃ W0, W0 = w.alloc (.cells (clA st x (.slice ao ns.length cap)) 24) ∧ Boxed N w W0 st x ao b o cap pv ns :=
  ⟨_, rfl, new_cl _ _ _ _, h.below ((Below.refl _ _).alloc hN _), (Below.refl _ _).alloc (Nat.le_refl _) _⟩
set_option maxHeartbeats 8000000 in
set_option maxRecDepth 100000 in
set_option linter.unusedSimpArgs false in
set_option linter.unusedVariables false in
theorem parts_any (N : Nat) (w : World) (st : ByteArray) (x : Nat → Int) (ao : Option Addr) (b o cap : Nat) (pv : Nat → Value) (ns : List ND) (h : NsAt N w ao b o pv ns) (hN : N ≤ w.heap.size) (h16 : ns.length ≤ 16) :
    Calls Tryd.prog 40 #[.agg (clA st x (.slice ao ns.length cap))] w fun e w' => e = .returned (.int .i64 (ptN ns : Int)) ∧ Below w.heap.size w w' := by
  obtain ⟨W0, hW0, hX⟩ := boxed st x cap h hN
  have HX := hide hX
  clear hX h
  have nv := HX.out.cl.nv
  go_enter Tryd.func40, Tryd.ntmps40
  go_upto_region 1 with fail
  rw [← hW0]
  clear hW0
  go_wp2_with fail
  go_loopw [3, 4] (fun vc vi wr => ∃ (q : Nat), q ≤ ns.length ∧ vi = .int .i64 (q : Int) ∧ vc = .int .i64 ((flat (ns.take q)).length : Int) ∧ wr = W0) (fun _ vi _ => ns.length - (intOf vi).toNat)
  case atStart => exact ⟨0, Nat.zero_le _, rfl, rfl, rfl⟩
  case round =>
    obtain ⟨q, hq, rfl, rfl, rfl⟩ := hrel
    by_cases hql : q < ns.length
    case pos =>
      have hao := HX.out.nd.at0 (by omega)
      subst hao
      have hqi : (q : Int) < (ns.length : Int) := by omega
      have e1 := HX.out.nd.cp q hql
      have HT := hide (flat_take_succ hql)
      have hk := flat_cap HX.out.nd q (by omega)
      obtain ⟨pa, pb, po, pc, hpv, hp⟩ := HX.out.nd.ps q hql
      have hpl := hp.len
      rw [hpv] at e1
      clear hpv hp
      generalize ns[q].ps.length = pl at *
      generalize hfl : (flat (ns.take q)).length = fl at *
      have ew := wrap_in (x := (fl : Int) + (pl : Int)) (by omega) (by omega)
      clear hk
      go_wp2_with fail
      go_roundw
      case rel => exact ⟨q + 1, by omega, by go_num, by rw [HT.out]; simp; exact ew, by first | rfl | trivial⟩
      case measure => simp [intOf]; omega
    case neg =>
      obtain rfl : q = ns.length := by omega
      rw [List.take_length]
      go_wp2_with fail
      go_ret
      exact ⟨rfl, HX.out.bel⟩
end Go.Proofs.YtanlnelfbfjelaaDoor
namespace Go.Proofs.YtanlnelfbfjelaaDoor
open Go.RowKit
theorem cntI_le (k : Int) (l : List Int) : cntI k l ≤ l.length := by
  induction l with
  | nil => exact Nat.le_refl _
  | cons x r ih =>
    simp only [cntI, List.length_cons]
    split <;> omega
theorem cntI_take (k : Int) (l : List Int) (q : Nat) (h : q < l.length) : cntI k (l.take (q + 1)) = cntI k (l.take q) + (if l[q] = k then 1 else 0) := by
  rw [List.take_succ_eq_append_getElem h, cntI_append]
  simp [cntI]
theorem cnt_next (k : Int) (ns : List ND) (i : Nat) (h : i < ns.length) : cntI k (flat (ns.take (i + 1))) = cntI k (flat (ns.take i)) + cntI k ns[i].ps := by
  rw [List.take_succ_eq_append_getElem h, flat_append, flat_one, cntI_append]
set_option maxHeartbeats 8000000 in
set_option maxRecDepth 100000 in
set_option linter.unusedSimpArgs false in
set_option linter.unusedVariables false in
theorem times_any (N : Nat) (w : World) (st : ByteArray) (x : Nat → Int) (ao : Option Addr) (b o cap : Nat) (pv : Nat → Value) (ns : List ND) (k : Int) (h : NsAt N w ao b o pv ns) (hN : N ≤ w.heap.size) (h16 : ns.length ≤ 16) :
    Calls Tryd.prog 55 #[.agg (clA st x (.slice ao ns.length cap)), .int .i64 k] w fun e w' => e = .returned (.int .i64 (cntI k (flat ns) : Int)) ∧ Below w.heap.size w w' := by
  obtain ⟨W0, hW0, hX⟩ := boxed st x cap h hN
  have HX := hide hX
  clear hX h
  have nv := HX.out.cl.nv
  go_enter Tryd.func55, Tryd.ntmps55
  go_upto_region 1 with fail
  rw [← hW0]
  clear hW0
  go_wp2_with fail
  go_loopw [5, 6] (fun vc vi wr => ∃ (i : Nat), i ≤ ns.length ∧ vi = .int .i64 (i : Int) ∧ vc = .int .i64 (cntI k (flat (ns.take i)) : Int) ∧ wr = W0) (fun _ vi _ => ns.length - (intOf vi).toNat)
  case atStart => exact ⟨0, Nat.zero_le _, rfl, rfl, rfl⟩
  case round =>
    obtain ⟨i, hi, rfl, rfl, rfl⟩ := hrel
    by_cases hil : i < ns.length
    case neg =>
      obtain rfl : i = ns.length := by omega
      rw [List.take_length]
      go_wp2_with fail
      go_ret
      exact ⟨rfl, HX.out.bel⟩
    case pos =>
      have hao := HX.out.nd.at0 (by omega)
      subst hao
      have hii : (i : Int) < (ns.length : Int) := by omega
      have e1 := HX.out.nd.cp i hil
      obtain ⟨pa, pb, po, pc, hpv, hp⟩ := HX.out.nd.ps i hil
      have hpl := hp.len
      rw [hpv] at e1
      have HP := hide hp
      have HN1 := hide (cnt_next k ns i hil)
      have c1 := cntI_le k (flat (ns.take i))
      have c2 := flat_cap HX.out.nd i (by omega)
      clear hpv hp
      generalize ns[i].ps = ps at *
      generalize cntI k (flat (ns.take i)) = ci at *
      have ci2 : ci ≤ 16 * 17592186043904 := by omega
      clear c1 c2
      go_wp2_with fail
      go_loopw [5, 7] (fun vc vj wq => ∃ (j : Nat), j ≤ ps.length ∧ vj = .int .i64 (j : Int) ∧ vc = .int .i64 ((ci + cntI k (ps.take j) : Nat) : Int) ∧ wq = wr) (fun _ vj _ => ps.length - (intOf vj).toNat)
      case atStart => exact ⟨0, Nat.zero_le _, rfl, rfl, rfl⟩
      case round =>
        obtain ⟨j, hj, rfl, rfl, rfl⟩ := hrel
        by_cases hjl : j < ps.length
        case neg =>
          obtain rfl : j = ps.length := by omega
          rw [List.take_length]
          go_wp2_with fail
          go_roundw
          case rel => exact ⟨i + 1, by omega, by go_num, by rw [HN1.out], by first | rfl | trivial⟩
          case measure => simp [intOf]; omega
        case pos =>
          have hpa := HP.out.at0 (by omega)
          subst hpa
          have hji : (j : Int) < (ps.length : Int) := by omega
          have cx := HP.out.c j hjl
          have HC := hide (cntI_take k ps j hjl)
          have c3 := cntI_le k (ps.take j)
          rw [List.length_take] at c3
          generalize cntI k (ps.take j) = cj at *
          generalize ps[j] = y at *
          have ew := wrap_in (x := ((ci + cj : Nat) : Int) + 1) (by omega) (by omega)
          by_cases hy : y = k
          · have hC := HC.out
            rw [if_pos hy] at hC
            have HC2 := hide hC
            clear hC HC
            subst hy
            go_wp2_with fail
            go_roundw
            case rel => exact ⟨j + 1, by omega, by go_num, by rw [HC2.out]; go_num, by first | rfl | trivial⟩
            case measure => simp [intOf]; omega
          · have hC := HC.out
            rw [if_neg hy, Nat.add_zero] at hC
            have HC2 := hide hC
            clear hC HC
            have hy' : (y == k) = false := by simpa using hy
            go_wp2_with fail
            go_roundw
            case rel => exact ⟨j + 1, by omega, by go_num, by rw [HC2.out]; rfl, by first | rfl | trivial⟩
            case measure => simp [intOf]; omega
/-- a definition's readers in a row: all they need of a world -/
structure Stand (N : Nat) (c : Nat) (W : World) (st : ByteArray) (x : Nat → Int) (ao : Option Addr) (b o cap : Nat) (pv : Nat → Value) (ns : List ND) : Prop where
  cl : ClAt W c st x (.slice ao ns.length cap)
  nd : NsAt N W ao b o pv ns
  le : N ≤ W.heap.size
theorem Stand.below {N c : Nat} {W W' : World} {st : ByteArray} {x : Nat → Int} {ao : Option Addr} {b o cap : Nat} {pv : Nat → Value} {ns : List ND} (h : Stand N c W st x ao b o cap pv ns) (hb : Below W.heap.size W W') : Stand N c W' st x ao b o cap pv ns :=
  ⟨h.cl.below hb, h.nd.below (hb.mono h.le), Nat.le_trans h.le hb.size⟩
theorem Boxed.stand {N : Nat} {w W0 : World} {st : ByteArray} {x : Nat → Int} {ao : Option Addr} {b o cap : Nat} {pv : Nat → Value} {ns : List ND} (h : Boxed N w W0 st x ao b o cap pv ns) (hN : N ≤ w.heap.size) : Stand N w.heap.size W0 st x ao b o cap pv ns := ⟨h.cl, h.nd, Nat.le_trans hN h.bel.size⟩
theorem dlB_parts {ns : List ND} (h1 : 1 ≤ (flat ns).length) (h2 : (flat ns).length ≤ 64) (h3 : ∀ i : Nat, i < (flat ns).length → cntI (i : Int) (flat ns) = 1) (h4 : ∀ i (h : i < ns.length), Rising ns[i].ps) : dlB ns = true :=
  dlB_true ⟨h1, h2, h3, fun n hn => by obtain ⟨q, hq, rfl⟩ := List.getElem_of_mem hn; exact h4 q hq⟩
set_option maxHeartbeats 8000000 in
set_option maxRecDepth 100000 in
set_option linter.unusedSimpArgs false in
set_option linter.unusedVariables false in
theorem dealt_any (N : Nat) (w : World) (st : ByteArray) (x : Nat → Int) (ao : Option Addr) (b o cap : Nat) (pv : Nat → Value) (ns : List ND) (h : NsAt N w ao b o pv ns) (hN : N ≤ w.heap.size) (h16 : ns.length ≤ 16) :
    Calls Tryd.prog 39 #[.agg (clA st x (.slice ao ns.length cap))] w fun e w' => e = .returned (.bool (dlB ns)) ∧ Below w.heap.size w w' := by
  obtain ⟨W0, hW0, hX⟩ := boxed st x cap h hN
  have HX := hide (hX.stand hN)
  have B0 := hide hX.bel
  clear hX h
  have PA := hide (parts_any N W0 st x ao b o cap pv ns HX.out.nd HX.out.le h16)
  go_enter Tryd.func39, Tryd.ntmps39
  go_upto_region 1 with fail
  rw [← hW0]
  clear hW0
  go_wp2_with (refine wpList_loadCl rfl (.tmp 1) rfl w.heap.size st x _ rfl HX.out.cl ?_)
  refine Calls.mono PA.out ?_
  rintro e W1 ⟨rfl, hb⟩
  have H1 := hide (HX.out.below hb)
  have B1 := hide (B0.out.trans (hb.mono B0.out.size))
  clear hb HX B0 PA
  have hpt : Hid (ptN ns = (flat ns).length) := rfl
  by_cases p1 : ptN ns < 1
  · have p1' : (ptN ns : Int) < 1 := by omega
    have ND : Hid (dlB ns = false) := dlB_false (fun d => by have := d.p1; have := hpt.out; omega)
    go_wp2_with fail
    go_ret
    exact ⟨ret_bool ND.out.symm, B1.out⟩
  have p1' : ¬ (ptN ns : Int) < 1 := by omega
  by_cases p2 : 64 < ptN ns
  · have p2' : (64 : Int) < (ptN ns : Int) := by omega
    have ND : Hid (dlB ns = false) := dlB_false (fun d => by have := d.p2; have := hpt.out; omega)
    go_wp2_with fail
    go_ret
    exact ⟨ret_bool ND.out.symm, B1.out⟩
  have p2' : ¬ (64 : Int) < (ptN ns : Int) := by omega
  go_wp2_with fail
  go_loopw [4] (fun vi wr => ∃ (q : Nat), q ≤ ptN ns ∧ vi = .int .i64 (q : Int) ∧ Hid (∀ i : Nat, i < q → cntI (i : Int) (flat ns) = 1) ∧ Below W1.heap.size W1 wr) (fun vi _ => ptN ns - (intOf vi).toNat)
  case atStart => exact ⟨0, Nat.zero_le _, rfl, (fun i hi => absurd hi (Nat.not_lt_zero _)), Below.refl _ _⟩
  case round =>
    obtain ⟨q, hq, rfl, hA, hB⟩ := hrel
    have HB := hide hB
    clear hB
    by_cases hql : q < ptN ns
    case pos =>
      have hqi : (q : Int) < (ptN ns : Int) := by omega
      have H2 := hide (H1.out.below HB.out)
      have TI := hide (times_any N wr st x ao b o cap pv ns (q : Int) H2.out.nd H2.out.le h16)
      have NDg : Hid (cntI (q : Int) (flat ns) ≠ 1 → dlB ns = false) := fun hne => dlB_false (fun d => hne (d.once q (by have := hpt.out; omega)))
      have AQ : Hid (cntI (q : Int) (flat ns) = 1 → ∀ i : Nat, i < q + 1 → cntI (i : Int) (flat ns) = 1) := fun he i hi => by
        by_cases hiq : i < q
        · exact hA.out i hiq
        · obtain rfl : i = q := by omega
          exact he
      generalize cntI (q : Int) (flat ns) = c at *
      go_wp2_with (refine wpList_loadCl rfl (.tmp 1) rfl w.heap.size st x _ rfl H2.out.cl ?_)
      refine Calls.mono TI.out ?_
      rintro e W2 ⟨rfl, hb⟩
      have HB2 := hide (HB.out.trans (hb.mono HB.out.size))
      clear hb TI H2
      by_cases hc : c = 1
      · have AQ2 := hide (AQ.out hc)
        subst hc
        clear AQ NDg
        go_wp2_with fail
        go_roundw
        case rel => exact ⟨q + 1, by omega, by go_num, AQ2.out, HB2.out⟩
        case measure => simp [intOf]; omega
      · have ND := hide (NDg.out hc)
        have hc' : ((c : Int) != 1) = true := by simp; omega
        clear AQ NDg
        go_wp2_with fail
        go_ret
        exact ⟨ret_bool ND.out.symm, B1.out.trans (HB2.out.mono B1.out.size)⟩
    case neg =>
      obtain rfl : q = ptN ns := by omega
      have H2 := hide (H1.out.below HB.out)
      have B2 := hide (B1.out.trans (HB.out.mono B1.out.size))
      have HA := hide hA.out
      clear hA HB H1 B1
      have nv := H2.out.cl.nv
      have hqq : ¬ (ptN ns : Int) < (ptN ns : Int) := by omega
      go_wp2_with fail
      generalize wr = WA at *
      go_loopw [5] (fun vi wq => ∃ (i : Nat), i ≤ ns.length ∧ vi = .int .i64 (i : Int) ∧ Hid (∀ q (h : q < ns.length), q < i → Rising ns[q].ps) ∧ Below WA.heap.size WA wq) (fun vi _ => ns.length - (intOf vi).toNat)
      case atStart => exact ⟨0, Nat.zero_le _, rfl, (fun q _ hq => absurd hq (Nat.not_lt_zero _)), Below.refl _ _⟩
      case round =>
        obtain ⟨i, hi, rfl, hR, hB⟩ := hrel
        have HB := hide hB
        clear hB nv
        have H3 := hide (H2.out.below HB.out)
        have nv := H3.out.cl.nv
        by_cases hil : i < ns.length
        case neg =>
          obtain rfl : i = ns.length := by omega
          have hii : ¬ (ns.length : Int) < (ns.length : Int) := by omega
          have DE := hide (dlB_parts (ns := ns) (by have := hpt.out; omega) (by have := hpt.out; omega) (by rw [← hpt.out]; exact HA.out) (fun q hq => hR.out q hq hq))
          go_wp2_with fail
          go_ret
          exact ⟨ret_bool DE.out.symm, B2.out.trans (HB.out.mono B2.out.size)⟩
        case pos =>
          have hao := H2.out.nd.at0 (by omega)
          subst hao
          have hii : (i : Int) < (ns.length : Int) := by omega
          have e1 := H3.out.nd.cp i hil
          obtain ⟨pa, pb, po, pc, hpv, hp⟩ := H2.out.nd.ps i hil
          have hpl := hp.len
          rw [hpv] at e1
          have P2 := hide hp
          have NDr : Hid (¬ Rising ns[i].ps → dlB ns = false) := fun hne => dlB_false (fun d => hne (d.rise _ (List.getElem_mem hil)))
          have RN : Hid (Rising ns[i].ps → ∀ q (h : q < ns.length), q < i + 1 → Rising ns[q].ps) := fun he q hq hqi => by
            by_cases h' : q < i
            · exact hR.out q hq h'
            · obtain rfl : q = i := by omega
              exact he
          have hNs : Hid (N ≤ WA.heap.size) := H2.out.le
          clear hpv hp hR
          generalize ns[i].ps = ps at *
          go_wp2_with fail
          clear nv e1 H3
          go_loopw [7] (fun vj wq => ∃ (j : Nat), 1 ≤ j ∧ vj = .int .i64 (j : Int) ∧ (j ≤ ps.length ∨ j = 1) ∧ Hid (∀ q (h : q + 1 < ps.length), q + 1 < j → ps[q] < ps[q + 1]) ∧ Below WA.heap.size WA wq) (fun vj _ => ps.length - (intOf vj).toNat)
          case atStart => exact ⟨1, Nat.le_refl _, rfl, Or.inr rfl, (fun q _ hq => absurd hq (by omega)), HB.out⟩
          case round =>
            clear HB
            obtain ⟨j, hj1, rfl, hj2, hS, hB⟩ := hrel
            have HB := hide hB
            clear hB
            by_cases hjl : j < ps.length
            case neg =>
              have hji : ¬ (j : Int) < (ps.length : Int) := by omega
              have RI := hide (RN.out (fun q hq => hS.out q hq (by omega)))
              clear RN hS NDr
              go_wp2_with fail
              go_roundw
              case rel => exact ⟨i + 1, by omega, by go_num, RI.out, HB.out⟩
              case measure => simp [intOf]; omega
            case pos =>
              have hpa := P2.out.at0 (by omega)
              subst hpa
              have hji : (j : Int) < (ps.length : Int) := by omega
              have PW := P2.out.below (HB.out.mono hNs.out)
              have cx := PW.c j hjl
              obtain ⟨j', rfl⟩ : ∃ j', j = j' + 1 := ⟨j - 1, by omega⟩
              have cy := PW.c j' (by omega)
              have ej : ((j' + 1 : Nat) : Int) - 1 = (j' : Int) := by omega
              have ew : IntKind.i64.wrap (((j' + 1 : Nat) : Int) - 1) = (j' : Int) := by rw [i64_in (by omega) (by omega)]; omega
              have ew2 : wrap64 (((j' + 1 : Nat) : Int) - 1) = (j' : Int) := by rw [wrap_in (by omega) (by omega)]; omega
              clear PW
              have SN : Hid (ps[j'] < ps[j' + 1] → ∀ q (h : q + 1 < ps.length), q + 1 < j' + 1 + 1 → ps[q] < ps[q + 1]) := fun he q hq hqj => by
                by_cases h' : q + 1 < j' + 1
                · exact hS.out q hq h'
                · obtain rfl : q = j' := by omega
                  exact he
              have NR : Hid (ps[j' + 1] ≤ ps[j'] → ¬ Rising ps) := fun hle hr => by
                have := hr j' hjl
                omega
              generalize ps[j'] = yA at *
              generalize ps[j' + 1] = yB at *
              by_cases hy : yB ≤ yA
              · have ND := hide (NDr.out (NR.out hy))
                have hy' : decide (yB ≤ yA) = true := decide_eq_true hy
                go_wp2_with fail
                go_quiet (fail)
                replace HB := hide (HB.out.trans (c := wr.drewN nq) ⟨rfl, rfl, rfl, Nat.le_refl _, fun _ _ => rfl⟩)
                generalize wr.drewN nq = W3 at *
                clear cx cy
                go_wp2_with fail
                go_ret
                exact ⟨ret_bool ND.out.symm, B2.out.trans (HB.out.mono B2.out.size)⟩
              · have S2 := hide (SN.out (by omega))
                have hy' : decide (yB ≤ yA) = false := decide_eq_false hy
                go_wp2_with fail
                go_quiet (fail)
                replace HB := hide (HB.out.trans (c := wr.drewN nq) ⟨rfl, rfl, rfl, Nat.le_refl _, fun _ _ => rfl⟩)
                generalize wr.drewN nq = W3 at *
                clear cx cy
                go_wp2_with fail
                go_roundw
                case rel => exact ⟨j' + 1 + 1, by omega, by go_num, by omega, S2.out, HB.out⟩
                case measure => simp [intOf]; omega
end Go.Proofs.YtanlnelfbfjelaaDoor
