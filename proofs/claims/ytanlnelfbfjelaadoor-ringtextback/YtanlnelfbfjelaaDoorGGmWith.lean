import Derived.Test.YtanlnelfbfjelaaDoorGGmMod
namespace Go.Proofs.YtanlnelfbfjelaaDoor
open Go.RowKit
theorem exec_muli {ρ : Operand → Value} {op : Oper} {w : World} {a b : Int} {t2 : TypeId} (x y : Operand) (ho : op.op = .binOp .mul 3 x y t2) (hx : ρ x = .int .i64 a) (hy : ρ y = .int .i64 b) (h0 : -9223372036854775808 ≤ a * b) (h1 : a * b < 9223372036854775808) : (execOp ρ op).run Tryd.prog w = .ok (.value (.int .i64 (a * b))) w := by
  unfold execOp
  simp only [ho, hx, hy]
  go_simp
  exact i64_in h0 h1
theorem wpList_muli {w : World} {ops : Array Oper} {rest : List Oper} {op : Oper} {a : Act} {Q : Exit → Act → World → Prop} (hgd : op.guard = none) {t2 : TypeId} (x y : Operand) (ho : op.op = .binOp .mul 3 x y t2) (A B C : Int) (hx : a.eval x = .int .i64 A) (hy : a.eval y = .int .i64 B) (hC : A * B = C) (h0 : -9223372036854775808 ≤ C) (h1 : C < 9223372036854775808) (h : wpList Tryd.prog ops Q rest (a.put op.dst (.int .i64 C)) w) : wpList Tryd.prog ops Q (op :: rest) a w := by
  subst hC
  exact wpList_plain hgd fun _ hK => wp_exec (exec_muli x y ho hx hy h0 h1) (hK _ _ h)
theorem exec_quoi {ρ : Operand → Value} {op : Oper} {w : World} {a b : Int} {t2 : TypeId} (x y : Operand) (ho : op.op = .binOp .quo 3 x y t2) (hx : ρ x = .int .i64 a) (hy : ρ y = .int .i64 b) (ha : 0 ≤ a) (ha2 : a < 9223372036854775808) (hb : 0 < b) : (execOp ρ op).run Tryd.prog w = .ok (.value (.int .i64 (a / b))) w := by
  unfold execOp
  simp only [ho, hx, hy]
  have hq := Int.tdiv_eq_ediv_of_nonneg (a := a) (b := b) ha
  have hb0 : ¬ b = 0 := by omega
  have hb1 : ¬ b = -1 := by omega
  have q0 : 0 ≤ a / b := Int.ediv_nonneg ha (by omega)
  have q1 : a / b ≤ a := Int.ediv_le_self _ ha
  have e := i64_in (x := a / b) (by omega) (by omega)
  go_simp
  try exact e
  try exact wrap_in (by omega) (by omega)
theorem wpList_quoi {w : World} {ops : Array Oper} {rest : List Oper} {op : Oper} {a : Act} {Q : Exit → Act → World → Prop} (hgd : op.guard = none) {t2 : TypeId} (x y : Operand) (ho : op.op = .binOp .quo 3 x y t2) (A B C : Int) (hx : a.eval x = .int .i64 A) (hy : a.eval y = .int .i64 B) (hC : A / B = C) (ha : 0 ≤ A) (ha2 : A < 9223372036854775808) (hb : 0 < B) (h : wpList Tryd.prog ops Q rest (a.put op.dst (.int .i64 C)) w) : wpList Tryd.prog ops Q (op :: rest) a w := by
  subst hC
  exact wpList_plain hgd fun _ hK => wp_exec (exec_quoi x y ho hx hy ha ha2 hb) (hK _ _ h)
/-- one setting anew -/
def upd (x : Nat → Int) (i : Nat) (y : Int) : Nat → Int := fun j => if j = i then y else x j
theorem upd_at (x : Nat → Int) (i : Nat) (y : Int) : upd x i y i = y := by simp [upd]
theorem upd_ne (x : Nat → Int) {i j : Nat} (y : Int) (h : j ≠ i) : upd x i y j = x j := by simp [upd, h]
theorem vA_set (x : Nat → Int) (i : Nat) (y : Int) (h : i < 21) : (vA x).modify i (fun _ => .int .i64 y) = vA (upd x i y) := by
  have : i = 0 ∨ i = 1 ∨ i = 2 ∨ i = 3 ∨ i = 4 ∨ i = 5 ∨ i = 6 ∨ i = 7 ∨ i = 8 ∨ i = 9 ∨ i = 10 ∨ i = 11 ∨ i = 12 ∨ i = 13 ∨ i = 14 ∨ i = 15 ∨ i = 16 ∨ i = 17 ∨ i = 18 ∨ i = 19 ∨ i = 20 := by omega
  clear h
  rcases this with rfl | rfl | rfl | rfl | rfl | rfl | rfl | rfl | rfl | rfl | rfl | rfl | rfl | rfl | rfl | rfl | rfl | rfl | rfl | rfl | rfl <;> rfl
theorem vA_set2 (x : Nat → Int) (i : Nat) (y : Int) (h : i < 21) : (vA x).setIfInBounds i (.int .i64 y) = vA (upd x i y) := by
  have : i = 0 ∨ i = 1 ∨ i = 2 ∨ i = 3 ∨ i = 4 ∨ i = 5 ∨ i = 6 ∨ i = 7 ∨ i = 8 ∨ i = 9 ∨ i = 10 ∨ i = 11 ∨ i = 12 ∨ i = 13 ∨ i = 14 ∨ i = 15 ∨ i = 16 ∨ i = 17 ∨ i = 18 ∨ i = 19 ∨ i = 20 := by omega
  clear h
  rcases this with rfl | rfl | rfl | rfl | rfl | rfl | rfl | rfl | rfl | rfl | rfl | rfl | rfl | rfl | rfl | rfl | rfl | rfl | rfl | rfl | rfl <;> rfl
theorem VAt.set {w : World} {V : Nat} {x : Nat → Int} (h : VAt w V x) (i : Nat) (hi : i < 21) (y : Int) : VAt (w.setCell ⟨V, i, none⟩ (.int .i64 y)) V (upd x i y) := by
  unfold VAt at *
  simp only [World.setCell, Array.getElem?_modify, if_true, h, Option.map_some]
  rw [← vA_set2 x i y hi]
  rfl
theorem VAt.cell {w : World} {V : Nat} {x : Nat → Int} (h : VAt w V x) (i : Nat) (hi : i < 21) : w.cell? ⟨V, i, none⟩ = some (.int .i64 (x i)) := by
  unfold World.cell?
  rw [show w.heap[V]? = _ from h]
  exact vA_at x i hi
theorem VAt.fz {w : World} {V : Nat} {x : Nat → Int} (h : VAt w V x) (i : Nat) : w.frozen? ⟨V, i, none⟩ = false := by
  unfold World.frozen?
  rw [show w.heap[V]? = _ from h]
  simp
theorem wpList_loadV {w : World} {ops : Array Oper} {rest : List Oper} {o : Oper} {a : Act} {Q : Exit → Act → World → Prop} (hgd : o.guard = none) (p : Operand) (ho : o.op = .load 52 p) (b : Nat) (x : Nat → Int) (hx : a.eval p = .pointer (some ⟨b, 0, none⟩)) (hO : VAt w b x)
    (h : wpList Tryd.prog ops Q rest (a.put o.dst (.agg (vA x))) w) : wpList Tryd.prog ops Q (o :: rest) a w := by
  refine wpList_plain hgd fun K hK => ?_
  have hl : (Instr.loadAt 52 (.pointer (some ⟨b, 0, none⟩))).run Tryd.prog w = .ok (.agg (vA x)) w := by
    simp only [Instr.loadAt, Instr.sureAddr, Sem.run_bind, Sem.run_pure, Result.andThen]
    exact run_loadVar_row _ _ 52 52 (vA x) (0, 0) _ hO Tryd.underlying52 rfl infoV
  unfold Oper.wp execOp
  simp only [ho, Sem.run_bind, Sem.run_pure, Result.andThen_ok, hx, hl]
  exact hK _ _ h
theorem built_cl (st : ByteArray) (x : Nat → Int) (ba : Option Addr) (n c : Nat) : Tryd.prog.built 24 [(0, .string st), (1, .int .i64 (x 0)), (2, .int .i64 (x 1)), (3, .int .i64 (x 2)), (4, .int .i64 (x 3)), (5, .int .i64 (x 4)), (6, .int .i64 (x 5)), (7, .int .i64 (x 6)), (8, .int .i64 (x 7)), (9, .int .i64 (x 8)), (10, .int .i64 (x 9)), (11, .int .i64 (x 10)), (12, .int .i64 (x 11)), (13, .int .i64 (x 12)), (14, .int .i64 (x 13)), (15, .int .i64 (x 14)), (16, .int .i64 (x 15)), (17, .int .i64 (x 16)), (18, .int .i64 (x 17)), (19, .int .i64 (x 18)), (20, .int .i64 (x 19)), (21, .int .i64 (x 20)), (22, .slice ba n c)] = some (clA st x (.slice ba n c)) := by kernel_rfl
theorem wpList_buildCl {w : World} {ops : Array Oper} {rest : List Oper} {o : Oper} {a : Act} {Q : Exit → Act → World → Prop} (hgd : o.guard = none) (y0 y1 y2 y3 y4 y5 y6 y7 y8 y9 y10 y11 y12 y13 y14 y15 y16 y17 y18 y19 y20 y21 y22 : Operand) (ho : o.op = .build 24 #[(0, y0), (1, y1), (2, y2), (3, y3), (4, y4), (5, y5), (6, y6), (7, y7), (8, y8), (9, y9), (10, y10), (11, y11), (12, y12), (13, y13), (14, y14), (15, y15), (16, y16), (17, y17), (18, y18), (19, y19), (20, y20), (21, y21), (22, y22)]) (st : ByteArray) (x : Nat → Int) (ba : Option Addr) (n c : Nat) (h0 : a.eval y0 = .string st) (h1 : a.eval y1 = .int .i64 (x 0)) (h2 : a.eval y2 = .int .i64 (x 1)) (h3 : a.eval y3 = .int .i64 (x 2)) (h4 : a.eval y4 = .int .i64 (x 3)) (h5 : a.eval y5 = .int .i64 (x 4)) (h6 : a.eval y6 = .int .i64 (x 5)) (h7 : a.eval y7 = .int .i64 (x 6)) (h8 : a.eval y8 = .int .i64 (x 7)) (h9 : a.eval y9 = .int .i64 (x 8)) (h10 : a.eval y10 = .int .i64 (x 9)) (h11 : a.eval y11 = .int .i64 (x 10)) (h12 : a.eval y12 = .int .i64 (x 11)) (h13 : a.eval y13 = .int .i64 (x 12)) (h14 : a.eval y14 = .int .i64 (x 13)) (h15 : a.eval y15 = .int .i64 (x 14)) (h16 : a.eval y16 = .int .i64 (x 15)) (h17 : a.eval y17 = .int .i64 (x 16)) (h18 : a.eval y18 = .int .i64 (x 17)) (h19 : a.eval y19 = .int .i64 (x 18)) (h20 : a.eval y20 = .int .i64 (x 19)) (h21 : a.eval y21 = .int .i64 (x 20)) (h22 : a.eval y22 = .slice ba n c)
    (h : wpList Tryd.prog ops Q rest (a.put o.dst (.agg (clA st x (.slice ba n c)))) w) : wpList Tryd.prog ops Q (o :: rest) a w := by
  refine wpList_plain hgd fun K hK => ?_
  unfold Oper.wp execOp
  simp only [ho, List.map_toArray, List.map_cons, List.map_nil, h0, h1, h2, h3, h4, h5, h6, h7, h8, h9, h10, h11, h12, h13, h14, h15, h16, h17, h18, h19, h20, h21, h22, Sem.run_bind, Sem.run_pure, Result.andThen_ok, run_build w 24 _ (clA st x (.slice ba n c)) (built_cl st x ba n c)]
  exact hK _ _ h
set_option maxHeartbeats 8000000 in
set_option maxRecDepth 100000 in
set_option linter.unusedSimpArgs false in
set_option linter.unusedVariables false in
theorem with_any (w : World) (st : ByteArray) (x : Nat → Int) (ba : Option Addr) (n c : Nat) :
    Calls Tryd.prog 19 #[.string st, .agg (vA x), .slice ba n c] w fun e w' => e = .returned (.agg (clA st x (.slice ba n c))) ∧ Below w.heap.size w w' := by
  obtain ⟨W0, hW0⟩ : ∃ W0, W0 = (w.alloc (.cells (vA x) 52)).alloc (.cells (clA ⟨#[]⟩ zx (.slice none 0 0)) 24) := ⟨_, rfl⟩
  have B0 : Hid (Below w.heap.size w W0) := by rw [hW0]; exact ((Below.refl _ _).alloc (Nat.le_refl _) _).alloc (by simp) _
  have V0 : Hid (VAt W0 w.heap.size x) := by
    show W0.heap[w.heap.size]? = _
    rw [hW0, Below.heap_alloc _ _ _ (by simp)]
    exact heap_last _ _
  have R0 : Hid (ClAt W0 (w.heap.size + 1) ⟨#[]⟩ zx (.slice none 0 0)) := by
    rw [hW0]
    have := new_cl (w.alloc (.cells (vA x) 52)) ⟨#[]⟩ zx (.slice none 0 0)
    simp only [World.size_alloc] at this
    exact this
  go_enter Tryd.func19, Tryd.ntmps19
  go_upto_region 1 with fail
  rw [show (w.alloc (.cells (vA x) 52)).alloc (.cells #[.string ⟨#[]⟩, .int .i64 0, .int .i64 0, .int .i64 0, .int .i64 0, .int .i64 0, .int .i64 0, .int .i64 0, .int .i64 0, .int .i64 0, .int .i64 0, .int .i64 0, .int .i64 0, .int .i64 0, .int .i64 0, .int .i64 0, .int .i64 0, .int .i64 0, .int .i64 0, .int .i64 0, .int .i64 0, .int .i64 0, .slice none 0 0] 24) = W0 from hW0.symm]
  clear hW0
  have c0 := V0.out.cell 0 (by omega)
  have c1 := V0.out.cell 1 (by omega)
  have c2 := V0.out.cell 2 (by omega)
  have c3 := V0.out.cell 3 (by omega)
  have c4 := V0.out.cell 4 (by omega)
  have c5 := V0.out.cell 5 (by omega)
  have c6 := V0.out.cell 6 (by omega)
  have c7 := V0.out.cell 7 (by omega)
  have c8 := V0.out.cell 8 (by omega)
  have c9 := V0.out.cell 9 (by omega)
  have c10 := V0.out.cell 10 (by omega)
  have c11 := V0.out.cell 11 (by omega)
  have c12 := V0.out.cell 12 (by omega)
  have c13 := V0.out.cell 13 (by omega)
  have c14 := V0.out.cell 14 (by omega)
  have c15 := V0.out.cell 15 (by omega)
  have c16 := V0.out.cell 16 (by omega)
  have c17 := V0.out.cell 17 (by omega)
  have c18 := V0.out.cell 18 (by omega)
  have c19 := V0.out.cell 19 (by omega)
  have c20 := V0.out.cell 20 (by omega)
  go_wp2_with (first | refine wpList_buildCl rfl (.tmp 7) (.tmp 9) (.tmp 11) (.tmp 13) (.tmp 15) (.tmp 17) (.tmp 19) (.tmp 21) (.tmp 23) (.tmp 25) (.tmp 27) (.tmp 29) (.tmp 31) (.tmp 33) (.tmp 35) (.tmp 37) (.tmp 39) (.tmp 41) (.tmp 43) (.tmp 45) (.tmp 47) (.tmp 49) (.tmp 50) rfl st x ba n c rfl rfl rfl rfl rfl rfl rfl rfl rfl rfl rfl rfl rfl rfl rfl rfl rfl rfl rfl rfl rfl rfl rfl ?_ | (refine wpList_store_row rfl 24 (.tmp 6) (.tmp 51) rfl (w.heap.size + 1) (clA st x (.slice ba n c)) rfl rfl 24 _ R0.out infoCl rfl (clA_one st x rfl) ?_))
  have E6 : ClAt (W0.setRow (w.heap.size + 1) (clA st x (.slice ba n c))) (w.heap.size + 1) st x (.slice ba n c) := setRow_heap W0 (w.heap.size + 1) _ _ 24 _ R0.out
  have B7 : Below w.heap.size w (W0.setRow (w.heap.size + 1) (clA st x (.slice ba n c))) := below_setRow B0.out (by omega) _
  exact bodyPost_ret (v := .agg (clA st x (.slice ba n c))) (res_cl Tryd.results19 _ st x _ _ (w.heap.size + 1) rfl E6) rfl ⟨rfl, B7⟩
end Go.Proofs.YtanlnelfbfjelaaDoor
namespace Go.Proofs.YtanlnelfbfjelaaDoor
open Go.RowKit
theorem Tw.step2 {base : Nat} {W X1 X3 : World} {ns : List ND} {vl vl' v1 : Value} {zs : List (Int × Value)} (h : Tw base W ns vl zs) (hi : zs.length < ns.length) (o1 : X1.ownsRow base 3 1 v1 ns[zs.length].ps.length (ints ns[zs.length].ps)) (b1 : Below W.heap.size W X1) (o3 : X3.ownsRow base 59 2 vl' (zs.length + 1) (ndc zs ++ ndc [(ns[zs.length].z, v1)])) (g3 : (X1.alloc (.cells #[.int .i64 ns[zs.length].z, v1] 59)).grownBy X3 vl.ownBlock) : Tw base X3 ns vl' (zs ++ [(ns[zs.length].z, v1)]) :=
  (h.keep b1).step hi o1 (World.grownBy.refl _ _) o3 g3
/-- what Made stands on: the box, the result's place -/
structure MdW (N : Nat) (w W : World) (a b c d : Int) (H Z M : List Int) (aH : Option Addr) (bH oH cH : Nat) (aZ : Option Addr) (bZ oZ cZ : Nat) (aM : Option Addr) (bM oM cM : Nat) : Prop where
  c0 : W.cell? ⟨w.heap.size, 0, none⟩ = some (.int .i64 a)
  c1 : W.cell? ⟨w.heap.size, 1, none⟩ = some (.int .i64 b)
  c2 : W.cell? ⟨w.heap.size, 2, none⟩ = some (.int .i64 c)
  c3 : W.cell? ⟨w.heap.size, 3, none⟩ = some (.int .i64 d)
  c4 : W.cell? ⟨w.heap.size, 4, none⟩ = some (.slice aH H.length cH)
  c5 : W.cell? ⟨w.heap.size, 5, none⟩ = some (.slice aZ Z.length cZ)
  c6 : W.cell? ⟨w.heap.size, 6, none⟩ = some (.slice aM M.length cM)
  res : ClAt W (w.heap.size + 1) ⟨#[]⟩ zx (.slice none 0 0)
  ph : PsAt N W aH bH oH H
  pz : PsAt N W aZ bZ oZ Z
  pm : PsAt N W aM bM oM M
  le : N ≤ W.heap.size
  lt : w.heap.size + 2 ≤ W.heap.size
theorem MdW.below {N : Nat} {w W W' : World} {a b c d : Int} {H Z M : List Int} {aH : Option Addr} {bH oH cH : Nat} {aZ : Option Addr} {bZ oZ cZ : Nat} {aM : Option Addr} {bM oM cM : Nat} (h : MdW N w W a b c d H Z M aH bH oH cH aZ bZ oZ cZ aM bM oM cM) (hb : Below W.heap.size W W') : MdW N w W' a b c d H Z M aH bH oH cH aZ bZ oZ cZ aM bM oM cM := by
  have hl := h.lt
  have k : ∀ j v, W.cell? ⟨w.heap.size, j, none⟩ = some v → W'.cell? ⟨w.heap.size, j, none⟩ = some v := fun j v e => (hb.cell (p := ⟨w.heap.size, j, none⟩) (by show w.heap.size < _; omega)).trans e
  exact ⟨k _ _ h.c0, k _ _ h.c1, k _ _ h.c2, k _ _ h.c3, k _ _ h.c4, k _ _ h.c5, k _ _ h.c6, h.res.below hb, h.ph.below (hb.mono h.le), h.pz.below (hb.mono h.le), h.pm.below (hb.mono h.le), Nat.le_trans h.le hb.size, Nat.le_trans hl hb.size⟩
theorem MdW.below2 {N : Nat} {w W W' : World} {a b c d : Int} {H Z M : List Int} {aH : Option Addr} {bH oH cH : Nat} {aZ : Option Addr} {bZ oZ cZ : Nat} {aM : Option Addr} {bM oM cM : Nat} (h : MdW N w W a b c d H Z M aH bH oH cH aZ bZ oZ cZ aM bM oM cM) (hb : Below (w.heap.size + 2) W W') (hN : N ≤ w.heap.size) : MdW N w W' a b c d H Z M aH bH oH cH aZ bZ oZ cZ aM bM oM cM := by
  have k : ∀ j v, W.cell? ⟨w.heap.size, j, none⟩ = some v → W'.cell? ⟨w.heap.size, j, none⟩ = some v := fun j v e => (hb.cell (p := ⟨w.heap.size, j, none⟩) (by show w.heap.size < _; omega)).trans e
  have hb2 := hb.mono (B' := N) (by omega)
  exact ⟨k _ _ h.c0, k _ _ h.c1, k _ _ h.c2, k _ _ h.c3, k _ _ h.c4, k _ _ h.c5, k _ _ h.c6, (hb.block _ (by omega)).trans h.res, h.ph.below hb2, h.pz.below hb2, h.pm.below hb2, Nat.le_trans h.le hb.size, Nat.le_trans h.lt hb.size⟩
theorem kpN_mdN {z h : Nat → Int} {p n i : Nat} (hi : i < n) : kpN ((mdN z h p n).take (i + 1)) = kpN ((mdN z h p n).take i) + (if 0 < (mdQ h i p).length then 1 else 0) := by
  rw [kpN_take (by rw [mdN_len]; exact hi), mdN_at, nis_len]
theorem Tw.step3 {base : Nat} {W X3 : World} {ns : List ND} {vl vl' v1 : Value} {zs : List (Int × Value)} {z : Int} {ps : List Int} (h : Tw base W ns vl zs) (hi : zs.length < ns.length) (hn : ns[zs.length] = ⟨z, ps⟩) (o1 : W.ownsRow base 3 1 v1 ps.length (ints ps)) (o3 : X3.ownsRow base 59 2 vl' (zs.length + 1) (ndc zs ++ ndc [(z, v1)])) (g3 : (W.alloc (.cells #[.int .i64 z, v1] 59)).grownBy X3 vl.ownBlock) : Tw base X3 ns vl' (zs ++ [(z, v1)]) := by
  have e1 : ns[zs.length].z = z := by rw [hn]
  have e2 : ns[zs.length].ps = ps := by rw [hn]
  subst e1
  subst e2
  exact h.step hi o1 (World.grownBy.refl _ _) o3 g3
theorem wpList_bsNd {w : World} {ops : Array Oper} {rest : List Oper} {op : Oper} {a : Act} {Q : Exit → Act → World → Prop} (hgd : op.guard = none) (x : Operand) (ho : op.op = .buildSlice 22 1 #[(0, x)]) {z : Int} {ba : Option Addr} {n c : Nat} (hx : a.eval x = .agg #[.int .i64 z, .slice ba n c])
    (h : wpList Tryd.prog ops Q rest (a.put op.dst (.slice (some ⟨w.heap.size, 0, none⟩) 1 1)) (w.alloc (.cells #[.int .i64 z, .slice ba n c] 59))) : wpList Tryd.prog ops Q (op :: rest) a w :=
  wpList_plain hgd fun _ hK => wp_bsNd x ho hx (hK _ _ h)
theorem nd_set {w : World} {D : Nat} {z : Int} {v v' : Value} (h : w.heap[D]? = some (.cells #[.int .i64 z, v] 59)) : (w.setCell ⟨D, 1, none⟩ v').heap[D]? = some (.cells #[.int .i64 z, v'] 59) := by
  simp only [World.setCell, Array.getElem?_modify, if_true, h, Option.map_some]
  rfl
theorem nd_grown {w X : World} {D : Nat} {z : Int} {v u : Value} {n : Nat} {xs : List Value} {o : Obj} (h : w.heap[D]? = some (.cells #[.int .i64 z, v] 59)) (ho : w.ownsRow (D + 1) 3 1 u n xs) (hg : (w.alloc o).grownBy X u.ownBlock) : X.heap[D]? = some (.cells #[.int .i64 z, v] 59) := by
  have hl := blk_lt h
  rw [hg.block D (by simp; omega) (fun e => by have := (own_lt ho e.symm).1; omega), Below.heap_alloc _ _ _ hl]
  exact h
theorem nd_facts {w : World} {D : Nat} {z : Int} {v : Value} (h : w.heap[D]? = some (.cells #[.int .i64 z, v] 59)) : w.cell? ⟨D, 1, none⟩ = some v ∧ w.frozen? ⟨D, 1, none⟩ = false := by
  constructor
  · unfold World.cell?
    rw [h]
    rfl
  · unfold World.frozen?
    rw [h]
    simp
end Go.Proofs.YtanlnelfbfjelaaDoor
