import Derived.OrdersHeld
import Derived.Deep.RegionHeld
import Derived.Test.YteiiolilpemimaaDoorGGkPure
namespace Go.Proofs.YteiiolilpemimaaDoor
/-- operation o, where it is wanted, is a call that in every world that meets S answers v and leaves that world -/
def CallsIf (P : Program) (ops : Array Oper) (S : World → Prop) (o : Oper) (v : Value) (a : Act) : Prop :=
  Region.wanted o (yielded ops a.tmps) = true ∧ ∃ f args, ∀ w, S w → (execOp a.eval o).run P w = .ok (.enter f args) w ∧ Calls P f args w fun e w' => e = .returned v ∧ w = w'
section
variable {P : Program} {ops : Array Oper} {Q : Exit → Act → World → Prop} {md : Region.Mode} {S : World → Prop}
theorem CallsIf.same {o : Oper} {v : Value} {a a' : Act} (h : CallsIf P ops S o v a) (he : execOp a'.eval o = execOp a.eval o) (hw : Region.wanted o (yielded ops a'.tmps) = Region.wanted o (yielded ops a.tmps)) : CallsIf P ops S o v a' := by
  obtain ⟨h1, f, args, h2⟩ := h
  exact ⟨hw.trans h1, f, args, fun w hS => by rw [he]; exact h2 w hS⟩
theorem CallsIf.op {i : Nat} {o : Oper} {v : Value} {a : Act} (hi : ops[i]? = some o) (h : CallsIf P ops S o v a) {K : Act → World → Prop} {w : World} (hS : S w) (hK : K (a.put o.dst v) w) : wpOp P ops Q i K a w := by
  obtain ⟨h1, f, args, h2⟩ := h
  obtain ⟨h3, h4⟩ := h2 w hS
  unfold wpOp
  simp only [hi, h1, if_true]
  refine .inl ?_
  unfold Oper.wp
  rw [h3]
  refine Calls.mono h4 ?_
  rintro e w' ⟨rfl, rfl⟩
  exact hK
/-- another operation, apart from it, goes with its value laid ahead as it goes without -/
theorem CallsIf.aside {j : Nat} {oi oj : Oper} {v : Value} (hj : ops[j]? = some oj) (hap : oi.apart ops oj = true) (hsi : ∀ cs b, oi.op ≠ .select cs b) (hsj : ∀ cs b, oj.op ≠ .select cs b)
    (hQ : ∀ c a w, Q (.panic c) (a.put oi.dst v) w → Q (.panic c) a w) {K : Act → World → Prop} {a : Act} {w : World} (hy : CallsIf P ops S oi v a) (h : wpOp P ops Q j K (a.put oi.dst v) w) : wpOp P ops Q j (fun a' w' => CallsIf P ops S oi v a' ∧ K (a'.put oi.dst v) w') a w := by
  obtain ⟨h1, h2, h3⟩ := Oper.apart_spec hap
  have put : ∀ (b : Act), CallsIf P ops S oi v b → ∀ u, CallsIf P ops S oi v (b.put oj.dst u) := fun b hb u => hb.same (execOp_put oi hsi b oj.dst u h3) (wanted_put oi b oj.dst u h3)
  unfold wpOp at *
  simp only [hj, wanted_put oj a oi.dst v h1] at *
  by_cases hw : Region.wanted oj (yielded ops a.tmps) = true
  · simp only [hw, if_true] at h ⊢
    rcases h with h | ⟨hasks, hlets⟩
    · refine .inl ?_
      unfold Oper.wp at *
      rw [execOp_put oj hsj a oi.dst v h1] at h
      generalize (execOp a.eval oj).run P w = r at *
      rcases r with ⟨n, w'⟩ | ⟨x, w'⟩
      · cases n <;> simp only [Oper.upon] at h ⊢
        case value u => exact ⟨put a hy u, by rw [← Act.put_comm a v u h2]; exact h⟩
        case skip => exact ⟨put a hy _, by rw [← Act.put_comm a v undef h2]; exact h⟩
        case defer d => exact ⟨put { a with defers := d :: a.defers } (hy.same rfl rfl) _, by rw [← Act.put_comm _ v undef h2, ← Act.put_defers]; exact h⟩
        case enter f args =>
          refine Calls.mono h fun e w'' he => ?_
          rcases e with u | c | _
          · exact ⟨put a hy u, by rw [← Act.put_comm a v u h2]; exact he⟩
          · exact hQ _ _ _ he
          · exact he
        case row row args => exact Rows.mono h fun u w'' he => ⟨put a hy u, by rw [← Act.put_comm a v u h2]; exact he⟩
      · cases x <;> simp only [Oper.upon] at h ⊢
        case panic u => exact hQ _ _ _ h
    · exact .inr ⟨by unfold Oper.asks at *; rw [execOp_put oj hsj a oi.dst v h1] at hasks; exact hasks, hlets⟩
  · simp only [hw] at h ⊢
    exact ⟨put a hy _, by rw [← Act.put_comm a v undef h2]; exact h⟩
/-- such a call may be taken first -/
theorem wpAnyH_takeCall {i : Nat} {oi : Oper} {v : Value} (hi : ops[i]? = some oi) (hs : Region.noSelect ops = true) (hQ : ∀ c a w, Q (.panic c) (a.put oi.dst v) w → Q (.panic c) a w) :
    ∀ (fuel : Nat) (listed : Array Bool) (a : Act) (w : World), (∀ j oj, ops[j]? = some oj → j ≠ i → listed.getD j true = false → (∀ e ∈ oj.after, Region.binds md e = true → e.on ≠ i) → oi.apart ops oj = true) →
      i ∈ Region.ready md ops listed → CallsIf P ops S oi v a → S w → wpAnyH P md ops Q S fuel (listed.setIfInBounds i true) (a.put oi.dst v) w → wpAnyH P md ops Q S (fuel + 1) listed a w := by
  have hsel := Region.noSelect_spec hs
  intro fuel
  induction fuel with
  | zero =>
    intro listed a w _ hr hy hS H
    refine ⟨fun h => absurd hr (by rw [h]; simp), fun j hj => ?_⟩
    by_cases hji : j = i
    · subst hji
      exact hy.op hi hS ⟨hS, H⟩
    · have h0 := ready_mono hj hji
      rw [H.1] at h0
      cases h0
  | succ fuel ih =>
    intro listed a w hfree hr hy hS H
    refine ⟨fun h => absurd hr (by rw [h]; simp), fun j hj => ?_⟩
    by_cases hji : j = i
    · subst hji
      exact hy.op hi hS ⟨hS, H⟩
    · obtain ⟨hun, oj, hoj, hall⟩ := mem_ready.1 hj
      have hno : ∀ e ∈ oj.after, Region.binds md e = true → e.on ≠ i := fun e he hb heq => by
        have k1 := hall e he hb
        have k0 := (mem_ready.1 hr).1
        rw [heq] at k1
        rcases Nat.lt_or_ge i listed.size with hl | hl
        · simp [hl] at k0 k1
          rw [k0] at k1
          cases k1
        · simp [Array.getElem?_eq_none hl] at k1
      have h2 := CallsIf.aside hoj (hfree j oj hoj hji hun hno) (fun cs b => hsel i oi cs b hi) (fun cs b => hsel j oj cs b hoj) hQ hy (H.2 j (ready_mono hj hji))
      refine wpOp_mono (fun a' w' h3 => ⟨h3.2.1, ih _ a' w' (fun k ok hk hki hu hn => hfree k ok hk hki ?_ hn) (ready_mono hr (Ne.symm hji)) h3.1 h3.2.1 ?_⟩) h2
      · by_cases hjk : j = k
        · subst hjk
          exact hun
        · rw [getD_set_ne true hjk] at hu
          exact hu
      · rw [Array.setIfInBounds_comm _ _ hji]
        exact h3.2.2
theorem wpAnyH_callTake {i : Nat} {oi : Oper} {v : Value} {fuel : Nat} {listed : Array Bool} {a : Act} {w : World} (hi : ops[i]? = some oi) (hs : Region.noSelect ops = true) (hf : Region.free md ops listed i = true) (hr : (Region.ready md ops listed).contains i = true)
    (hQ : ∀ c a w, Q (.panic c) (a.put oi.dst v) w → Q (.panic c) a w) (hw : Region.wanted oi (yielded ops a.tmps) = true) (f : FuncId) (args : Array Value) (he : ∀ w, (execOp a.eval oi).run P w = .ok (.enter f args) w) (hc : ∀ w, S w → Calls P f args w fun e w' => e = .returned v ∧ w = w') (hS : S w)
    (h : wpAnyH P md ops Q S fuel (listed.setIfInBounds i true) (a.put oi.dst v) w) : wpAnyH P md ops Q S (fuel + 1) listed a w :=
  wpAnyH_takeCall hi hs hQ fuel listed a w (Region.free_spec hi hf) (by simpa using hr) ⟨hw, f, args, fun w hS => ⟨he w, hc w hS⟩⟩ hS h
end
end Go.Proofs.YteiiolilpemimaaDoor
namespace Go.Proofs.YteiiolilpemimaaDoor
open Go.RowKit
theorem exec_muli {ρ : Operand → Value} {op : Oper} {w : World} {a b : Int} {t2 : TypeId} (x y : Operand) (ho : op.op = .binOp .mul 3 x y t2) (hx : ρ x = .int .i64 a) (hy : ρ y = .int .i64 b) (h0 : -9223372036854775808 ≤ a * b) (h1 : a * b < 9223372036854775808) : (execOp ρ op).run Tryd.prog w = .ok (.value (.int .i64 (a * b))) w := by
  unfold execOp
  simp only [ho, hx, hy]
  go_simp
  exact i64_in h0 h1
theorem wpList_muli {w : World} {ops : Array Oper} {rest : List Oper} {op : Oper} {a : Act} {Q : Exit → Act → World → Prop} (hgd : op.guard = none) {t2 : TypeId} (x y : Operand) (ho : op.op = .binOp .mul 3 x y t2) (A B C : Int) (hx : a.eval x = .int .i64 A) (hy : a.eval y = .int .i64 B) (hC : A * B = C) (h0 : -9223372036854775808 ≤ C) (h1 : C < 9223372036854775808) (h : wpList Tryd.prog ops Q rest (a.put op.dst (.int .i64 C)) w) : wpList Tryd.prog ops Q (op :: rest) a w := by
  subst hC
  exact wpList_plain hgd fun _ hK => wp_exec (exec_muli x y ho hx hy h0 h1) (hK _ _ h)
theorem exec_quoi {ρ : Operand → Value} {op : Oper} {w : World} {a b : Int} {t2 : TypeId} (x y : Operand) (ho : op.op = .binOp .quo 3 x y t2) (hx : ρ x = .int .i64 a) (hy : ρ y = .int .i64 b) (ha : 0 ≤ a) (ha2 : a < 9223372036854775808) (hb : 0 < b) : (execOp ρ op).run Tryd.prog w = .ok (.value (.int .i64 (a / b))) w := by
  unfold execOp
  simp only [ho, hx, hy]
  have hq := Int.tdiv_eq_ediv_of_nonneg (a := a) (b := b) ha
  have hb0 : ¬ b = 0 := by omega
  have hb1 : ¬ b = -1 := by omega
  have q0 : 0 ≤ a / b := Int.ediv_nonneg ha (by omega)
  have q1 : a / b ≤ a := Int.ediv_le_self _ ha
  have e := i64_in (x := a / b) (by omega) (by omega)
  go_simp
  try exact e
  try exact wrap_in (by omega) (by omega)
theorem wpList_quoi {w : World} {ops : Array Oper} {rest : List Oper} {op : Oper} {a : Act} {Q : Exit → Act → World → Prop} (hgd : op.guard = none) {t2 : TypeId} (x y : Operand) (ho : op.op = .binOp .quo 3 x y t2) (A B C : Int) (hx : a.eval x = .int .i64 A) (hy : a.eval y = .int .i64 B) (hC : A / B = C) (ha : 0 ≤ A) (ha2 : A < 9223372036854775808) (hb : 0 < B) (h : wpList Tryd.prog ops Q rest (a.put op.dst (.int .i64 C)) w) : wpList Tryd.prog ops Q (op :: rest) a w := by
  subst hC
  exact wpList_plain hgd fun _ hK => wp_exec (exec_quoi x y ho hx hy ha ha2 hb) (hK _ _ h)
/-- one setting anew -/
def upd (x : Nat → Int) (i : Nat) (y : Int) : Nat → Int := fun j => if j = i then y else x j
theorem upd_at (x : Nat → Int) (i : Nat) (y : Int) : upd x i y i = y := by simp [upd]
theorem upd_ne (x : Nat → Int) {i j : Nat} (y : Int) (h : j ≠ i) : upd x i y j = x j := by simp [upd, h]
theorem vA_set (x : Nat → Int) (i : Nat) (y : Int) (h : i < 21) : (vA x).modify i (fun _ => .int .i64 y) = vA (upd x i y) := by
  have : i = 0 ∨ i = 1 ∨ i = 2 ∨ i = 3 ∨ i = 4 ∨ i = 5 ∨ i = 6 ∨ i = 7 ∨ i = 8 ∨ i = 9 ∨ i = 10 ∨ i = 11 ∨ i = 12 ∨ i = 13 ∨ i = 14 ∨ i = 15 ∨ i = 16 ∨ i = 17 ∨ i = 18 ∨ i = 19 ∨ i = 20 := by omega
  clear h
  rcases this with rfl | rfl | rfl | rfl | rfl | rfl | rfl | rfl | rfl | rfl | rfl | rfl | rfl | rfl | rfl | rfl | rfl | rfl | rfl | rfl | rfl <;> rfl
theorem vA_set2 (x : Nat → Int) (i : Nat) (y : Int) (h : i < 21) : (vA x).setIfInBounds i (.int .i64 y) = vA (upd x i y) := by
  have : i = 0 ∨ i = 1 ∨ i = 2 ∨ i = 3 ∨ i = 4 ∨ i = 5 ∨ i = 6 ∨ i = 7 ∨ i = 8 ∨ i = 9 ∨ i = 10 ∨ i = 11 ∨ i = 12 ∨ i = 13 ∨ i = 14 ∨ i = 15 ∨ i = 16 ∨ i = 17 ∨ i = 18 ∨ i = 19 ∨ i = 20 := by omega
  clear h
  rcases this with rfl | rfl | rfl | rfl | rfl | rfl | rfl | rfl | rfl | rfl | rfl | rfl | rfl | rfl | rfl | rfl | rfl | rfl | rfl | rfl | rfl <;> rfl
theorem VAt.set {w : World} {V : Nat} {x : Nat → Int} (h : VAt w V x) (i : Nat) (hi : i < 21) (y : Int) : VAt (w.setCell ⟨V, i, none⟩ (.int .i64 y)) V (upd x i y) := by
  unfold VAt at *
  simp only [World.setCell, Array.getElem?_modify, if_true, h, Option.map_some]
  rw [← vA_set2 x i y hi]
  rfl
theorem VAt.cell {w : World} {V : Nat} {x : Nat → Int} (h : VAt w V x) (i : Nat) (hi : i < 21) : w.cell? ⟨V, i, none⟩ = some (.int .i64 (x i)) := by
  unfold World.cell?
  rw [show w.heap[V]? = _ from h]
  exact vA_at x i hi
theorem VAt.fz {w : World} {V : Nat} {x : Nat → Int} (h : VAt w V x) (i : Nat) : w.frozen? ⟨V, i, none⟩ = false := by
  unfold World.frozen?
  rw [show w.heap[V]? = _ from h]
  simp
theorem wpList_loadV {w : World} {ops : Array Oper} {rest : List Oper} {o : Oper} {a : Act} {Q : Exit → Act → World → Prop} (hgd : o.guard = none) (p : Operand) (ho : o.op = .load 107 p) (b : Nat) (x : Nat → Int) (hx : a.eval p = .pointer (some ⟨b, 0, none⟩)) (hO : VAt w b x)
    (h : wpList Tryd.prog ops Q rest (a.put o.dst (.agg (vA x))) w) : wpList Tryd.prog ops Q (o :: rest) a w := by
  refine wpList_plain hgd fun K hK => ?_
  have hl : (Instr.loadAt 107 (.pointer (some ⟨b, 0, none⟩))).run Tryd.prog w = .ok (.agg (vA x)) w := by
    simp only [Instr.loadAt, Instr.sureAddr, Sem.run_bind, Sem.run_pure, Result.andThen]
    exact run_loadVar_row _ _ 107 107 (vA x) (0, 0) _ hO Tryd.underlying107 rfl infoV
  unfold Oper.wp execOp
  simp only [ho, Sem.run_bind, Sem.run_pure, Result.andThen_ok, hx, hl]
  exact hK _ _ h
theorem built_cl (st : ByteArray) (x : Nat → Int) (ba : Option Addr) (n c : Nat) : Tryd.prog.built 24 [(0, .string st), (1, .int .i64 (x 0)), (2, .int .i64 (x 1)), (3, .int .i64 (x 2)), (4, .int .i64 (x 3)), (5, .int .i64 (x 4)), (6, .int .i64 (x 5)), (7, .int .i64 (x 6)), (8, .int .i64 (x 7)), (9, .int .i64 (x 8)), (10, .int .i64 (x 9)), (11, .int .i64 (x 10)), (12, .int .i64 (x 11)), (13, .int .i64 (x 12)), (14, .int .i64 (x 13)), (15, .int .i64 (x 14)), (16, .int .i64 (x 15)), (17, .int .i64 (x 16)), (18, .int .i64 (x 17)), (19, .int .i64 (x 18)), (20, .int .i64 (x 19)), (21, .int .i64 (x 20)), (22, .slice ba n c)] = some (clA st x (.slice ba n c)) := by kernel_rfl
theorem wpList_buildCl {w : World} {ops : Array Oper} {rest : List Oper} {o : Oper} {a : Act} {Q : Exit → Act → World → Prop} (hgd : o.guard = none) (y0 y1 y2 y3 y4 y5 y6 y7 y8 y9 y10 y11 y12 y13 y14 y15 y16 y17 y18 y19 y20 y21 y22 : Operand) (ho : o.op = .build 24 #[(0, y0), (1, y1), (2, y2), (3, y3), (4, y4), (5, y5), (6, y6), (7, y7), (8, y8), (9, y9), (10, y10), (11, y11), (12, y12), (13, y13), (14, y14), (15, y15), (16, y16), (17, y17), (18, y18), (19, y19), (20, y20), (21, y21), (22, y22)]) (st : ByteArray) (x : Nat → Int) (ba : Option Addr) (n c : Nat) (h0 : a.eval y0 = .string st) (h1 : a.eval y1 = .int .i64 (x 0)) (h2 : a.eval y2 = .int .i64 (x 1)) (h3 : a.eval y3 = .int .i64 (x 2)) (h4 : a.eval y4 = .int .i64 (x 3)) (h5 : a.eval y5 = .int .i64 (x 4)) (h6 : a.eval y6 = .int .i64 (x 5)) (h7 : a.eval y7 = .int .i64 (x 6)) (h8 : a.eval y8 = .int .i64 (x 7)) (h9 : a.eval y9 = .int .i64 (x 8)) (h10 : a.eval y10 = .int .i64 (x 9)) (h11 : a.eval y11 = .int .i64 (x 10)) (h12 : a.eval y12 = .int .i64 (x 11)) (h13 : a.eval y13 = .int .i64 (x 12)) (h14 : a.eval y14 = .int .i64 (x 13)) (h15 : a.eval y15 = .int .i64 (x 14)) (h16 : a.eval y16 = .int .i64 (x 15)) (h17 : a.eval y17 = .int .i64 (x 16)) (h18 : a.eval y18 = .int .i64 (x 17)) (h19 : a.eval y19 = .int .i64 (x 18)) (h20 : a.eval y20 = .int .i64 (x 19)) (h21 : a.eval y21 = .int .i64 (x 20)) (h22 : a.eval y22 = .slice ba n c)
    (h : wpList Tryd.prog ops Q rest (a.put o.dst (.agg (clA st x (.slice ba n c)))) w) : wpList Tryd.prog ops Q (o :: rest) a w := by
  refine wpList_plain hgd fun K hK => ?_
  unfold Oper.wp execOp
  simp only [ho, List.map_toArray, List.map_cons, List.map_nil, h0, h1, h2, h3, h4, h5, h6, h7, h8, h9, h10, h11, h12, h13, h14, h15, h16, h17, h18, h19, h20, h21, h22, Sem.run_bind, Sem.run_pure, Result.andThen_ok, run_build w 24 _ (clA st x (.slice ba n c)) (built_cl st x ba n c)]
  exact hK _ _ h
end Go.Proofs.YteiiolilpemimaaDoor
namespace Go.Proofs.YteiiolilpemimaaDoor
open Go.RowKit
theorem Tw.step2 {base : Nat} {W X1 X3 : World} {ns : List ND} {vl vl' v1 : Value} {zs : List (Int × Value)} (h : Tw base W ns vl zs) (hi : zs.length < ns.length) (o1 : X1.ownsRow base 3 1 v1 ns[zs.length].ps.length (ints ns[zs.length].ps)) (b1 : Below W.heap.size W X1) (o3 : X3.ownsRow base 78 2 vl' (zs.length + 1) (ndc zs ++ ndc [(ns[zs.length].z, v1)])) (g3 : (X1.alloc (.cells #[.int .i64 ns[zs.length].z, v1] 78)).grownBy X3 vl.ownBlock) : Tw base X3 ns vl' (zs ++ [(ns[zs.length].z, v1)]) :=
  (h.keep b1).step hi o1 (World.grownBy.refl _ _) o3 g3
/-- what Made stands on: the box, the result's place -/
structure MdW (N : Nat) (w W : World) (a b c d : Int) (H Z M : List Int) (aH : Option Addr) (bH oH cH : Nat) (aZ : Option Addr) (bZ oZ cZ : Nat) (aM : Option Addr) (bM oM cM : Nat) : Prop where
  c0 : W.cell? ⟨w.heap.size, 0, none⟩ = some (.int .i64 a)
  c1 : W.cell? ⟨w.heap.size, 1, none⟩ = some (.int .i64 b)
  c2 : W.cell? ⟨w.heap.size, 2, none⟩ = some (.int .i64 c)
  c3 : W.cell? ⟨w.heap.size, 3, none⟩ = some (.int .i64 d)
  c4 : W.cell? ⟨w.heap.size, 4, none⟩ = some (.slice aH H.length cH)
  c5 : W.cell? ⟨w.heap.size, 5, none⟩ = some (.slice aZ Z.length cZ)
  c6 : W.cell? ⟨w.heap.size, 6, none⟩ = some (.slice aM M.length cM)
  res : ClAt W (w.heap.size + 1) ⟨#[]⟩ zx (.slice none 0 0)
  ph : PsAt N W aH bH oH H
  pz : PsAt N W aZ bZ oZ Z
  pm : PsAt N W aM bM oM M
  le : N ≤ W.heap.size
  lt : w.heap.size + 2 ≤ W.heap.size
theorem MdW.below {N : Nat} {w W W' : World} {a b c d : Int} {H Z M : List Int} {aH : Option Addr} {bH oH cH : Nat} {aZ : Option Addr} {bZ oZ cZ : Nat} {aM : Option Addr} {bM oM cM : Nat} (h : MdW N w W a b c d H Z M aH bH oH cH aZ bZ oZ cZ aM bM oM cM) (hb : Below W.heap.size W W') : MdW N w W' a b c d H Z M aH bH oH cH aZ bZ oZ cZ aM bM oM cM := by
  have hl := h.lt
  have k : ∀ j v, W.cell? ⟨w.heap.size, j, none⟩ = some v → W'.cell? ⟨w.heap.size, j, none⟩ = some v := fun j v e => (hb.cell (p := ⟨w.heap.size, j, none⟩) (by show w.heap.size < _; omega)).trans e
  exact ⟨k _ _ h.c0, k _ _ h.c1, k _ _ h.c2, k _ _ h.c3, k _ _ h.c4, k _ _ h.c5, k _ _ h.c6, h.res.below hb, h.ph.below (hb.mono h.le), h.pz.below (hb.mono h.le), h.pm.below (hb.mono h.le), Nat.le_trans h.le hb.size, Nat.le_trans hl hb.size⟩
theorem MdW.below2 {N : Nat} {w W W' : World} {a b c d : Int} {H Z M : List Int} {aH : Option Addr} {bH oH cH : Nat} {aZ : Option Addr} {bZ oZ cZ : Nat} {aM : Option Addr} {bM oM cM : Nat} (h : MdW N w W a b c d H Z M aH bH oH cH aZ bZ oZ cZ aM bM oM cM) (hb : Below (w.heap.size + 2) W W') (hN : N ≤ w.heap.size) : MdW N w W' a b c d H Z M aH bH oH cH aZ bZ oZ cZ aM bM oM cM := by
  have k : ∀ j v, W.cell? ⟨w.heap.size, j, none⟩ = some v → W'.cell? ⟨w.heap.size, j, none⟩ = some v := fun j v e => (hb.cell (p := ⟨w.heap.size, j, none⟩) (by show w.heap.size < _; omega)).trans e
  have hb2 := hb.mono (B' := N) (by omega)
  exact ⟨k _ _ h.c0, k _ _ h.c1, k _ _ h.c2, k _ _ h.c3, k _ _ h.c4, k _ _ h.c5, k _ _ h.c6, (hb.block _ (by omega)).trans h.res, h.ph.below hb2, h.pz.below hb2, h.pm.below hb2, Nat.le_trans h.le hb.size, Nat.le_trans h.lt hb.size⟩
theorem kpN_mdN {z h : Nat → Int} {p n i : Nat} (hi : i < n) : kpN ((mdN z h p n).take (i + 1)) = kpN ((mdN z h p n).take i) + (if 0 < (mdQ h i p).length then 1 else 0) := by
  rw [kpN_take (by rw [mdN_len]; exact hi), mdN_at, nis_len]
theorem Tw.step3 {base : Nat} {W X3 : World} {ns : List ND} {vl vl' v1 : Value} {zs : List (Int × Value)} {z : Int} {ps : List Int} (h : Tw base W ns vl zs) (hi : zs.length < ns.length) (hn : ns[zs.length] = ⟨z, ps⟩) (o1 : W.ownsRow base 3 1 v1 ps.length (ints ps)) (o3 : X3.ownsRow base 78 2 vl' (zs.length + 1) (ndc zs ++ ndc [(z, v1)])) (g3 : (W.alloc (.cells #[.int .i64 z, v1] 78)).grownBy X3 vl.ownBlock) : Tw base X3 ns vl' (zs ++ [(z, v1)]) := by
  have e1 : ns[zs.length].z = z := by rw [hn]
  have e2 : ns[zs.length].ps = ps := by rw [hn]
  subst e1
  subst e2
  exact h.step hi o1 (World.grownBy.refl _ _) o3 g3
theorem wpList_bsNd {w : World} {ops : Array Oper} {rest : List Oper} {op : Oper} {a : Act} {Q : Exit → Act → World → Prop} (hgd : op.guard = none) (x : Operand) (ho : op.op = .buildSlice 22 1 #[(0, x)]) {z : Int} {ba : Option Addr} {n c : Nat} (hx : a.eval x = .agg #[.int .i64 z, .slice ba n c])
    (h : wpList Tryd.prog ops Q rest (a.put op.dst (.slice (some ⟨w.heap.size, 0, none⟩) 1 1)) (w.alloc (.cells #[.int .i64 z, .slice ba n c] 78))) : wpList Tryd.prog ops Q (op :: rest) a w :=
  wpList_plain hgd fun _ hK => wp_bsNd x ho hx (hK _ _ h)
theorem nd_set {w : World} {D : Nat} {z : Int} {v v' : Value} (h : w.heap[D]? = some (.cells #[.int .i64 z, v] 78)) : (w.setCell ⟨D, 1, none⟩ v').heap[D]? = some (.cells #[.int .i64 z, v'] 78) := by
  simp only [World.setCell, Array.getElem?_modify, if_true, h, Option.map_some]
  rfl
theorem nd_grown {w X : World} {D : Nat} {z : Int} {v u : Value} {n : Nat} {xs : List Value} {o : Obj} (h : w.heap[D]? = some (.cells #[.int .i64 z, v] 78)) (ho : w.ownsRow (D + 1) 3 1 u n xs) (hg : (w.alloc o).grownBy X u.ownBlock) : X.heap[D]? = some (.cells #[.int .i64 z, v] 78) := by
  have hl := blk_lt h
  rw [hg.block D (by simp; omega) (fun e => by have := (own_lt ho e.symm).1; omega), Below.heap_alloc _ _ _ hl]
  exact h
theorem nd_facts {w : World} {D : Nat} {z : Int} {v : Value} (h : w.heap[D]? = some (.cells #[.int .i64 z, v] 78)) : w.cell? ⟨D, 1, none⟩ = some v ∧ w.frozen? ⟨D, 1, none⟩ = false := by
  constructor
  · unfold World.cell?
    rw [h]
    rfl
  · unfold World.frozen?
    rw [h]
    simp
end Go.Proofs.YteiiolilpemimaaDoor
namespace Go.Proofs.YteiiolilpemimaaDoor
open Go.RowKit
/-- all that stands when the nodes are made -/
structure MdT (N : Nat) (w W0 : World) (a b c d : Int) (H Z M : List Int) (aH : Option Addr) (bH oH cH : Nat) (aZ : Option Addr) (bZ oZ cZ : Nat) (aM : Option Addr) (bM oM cM : Nat) (ns : List ND) (ba : Option Addr) (nn cp : Nat) (zs : List (Int × Value)) (W : World) : Prop where
  md : MdW N w W a b c d H Z M aH bH oH cH aZ bZ oZ cZ aM bM oM cM
  tw : Tw W0.heap.size W ns (.slice ba nn cp) zs
  bel : Below W0.heap.size W0 W
  s0 : W0.heap.size = w.heap.size + 2
  b0 : Below w.heap.size w W0
  hN : N ≤ w.heap.size
theorem MdT.below {N : Nat} {w W0 : World} {a b c d : Int} {H Z M : List Int} {aH : Option Addr} {bH oH cH : Nat} {aZ : Option Addr} {bZ oZ cZ : Nat} {aM : Option Addr} {bM oM cM : Nat} {ns : List ND} {ba : Option Addr} {nn cp : Nat} {zs : List (Int × Value)} {W W' : World} (h : MdT N w W0 a b c d H Z M aH bH oH cH aZ bZ oZ cZ aM bM oM cM ns ba nn cp zs W) (hb : Below W.heap.size W W') : MdT N w W0 a b c d H Z M aH bH oH cH aZ bZ oZ cZ aM bM oM cM ns ba nn cp zs W' :=
  ⟨h.md.below hb, h.tw.keep hb, h.bel.trans (hb.mono h.bel.size), h.s0, h.b0, h.hN⟩
theorem own_notV {W : World} {base sz n V g : Nat} {e : TypeId} {v : Value} {xs : List Value} {x : Nat → Int} (h : W.ownsRow base e sz v n xs) (hV : VAt W V x) (he : e ≠ 107) (hg : v.ownBlock = some g) : g ≠ V := by
  intro e1
  subst e1
  rcases h.2 with ⟨hv, _⟩ | ⟨g', cap, cur, hv, hb, hgg, _⟩
  · rw [hv] at hg
    cases hg
  · rw [hv] at hg
    injection hg with hg
    subst hg
    have h2 := hgg.symm.trans (show W.heap[g']? = _ from hV)
    injection h2 with h2
    injection h2 with _ h3
    exact he h3
theorem MdT.setV {N : Nat} {w W0 : World} {a b c d : Int} {H Z M : List Int} {aH : Option Addr} {bH oH cH : Nat} {aZ : Option Addr} {bZ oZ cZ : Nat} {aM : Option Addr} {bM oM cM : Nat} {ns : List ND} {ba : Option Addr} {nn cp : Nat} {zs : List (Int × Value)} {W : World} {V : Nat} {x : Nat → Int} (h : MdT N w W0 a b c d H Z M aH bH oH cH aZ bZ oZ cZ aM bM oM cM ns ba nn cp zs W) (hV : VAt W V x) (hl : w.heap.size + 2 ≤ V) (i : Nat) (y : Value) : MdT N w W0 a b c d H Z M aH bH oH cH aZ bZ oZ cZ aM bM oM cM ns ba nn cp zs (W.setCell ⟨V, i, none⟩ y) := by
  have hb : Below V W (W.setCell ⟨V, i, none⟩ y) := (Below.refl V W).setCell (p := ⟨V, i, none⟩) (Nat.le_refl V) y
  have oth : ∀ g, g ≠ V → (W.setCell ⟨V, i, none⟩ y).heap[g]? = W.heap[g]? := fun g hg => Below.heap_setCell _ _ _ _ hg
  have s0 := h.s0
  have hN := h.hN
  refine ⟨h.md.below2 (hb.mono hl) hN, ⟨own_keep h.tw.row fun g hg => oth g (own_notV h.tw.row hV (by decide) hg), h.tw.z, fun q hq hq' => own_keep (h.tw.p q hq hq') fun g hg => oth g (own_notV (h.tw.p q hq hq') hV (by decide) hg)⟩, h.bel.trans (hb.mono (by omega)), h.s0, h.b0, h.hN⟩
theorem exec_ldi {ρ : Operand → Value} {op : Oper} {w : World} {b o : Nat} {v : Value} (x : Operand) (ho : op.op = .load 3 x) (hx : ρ x = .pointer (some ⟨b, o, none⟩)) (hc : w.cell? ⟨b, o, none⟩ = some v) : (execOp ρ op).run Tryd.prog w = .ok (.value v) w := by
  have h1 : (Instr.loadAt 3 (.pointer (some ⟨b, o, none⟩))).run Tryd.prog w = .ok v w := by go_simp
  unfold execOp
  simp only [ho, hx, h1, Sem.run_bind, Result.andThen_ok, Sem.run_pure]
theorem exec_lds {ρ : Operand → Value} {op : Oper} {w : World} {b o : Nat} {v : Value} (x : Operand) (ho : op.op = .load 26 x) (hx : ρ x = .pointer (some ⟨b, o, none⟩)) (hc : w.cell? ⟨b, o, none⟩ = some v) : (execOp ρ op).run Tryd.prog w = .ok (.value v) w := by
  have h1 : (Instr.loadAt 26 (.pointer (some ⟨b, o, none⟩))).run Tryd.prog w = .ok v w := by go_simp
  unfold execOp
  simp only [ho, hx, h1, Sem.run_bind, Result.andThen_ok, Sem.run_pure]
theorem exec_subi {ρ : Operand → Value} {op : Oper} {w : World} {a b : Int} {t2 : TypeId} (x y : Operand) (ho : op.op = .binOp .sub 3 x y t2) (hx : ρ x = .int .i64 a) (hy : ρ y = .int .i64 b) (h0 : -9223372036854775808 ≤ a - b) (h1 : a - b < 9223372036854775808) : (execOp ρ op).run Tryd.prog w = .ok (.value (.int .i64 (a - b))) w := by
  unfold execOp
  simp only [ho, hx, hy]
  go_simp
  exact i64_in h0 h1
theorem exec_ixV {ρ : Operand → Value} {op : Oper} {w : World} {V : Nat} {i : Nat} (hi : i < 21) (x y : Operand) (ho : op.op = .indexAddr 107 x y) (hx : ρ x = .pointer (some ⟨V, 0, none⟩)) (hy : ρ y = .int .i64 (i : Int)) : (execOp ρ op).run Tryd.prog w = .ok (.value (.pointer (some ⟨V, i, none⟩))) w := by
  have hi' : (i : Int) < 21 := by omega
  unfold execOp
  simp only [ho, hx, hy]
  go_simp
end Go.Proofs.YteiiolilpemimaaDoor
namespace Go.Proofs.YteiiolilpemimaaDoor
open Go.RowKit
/-- the settings as they are laid first -/
def x0F (r wd k y3 y4 y5 y6 y8 y9 : Int) : Nat → Int := fun i => [r, wd, k, y3, y4, y5, y6, 0, y8, y9, 0][i]?.getD 0
theorem built_v11 (r wd k y3 y4 y5 y6 y8 y9 : Int) : Tryd.prog.built 107 [(0, .int .i64 r), (1, .int .i64 wd), (2, .int .i64 k), (3, .int .i64 y3), (4, .int .i64 y4), (5, .int .i64 y5), (6, .int .i64 y6), (7, .int .i64 0), (8, .int .i64 y8), (9, .int .i64 y9), (10, .int .i64 0)] = some (vA (x0F r wd k y3 y4 y5 y6 y8 y9)) := by kernel_rfl
theorem upd_lim {x : Nat → Int} {n k : Nat} {y : Int} (hx : ∀ i, i < n → i ≠ k → loS i ≤ x i ∧ x i ≤ hiS i) (hy : loS k ≤ y ∧ y ≤ hiS k) : ∀ i, i < n → loS i ≤ upd x k y i ∧ upd x k y i ≤ hiS i := by
  intro i hi
  by_cases e : i = k
  · subst e
    rw [upd_at]
    exact hy
  · rw [upd_ne _ _ e]
    exact hx i hi e
end Go.Proofs.YteiiolilpemimaaDoor
namespace Go.Proofs.YteiiolilpemimaaDoor
open Go.RowKit
end Go.Proofs.YteiiolilpemimaaDoor
namespace Go.Proofs.YteiiolilpemimaaDoor
open Go.RowKit
theorem errP_dlt {st : ByteArray} {x : Nat → Int} {ns : List ND} (h : errP st x ns = 0) : Dealt ns := by
  apply Classical.byContradiction
  intro hn
  unfold errP at h
  rw [dlB_false hn] at h
  split at h <;> (try split at h) <;> (try split at h) <;> simp at h
theorem errP_all {st : ByteArray} {x : Nat → Int} {ns : List ND} (h : errP st x ns = 0) : nmP st = true ∧ sfP x = true ∧ nfP ns = true ∧ Dealt ns ∧ x 0 ≤ (kpN ns : Int) ∧ (ptN ns : Int) * x 0 * x 2 ≤ 512 := by
  have h1 := errP_ok h
  have h2 := errP_dlt h
  unfold errP at h
  cases e : nmP st with
  | false => rw [e] at h; simp at h
  | true =>
    rw [e, h1.1, h1.2, dlB_true h2, if_neg (by simp), if_neg (by simp), if_neg (by simp), if_neg (by simp)] at h
    by_cases h3 : (kpN ns : Int) < x 0
    · rw [if_pos h3] at h
      omega
    · rw [if_neg h3] at h
      by_cases h4 : 512 < (ptN ns : Int) * x 0 * x 2
      · rw [if_pos h4] at h
        omega
      · exact ⟨rfl, h1.1, h1.2, h2, by omega, by omega⟩
/-- fewer replicas: still valid -/
theorem fewer_ok {st : ByteArray} {x : Nat → Int} {ns : List ND} {y : Int} (h : errP st x ns = 0) (h1 : 1 ≤ y) (h2 : y ≤ x 0) : errP st (upd x 0 y) ns = 0 := by
  obtain ⟨a1, a2, a3, a4, a5, a6⟩ := errP_all h
  have l0 : 1 ≤ x 0 ∧ x 0 ≤ 16 := sfP_lim a2 0 (by omega)
  have l2 : 1 ≤ x 2 ∧ x 2 ≤ 16 := sfP_lim a2 2 (by omega)
  refine valid_errP a1 ?_ a3 a4 (by rw [upd_at]; omega) ?_
  · unfold sfP at a2 ⊢
    rw [Bool.and_eq_true] at a2 ⊢
    constructor
    · rw [List.all_eq_true]
      intro i hi
      by_cases e : i = 0
      · subst e
        unfold sfAt
        rw [upd_at]
        simp [loS, hiS]
        omega
      · have := List.all_eq_true.1 a2.1 i hi
        unfold sfAt at this ⊢
        rw [upd_ne _ _ e]
        exact this
    · have := a2.2
      rw [upd_ne _ _ (by omega), upd_ne _ _ (by omega), upd_ne _ _ (by omega), upd_ne _ _ (by omega)]
      exact this
  · rw [upd_at, upd_ne _ _ (by omega)]
    have e1 : (ptN ns : Int) * y ≤ (ptN ns : Int) * x 0 := Int.mul_le_mul_of_nonneg_left h2 (by omega)
    have e2 : (ptN ns : Int) * y * x 2 ≤ (ptN ns : Int) * x 0 * x 2 := Int.mul_le_mul_of_nonneg_right e1 (by omega)
    omega
/-- a twin, as it may be read -/
theorem tw_read {base : Nat} {W : World} {ns : List ND} {vl : Value} {zs : List (Int × Value)} (h : Tw base W ns vl zs) (hl : zs.length = ns.length) (hn : ns.length ≤ 16) (hp : ptN ns ≤ 64) : ∃ ao b cap pv, vl = .slice ao ns.length cap ∧ NsAt W.heap.size W ao b 0 pv ns := by
  have hps : ∀ (q : Nat) (h : q < ns.length), ns[q].ps.length ≤ 17592186043904 := fun q hq => by
    have : ns[q].ps.length ≤ (flat ns).length := by
      have e : flat ns = flat (ns.take q) ++ (ns[q].ps ++ flat (ns.drop (q + 1))) := by
        rw [← flat_cons, ← flat_append, ← List.drop_eq_getElem_cons hq, List.take_append_drop]
      rw [e, List.length_append, List.length_append]
      omega
    have e2 : (flat ns).length = ptN ns := rfl
    omega
  obtain ⟨ao, b, cap, e, hN⟩ := h.nodes hl (by omega) hps
  exact ⟨ao, b, cap, _, e, hN⟩
end Go.Proofs.YteiiolilpemimaaDoor
namespace Go.Proofs.YteiiolilpemimaaDoor
/-- the replicas of p that a node has, among owners from r on -/
def hdF (node : Int) (p : Nat) : Nat → List Int → List (Nat × Nat)
  | _, [] => []
  | r, a :: l => if a = node then (p, r) :: hdF node p (r + 1) l else hdF node p (r + 1) l
theorem hdF_append (node : Int) (p : Nat) (a : Int) : ∀ (r : Nat) (l : List Int), hdF node p r (l ++ [a]) = hdF node p r l ++ (if a = node then [(p, r + l.length)] else [])
  | r, [] => by
    simp only [List.nil_append, hdF, List.length_nil, Nat.add_zero]
  | r, b :: l => by
    simp only [List.cons_append, hdF, hdF_append node p a (r + 1) l, List.length_cons]
    rw [show r + 1 + l.length = r + (l.length + 1) by omega]
    by_cases e : b = node
    · rw [if_pos e, if_pos e, List.cons_append]
    · rw [if_neg e, if_neg e]
theorem hdF_take {node : Int} {p : Nat} {l : List Int} {q : Nat} (h : q < l.length) : hdF node p 0 (l.take (q + 1)) = hdF node p 0 (l.take q) ++ (if l[q] = node then [(p, q)] else []) := by
  rw [List.take_succ_eq_append_getElem h, hdF_append, List.length_take, Nat.zero_add, Nat.min_eq_left (by omega)]
theorem hdF_none {node : Int} {p : Nat} : ∀ {r : Nat} {l : List Int}, node ∉ l → hdF node p r l = []
  | r, [], _ => rfl
  | r, b :: l, h => by
    simp only [List.mem_cons, not_or] at h
    simp only [hdF]
    rw [if_neg (fun e => h.1 e.symm), hdF_none h.2]
/-- owners that are all different: one replica at most -/
theorem hdF_one {node : Int} {p : Nat} : ∀ {r : Nat} {l : List Int} {i : Nat} (h : i < l.length), l.Pairwise (· ≠ ·) → l[i] = node → hdF node p r l = [(p, r + i)]
  | r, b :: l, 0, h, hp, e => by
    simp only [List.getElem_cons_zero] at e
    subst e
    simp only [hdF, if_true, Nat.add_zero]
    rw [hdF_none fun hm => (List.pairwise_cons.1 hp).1 b hm rfl]
  | r, b :: l, i + 1, h, hp, e => by
    simp only [List.getElem_cons_succ] at e
    have hi : i < l.length := by simpa using h
    have hb : b ≠ node := fun eb => (List.pairwise_cons.1 hp).1 node (e ▸ List.getElem_mem hi) eb
    simp only [hdF]
    rw [if_neg hb, hdF_one hi (List.pairwise_cons.1 hp).2 e, show r + 1 + i = r + (i + 1) by omega]
theorem wkL_diff {ns : List ND} {P f : Nat} (i : Nat) : (owL ns (wkL ns P f i)).Pairwise (· ≠ ·) := by
  induction i with
  | zero => simp [wkL, owL]
  | succ i ih =>
    cases h : frsh ns P f i with
    | false => rw [wkL_no h]; exact ih
    | true =>
      rw [wkL_yes h]
      unfold owL at *
      rw [List.map_append, List.pairwise_append]
      refine ⟨ih, by simp, fun a ha b hb => ?_⟩
      obtain ⟨p, hp, rfl⟩ := List.mem_map.1 ha
      simp at hb
      subst hb
      exact frsh_taken.1 h p hp
theorem wk_diff (x : Nat → Int) (ns : List ND) (p : Int) : (owL ns (wk x ns p)).Pairwise (· ≠ ·) := by
  unfold wk wkR
  have := wkL_diff (ns := ns) (P := ptN ns) (f := p.toNat) (ptN ns)
  unfold owL at *
  rw [List.map_take]
  exact this.sublist (List.take_sublist _ _)
/-- a node's slots of the first q partitions -/
def hdL (x : Nat → Int) (ns : List ND) (node : Int) (q : Nat) : List (Nat × Nat) := (List.range q).flatMap fun p => hdF node p 0 (owL ns (wk x ns (p : Int)))
theorem hdL_0 (x : Nat → Int) (ns : List ND) (node : Int) : hdL x ns node 0 = [] := rfl
theorem hdL_succ (x : Nat → Int) (ns : List ND) (node : Int) (q : Nat) : hdL x ns node (q + 1) = hdL x ns node q ++ hdF node q 0 (owL ns (wk x ns (q : Int))) := by
  unfold hdL
  rw [List.range_succ, List.flatMap_append]
  simp
theorem hdF_len {node : Int} {p r : Nat} {l : List Int} (h : l.Pairwise (· ≠ ·)) : (hdF node p r l).length ≤ 1 := by
  by_cases hm : node ∈ l
  · obtain ⟨i, hi, e⟩ := List.getElem_of_mem hm
    rw [hdF_one hi h e]
    exact Nat.le_refl _
  · rw [hdF_none hm]
    exact Nat.zero_le _
theorem hdL_len (x : Nat → Int) (ns : List ND) (node : Int) (q : Nat) : (hdL x ns node q).length ≤ q := by
  induction q with
  | zero => exact Nat.le_refl _
  | succ q ih =>
    rw [hdL_succ, List.length_append]
    have := hdF_len (node := node) (p := q) (r := 0) (wk_diff x ns (q : Int))
    omega
theorem hdF_mem {node : Int} {p : Nat} : ∀ {r : Nat} {l : List Int} {s : Nat × Nat}, s ∈ hdF node p r l → s.1 = p ∧ s.2 < r + l.length
  | r, [], s, h => by simp [hdF] at h
  | r, b :: l, s, h => by
    simp only [hdF] at h
    split at h
    · rcases List.mem_cons.1 h with rfl | h
      · exact ⟨rfl, by simp⟩
      · have := hdF_mem h
        exact ⟨this.1, by simp; omega⟩
    · have := hdF_mem h
      exact ⟨this.1, by simp; omega⟩
theorem hdL_mem {x : Nat → Int} {ns : List ND} {node : Int} {q : Nat} (h16 : x 0 ≤ 16) {s : Nat × Nat} (h : s ∈ hdL x ns node q) : s.1 < q ∧ s.2 < 16 := by
  unfold hdL at h
  obtain ⟨p, hp, hs⟩ := List.mem_flatMap.1 h
  have := hdF_mem hs
  refine ⟨by rw [this.1]; exact List.mem_range.1 hp, ?_⟩
  have h2 := this.2
  rw [owL_len] at h2
  have : (wk x ns (p : Int)).length ≤ (x 0).toNat := by
    unfold wk wkR
    rw [List.length_take]
    omega
  omega
end Go.Proofs.YteiiolilpemimaaDoor
