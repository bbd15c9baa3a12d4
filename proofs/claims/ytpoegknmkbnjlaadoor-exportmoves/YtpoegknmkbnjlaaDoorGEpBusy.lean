import Derived.Test.YtpoegknmkbnjlaaDoorGKbMap
import Derived.Test.YtpoegknmkbnjlaaDoorGGcDoc
import Derived.OrdersHeld
import Derived.Deep.RegionHeld
namespace Go.Proofs.YtpoegknmkbnjlaaDoor.Cn
open Go.RowKit
section
variable {w : World} {X : Nat} {v : Ex} {Z : Zz}
set_option maxHeartbeats 16000000 in
set_option maxRecDepth 100000 in
set_option linter.unusedSimpArgs false in
set_option linter.unusedVariables false in
theorem none_b (hX : w.heap[X]? = some (.cells (exA v Z) 70)) (hr : ∃ ra rc, Z.rv = .slice ra v.rows.length rc) (hp : 1 ≤ v.rows.length) :
    Calls Tryd.prog 35 #[.pointer (some ⟨X, 0, none⟩)] w fun e w' => e = .returned (.bool false) ∧ w = w' := by
  obtain ⟨ra, rc, hrv⟩ := hr
  have c1 := (ex_cells hX).2.1
  rw [hrv] at c1
  obtain ⟨n, hn⟩ : ∃ n, n = v.rows.length := ⟨_, rfl⟩
  rw [← hn] at c1 hp
  clear hX hrv hn
  have q : ((n : Int) == 0) = false := by rw [beq_eq_false_iff_ne]; omega
  have q2 : (n == 0) = false := by rw [beq_eq_false_iff_ne]; omega
  go_enter Tryd.func35, Tryd.ntmps35
  go_wp2_with fail
  go_ret
  exact ⟨rfl, rfl⟩
theorem Ow.rsl (h : Ow w v Z) : ∃ ra rc, Z.rv = .slice ra v.rows.length rc := own_sl h.rows
theorem none_x (h : ExAt w X v Z) (hp : 1 ≤ v.rows.length) :
    Calls Tryd.prog 35 #[.pointer (some ⟨X, 0, none⟩)] w fun e w' => e = .returned (.bool false) ∧ w = w' := none_b h.blk h.ow.rsl hp
set_option maxHeartbeats 16000000 in
set_option maxRecDepth 100000 in
set_option linter.unusedSimpArgs false in
set_option linter.unusedVariables false in
theorem none_nil (w : World) :
    Calls Tryd.prog 35 #[.pointer none] w fun e w' => e = .returned (.bool true) ∧ w = w' := by
  go_enter Tryd.func35, Tryd.ntmps35
  go_wp2_with fail
  go_ret
  exact ⟨rfl, rfl⟩
set_option maxHeartbeats 16000000 in
set_option maxRecDepth 100000 in
set_option linter.unusedSimpArgs false in
set_option linter.unusedVariables false in
theorem Busy_b (hX : w.heap[X]? = some (.cells (exA v Z) 70)) (hp : 1 ≤ v.rows.length) (hr : ∃ ra rc, Z.rv = .slice ra v.rows.length rc) :
    Calls Tryd.prog 16 #[.pointer (some ⟨X, 0, none⟩)] w fun e w' => e = .returned (.bool (busyB v)) ∧ w = w' := by
  have NO := hide (none_b hX hr hp)
  have c3 := (ex_cells hX).2.2.2.1
  have hb : Hid (busyB v = (v.told.jb != 0)) := rfl
  generalize v.told.jb = jb at *
  generalize busyB v = bb at *
  clear hX hp hr
  go_enter Tryd.func16, Tryd.ntmps16
  go_wp2_with fail
  refine Calls.mono NO.out ?_
  rintro e w' ⟨rfl, rfl⟩
  clear NO
  go_wp2_with fail
  go_ret
  exact ⟨ret_bool hb.out.symm, rfl⟩
theorem Busy_x (h : ExAt w X v Z) (hp : 1 ≤ v.rows.length) :
    Calls Tryd.prog 16 #[.pointer (some ⟨X, 0, none⟩)] w fun e w' => e = .returned (.bool (busyB v)) ∧ w = w' := Busy_b h.blk hp h.ow.rsl
set_option maxHeartbeats 16000000 in
set_option maxRecDepth 100000 in
set_option linter.unusedSimpArgs false in
set_option linter.unusedVariables false in
theorem isVersion_x (n : Int) (w : World) :
    Calls Tryd.prog 47 #[.int .i64 n] w fun e w' => e = .returned (.bool (verB n)) ∧ w = w' := by
  have hb : Hid (verB n = (decide (1 ≤ n) && decide (n ≤ 999999))) := by show verB n = _; unfold verB; simp
  generalize verB n = bb at *
  by_cases q1 : 1 ≤ n
  · by_cases q2 : n ≤ 999999
    · go_enter Tryd.func47, Tryd.ntmps47
      go_wp2_with fail
      go_ret
      exact ⟨ret_bool (by rw [hb.out]; simp [q1, q2]), rfl⟩
    · go_enter Tryd.func47, Tryd.ntmps47
      go_wp2_with fail
      go_ret
      exact ⟨ret_bool (by rw [hb.out]; simp [q1, q2]), rfl⟩
  · go_enter Tryd.func47, Tryd.ntmps47
    go_wp2_with fail
    go_ret
    exact ⟨ret_bool (by rw [hb.out, decide_eq_false (show ¬ 1 ≤ n by omega), Bool.false_and]), rfl⟩
end
/-- what a message says of the question -/
def syV (a b c d e : Int) : Array Value := #[.int .i64 a, .int .i64 b, .int .i64 c, .int .i64 d, .int .i64 e]
theorem sy_info : (Tryd.prog.info? 66).map (·.size) = some 5 := by kernel_rfl
theorem sy_one (a b c d e : Int) : (syV a b c d e).all (·.oneCell') = true := by simp [syV, Value.oneCell']
set_option maxHeartbeats 16000000 in
set_option maxRecDepth 100000 in
set_option linter.unusedSimpArgs false in
set_option linter.unusedVariables false in
theorem saying_x (m : Mg) (w : World) :
    Calls Tryd.prog 67 #[.agg (mgV m)] w fun e w' => e = .returned (.agg (syV m.fr m.id m.sq m.ver m.prev)) ∧ Kp w w' non := by
  obtain ⟨W0, hW0⟩ : ∃ W0, W0 = w.alloc (.cells (mgV m) 36) := ⟨_, rfl⟩
  obtain ⟨W1, hW1⟩ : ∃ W1, W1 = W0.alloc (.cells (syV 0 0 0 0 0) 66) := ⟨_, rfl⟩
  obtain ⟨B, hB⟩ : ∃ B, B = w.heap.size + 1 := ⟨_, rfl⟩
  have hz : W0.heap.size = B := by rw [hW0, hB]; simp
  have k0 : Kp w W0 non := by rw [hW0]; exact (Kp.refl w non).alloc _
  have k1 : Kp W0 W1 non := by rw [hW1]; exact (Kp.refl W0 non).alloc _
  have m0 : MgAt W0 w.heap.size m := by rw [hW0]; exact MgAt.new w m
  have m1 := m0.keep k1 (fun f => f)
  have b1 : W1.heap[B]? = some (.cells (syV 0 0 0 0 0) 66) := by rw [hW1, ← hz]; exact heap_last _ _
  obtain ⟨W2, hW2⟩ : ∃ W2, W2 = W1.setRow B (syV m.fr m.id m.sq m.ver m.prev) := ⟨_, rfl⟩
  have b2 : W2.heap[B]? = some (.cells (syV m.fr m.id m.sq m.ver m.prev) 66) := by rw [hW2]; exact setRow_heap _ _ _ _ _ _ b1
  have K2 : Hid (Kp w W2 non) := by
    rw [hW2]
    exact (k0.trans k1 (fun _ f => f.elim)).row (Or.inr (by rw [hB]; omega)) _
  have B1 := hide b1
  have B2 := hide b2
  have hh := m1.cells
  have c1 := hh.2.1
  have c3 := hh.2.2.2.1
  have c5 := hh.2.2.2.2.2.1
  have c6 := hh.2.2.2.2.2.2.1
  have c7 := hh.2.2.2.2.2.2.2.1
  clear hh k0 k1 m0 m1 b1 b2 hz
  go_enter Tryd.func67, Tryd.ntmps67
  go_upto_region 1 with fail
  rw [← hW0]
  have e1 : (W0.alloc (.cells #[.int .i64 0, .int .i64 0, .int .i64 0, .int .i64 0, .int .i64 0] 66)) = W1 := hW1.symm
  rw [e1, ← hB]
  clear hW0 e1 hW1 hB
  go_wp2_with (refine wpList_stR rfl 66 (.tmp 2) (.tmp 13) rfl B rfl (syV m.fr m.id m.sq m.ver m.prev) (syV 0 0 0 0 0) rfl _ B1.out sy_info rfl (sy_one _ _ _ _ _) ?_)
  rw [← hW2]
  refine bodyPost_ret (v := .agg (syV m.fr m.id m.sq m.ver m.prev)) (res_row1 Tryd.results67 _ _ W2 B rfl _ B2.out Tryd.underlying66 sy_info) rfl ⟨rfl, K2.out⟩
end Go.Proofs.YtpoegknmkbnjlaaDoor.Cn
namespace Go.Proofs.YtpoegknmkbnjlaaDoor
/-- operation o, where it is wanted, is a call that in every world that meets S answers v and leaves that world -/
def CallsIf (P : Program) (ops : Array Oper) (S : World → Prop) (o : Oper) (v : Value) (a : Act) : Prop :=
  Region.wanted o (yielded ops a.tmps) = true ∧ ∃ f args, ∀ w, S w → (execOp a.eval o).run P w = .ok (.enter f args) w ∧ Calls P f args w fun e w' => e = .returned v ∧ w = w'
section
variable {P : Program} {ops : Array Oper} {Q : Exit → Act → World → Prop} {md : Region.Mode} {S : World → Prop}
theorem CallsIf.same {o : Oper} {v : Value} {a a' : Act} (h : CallsIf P ops S o v a) (he : execOp a'.eval o = execOp a.eval o) (hw : Region.wanted o (yielded ops a'.tmps) = Region.wanted o (yielded ops a.tmps)) : CallsIf P ops S o v a' := by
  obtain ⟨h1, f, args, h2⟩ := h
  exact ⟨hw.trans h1, f, args, fun w hS => by rw [he]; exact h2 w hS⟩
theorem CallsIf.op {i : Nat} {o : Oper} {v : Value} {a : Act} (hi : ops[i]? = some o) (h : CallsIf P ops S o v a) {K : Act → World → Prop} {w : World} (hS : S w) (hK : K (a.put o.dst v) w) : wpOp P ops Q i K a w := by
  obtain ⟨h1, f, args, h2⟩ := h
  obtain ⟨h3, h4⟩ := h2 w hS
  unfold wpOp
  simp only [hi, h1, if_true]
  refine .inl ?_
  unfold Oper.wp
  rw [h3]
  refine Calls.mono h4 ?_
  rintro e w' ⟨rfl, rfl⟩
  exact hK
/-- another operation, apart from it, goes with its value laid ahead as it goes without -/
theorem CallsIf.aside {j : Nat} {oi oj : Oper} {v : Value} (hj : ops[j]? = some oj) (hap : oi.apart ops oj = true) (hsi : ∀ cs b, oi.op ≠ .select cs b) (hsj : ∀ cs b, oj.op ≠ .select cs b)
    (hQ : ∀ c a w, Q (.panic c) (a.put oi.dst v) w → Q (.panic c) a w) {K : Act → World → Prop} {a : Act} {w : World} (hy : CallsIf P ops S oi v a) (h : wpOp P ops Q j K (a.put oi.dst v) w) : wpOp P ops Q j (fun a' w' => CallsIf P ops S oi v a' ∧ K (a'.put oi.dst v) w') a w := by
  obtain ⟨h1, h2, h3⟩ := Oper.apart_spec hap
  have put : ∀ (b : Act), CallsIf P ops S oi v b → ∀ u, CallsIf P ops S oi v (b.put oj.dst u) := fun b hb u => hb.same (execOp_put oi hsi b oj.dst u h3) (wanted_put oi b oj.dst u h3)
  unfold wpOp at *
  simp only [hj, wanted_put oj a oi.dst v h1] at *
  by_cases hw : Region.wanted oj (yielded ops a.tmps) = true
  · simp only [hw, if_true] at h ⊢
    rcases h with h | ⟨hasks, hlets⟩
    · refine .inl ?_
      unfold Oper.wp at *
      rw [execOp_put oj hsj a oi.dst v h1] at h
      generalize (execOp a.eval oj).run P w = r at *
      rcases r with ⟨n, w'⟩ | ⟨x, w'⟩
      · cases n <;> simp only [Oper.upon] at h ⊢
        case value u => exact ⟨put a hy u, by rw [← Act.put_comm a v u h2]; exact h⟩
        case skip => exact ⟨put a hy _, by rw [← Act.put_comm a v undef h2]; exact h⟩
        case defer d => exact ⟨put { a with defers := d :: a.defers } (hy.same rfl rfl) _, by rw [← Act.put_comm _ v undef h2, ← Act.put_defers]; exact h⟩
        case enter f args =>
          refine Calls.mono h fun e w'' he => ?_
          rcases e with u | c | _
          · exact ⟨put a hy u, by rw [← Act.put_comm a v u h2]; exact he⟩
          · exact hQ _ _ _ he
          · exact he
        case row row args => exact Rows.mono h fun u w'' he => ⟨put a hy u, by rw [← Act.put_comm a v u h2]; exact he⟩
      · cases x <;> simp only [Oper.upon] at h ⊢
        case panic u => exact hQ _ _ _ h
    · exact .inr ⟨by unfold Oper.asks at *; rw [execOp_put oj hsj a oi.dst v h1] at hasks; exact hasks, hlets⟩
  · simp only [hw] at h ⊢
    exact ⟨put a hy _, by rw [← Act.put_comm a v undef h2]; exact h⟩
/-- such a call may be taken first -/
theorem wpAnyH_takeCall {i : Nat} {oi : Oper} {v : Value} (hi : ops[i]? = some oi) (hs : Region.noSelect ops = true) (hQ : ∀ c a w, Q (.panic c) (a.put oi.dst v) w → Q (.panic c) a w) :
    ∀ (fuel : Nat) (listed : Array Bool) (a : Act) (w : World), (∀ j oj, ops[j]? = some oj → j ≠ i → listed.getD j true = false → (∀ e ∈ oj.after, Region.binds md e = true → e.on ≠ i) → oi.apart ops oj = true) →
      i ∈ Region.ready md ops listed → CallsIf P ops S oi v a → S w → wpAnyH P md ops Q S fuel (listed.setIfInBounds i true) (a.put oi.dst v) w → wpAnyH P md ops Q S (fuel + 1) listed a w := by
  have hsel := Region.noSelect_spec hs
  intro fuel
  induction fuel with
  | zero =>
    intro listed a w _ hr hy hS H
    refine ⟨fun h => absurd hr (by rw [h]; simp), fun j hj => ?_⟩
    by_cases hji : j = i
    · subst hji
      exact hy.op hi hS ⟨hS, H⟩
    · have h0 := ready_mono hj hji
      rw [H.1] at h0
      cases h0
  | succ fuel ih =>
    intro listed a w hfree hr hy hS H
    refine ⟨fun h => absurd hr (by rw [h]; simp), fun j hj => ?_⟩
    by_cases hji : j = i
    · subst hji
      exact hy.op hi hS ⟨hS, H⟩
    · obtain ⟨hun, oj, hoj, hall⟩ := mem_ready.1 hj
      have hno : ∀ e ∈ oj.after, Region.binds md e = true → e.on ≠ i := fun e he hb heq => by
        have k1 := hall e he hb
        have k0 := (mem_ready.1 hr).1
        rw [heq] at k1
        rcases Nat.lt_or_ge i listed.size with hl | hl
        · simp [hl] at k0 k1
          rw [k0] at k1
          cases k1
        · simp [Array.getElem?_eq_none hl] at k1
      have h2 := CallsIf.aside hoj (hfree j oj hoj hji hun hno) (fun cs b => hsel i oi cs b hi) (fun cs b => hsel j oj cs b hoj) hQ hy (H.2 j (ready_mono hj hji))
      refine wpOp_mono (fun a' w' h3 => ⟨h3.2.1, ih _ a' w' (fun k ok hk hki hu hn => hfree k ok hk hki ?_ hn) (ready_mono hr (Ne.symm hji)) h3.1 h3.2.1 ?_⟩) h2
      · by_cases hjk : j = k
        · subst hjk
          exact hun
        · rw [getD_set_ne true hjk] at hu
          exact hu
      · rw [Array.setIfInBounds_comm _ _ hji]
        exact h3.2.2
theorem wpAnyH_callTake {i : Nat} {oi : Oper} {v : Value} {fuel : Nat} {listed : Array Bool} {a : Act} {w : World} (hi : ops[i]? = some oi) (hs : Region.noSelect ops = true) (hf : Region.free md ops listed i = true) (hr : (Region.ready md ops listed).contains i = true)
    (hQ : ∀ c a w, Q (.panic c) (a.put oi.dst v) w → Q (.panic c) a w) (hw : Region.wanted oi (yielded ops a.tmps) = true) (f : FuncId) (args : Array Value) (he : ∀ w, (execOp a.eval oi).run P w = .ok (.enter f args) w) (hc : ∀ w, S w → Calls P f args w fun e w' => e = .returned v ∧ w = w') (hS : S w)
    (h : wpAnyH P md ops Q S fuel (listed.setIfInBounds i true) (a.put oi.dst v) w) : wpAnyH P md ops Q S (fuel + 1) listed a w :=
  wpAnyH_takeCall hi hs hQ fuel listed a w (Region.free_spec hi hf) (by simpa using hr) ⟨hw, f, args, fun w hS => ⟨he w, hc w hS⟩⟩ hS h
end
end Go.Proofs.YtpoegknmkbnjlaaDoor
namespace Go.Proofs.YtpoegknmkbnjlaaDoor.Cn
open Go.RowKit
theorem ex_range {w : World} {X : Nat} {v : Ex} {Z : Zz} (h : w.heap[X]? = some (.cells (exA v Z) 70)) : w.rangeAt X 10 (syV v.wf v.wj v.wp v.wv v.wl).toList := fun j u hj => by
  have hl : j < 5 := by
    have := (List.getElem?_eq_some_iff.1 hj).1
    simpa [syV] using this
  rw [cell_row h]
  match j, hl with
  | 0, _ | 1, _ | 2, _ | 3, _ | 4, _ => exact hj
theorem exec_sy {ρ : Operand → Value} {o : Oper} {w : World} {X : Nat} {v : Ex} {Z : Zz} (x : Operand) (ho : o.op = .load 66 x) (hx : ρ x = .pointer (some ⟨X, 10, none⟩)) (h : w.heap[X]? = some (.cells (exA v Z) 70)) : (execOp ρ o).run Tryd.prog w = .ok (.value (.agg (syV v.wf v.wj v.wp v.wv v.wl))) w := by
  have hl := run_loadAt_mid (P := Tryd.prog) w X 10 66 _ _ (ex_range h) Tryd.underlying66 rfl sy_info
  unfold execOp
  simp only [ho, hx, Sem.run_bind, Sem.run_pure, Result.andThen_ok, hl]
theorem sy_eq (a b c d e a' b' c' d' e' : Int) : (a == a' && b == b' && c == c' && d == d' && e == e') = (a == a' && (b == b' && (c == c' && (d == d' && e == e')))) := by
  simp [Bool.and_assoc]
theorem five {α : Type} (f : Bool → α) (a b c d e a' b' c' d' e' : Int) : (if a = a' then if b = b' then if c = c' then if d = d' then if e = e' then f true else f false else f false else f false else f false else f false) = f (a == a' && b == b' && c == c' && d == d' && e == e') := by
  by_cases h1 : a = a'
  · by_cases h2 : b = b'
    · by_cases h3 : c = c'
      · by_cases h4 : d = d'
        · by_cases h5 : e = e'
          · simp [h1, h2, h3, h4, h5]
          · simp [h1, h2, h3, h4, h5, show (e == e') = false by simpa using h5]
        · simp [h1, h2, h3, h4, show (d == d') = false by simpa using h4]
      · simp [h1, h2, h3, show (c == c') = false by simpa using h3]
    · simp [h1, h2, show (b == b') = false by simpa using h2]
  · simp [h1, show (a == a') = false by simpa using h1]
set_option maxHeartbeats 16000000 in
set_option maxRecDepth 100000 in
set_option linter.unusedSimpArgs false in
set_option linter.unusedVariables false in
theorem isAnswer_x {w : World} {X : Nat} {v : Ex} {Z : Zz} (h : ExAt w X v Z) (hp : 1 ≤ v.rows.length) (m : Mg) :
    Calls Tryd.prog 50 #[.pointer (some ⟨X, 0, none⟩), .agg (mgV m)] w fun e w' => e = .returned (.bool (isAns v m)) ∧ Kp w w' non := by
  obtain ⟨B, hB⟩ : ∃ B, B = w.heap.size := ⟨_, rfl⟩
  obtain ⟨W0, hW0⟩ : ∃ W0, W0 = w.alloc (.cells (mgV m) 36) := ⟨_, rfl⟩
  have k0 : Kp w W0 non := by rw [hW0]; exact (Kp.refl w non).alloc _
  have C1 : Hid (MgAt W0 B m ∧ W0.heap[X]? = some (.cells (exA v Z) 70)) := ⟨by rw [hW0, hB]; exact MgAt.new w m, (h.kp0 k0).blk⟩
  have K0 := hide k0
  have HO := hide (h.ow.kp0 k0)
  have BU : Hid (∀ Y, Y.heap[X]? = some (.cells (exA v Z) 70) → Calls Tryd.prog 16 #[.pointer (some ⟨X, 0, none⟩)] Y fun e w' => e = .returned (.bool (busyB v)) ∧ Y = w') := fun Y hY => Busy_b hY hp h.ow.rsl
  clear h k0
  go_enter Tryd.func50, Tryd.ntmps50
  go_upto_region 1 with fail
  rw [← hW0, ← hB]
  clear hW0 hB
  cases hb : busyB v
  case false =>
    rw [hb] at BU
    have RF : Hid (isAns v m = false) := by unfold Hid isAns; rw [hb]; rfl
    clear hb
    refine wp_region_held_drew (S := fun Y => MgAt Y B m ∧ Y.heap[X]? = some (.cells (exA v Z) 70)) (by kernel_rfl) C1.out (fun hHeld => ?_)
    refine wTk (i := 0) (v := (.pointer (some ⟨X, 0, none⟩))) rfl ?_ ?_
    · intro w' hSw
      (try dsimp only at hSw)
      go_simp
    (try simp only [Act.put, List.getElem_toArray, List.getElem_cons_zero, List.getElem_cons_succ, List.setIfInBounds_toArray, List.set_cons_zero, List.set_cons_succ])
    refine wpAnyH_callTake (i := 1) (v := (.bool false)) rfl (by kernel_rfl) (by kernel_rfl) (by kernel_rfl) (fun _ _ _ h => h) (by kernel_rfl) 16 #[.pointer (some ⟨X, 0, none⟩)] (fun w' => by kernel_rfl) (fun w' hSw => BU.out w' hSw.2) (by assumption) ?_
    (try simp only [Act.put, List.getElem_toArray, List.getElem_cons_zero, List.getElem_cons_succ, List.setIfInBounds_toArray, List.set_cons_zero, List.set_cons_succ])
    refine wTk (i := 2) (v := (.bool false)) rfl ?_ ?_
    · intro w' hSw
      (try dsimp only at hSw)
      go_simp
    (try simp only [Act.put, List.getElem_toArray, List.getElem_cons_zero, List.getElem_cons_succ, List.setIfInBounds_toArray, List.set_cons_zero, List.set_cons_succ])
    refine wTu (i := 3) rfl ?_
    (try simp only [Act.put, List.setIfInBounds_toArray, List.set_cons_zero, List.set_cons_succ])
    refine wTu (i := 4) rfl ?_
    (try simp only [Act.put, List.setIfInBounds_toArray, List.set_cons_zero, List.set_cons_succ])
    refine wTu (i := 5) rfl ?_
    (try simp only [Act.put, List.setIfInBounds_toArray, List.set_cons_zero, List.set_cons_succ])
    refine wTk (i := 6) (v := (.bool false)) rfl ?_ ?_
    · intro w' hSw
      (try dsimp only at hSw)
      go_simp
    (try simp only [Act.put, List.getElem_toArray, List.getElem_cons_zero, List.getElem_cons_succ, List.setIfInBounds_toArray, List.set_cons_zero, List.set_cons_succ])
    refine wTk (i := 7) (v := (.bool false)) rfl ?_ ?_
    · intro w' hSw
      (try dsimp only at hSw)
      go_simp
    (try simp only [Act.put, List.getElem_toArray, List.getElem_cons_zero, List.getElem_cons_succ, List.setIfInBounds_toArray, List.set_cons_zero, List.set_cons_succ])
    refine wTu (i := 8) rfl ?_
    (try simp only [Act.put, List.setIfInBounds_toArray, List.set_cons_zero, List.set_cons_succ])
    refine wTu (i := 9) rfl ?_
    (try simp only [Act.put, List.setIfInBounds_toArray, List.set_cons_zero, List.set_cons_succ])
    refine wTu (i := 10) rfl ?_
    (try simp only [Act.put, List.setIfInBounds_toArray, List.set_cons_zero, List.set_cons_succ])
    refine wTu (i := 11) rfl ?_
    (try simp only [Act.put, List.setIfInBounds_toArray, List.set_cons_zero, List.set_cons_succ])
    refine wTu (i := 12) rfl ?_
    (try simp only [Act.put, List.setIfInBounds_toArray, List.set_cons_zero, List.set_cons_succ])
    refine wTu (i := 13) rfl ?_
    (try simp only [Act.put, List.setIfInBounds_toArray, List.set_cons_zero, List.set_cons_succ])
    refine wTu (i := 14) rfl ?_
    (try simp only [Act.put, List.setIfInBounds_toArray, List.set_cons_zero, List.set_cons_succ])
    refine wTu (i := 15) rfl ?_
    (try simp only [Act.put, List.setIfInBounds_toArray, List.set_cons_zero, List.set_cons_succ])
    refine wTk (i := 16) (v := (.bool false)) rfl ?_ ?_
    · intro w' hSw
      (try dsimp only at hSw)
      go_simp
    (try simp only [Act.put, List.getElem_toArray, List.getElem_cons_zero, List.getElem_cons_succ, List.setIfInBounds_toArray, List.set_cons_zero, List.set_cons_succ])
    refine wpAnyH_ready (rs := [17]) (by kernel_rfl) (by simp) ?_
    refine AllReadyH.cons rfl (fun K hK => ?_) AllReadyH.nil
    go_simp
    refine hK.out _ _ (C1.out) (fun hHeld => ?_)
    clear hK
    (try simp only [Act.put, List.setIfInBounds_toArray, List.set_cons_zero, List.set_cons_succ])
    refine wpAnyH_done (by kernel_rfl) ?_ _
    clear hHeld
    go_wp2_with fail
    go_ret
    exact ⟨ret_bool RF.out.symm, K0.out.drew⟩
  case true =>
  rw [hb] at BU
  by_cases e1 : m.kind = 16
  case neg =>
    have q1 : (m.kind == 16) = false := by simpa using e1
    have RF : Hid (isAns v m = false) := by unfold Hid isAns; rw [q1, Bool.false_and, Bool.and_false]
    clear hb
    refine wp_region_held_drew (S := fun Y => MgAt Y B m ∧ Y.heap[X]? = some (.cells (exA v Z) 70)) (by kernel_rfl) C1.out (fun hHeld => ?_)
    refine wTk (i := 0) (v := (.pointer (some ⟨X, 0, none⟩))) rfl ?_ ?_
    · intro w' hSw
      (try dsimp only at hSw)
      go_simp
    (try simp only [Act.put, List.getElem_toArray, List.getElem_cons_zero, List.getElem_cons_succ, List.setIfInBounds_toArray, List.set_cons_zero, List.set_cons_succ])
    refine wpAnyH_callTake (i := 1) (v := (.bool true)) rfl (by kernel_rfl) (by kernel_rfl) (by kernel_rfl) (fun _ _ _ h => h) (by kernel_rfl) 16 #[.pointer (some ⟨X, 0, none⟩)] (fun w' => by kernel_rfl) (fun w' hSw => BU.out w' hSw.2) (by assumption) ?_
    (try simp only [Act.put, List.getElem_toArray, List.getElem_cons_zero, List.getElem_cons_succ, List.setIfInBounds_toArray, List.set_cons_zero, List.set_cons_succ])
    refine wTk (i := 2) (v := (.bool true)) rfl ?_ ?_
    · intro w' hSw
      (try dsimp only at hSw)
      go_simp
    (try simp only [Act.put, List.getElem_toArray, List.getElem_cons_zero, List.getElem_cons_succ, List.setIfInBounds_toArray, List.set_cons_zero, List.set_cons_succ])
    refine wTk (i := 3) (v := (.pointer (some ⟨B, 0, none⟩))) rfl ?_ ?_
    · intro w' hSw
      (try dsimp only at hSw)
      go_simp
    (try simp only [Act.put, List.getElem_toArray, List.getElem_cons_zero, List.getElem_cons_succ, List.setIfInBounds_toArray, List.set_cons_zero, List.set_cons_succ])
    refine wTk (i := 4) (v := (.int .i64 m.kind)) rfl ?_ ?_
    · intro w' hSw
      (try dsimp only at hSw)
      (have z := hSw.1.cells.1; go_simp)
    (try simp only [Act.put, List.getElem_toArray, List.getElem_cons_zero, List.getElem_cons_succ, List.setIfInBounds_toArray, List.set_cons_zero, List.set_cons_succ])
    refine wTk (i := 5) (v := (.bool false)) rfl ?_ ?_
    · intro w' hSw
      (try dsimp only at hSw)
      go_simp
    (try simp only [Act.put, List.getElem_toArray, List.getElem_cons_zero, List.getElem_cons_succ, List.setIfInBounds_toArray, List.set_cons_zero, List.set_cons_succ])
    refine wTk (i := 6) (v := (.bool false)) rfl ?_ ?_
    · intro w' hSw
      (try dsimp only at hSw)
      go_simp
    (try simp only [Act.put, List.getElem_toArray, List.getElem_cons_zero, List.getElem_cons_succ, List.setIfInBounds_toArray, List.set_cons_zero, List.set_cons_succ])
    refine wTk (i := 7) (v := (.bool false)) rfl ?_ ?_
    · intro w' hSw
      (try dsimp only at hSw)
      go_simp
    (try simp only [Act.put, List.getElem_toArray, List.getElem_cons_zero, List.getElem_cons_succ, List.setIfInBounds_toArray, List.set_cons_zero, List.set_cons_succ])
    refine wTu (i := 8) rfl ?_
    (try simp only [Act.put, List.setIfInBounds_toArray, List.set_cons_zero, List.set_cons_succ])
    refine wTu (i := 9) rfl ?_
    (try simp only [Act.put, List.setIfInBounds_toArray, List.set_cons_zero, List.set_cons_succ])
    refine wTu (i := 10) rfl ?_
    (try simp only [Act.put, List.setIfInBounds_toArray, List.set_cons_zero, List.set_cons_succ])
    refine wTu (i := 11) rfl ?_
    (try simp only [Act.put, List.setIfInBounds_toArray, List.set_cons_zero, List.set_cons_succ])
    refine wTu (i := 12) rfl ?_
    (try simp only [Act.put, List.setIfInBounds_toArray, List.set_cons_zero, List.set_cons_succ])
    refine wTu (i := 13) rfl ?_
    (try simp only [Act.put, List.setIfInBounds_toArray, List.set_cons_zero, List.set_cons_succ])
    refine wTu (i := 14) rfl ?_
    (try simp only [Act.put, List.setIfInBounds_toArray, List.set_cons_zero, List.set_cons_succ])
    refine wTu (i := 15) rfl ?_
    (try simp only [Act.put, List.setIfInBounds_toArray, List.set_cons_zero, List.set_cons_succ])
    refine wTk (i := 16) (v := (.bool false)) rfl ?_ ?_
    · intro w' hSw
      (try dsimp only at hSw)
      go_simp
    (try simp only [Act.put, List.getElem_toArray, List.getElem_cons_zero, List.getElem_cons_succ, List.setIfInBounds_toArray, List.set_cons_zero, List.set_cons_succ])
    refine wpAnyH_ready (rs := [17]) (by kernel_rfl) (by simp) ?_
    refine AllReadyH.cons rfl (fun K hK => ?_) AllReadyH.nil
    go_simp
    refine hK.out _ _ (C1.out) (fun hHeld => ?_)
    clear hK
    (try simp only [Act.put, List.setIfInBounds_toArray, List.set_cons_zero, List.set_cons_succ])
    refine wpAnyH_done (by kernel_rfl) ?_ _
    clear hHeld
    go_wp2_with fail
    go_ret
    exact ⟨ret_bool RF.out.symm, K0.out.drew⟩
  case pos =>
  have q1 : (m.kind == 16) = true := by simpa using e1
  have SA := hide (fun Y => saying_x m Y)
  obtain ⟨bb, hbb⟩ : ∃ bb, bb = (m.fr == v.wf && m.id == v.wj && m.sq == v.wp && m.ver == v.wv && m.prev == v.wl) := ⟨_, rfl⟩
  have RF : Hid (isAns v m = bb) := by unfold Hid isAns; rw [hb, q1, hbb, sy_eq]; rfl
  have HBB := hide hbb
  clear hb hbb
  refine wp_region_held_drew (S := fun Y => MgAt Y B m ∧ Y.heap[X]? = some (.cells (exA v Z) 70)) (by kernel_rfl) C1.out (fun hHeld => ?_)
  refine wTk (i := 0) (v := (.pointer (some ⟨X, 0, none⟩))) rfl ?_ ?_
  · intro w' hSw
    (try dsimp only at hSw)
    go_simp
  (try simp only [Act.put, List.getElem_toArray, List.getElem_cons_zero, List.getElem_cons_succ, List.setIfInBounds_toArray, List.set_cons_zero, List.set_cons_succ])
  refine wpAnyH_callTake (i := 1) (v := (.bool true)) rfl (by kernel_rfl) (by kernel_rfl) (by kernel_rfl) (fun _ _ _ h => h) (by kernel_rfl) 16 #[.pointer (some ⟨X, 0, none⟩)] (fun w' => by kernel_rfl) (fun w' hSw => BU.out w' hSw.2) (by assumption) ?_
  (try simp only [Act.put, List.getElem_toArray, List.getElem_cons_zero, List.getElem_cons_succ, List.setIfInBounds_toArray, List.set_cons_zero, List.set_cons_succ])
  refine wTk (i := 2) (v := (.bool true)) rfl ?_ ?_
  · intro w' hSw
    (try dsimp only at hSw)
    go_simp
  (try simp only [Act.put, List.getElem_toArray, List.getElem_cons_zero, List.getElem_cons_succ, List.setIfInBounds_toArray, List.set_cons_zero, List.set_cons_succ])
  refine wTk (i := 3) (v := (.pointer (some ⟨B, 0, none⟩))) rfl ?_ ?_
  · intro w' hSw
    (try dsimp only at hSw)
    go_simp
  (try simp only [Act.put, List.getElem_toArray, List.getElem_cons_zero, List.getElem_cons_succ, List.setIfInBounds_toArray, List.set_cons_zero, List.set_cons_succ])
  refine wTk (i := 4) (v := (.int .i64 m.kind)) rfl ?_ ?_
  · intro w' hSw
    (try dsimp only at hSw)
    (have z := hSw.1.cells.1; go_simp)
  (try simp only [Act.put, List.getElem_toArray, List.getElem_cons_zero, List.getElem_cons_succ, List.setIfInBounds_toArray, List.set_cons_zero, List.set_cons_succ])
  refine wTk (i := 5) (v := (.bool true)) rfl ?_ ?_
  · intro w' hSw
    (try dsimp only at hSw)
    go_simp
  (try simp only [Act.put, List.getElem_toArray, List.getElem_cons_zero, List.getElem_cons_succ, List.setIfInBounds_toArray, List.set_cons_zero, List.set_cons_succ])
  refine wTk (i := 6) (v := (.bool true)) rfl ?_ ?_
  · intro w' hSw
    (try dsimp only at hSw)
    go_simp
  (try simp only [Act.put, List.getElem_toArray, List.getElem_cons_zero, List.getElem_cons_succ, List.setIfInBounds_toArray, List.set_cons_zero, List.set_cons_succ])
  refine wTk (i := 7) (v := (.bool true)) rfl ?_ ?_
  · intro w' hSw
    (try dsimp only at hSw)
    go_simp
  (try simp only [Act.put, List.getElem_toArray, List.getElem_cons_zero, List.getElem_cons_succ, List.setIfInBounds_toArray, List.set_cons_zero, List.set_cons_succ])
  refine wTk (i := 8) (v := (.agg (mgV m))) rfl ?_ ?_
  · intro w' hSw
    (try dsimp only at hSw)
    (exact exec_ldR 36 (.tmp 3) rfl rfl 36 hSw.1 Tryd.underlying36 mg_info)
  (try simp only [Act.put, List.getElem_toArray, List.getElem_cons_zero, List.getElem_cons_succ, List.setIfInBounds_toArray, List.set_cons_zero, List.set_cons_succ])
  refine wTk (i := 10) (v := (.pointer (some ⟨X, 0, none⟩))) rfl ?_ ?_
  · intro w' hSw
    (try dsimp only at hSw)
    go_simp
  (try simp only [Act.put, List.getElem_toArray, List.getElem_cons_zero, List.getElem_cons_succ, List.setIfInBounds_toArray, List.set_cons_zero, List.set_cons_succ])
  refine wTk (i := 11) (v := (.pointer (some ⟨X, 0, none⟩))) rfl ?_ ?_
  · intro w' hSw
    (try dsimp only at hSw)
    go_simp
  (try simp only [Act.put, List.getElem_toArray, List.getElem_cons_zero, List.getElem_cons_succ, List.setIfInBounds_toArray, List.set_cons_zero, List.set_cons_succ])
  refine wTk (i := 12) (v := (.pointer (some ⟨X, 3, none⟩))) rfl ?_ ?_
  · intro w' hSw
    (try dsimp only at hSw)
    go_simp
  (try simp only [Act.put, List.getElem_toArray, List.getElem_cons_zero, List.getElem_cons_succ, List.setIfInBounds_toArray, List.set_cons_zero, List.set_cons_succ])
  refine wTk (i := 13) (v := (.pointer (some ⟨X, 10, none⟩))) rfl ?_ ?_
  · intro w' hSw
    (try dsimp only at hSw)
    go_simp
  (try simp only [Act.put, List.getElem_toArray, List.getElem_cons_zero, List.getElem_cons_succ, List.setIfInBounds_toArray, List.set_cons_zero, List.set_cons_succ])
  refine wTk (i := 14) (v := (.agg (syV v.wf v.wj v.wp v.wv v.wl))) rfl ?_ ?_
  · intro w' hSw
    (try dsimp only at hSw)
    (exact exec_sy (.tmp 18) rfl rfl hSw.2)
  (try simp only [Act.put, List.getElem_toArray, List.getElem_cons_zero, List.getElem_cons_succ, List.setIfInBounds_toArray, List.set_cons_zero, List.set_cons_succ])
  refine wpAnyH_ready (rs := [9]) (by kernel_rfl) (by simp) ?_
  refine AllReadyH.cons rfl (fun K hK => ?_) AllReadyH.nil
  go_simp
  refine Calls.mono (SA.out _) ?_
  rintro e W1 ⟨rfl, k1⟩
  have K1 : Hid (Kp w W1 non) := K0.out.trans (((Kp.refl _ non).drew).trans k1 (fun _ f => f.elim)) (fun _ f => f.elim)
  have C2 : Hid (MgAt W1 B m ∧ W1.heap[X]? = some (.cells (exA v Z) 70)) := ⟨C1.out.1.keep (((Kp.refl _ non).drew).trans k1 (fun _ f => f.elim)) (fun f => f), ((((Kp.refl _ non).drew).trans k1 (fun _ f => f.elim)).block _ (blk_lt C1.out.2) (fun f => f)).trans C1.out.2⟩
  clear k1 SA C1 K0
  refine hK.out _ _ (C2.out) (fun hHeld => ?_)
  clear hK
  (try simp only [Act.put, List.setIfInBounds_toArray, List.set_cons_zero, List.set_cons_succ])
  refine wTk (i := 15) (v := (.bool bb)) rfl ?_ ?_
  · intro w' hSw
    (try dsimp only at hSw)
    (unfold syV; go_simp; rw [HBB.out]; exact five (fun b => Result.ok (Next.value (Value.bool b)) w') _ _ _ _ _ _ _ _ _ _)
  (try simp only [Act.put, List.getElem_toArray, List.getElem_cons_zero, List.getElem_cons_succ, List.setIfInBounds_toArray, List.set_cons_zero, List.set_cons_succ])
  refine wTk (i := 16) (v := (.bool bb)) rfl ?_ ?_
  · intro w' hSw
    (try dsimp only at hSw)
    go_simp
  (try simp only [Act.put, List.getElem_toArray, List.getElem_cons_zero, List.getElem_cons_succ, List.setIfInBounds_toArray, List.set_cons_zero, List.set_cons_succ])
  refine wpAnyH_ready (rs := [17]) (by kernel_rfl) (by simp) ?_
  refine AllReadyH.cons rfl (fun K hK => ?_) AllReadyH.nil
  go_simp
  refine hK.out _ _ (C2.out) (fun hHeld => ?_)
  clear hK
  (try simp only [Act.put, List.setIfInBounds_toArray, List.set_cons_zero, List.set_cons_succ])
  refine wpAnyH_done (by kernel_rfl) ?_ _
  clear hHeld
  go_wp2_with fail
  go_ret
  exact ⟨ret_bool RF.out.symm, K1.out⟩
end Go.Proofs.YtpoegknmkbnjlaaDoor.Cn
