import Derived.Test.YtioiphonajinmaaGreatDoorGGcName
import Derived.OrdersHeld
import Derived.Deep.RegionHeld
namespace Go.Proofs.YtioiphonajinmaaGreatDoor
open Go.RowKit
/-- the number that bytes say, the highest first -/
def hiF (l : List UInt8) : Nat := l.foldl (fun n c => n * 256 + c.toNat) 0
theorem hiF_snoc (l : List UInt8) (c : UInt8) : hiF (l ++ [c]) = hiF l * 256 + c.toNat := by simp [hiF]
theorem hiF_lt (l : List UInt8) : hiF l < 256 ^ l.length := by
  rw [← List.reverse_reverse l]
  generalize l.reverse = r
  induction r with
  | nil => simp [hiF]
  | cons c r ih =>
    rw [List.reverse_cons, hiF_snoc, List.length_append]
    have := c.toNat_lt
    simp only [List.length_cons, List.length_nil, Nat.zero_add, Nat.pow_succ]
    omega
theorem hiF_take (s : ByteArray) (k : Nat) (h : k < s.size) : hiF (s.data.toList.take (k + 1)) = hiF (s.data.toList.take k) * 256 + s[k].toNat := by
  rw [List.take_succ_eq_append_getElem (by simpa using h), hiF_snoc]
  rfl
theorem hiF_cap (l : List UInt8) (h : l.length ≤ 4) : hiF l < 4294967296 := by
  have h1 := hiF_lt l
  have h2 : 256 ^ l.length ≤ 256 ^ 4 := Nat.pow_le_pow_right (by omega) h
  omega
set_option maxRecDepth 100000 in
theorem high_any (s : ByteArray) (hs : s.size ≤ 4) (w : World) :
    Calls Tryz.prog 45 #[.string s] w fun e w' => e = .returned (.int .i64 (hiF s.data.toList : Int)) ∧ w = w' := by
  have hs2 : s.size ≤ 9223372036854775807 := by omega
  go_enter Tryz.func45, Tryz.ntmps45
  go_wp2_with fail
  go_loopw [3, 7] (fun vn vi wr => ∃ k : Nat, k ≤ s.size ∧ vi = .int .i64 (k : Int) ∧ vn = .int .i64 (hiF (s.data.toList.take k) : Int) ∧ w = wr) (fun _ vi _ => s.size - (intOf vi).toNat)
  case atStart => exact ⟨0, Nat.zero_le _, rfl, rfl, rfl⟩
  case round =>
    obtain ⟨k, hk, rfl, rfl, rfl⟩ := hrel
    by_cases hlt : k < s.size
    · have hxs : ∀ w', (Instr.index 9 (.string s) (.int .i64 (k : Int))).run Tryz.prog w' = .ok (.int .u8 (s[k].toNat : Int)) w' := fun w' => ix_str w' s k hlt
      have HT := hide (hiF_take s k hlt)
      have hc := hiF_cap (s.data.toList.take k) (by rw [List.length_take]; omega)
      have hb := s[k].toNat_lt
      have hki : (k : Int) < (s.size : Int) := by omega
      generalize hiF (s.data.toList.take k) = n at *
      generalize s[k].toNat = c at *
      have e1 := i64_in (x := (n : Int) * 256) (by omega) (by omega)
      have e2 := wrap_in (x := (n : Int) * 256) (by omega) (by omega)
      have e3 := wrap_in (x := (n : Int) * 256 + (c : Int)) (by omega) (by omega)
      go_wp2_with fail
      go_roundw
      case rel => exact ⟨k + 1, by omega, by go_num, by rw [HT.out]; go_num, by first | rfl | trivial⟩
      case measure => simp [intOf]; omega
    · obtain rfl : k = s.size := by omega
      rw [List.take_of_length_le (by simp)]
      go_wp2_with fail
      go_ret
      exact ⟨rfl, rfl⟩
/-- four bytes -/
theorem hiF_four (s : ByteArray) (h : s.size = 4) : hiF s.data.toList = s[0].toNat * 16777216 + s[1].toNat * 65536 + s[2].toNat * 256 + s[3].toNat := by
  have e : s.data.toList = [s[0], s[1], s[2], s[3]] := by
    apply List.ext_getElem
    · simp; omega
    · intro i h1 h2
      have hi : i = 0 ∨ i = 1 ∨ i = 2 ∨ i = 3 := by simp at h2; omega
      rcases hi with rfl | rfl | rfl | rfl <;> rfl
  rw [e]
  simp [hiF]
  omega
theorem exec_moveS {ρ : Operand → Value} {op : Oper} {w : World} {v : Value} (x : Operand) (ho : op.op = .move x) (hx : ρ x = v) : (execOp ρ op).run Tryz.prog w = .ok (.value v) w := by
  unfold execOp
  simp only [ho, hx, Sem.run_pure]
theorem exec_ixS {ρ : Operand → Value} {op : Oper} {w : World} {s : ByteArray} {k c : Nat} (hk : k < s.size) (hc : s[k].toNat = c) (x y : Operand) (ho : op.op = .index 9 x y) (hx : ρ x = .string s) (hy : ρ y = .int .i64 (k : Int)) : (execOp ρ op).run Tryz.prog w = .ok (.value (.int .u8 (c : Int))) w := by
  subst hc
  unfold execOp
  simp only [ho, hx, hy, ix_str w s k hk, Sem.run_bind, Result.andThen_ok, Sem.run_pure]
theorem exec_cvU {ρ : Operand → Value} {op : Oper} {w : World} {c : Nat} (hc : c < 256) (x : Operand) (ho : op.op = .convert 5 3 x) (hx : ρ x = .int .u8 (c : Int)) : (execOp ρ op).run Tryz.prog w = .ok (.value (.int .i64 (c : Int))) w := by
  have e := i64_in (x := (c : Int)) (by omega) (by omega)
  have e2 := wrap_in (x := (c : Int)) (by omega) (by omega)
  unfold execOp
  simp only [ho, hx]
  go_simp
theorem exec_shlN {ρ : Operand → Value} {op : Oper} {w : World} {a j m : Nat} {t2 : TypeId} (x y : Operand) (ho : op.op = .binOp .shl 3 x y t2) (hx : ρ x = .int .i64 (a : Int)) (hy : ρ y = .int .u64 (j : Int)) (hj : j ≤ 24) (hm : 2 ^ j = m) (ha : a * m < 9223372036854775808) : (execOp ρ op).run Tryz.prog w = .ok (.value (.int .i64 ((a * m : Nat) : Int))) w := by
  subst hm
  have hs := shift_shl .i64 .u64 (a : Int) (j : Int) (by omega) (by simp [IntKind.bits]; omega)
  have e : IntKind.i64.wrap ((a : Int) * 2 ^ (j : Int).toNat) = ((a * 2 ^ j : Nat) : Int) := by
    rw [Int.toNat_natCast]
    have : (a : Int) * 2 ^ j = ((a * 2 ^ j : Nat) : Int) := by simp
    rw [this]
    exact i64_in (by omega) (by omega)
  unfold execOp
  simp only [ho, hx, hy, binOp_shl, hs, e]
  go_simp
theorem exec_addN {ρ : Operand → Value} {op : Oper} {w : World} {a b : Nat} {t2 : TypeId} (x y : Operand) (ho : op.op = .binOp .add 3 x y t2) (hx : ρ x = .int .i64 (a : Int)) (hy : ρ y = .int .i64 (b : Int)) (h1 : a + b < 9223372036854775808) : (execOp ρ op).run Tryz.prog w = .ok (.value (.int .i64 ((a + b : Nat) : Int))) w := by
  unfold execOp
  simp only [ho, hx, hy]
  go_simp
  exact i64_in (by omega) (by omega)
end Go.Proofs.YtioiphonajinmaaGreatDoor
namespace Go.Proofs.YtioiphonajinmaaGreatDoor
/-- operation o, where it is wanted, is a call that in every world that meets S answers v and leaves that world -/
def CallsIf (P : Program) (ops : Array Oper) (S : World → Prop) (o : Oper) (v : Value) (a : Act) : Prop :=
  Region.wanted o (yielded ops a.tmps) = true ∧ ∃ f args, ∀ w, S w → (execOp a.eval o).run P w = .ok (.enter f args) w ∧ Calls P f args w fun e w' => e = .returned v ∧ w = w'
section
variable {P : Program} {ops : Array Oper} {Q : Exit → Act → World → Prop} {md : Region.Mode} {S : World → Prop}
theorem CallsIf.same {o : Oper} {v : Value} {a a' : Act} (h : CallsIf P ops S o v a) (he : execOp a'.eval o = execOp a.eval o) (hw : Region.wanted o (yielded ops a'.tmps) = Region.wanted o (yielded ops a.tmps)) : CallsIf P ops S o v a' := by
  obtain ⟨h1, f, args, h2⟩ := h
  exact ⟨hw.trans h1, f, args, fun w hS => by rw [he]; exact h2 w hS⟩
theorem CallsIf.op {i : Nat} {o : Oper} {v : Value} {a : Act} (hi : ops[i]? = some o) (h : CallsIf P ops S o v a) {K : Act → World → Prop} {w : World} (hS : S w) (hK : K (a.put o.dst v) w) : wpOp P ops Q i K a w := by
  obtain ⟨h1, f, args, h2⟩ := h
  obtain ⟨h3, h4⟩ := h2 w hS
  unfold wpOp
  simp only [hi, h1, if_true]
  refine .inl ?_
  unfold Oper.wp
  rw [h3]
  refine Calls.mono h4 ?_
  rintro e w' ⟨rfl, rfl⟩
  exact hK
/-- another operation, apart from it, goes with its value laid ahead as it goes without -/
theorem CallsIf.aside {j : Nat} {oi oj : Oper} {v : Value} (hj : ops[j]? = some oj) (hap : oi.apart ops oj = true) (hsi : ∀ cs b, oi.op ≠ .select cs b) (hsj : ∀ cs b, oj.op ≠ .select cs b)
    (hQ : ∀ c a w, Q (.panic c) (a.put oi.dst v) w → Q (.panic c) a w) {K : Act → World → Prop} {a : Act} {w : World} (hy : CallsIf P ops S oi v a) (h : wpOp P ops Q j K (a.put oi.dst v) w) : wpOp P ops Q j (fun a' w' => CallsIf P ops S oi v a' ∧ K (a'.put oi.dst v) w') a w := by
  obtain ⟨h1, h2, h3⟩ := Oper.apart_spec hap
  have put : ∀ (b : Act), CallsIf P ops S oi v b → ∀ u, CallsIf P ops S oi v (b.put oj.dst u) := fun b hb u => hb.same (execOp_put oi hsi b oj.dst u h3) (wanted_put oi b oj.dst u h3)
  unfold wpOp at *
  simp only [hj, wanted_put oj a oi.dst v h1] at *
  by_cases hw : Region.wanted oj (yielded ops a.tmps) = true
  · simp only [hw, if_true] at h ⊢
    rcases h with h | ⟨hasks, hlets⟩
    · refine .inl ?_
      unfold Oper.wp at *
      rw [execOp_put oj hsj a oi.dst v h1] at h
      generalize (execOp a.eval oj).run P w = r at *
      rcases r with ⟨n, w'⟩ | ⟨x, w'⟩
      · cases n <;> simp only [Oper.upon] at h ⊢
        case value u => exact ⟨put a hy u, by rw [← Act.put_comm a v u h2]; exact h⟩
        case skip => exact ⟨put a hy _, by rw [← Act.put_comm a v undef h2]; exact h⟩
        case defer d => exact ⟨put { a with defers := d :: a.defers } (hy.same rfl rfl) _, by rw [← Act.put_comm _ v undef h2, ← Act.put_defers]; exact h⟩
        case enter f args =>
          refine Calls.mono h fun e w'' he => ?_
          rcases e with u | c | _
          · exact ⟨put a hy u, by rw [← Act.put_comm a v u h2]; exact he⟩
          · exact hQ _ _ _ he
          · exact he
        case row row args => exact Rows.mono h fun u w'' he => ⟨put a hy u, by rw [← Act.put_comm a v u h2]; exact he⟩
      · cases x <;> simp only [Oper.upon] at h ⊢
        case panic u => exact hQ _ _ _ h
    · exact .inr ⟨by unfold Oper.asks at *; rw [execOp_put oj hsj a oi.dst v h1] at hasks; exact hasks, hlets⟩
  · simp only [hw] at h ⊢
    exact ⟨put a hy _, by rw [← Act.put_comm a v undef h2]; exact h⟩
/-- such a call may be taken first -/
theorem wpAnyH_takeCall {i : Nat} {oi : Oper} {v : Value} (hi : ops[i]? = some oi) (hs : Region.noSelect ops = true) (hQ : ∀ c a w, Q (.panic c) (a.put oi.dst v) w → Q (.panic c) a w) :
    ∀ (fuel : Nat) (listed : Array Bool) (a : Act) (w : World), (∀ j oj, ops[j]? = some oj → j ≠ i → listed.getD j true = false → (∀ e ∈ oj.after, Region.binds md e = true → e.on ≠ i) → oi.apart ops oj = true) →
      i ∈ Region.ready md ops listed → CallsIf P ops S oi v a → S w → wpAnyH P md ops Q S fuel (listed.setIfInBounds i true) (a.put oi.dst v) w → wpAnyH P md ops Q S (fuel + 1) listed a w := by
  have hsel := Region.noSelect_spec hs
  intro fuel
  induction fuel with
  | zero =>
    intro listed a w _ hr hy hS H
    refine ⟨fun h => absurd hr (by rw [h]; simp), fun j hj => ?_⟩
    by_cases hji : j = i
    · subst hji
      exact hy.op hi hS ⟨hS, H⟩
    · have h0 := ready_mono hj hji
      rw [H.1] at h0
      cases h0
  | succ fuel ih =>
    intro listed a w hfree hr hy hS H
    refine ⟨fun h => absurd hr (by rw [h]; simp), fun j hj => ?_⟩
    by_cases hji : j = i
    · subst hji
      exact hy.op hi hS ⟨hS, H⟩
    · obtain ⟨hun, oj, hoj, hall⟩ := mem_ready.1 hj
      have hno : ∀ e ∈ oj.after, Region.binds md e = true → e.on ≠ i := fun e he hb heq => by
        have k1 := hall e he hb
        have k0 := (mem_ready.1 hr).1
        rw [heq] at k1
        rcases Nat.lt_or_ge i listed.size with hl | hl
        · simp [hl] at k0 k1
          rw [k0] at k1
          cases k1
        · simp [Array.getElem?_eq_none hl] at k1
      have h2 := CallsIf.aside hoj (hfree j oj hoj hji hun hno) (fun cs b => hsel i oi cs b hi) (fun cs b => hsel j oj cs b hoj) hQ hy (H.2 j (ready_mono hj hji))
      refine wpOp_mono (fun a' w' h3 => ⟨h3.2.1, ih _ a' w' (fun k ok hk hki hu hn => hfree k ok hk hki ?_ hn) (ready_mono hr (Ne.symm hji)) h3.1 h3.2.1 ?_⟩) h2
      · by_cases hjk : j = k
        · subst hjk
          exact hun
        · rw [getD_set_ne true hjk] at hu
          exact hu
      · rw [Array.setIfInBounds_comm _ _ hji]
        exact h3.2.2
theorem wpAnyH_callTake {i : Nat} {oi : Oper} {v : Value} {fuel : Nat} {listed : Array Bool} {a : Act} {w : World} (hi : ops[i]? = some oi) (hs : Region.noSelect ops = true) (hf : Region.free md ops listed i = true) (hr : (Region.ready md ops listed).contains i = true)
    (hQ : ∀ c a w, Q (.panic c) (a.put oi.dst v) w → Q (.panic c) a w) (hw : Region.wanted oi (yielded ops a.tmps) = true) (f : FuncId) (args : Array Value) (he : ∀ w, (execOp a.eval oi).run P w = .ok (.enter f args) w) (hc : ∀ w, S w → Calls P f args w fun e w' => e = .returned v ∧ w = w') (hS : S w)
    (h : wpAnyH P md ops Q S fuel (listed.setIfInBounds i true) (a.put oi.dst v) w) : wpAnyH P md ops Q S (fuel + 1) listed a w :=
  wpAnyH_takeCall hi hs hQ fuel listed a w (Region.free_spec hi hf) (by simpa using hr) ⟨hw, f, args, fun w hS => ⟨he w, hc w hS⟩⟩ hS h
end
end Go.Proofs.YtioiphonajinmaaGreatDoor
