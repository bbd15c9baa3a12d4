import Derived.Test.YtioiphonajinmaaGreatDoorGcHand
namespace Go.Proofs.YtioiphonajinmaaGreatDoor
open Go.RowKit
set_option maxRecDepth 100000 in
theorem partV (x : Nat → Int) (i : Nat) (h : i < 21) (w : World) : (part 3 (vA x) (i * 1)).run Tryz.prog w = .ok (.int .i64 (x i)) w := by
  have : i = 0 ∨ i = 1 ∨ i = 2 ∨ i = 3 ∨ i = 4 ∨ i = 5 ∨ i = 6 ∨ i = 7 ∨ i = 8 ∨ i = 9 ∨ i = 10 ∨ i = 11 ∨ i = 12 ∨ i = 13 ∨ i = 14 ∨ i = 15 ∨ i = 16 ∨ i = 17 ∨ i = 18 ∨ i = 19 ∨ i = 20 := by omega
  clear h
  rcases this with h | h | h | h | h | h | h | h | h | h | h | h | h | h | h | h | h | h | h | h | h <;> rw [h] <;> rfl
theorem loopV (x : Nat → Int) (w : World) : ∀ (l : List Nat), (∀ i ∈ l, i < 21) → (forIn l ((none, ()) : Option Bool × Unit) fun i __s => do
            let __do_lift ← part 3 (vA x) (i * 1)
            let __do_lift_1 ← part 3 (vA x) (i * 1)
            let __do_lift ← Op.equalIn 9999 3 __do_lift __do_lift_1
            if (!__do_lift) = true then pure (ForInStep.done (some false, ())) else pure (ForInStep.yield (none, ())) : Sem (Option Bool × Unit)).run Tryz.prog w = .ok (none, ()) w
  | [], _ => by simp
  | i :: l, h => by
    have ih := loopV x w l (fun j hj => h j (by simp [hj]))
    have hp := partV x i (h i (by simp)) w
    rw [List.forIn_cons]
    simp only [Sem.run_bind, hp, Result.andThen_ok, run_equalIn_int w 9998 3 .i64 .i64 (x i) (x i) Tryz.underlying3, beq_self_eq_true, Bool.not_true, Bool.false_eq_true, if_false, Sem.run_pure]
    exact ih
set_option maxHeartbeats 2000000 in
set_option maxRecDepth 100000 in
theorem eqV (x : Nat → Int) (w : World) : (Op.equalIn 10000 54 (.agg (vA x)) (.agg (vA x))).run Tryz.prog w = .ok true w := by
  rw [show (10000 : Nat) = 9999 + 1 from rfl]
  unfold Op.equalIn
  simp only [run_underlying Tryz.underlying54, Sem.run_bind, Result.andThen_ok]
  have hs : (sizeOf 3).run Tryz.prog w = .ok 1 w := by kernel_rfl
  simp only [hs, Result.andThen_ok]
  rw [Std.Legacy.Range.forIn_eq_forIn_range']
  rw [loopV x w _ (fun i hi => by simp [List.mem_range'] at hi; omega)]
  simp
theorem exec_neqV {ρ : Operand → Value} {op : Oper} {w : World} {xx : Nat → Int} (x y : Operand) (t2 : TypeId) (ho : op.op = .binOp .neq 54 x y t2) (hx : ρ x = .agg (vA xx)) (hy : ρ y = .agg (vA xx)) : (execOp ρ op).run Tryz.prog w = .ok (.value (.bool false)) w := by
  have hg : Tryz.prog.eqGuardType Tryz.prog.depth 54 = false := by kernel_rfl
  have hn : (binOp .neq 54 (.agg (vA xx)) (.agg (vA xx))).run Tryz.prog w = .ok (.bool false) w := by
    rw [run_neq_struct, eqV]
    rfl
  unfold execOp
  simp only [ho, Sem.run_bind, Sem.run_pure, Result.andThen_ok, hx, hy, hn, run_eqGuard_agg w .neq 54 x y (vA xx) (vA xx) hg]
end Go.Proofs.YtioiphonajinmaaGreatDoor
namespace Go.Proofs.YtioiphonajinmaaGreatDoor
open Go.RowKit
theorem exec_move {ρ : Operand → Value} {op : Oper} {w : World} {v : Value} (x : Operand) (ho : op.op = .move x) (hx : ρ x = v) : (execOp ρ op).run Tryz.prog w = .ok (.value v) w := by
  unfold execOp
  simp only [ho, hx, Sem.run_pure]
theorem exec_nil {ρ : Operand → Value} {op : Oper} {w : World} {a : Addr} (x : Operand) (ho : op.op = .nilCheck x) (hx : ρ x = .pointer (some a)) : (execOp ρ op).run Tryz.prog w = .ok (.value (.pointer (some a))) w := by
  unfold execOp
  simp only [ho, hx, Sem.run_pure]
theorem exec_fa {ρ : Operand → Value} {op : Oper} {w : World} {a a' : Addr} {s : TypeId} {f : Nat} (x : Operand) (ho : op.op = .fieldAddr s x f) (hx : ρ x = .pointer (some a)) (hf : (Instr.fieldAt s (.pointer (some a)) f).run Tryz.prog w = .ok (.pointer (some a')) w) : (execOp ρ op).run Tryz.prog w = .ok (.value (.pointer (some a'))) w := by
  unfold execOp
  simp only [ho, hx, hf, Sem.run_bind, Result.andThen_ok, Sem.run_pure]
theorem run_ld {w : World} {t : TypeId} {b o : Nat} {v : Value} (ht : t = 3 ∨ t = 26 ∨ t = 22) (hc : w.cell? ⟨b, o, none⟩ = some v) : (Instr.loadAt t (.pointer (some ⟨b, o, none⟩))).run Tryz.prog w = .ok v w := by
  rcases ht with rfl | rfl | rfl <;> go_simp
theorem exec_ld {ρ : Operand → Value} {op : Oper} {w : World} {b o : Nat} {t : TypeId} {v : Value} (x : Operand) (ho : op.op = .load t x) (ht : t = 3 ∨ t = 26 ∨ t = 22) (hx : ρ x = .pointer (some ⟨b, o, none⟩)) (hc : w.cell? ⟨b, o, none⟩ = some v) : (execOp ρ op).run Tryz.prog w = .ok (.value v) w := by
  unfold execOp
  simp only [ho, hx, run_ld ht hc, Sem.run_bind, Result.andThen_ok, Sem.run_pure]
theorem exec_len {ρ : Operand → Value} {op : Oper} {w : World} {ba : Option Addr} {n c : Nat} {t : TypeId} (x : Operand) (ho : op.op = .call { callee := .builtin .len, args := #[x], argTypes := #[t] }) (ht : t = 26 ∨ t = 22) (hx : ρ x = .slice ba n c) : (execOp ρ op).run Tryz.prog w = .ok (.value (.int .i64 (n : Int))) w := by
  unfold execOp
  rcases ht with rfl | rfl
  · simp only [ho, resolve, invoke, builtin, Sem.run_bind, Sem.run_pure, Result.andThen_ok, List.map_toArray, List.map_cons, List.map_nil, hx]
    go_simp
  · simp only [ho, resolve, invoke, builtin, Sem.run_bind, Sem.run_pure, Result.andThen_ok, List.map_toArray, List.map_cons, List.map_nil, hx]
    go_simp
theorem exec_addi {ρ : Operand → Value} {op : Oper} {w : World} {n : Int} {k : Int} {t2 : TypeId} (x : Operand) (ho : op.op = .binOp .add 3 x (.const (.int .i64 k)) t2) (hx : ρ x = .int .i64 n) (hk : ρ (.const (.int .i64 k)) = .int .i64 k) (h0 : -9223372036854775808 ≤ n + k) (h1 : n + k < 9223372036854775808) : (execOp ρ op).run Tryz.prog w = .ok (.value (.int .i64 (n + k))) w := by
  unfold execOp
  simp only [ho, hx, hk]
  go_simp
  exact i64_in h0 h1
theorem exec_neqi {ρ : Operand → Value} {op : Oper} {w : World} {n : Int} {t2 : TypeId} (x y : Operand) (ho : op.op = .binOp .neq 3 x y t2) (hx : ρ x = .int .i64 n) (hy : ρ y = .int .i64 n) : (execOp ρ op).run Tryz.prog w = .ok (.value (.bool false)) w := by
  unfold execOp
  simp only [ho, hx, hy]
  go_simp
theorem exec_pickf {ρ : Operand → Value} {op : Oper} {w : World} (x y z : Operand) (ho : op.op = .pick x y z) (hx : ρ x = .bool false) (hz : ρ z = .bool false) : (execOp ρ op).run Tryz.prog w = .ok (.value (.bool false)) w := by
  unfold execOp
  simp only [ho, hx, hz]
  go_simp
theorem exec_not {ρ : Operand → Value} {op : Oper} {w : World} (x : Operand) (t : TypeId) (ho : op.op = .unOp .not t x) (hx : ρ x = .bool true) : (execOp ρ op).run Tryz.prog w = .ok (.value (.bool false)) w := by
  unfold execOp
  simp only [ho, hx]
  go_simp
theorem exec_ixN {ρ : Operand → Value} {op : Oper} {w : World} {b o n c q : Nat} (x y : Operand) (ho : op.op = .indexAddr 26 x y) (hx : ρ x = .slice (some ⟨b, o, none⟩) n c) (hy : ρ y = .int .i64 (q : Int)) (hq : q < n) : (execOp ρ op).run Tryz.prog w = .ok (.value (.pointer (some ⟨b, o + q * 2, none⟩))) w := by
  have hqi : (q : Int) < (n : Int) := by omega
  unfold execOp
  simp only [ho, hx, hy]
  go_simp
theorem exec_ixI {ρ : Operand → Value} {op : Oper} {w : World} {b o n c q : Nat} (x y : Operand) (ho : op.op = .indexAddr 22 x y) (hx : ρ x = .slice (some ⟨b, o, none⟩) n c) (hy : ρ y = .int .i64 (q : Int)) (hq : q < n) : (execOp ρ op).run Tryz.prog w = .ok (.value (.pointer (some ⟨b, o + q, none⟩))) w := by
  have hqi : (q : Int) < (n : Int) := by omega
  unfold execOp
  simp only [ho, hx, hy]
  go_simp
/-- a definition out of the middle of a block -/
theorem exec_mid {ρ : Operand → Value} {op : Oper} {w : World} {b o : Nat} {st : ByteArray} {x : Nat → Int} {nv : Value} (p : Operand) (ho : op.op = .load 28 p) (hx : ρ p = .pointer (some ⟨b, o, none⟩)) (hc : w.rangeAt b o (clA st x nv).toList) : (execOp ρ op).run Tryz.prog w = .ok (.value (.agg (clA st x nv))) w := by
  unfold execOp
  have h := run_loadVar_mid (P := Tryz.prog) w b o 28 (clA st x nv).toList _ hc Tryz.underlying28 rfl (by rw [infoCl]; rfl)
  simp only [ho, hx, Instr.loadAt, Instr.sureAddr, Sem.run_bind, Sem.run_pure, Result.andThen_ok, h]
end Go.Proofs.YtioiphonajinmaaGreatDoor
