import Derived.Test.YtioiphonajinmaaGreatDoorGGhFiles
import Derived.Test.YtioiphonajinmaaGreatDoorGGnNames
import Derived.Test.YtioiphonajinmaaGreatDoorGGcDoc
import Derived.Test.YtioiphonajinmaaGreatDoorGGcApp
import Derived.Test.YtioiphonajinmaaGreatDoorGGmMade
import Derived.Sort.Walk0
namespace Go.Proofs.YtioiphonajinmaaGreatDoor
open Go.RowKit
theorem wpList_loadClV {w : World} {ops : Array Oper} {rest : List Oper} {o : Oper} {a : Act} {Q : Exit → Act → World → Prop} (p : Operand) (ho : o.op = .load 28 p) (hw : Region.wanted o (yielded ops a.tmps) = true) (b : Nat) (st : ByteArray) (x : Nat → Int) (nv : Value) (hx : a.eval p = .pointer (some ⟨b, 0, none⟩)) (hO : ClAt w b st x nv)
    (h : wpList Tryz.prog ops Q rest (a.put o.dst (.agg (clA st x nv))) w) : wpList Tryz.prog ops Q (o :: rest) a w := by
  refine wpList_step fun K hK => ?_
  rw [if_pos hw]
  exact wp_exec (exec_loadCl p ho hx hO) (hK _ _ h)
theorem wpList_muliG {w : World} {ops : Array Oper} {rest : List Oper} {op : Oper} {a : Act} {Q : Exit → Act → World → Prop} {t2 : TypeId} (x y : Operand) (ho : op.op = .binOp .mul 3 x y t2) (hw : Region.wanted op (yielded ops a.tmps) = true) (A B C : Int) (hx : a.eval x = .int .i64 A) (hy : a.eval y = .int .i64 B) (hC : A * B = C) (h0 : -9223372036854775808 ≤ C) (h1 : C < 9223372036854775808)
    (h : wpList Tryz.prog ops Q rest (a.put op.dst (.int .i64 C)) w) : wpList Tryz.prog ops Q (op :: rest) a w := by
  refine wpList_step fun K hK => ?_
  rw [if_pos hw]
  subst hC
  exact wp_exec (exec_muli x y ho hx hy h0 h1) (hK _ _ h)
theorem exec_eqI {ρ : Operand → Value} {op : Oper} {w : World} {a b : Int} {t2 : TypeId} (x y : Operand) (ho : op.op = .binOp .eql 3 x y t2) (hx : ρ x = .int .i64 a) (hy : ρ y = .int .i64 b) : (execOp ρ op).run Tryz.prog w = .ok (.value (.bool (decide (a = b)))) w := by
  unfold execOp
  simp only [ho, hx, hy]
  by_cases h : a = b
  · subst h; go_simp
  · go_simp
theorem exec_neqB {ρ : Operand → Value} {op : Oper} {w : World} {a b : Bool} {t2 : TypeId} (x y : Operand) (ho : op.op = .binOp .neq 4 x y t2) (hx : ρ x = .bool a) (hy : ρ y = .bool b) (h : a = b) : (execOp ρ op).run Tryz.prog w = .ok (.value (.bool false)) w := by
  subst h
  unfold execOp
  simp only [ho, hx, hy]
  cases a <;> go_simp
theorem exec_geqF {ρ : Operand → Value} {op : Oper} {w : World} {a b : Int} {t2 : TypeId} (x y : Operand) (ho : op.op = .binOp .geq 3 x y t2) (hx : ρ x = .int .i64 a) (hy : ρ y = .int .i64 b) (h : a < b) : (execOp ρ op).run Tryz.prog w = .ok (.value (.bool false)) w := by
  have h' : ¬ b ≤ a := by omega
  unfold execOp
  simp only [ho, hx, hy]
  go_simp
theorem exec_lssF {ρ : Operand → Value} {op : Oper} {w : World} {a b : Int} {t2 : TypeId} (x y : Operand) (ho : op.op = .binOp .lss 3 x y t2) (hx : ρ x = .int .i64 a) (hy : ρ y = .int .i64 b) (h : b ≤ a) : (execOp ρ op).run Tryz.prog w = .ok (.value (.bool false)) w := by
  have h' : ¬ a < b := by omega
  unfold execOp
  simp only [ho, hx, hy]
  go_simp
theorem exec_gtrT {ρ : Operand → Value} {op : Oper} {w : World} {a b : Int} {t2 : TypeId} (x y : Operand) (ho : op.op = .binOp .gtr 3 x y t2) (hx : ρ x = .int .i64 a) (hy : ρ y = .int .i64 b) (h : b < a) : (execOp ρ op).run Tryz.prog w = .ok (.value (.bool true)) w := by
  unfold execOp
  simp only [ho, hx, hy]
  go_simp
theorem exec_gtrF {ρ : Operand → Value} {op : Oper} {w : World} {a b : Int} {t2 : TypeId} (x y : Operand) (ho : op.op = .binOp .gtr 3 x y t2) (hx : ρ x = .int .i64 a) (hy : ρ y = .int .i64 b) (h : a ≤ b) : (execOp ρ op).run Tryz.prog w = .ok (.value (.bool false)) w := by
  have h' : ¬ b < a := by omega
  unfold execOp
  simp only [ho, hx, hy]
  go_simp
theorem exec_leqSF {ρ : Operand → Value} {op : Oper} {w : World} {a b : List UInt8} {t2 : TypeId} (x y : Operand) (ho : op.op = .binOp .leq 9 x y t2) (hx : ρ x = .string (strOf a)) (hy : ρ y = .string (strOf b)) (h : b < a) : (execOp ρ op).run Tryz.prog w = .ok (.value (.bool false)) w := by
  have e1 : Op.bytesLess (strOf a).toList (strOf b).toList = false := by
    rw [bytesLess_eq, toList_data, toList_data, strOf_data, strOf_data]
    exact decide_eq_false (fun h2 => List.lt_irrefl _ (List.lt_trans h h2))
  have e2 : ((strOf a).toList == (strOf b).toList) = false := by
    rw [toList_data, toList_data, strOf_data, strOf_data]
    have : a ≠ b := fun e => List.lt_irrefl _ (e ▸ h)
    simpa using this
  unfold execOp
  simp only [ho, hx, hy]
  go_simp
theorem exec_ixT {ρ : Operand → Value} {op : Oper} {w : World} {b o n c q : Nat} (x y : Operand) (ho : op.op = .indexAddr 25 x y) (hx : ρ x = .slice (some ⟨b, o, none⟩) n c) (hy : ρ y = .int .i64 (q : Int)) (hq : q < n) : (execOp ρ op).run Tryz.prog w = .ok (.value (.pointer (some ⟨b, o + q, none⟩))) w := by
  have hqi : (q : Int) < (n : Int) := by omega
  unfold execOp
  simp only [ho, hx, hy]
  go_simp
theorem run_ldSv {w : World} {b o : Nat} {v : Value} (hc : w.cell? ⟨b, o, none⟩ = some v) : (Instr.loadAt 9 (.pointer (some ⟨b, o, none⟩))).run Tryz.prog w = .ok v w := by
  go_simp
theorem exec_ldSv {ρ : Operand → Value} {op : Oper} {w : World} {b o : Nat} {v : Value} (x : Operand) (ho : op.op = .load 9 x) (hx : ρ x = .pointer (some ⟨b, o, none⟩)) (hc : w.cell? ⟨b, o, none⟩ = some v) : (execOp ρ op).run Tryz.prog w = .ok (.value v) w := by
  unfold execOp
  simp only [ho, hx, run_ldSv hc, Sem.run_bind, Result.andThen_ok, Sem.run_pure]
theorem exec_pickTF {ρ : Operand → Value} {op : Oper} {w : World} (x y z : Operand) (ho : op.op = .pick x y z) (hx : ρ x = .bool true) (hy : ρ y = .bool false) : (execOp ρ op).run Tryz.prog w = .ok (.value (.bool false)) w := by
  unfold execOp
  simp only [ho, hx, hy]
  go_simp
theorem exec_sub1 {ρ : Operand → Value} {op : Oper} {w : World} {i : Nat} {t2 : TypeId} (x y : Operand) (ho : op.op = .binOp .sub 3 x y t2) (hx : ρ x = .int .i64 ((i + 1 : Nat) : Int)) (hy : ρ y = .int .i64 1) (h1 : i < 1000000) : (execOp ρ op).run Tryz.prog w = .ok (.value (.int .i64 (i : Int))) w := by
  have e : ((i + 1 : Nat) : Int) - 1 = (i : Int) := by omega
  have e2 := i64_in (x := (i : Int)) (by omega) (by omega)
  unfold execOp
  simp only [ho, hx, hy]
  go_simp
/-- a name that is read back -/
theorem readName_fn (f : FV) (hf : Val f) (w : World) (he : NEnv w) :
    Calls Tryz.prog 14 #[.string (strOf (fnL f))] w fun x w' => x = .returned (.tuple #[fvVal f, .int .i64 0]) ∧ Below w.heap.size w w' := by
  obtain ⟨p, r, c, d⟩ := f
  have hw := wds_fnL hf
  have h1 : p < 64 := hf.1
  have h2 : r < 16 := hf.2.1
  have h3 : c < 16 := hf.2.2
  have hz := fnL_len hf
  have := readName_yes (strOf (fnL (p, r, c, d))) (by rw [strOf_size]; omega) w he p r c h1 h2 h3 d (by rw [strOf_data, hw]; exact (endW_data d).symm) (by rw [strOf_data, hw]; exact av_dd h1) (by rw [strOf_data, hw]; exact av_dd (n := r) (by omega)) (by rw [strOf_data, hw]; exact av_dd (n := c) (by omega))
  rw [strOf_data, hw] at this
  rw [if_pos ⟨rfl, rfl, rfl, rfl⟩] at this
  exact this
/-- the definition as it lies there -/
structure Cv (st : ByteArray) (x : Nat → Int) (ns : List ND) (cB : Nat) (W : World) : Prop where
  c : ∃ ao b cap pv N, ClAt W cB st x (.slice ao ns.length cap) ∧ NsAt N W ao b 0 pv ns ∧ N ≤ W.heap.size
theorem Cv.below {st : ByteArray} {x : Nat → Int} {ns : List ND} {cB : Nat} {W W' : World} (h : Cv st x ns cB W) (hb : Below W.heap.size W W') : Cv st x ns cB W' := by
  obtain ⟨ao, b, cap, pv, N, h1, h2, h3⟩ := h
  exact ⟨ao, b, cap, pv, N, h1.below hb, h2.below (hb.mono h3), Nat.le_trans h3 hb.size⟩
/-- what is known of a valid definition -/
structure Vd (st : ByteArray) (x : Nat → Int) (ns : List ND) (R ch P : Nat) : Prop where
  he : errP st x ns = 0
  s : st.size ≤ 40
  hR : (R : Int) = x 0
  hch : (ch : Int) = x 2
  hP : P = ptN ns
  r1 : 1 ≤ R
  r2 : R ≤ 16
  c1 : 1 ≤ ch
  c2 : ch ≤ 16
  p1 : 1 ≤ P
  p2 : P ≤ 64
  n1 : 1 ≤ ns.length
  n2 : ns.length ≤ 16
theorem vd_of {st : ByteArray} {x : Nat → Int} {ns : List ND} (h : errP st x ns = 0) (hs : st.size ≤ 40) : Vd st x ns (x 0).toNat (x 2).toNat (ptN ns) := by
  obtain ⟨_, hsf, hnf, hdl, hR, _⟩ := errP_all h
  have n16 := nfP_len hnf
  have l0 : 1 ≤ x 0 ∧ x 0 ≤ 16 := sfP_lim hsf 0 (by omega)
  have l2 : 1 ≤ x 2 ∧ x 2 ≤ 16 := sfP_lim hsf 2 (by omega)
  exact ⟨h, hs, by omega, by omega, rfl, by omega, by omega, by omega, by omega, hdl.p1, hdl.p2, n16.1, n16.2⟩
theorem Vd.dl {st : ByteArray} {x : Nat → Int} {ns : List ND} {R ch P : Nat} (h : Vd st x ns R ch P) : Dealt ns := errP_dlt h.he
theorem Vd.kp {st : ByteArray} {x : Nat → Int} {ns : List ND} {R ch P : Nat} (h : Vd st x ns R ch P) : x 0 ≤ (kpN ns : Int) := (errP_all h.he).2.2.2.2.1
theorem Vd.len {st : ByteArray} {x : Nat → Int} {ns : List ND} {R ch P : Nat} (h : Vd st x ns R ch P) {p : Nat} (hp : p < P) : (owL ns (wk x ns (p : Int))).length = R := by
  have := wk_full (x := x) (p := (p : Int)) h.dl (by omega) (by rw [← h.hP]; omega) (by rw [← h.hR]; omega) h.kp
  have := h.hR
  rw [owL_len]
  omega
theorem Vd.first {st : ByteArray} {x : Nat → Int} {ns : List ND} {R ch P : Nat} (h : Vd st x ns R ch P) {p : Nat} (hp : p < P) (h0 : 0 < (owL ns (wk x ns (p : Int))).length) : (owL ns (wk x ns (p : Int)))[0] = hm ns p := by
  obtain ⟨t, ht⟩ := wk_first (x := x) (ns := ns) (p := p) (by rw [← h.hP]; exact hp) (by rw [← h.hR]; have := h.r1; omega)
  simp [ht, owL]
theorem Vd.own {st : ByteArray} {x : Nat → Int} {ns : List ND} {R ch P : Nat} (h : Vd st x ns R ch P) {p : Nat} : ∀ i (hi : i < (owL ns (wk x ns (p : Int))).length), ∃ j, ∃ hj : j < ns.length, (owL ns (wk x ns (p : Int)))[i] = (j : Int) ∧ 0 < ns[j].ps.length := fun i hi => by
  have hi' : i < (wk x ns (p : Int)).length := by rw [owL_len] at hi; exact hi
  have hk := wk_lt (x := x) (ns := ns) (p := (p : Int)) (by rw [← h.hP]; exact h.p1) _ (List.getElem_mem hi')
  obtain ⟨j, hj, e1, e2⟩ := hm_in h.dl hk
  refine ⟨j, hj, ?_, List.length_pos_of_mem e2⟩
  simp only [owL, List.getElem_map]
  exact e1
/-- what Holds and Files answer of a valid definition -/
theorem Vd.hd {st : ByteArray} {x : Nat → Int} {ns : List ND} {R ch P n : Nat} (h : Vd st x ns R ch P) (hn : n < ns.length) : hdE st x ns (n : Int) = 0 ∧ hdS st x ns (n : Int) = hdL x ns (n : Int) P ∧ flS st x ns (n : Int) = insA (flL (hdL x ns (n : Int) P) ch) := by
  have e := hdE_ok (node := (n : Int)) h.he (by omega)
  have e2 := hdS_ok e
  rw [← h.hP] at e2
  refine ⟨e, e2, ?_⟩
  unfold flS
  rw [e2, show (x 2).toNat = ch by have := h.hch; omega]
theorem Vd.ow {st : ByteArray} {x : Nat → Int} {ns : List ND} {R ch P p : Nat} (h : Vd st x ns R ch P) (hp : p < P) : rdE st x ns (p : Int) = 0 ∧ wkE st x ns (p : Int) = wk x ns (p : Int) := by
  have e := rdE_ok (p := (p : Int)) h.he (by rw [← h.hP]; omega)
  exact ⟨e, wkE_ok e⟩
theorem Vd.mem {st : ByteArray} {x : Nat → Int} {ns : List ND} {R ch P : Nat} (h : Vd st x ns R ch P) (n : Int) : ∀ s ∈ hdL x ns n P, s.1 < 64 ∧ s.2 < 16 := fun s hs => by
  have := hdL_mem (by rw [← h.hR]; have := h.r2; omega) hs
  have := h.p2
  omega
end Go.Proofs.YtioiphonajinmaaGreatDoor
