import Derived.Test.YtndfhpfhgdamgaaGreatDoorGGcName
import Derived.Test.YtndfhpfhgdamgaaGreatDoorGGcRep
namespace Go.Proofs.YtndfhpfhgdamgaaGreatDoor
open Go.RowKit
theorem infoNd : (Tryz.prog.info? 87).map (fun i => (i.zero, i.size, i.bytes)) = some (some (.agg #[.int .i64 0, .slice none 0 0]), 2, 32) := by kernel_rfl
theorem nd_cells (w : World) (z : Int) (v : Value) : ∀ j u, (ndc [(z, v)])[j]? = some u → (w.alloc (.cells #[.int .i64 z, v] 87)).cell? ((⟨w.heap.size, 0, none⟩ : Addr).add j) = some u := by
  intro j u hj
  have e := heap_last w (.cells #[.int .i64 z, v] 87)
  match j, hj with
  | 0, hj => simp [ndc] at hj; subst hj; rw [add_pl]; unfold World.cell?; rw [e]; rfl
  | 1, hj => simp [ndc] at hj; subst hj; rw [add_pl]; unfold World.cell?; rw [e]; rfl
  | (j + 2), hj => simp [ndc] at hj
theorem nd_one {z : Int} {v : Value} (hv : v.oneCell' = true) : ∀ u ∈ ndc [(z, v)], u.oneCell' = true := by
  intro u hu
  simp [ndc] at hu
  rcases hu with rfl | rfl
  · rfl
  · exact hv
/-- the nodes that are made so far -/
structure Tw (base : Nat) (W : World) (ns : List ND) (vl : Value) (zs : List (Int × Value)) : Prop where
  row : W.ownsRow base 87 2 vl zs.length (ndc zs)
  z : ∀ (q : Nat) (h : q < zs.length) (h' : q < ns.length), zs[q].1 = ns[q].z
  p : ∀ (q : Nat) (h : q < zs.length) (h' : q < ns.length), W.ownsRow base 3 1 zs[q].2 ns[q].ps.length (ints ns[q].ps)
theorem Tw.keep {base : Nat} {W W' : World} {ns : List ND} {vl : Value} {zs : List (Int × Value)} (h : Tw base W ns vl zs) (hb : Below W.heap.size W W') : Tw base W' ns vl zs :=
  ⟨own_keep h.row fun g hg => hb.block g (own_lt h.row hg).2, h.z, fun q hq hq' => own_keep (h.p q hq hq') fun g hg => hb.block g (own_lt (h.p q hq hq') hg).2⟩
/-- one node more -/
theorem Tw.step {base : Nat} {W X1 X3 : World} {ns : List ND} {vl vl' v1 : Value} {zs : List (Int × Value)} (h : Tw base W ns vl zs) (hi : zs.length < ns.length) (o1 : X1.ownsRow base 3 1 v1 ns[zs.length].ps.length (ints ns[zs.length].ps)) (g1 : W.grownBy X1 none) (o3 : X3.ownsRow base 87 2 vl' (zs.length + 1) (ndc zs ++ ndc [(ns[zs.length].z, v1)])) (g3 : (X1.alloc (.cells #[.int .i64 ns[zs.length].z, v1] 87)).grownBy X3 vl.ownBlock) : Tw base X3 ns vl' (zs ++ [(ns[zs.length].z, v1)]) := by
  have b1 : Below W.heap.size W X1 := ⟨g1.os, g1.tape, g1.output, g1.size, fun i hi => g1.block i hi (by simp)⟩
  have t1 := h.keep b1
  have b2 : Below X1.heap.size X1 (X1.alloc (.cells #[.int .i64 ns[zs.length].z, v1] 87)) := (Below.refl _ _).alloc (Nat.le_refl _) _
  have t2 := t1.keep b2
  have o2 := own_keep (X' := X1.alloc (.cells #[.int .i64 ns[zs.length].z, v1] 87)) o1 fun g hg => b2.block g (own_lt o1 hg).2
  refine ⟨?_, fun q hq hq' => ?_, fun q hq hq' => ?_⟩
  · rw [List.length_append, ndc_append]
    exact o3
  · by_cases hql : q < zs.length
    · rw [List.getElem_append_left hql]
      exact h.z q hql hq'
    · have hqe : q = zs.length := by simp at hq; omega
      subst hqe
      simp
  · by_cases hql : q < zs.length
    · rw [List.getElem_append_left hql]
      exact own_grown (t2.p q hql hq') g3 (fun g hg e => own_apart (t2.p q hql hq') t2.row (by decide) g hg e)
    · have hqe : q = zs.length := by simp at hq; omega
      subst hqe
      simp only [List.getElem_append_right (Nat.le_refl _), Nat.sub_self, List.getElem_cons_zero]
      exact own_grown o2 g3 (fun g hg e => own_apart o2 t2.row (by decide) g hg e)
/-- the nodes that are made, as they may be read -/
theorem Tw.nodes {base : Nat} {W : World} {ns : List ND} {vl : Value} {zs : List (Int × Value)} (h : Tw base W ns vl zs) (hl : zs.length = ns.length) (hlen : ns.length ≤ 4398046510976) (hps : ∀ (q : Nat) (h : q < ns.length), ns[q].ps.length ≤ 17592186043904) : ∃ ao b cap, vl = .slice ao ns.length cap ∧ NsAt W.heap.size W ao b 0 (fun q => (zs[q]?.map (·.2)).getD (.slice none 0 0)) ns := by
  obtain ⟨ba, cap, hv, _⟩ := own_sl h.row
  rw [hl] at hv
  have hp : ∀ (q : Nat) (hq : q < ns.length), Pv W.heap.size W ((zs[q]?.map (·.2)).getD (.slice none 0 0)) ns[q].ps := fun q hq => by
    rw [List.getElem?_eq_getElem (by omega)]
    exact own_ps (h.p q (by omega) hq) rfl (hps q hq)
  have hn : ∀ (q : Nat) (hq : q < ns.length) (c : Nat), (zs[q]?.map (·.2)).getD (.slice none 0 0) = .slice none ns[q].ps.length c → c = 0 := fun q hq c he => by
    rw [List.getElem?_eq_getElem (by omega)] at he
    obtain ⟨ba', cap', hv', hz⟩ := own_sl (h.p q (by omega) hq)
    simp only [Option.map_some, Option.getD_some] at he
    rw [hv'] at he
    simp only [Value.slice.injEq, true_and] at he
    rw [← he.2]
    exact hz he.1
  rcases h.row.2 with ⟨hv', hz⟩ | ⟨g, cap', cur, hv', hb, hg, _⟩
  · have h0 : ns.length = 0 := by omega
    exact ⟨ba, 0, cap, hv, fun e => by omega, fun e => by omega, fun q hq => by omega, fun q hq => by omega, hp, hlen, hn⟩
  · rw [hl] at hv'
    obtain ⟨rfl, rfl⟩ : ba = some ⟨g, 0, none⟩ ∧ cap = cap' := by
      have := hv.symm.trans hv'
      simpa using this
    have row := h.row
    rw [hv, hl] at row
    refine ⟨_, g, cap, hv, fun _ => rfl, fun _ => blk_lt hg, fun q hq => ?_, fun q hq => ?_, hp, hlen, hn⟩
    · rw [Nat.zero_add, row.cellAt (q * 2) (by omega), (ndc_at zs q (by omega)).1, h.z q (by omega) hq]
    · rw [Nat.zero_add, row.cellAt (q * 2 + 1) (by omega), (ndc_at zs q (by omega)).2, List.getElem?_eq_getElem (by omega)]
      rfl
theorem wp_exec {op : Oper} {a : Act} {w : World} {K : Act → World → Prop} {Q : Exit → Act → World → Prop} {v : Value} (h : (execOp a.eval op).run Tryz.prog w = .ok (.value v) w) (hk : K (a.put op.dst v) w) : op.wp Tryz.prog a w K Q := by
  unfold Oper.wp
  rw [h]
  exact hk
theorem built_nd (z : Int) (ba : Option Addr) (n c : Nat) : Tryz.prog.built 87 [(0, .int .i64 z), (1, .slice ba n c)] = some #[.int .i64 z, .slice ba n c] := by kernel_rfl
theorem exec_buildNd {ρ : Operand → Value} {op : Oper} {w : World} {z : Int} {ba : Option Addr} {n c : Nat} (x y : Operand) (ho : op.op = .build 87 #[(0, x), (1, y)]) (hx : ρ x = .int .i64 z) (hy : ρ y = .slice ba n c) : (execOp ρ op).run Tryz.prog w = .ok (.value (.agg #[.int .i64 z, .slice ba n c])) w := by
  unfold execOp
  have hb := run_build (P := Tryz.prog) w 87 #[(0, .int .i64 z), (1, .slice ba n c)] _ (built_nd z ba n c)
  have hm : (#[(0, x), (1, y)] : Array (Nat × Operand)).map (fun (i, x) => (i, ρ x)) = #[(0, .int .i64 z), (1, .slice ba n c)] := by simp only [List.map_toArray, List.map_cons, List.map_nil, hx, hy]
  simp only [ho, hm, Sem.run_bind, hb, Result.andThen_ok, Sem.run_pure]
theorem exec_buildNv {ρ : Operand → Value} {op : Oper} {w : World} {z : Int} {v : Value} (hv : ∃ ba n c, v = .slice ba n c) (x y : Operand) (ho : op.op = .build 87 #[(0, x), (1, y)]) (hx : ρ x = .int .i64 z) (hy : ρ y = v) : (execOp ρ op).run Tryz.prog w = .ok (.value (.agg #[.int .i64 z, v])) w := by
  obtain ⟨ba, n, c, rfl⟩ := hv
  exact exec_buildNd x y ho hx hy
theorem fill_nd (z : Int) (ba : Option Addr) (n c : Nat) (zz : Value) (hz : zz = .agg #[.int .i64 0, .slice none 0 0]) : Instr.fill (fun i => some (i * 2, 2)) ((Array.range (1 * 2)).map (zz.cells[· % zz.cells.size]!)) [(0, .agg #[.int .i64 z, .slice ba n c])] = some #[.int .i64 z, .slice ba n c] := by
  subst hz
  kernel_rfl
theorem wp_bsNd {w : World} {op : Oper} {a : Act} {K : Act → World → Prop} {Q : Exit → Act → World → Prop} (x : Operand) (ho : op.op = .buildSlice 22 1 #[(0, x)]) {z : Int} {ba : Option Addr} {n c : Nat} (hx : a.eval x = .agg #[.int .i64 z, .slice ba n c])
    (h : K (a.put op.dst (.slice (some ⟨w.heap.size, 0, none⟩) 1 1)) (w.alloc (.cells #[.int .i64 z, .slice ba n c] 87))) : op.wp Tryz.prog a w K Q := by
  obtain ⟨i0, hi, hz0, hz1, hz2⟩ := info_parts infoNd
  refine wp_buildSlice 22 87 1 _ ho #[.int .i64 z, .slice ba n c] i0 _ Tryz.underlying22 hi hz0 (by rw [hz1]; decide) (by rw [hz1]; decide) ?_ h
  rw [hz1]
  simp only [List.map_toArray, List.map_cons, List.map_nil, hx]
  exact fill_nd z ba n c _ rfl
theorem wp_bsNv {w : World} {op : Oper} {a : Act} {K : Act → World → Prop} {Q : Exit → Act → World → Prop} {z : Int} {v : Value} (hv : ∃ ba n c, v = .slice ba n c) (x : Operand) (ho : op.op = .buildSlice 22 1 #[(0, x)]) (hx : a.eval x = .agg #[.int .i64 z, v])
    (h : K (a.put op.dst (.slice (some ⟨w.heap.size, 0, none⟩) 1 1)) (w.alloc (.cells #[.int .i64 z, v] 87))) : op.wp Tryz.prog a w K Q := by
  obtain ⟨ba, n, c, rfl⟩ := hv
  exact wp_bsNd x ho hx h
end Go.Proofs.YtndfhpfhgdamgaaGreatDoor
namespace Go.Proofs.YtndfhpfhgdamgaaGreatDoor
open Go.RowKit
def zx : Nat → Int := fun _ => 0
theorem clA_one (st : ByteArray) (x : Nat → Int) {nv : Value} (h : nv.oneCell' = true) : (clA st x nv).all (·.oneCell') = true := by
  simp [clA, Value.oneCell'] at h ⊢
  exact h
theorem wpList_storeCl {w0 w : World} {ops : Array Oper} {rest : List Oper} {o : Oper} {a : Act} {Q : Exit → Act → World → Prop} (hgd : o.guard = none) (p y : Operand) (ho : o.op = .store 24 p y) (b : Nat) (hp : a.eval p = .pointer (some ⟨b, 0, none⟩)) (hb : b = w0.heap.size) (st : ByteArray) (x : Nat → Int) (nv : Value) (hn : nv.oneCell' = true) (hx : a.eval y = .agg (clA st x nv)) (c : Array Value) (hc : c.size = 23) (hw : w = w0.alloc (.cells c 24))
    (h : wpList Tryz.prog ops Q rest (a.put o.dst undef) (w0.alloc (.cells (clA st x nv) 24))) : wpList Tryz.prog ops Q (o :: rest) a w := by
  subst hw
  subst hb
  refine wpList_plain hgd fun K hK => ?_
  unfold Oper.wp execOp
  simp only [ho, Sem.run_bind, Sem.run_pure, Result.andThen_ok, hp, hx, run_storeAt_new w0 24 c (clA st x nv) infoCl (by rw [hc]; rfl) (clA_one st x hn)]
  exact hK _ _ h
theorem ClAt.set {w : World} {b : Nat} {st : ByteArray} {x : Nat → Int} {nv : Value} (h : ClAt w b st x nv) (vl : Value) : ClAt (w.setCell ⟨b, 22, none⟩ vl) b st x vl := by
  unfold ClAt at *
  simp only [World.setCell, Array.getElem?_modify, if_true, h, Option.map_some]
  rfl
theorem res_cl {fn : Func} {p : Tmp} (h : fn.results = #[.cell p 24]) (tmps : Array Value) (st : ByteArray) (x : Nat → Int) (nv : Value) (w : World) (b : Nat) (ht : tmps.getD p undef = .pointer (some ⟨b, 0, none⟩)) (hO : ClAt w b st x nv) : (results fn tmps).run Tryz.prog w = .ok (.agg (clA st x nv)) w := by
  have hl : (loadVar 24 ⟨b, 0, none⟩).run Tryz.prog w = .ok (.agg (clA st x nv)) w := run_loadVar_row _ _ 24 24 (clA st x nv) (0, 0) _ hO Tryz.underlying24 rfl infoCl
  have ht' : tmps[p]?.getD undef = .pointer (some ⟨b, 0, none⟩) := by simpa using ht
  unfold results
  rw [h]
  simp [ht', asAddr, hl]
theorem set_below {w X : World} {G j : Nat} {v : Value} {n : Nat} (h : Below n w X) (hG : n ≤ G) : Below n w (X.setCell ⟨G, j, none⟩ v) := below_setC h hG
end Go.Proofs.YtndfhpfhgdamgaaGreatDoor
namespace Go.Proofs.YtndfhpfhgdamgaaGreatDoor
open Go.RowKit
/-- what was handed in: the definition, its twin, the lists of nodes and of partitions -/
def hdA (st : ByteArray) (x : Nat → Int) (a b c d : Value) : Array Value := #[.string st, .int .i64 (x 0), .int .i64 (x 1), .int .i64 (x 2), .int .i64 (x 3), .int .i64 (x 4), .int .i64 (x 5), .int .i64 (x 6), .int .i64 (x 7), .int .i64 (x 8), .int .i64 (x 9), .int .i64 (x 10), .int .i64 (x 11), .int .i64 (x 12), .int .i64 (x 13), .int .i64 (x 14), .int .i64 (x 15), .int .i64 (x 16), .int .i64 (x 17), .int .i64 (x 18), .int .i64 (x 19), .int .i64 (x 20), a, .string st, .int .i64 (x 0), .int .i64 (x 1), .int .i64 (x 2), .int .i64 (x 3), .int .i64 (x 4), .int .i64 (x 5), .int .i64 (x 6), .int .i64 (x 7), .int .i64 (x 8), .int .i64 (x 9), .int .i64 (x 10), .int .i64 (x 11), .int .i64 (x 12), .int .i64 (x 13), .int .i64 (x 14), .int .i64 (x 15), .int .i64 (x 16), .int .i64 (x 17), .int .i64 (x 18), .int .i64 (x 19), .int .i64 (x 20), b, c, d]
/-- lists of partitions, as cells -/
theorem infoPl : (Tryz.prog.info? 25).map (fun i => (i.zero, i.size, i.bytes)) = some (some (.slice none 0 0), 1, 24) := by kernel_rfl
/-- what Hand has made so far: the nodes, the lists with their marks -/
structure Hn (base : Nat) (W : World) (ns : List ND) (vn vp : Value) (zs : List (Int × Value)) (ls : List Value) : Prop where
  len : ls.length = zs.length
  rn : W.ownsRow base 87 2 vn zs.length (ndc zs)
  rp : W.ownsRow base 25 1 vp ls.length ls
  z : ∀ (q : Nat) (h : q < zs.length) (h' : q < ns.length), zs[q].1 = ns[q].z
  l : ∀ (q : Nat) (h : q < zs.length) (h1 : q < ls.length) (h' : q < ns.length), ∃ g c, zs[q].2 = .slice (some ⟨g, 0, none⟩) ns[q].ps.length c ∧ ls[q] = .slice (some ⟨g, 0, none⟩) (ns[q].ps.length + 3) c ∧ W.ownsRow base 3 1 ls[q] (ns[q].ps.length + 3) (ints (ns[q].ps ++ [701, 702, 703]))
theorem Hn.keep {base : Nat} {W W' : World} {ns : List ND} {vn vp : Value} {zs : List (Int × Value)} {ls : List Value} (h : Hn base W ns vn vp zs ls) (hk : ∀ g, base ≤ g → g < W.heap.size → W'.heap[g]? = W.heap[g]?) : Hn base W' ns vn vp zs ls :=
  ⟨h.len, own_keep h.rn fun g hg => hk g (own_lt h.rn hg).1 (own_lt h.rn hg).2, own_keep h.rp fun g hg => hk g (own_lt h.rp hg).1 (own_lt h.rp hg).2, h.z, fun q hq h1 hq' => by
    obtain ⟨g, c, e1, e2, o⟩ := h.l q hq h1 hq'
    exact ⟨g, c, e1, e2, own_keep o fun g hg => hk g (own_lt o hg).1 (own_lt o hg).2⟩⟩
end Go.Proofs.YtndfhpfhgdamgaaGreatDoor
namespace Go.Proofs.YtndfhpfhgdamgaaGreatDoor
open Go.RowKit
theorem mark_cells (w : World) : ∀ j u, (ints [701, 702, 703])[j]? = some u → (w.alloc (.cells #[.int .i64 701, .int .i64 702, .int .i64 703] 3)).cell? ((⟨w.heap.size, 0, none⟩ : Addr).add j) = some u := by
  intro j u hj
  have e := heap_last w (.cells #[.int .i64 701, .int .i64 702, .int .i64 703] 3)
  match j, hj with
  | 0, hj => simp [ints] at hj; subst hj; rw [add_pl]; unfold World.cell?; rw [e]; rfl
  | 1, hj => simp [ints] at hj; subst hj; rw [add_pl]; unfold World.cell?; rw [e]; rfl
  | 2, hj => simp [ints] at hj; subst hj; rw [add_pl]; unfold World.cell?; rw [e]; rfl
  | (j + 3), hj => simp [ints] at hj
theorem sl_cells (w : World) (v : Value) : ∀ j u, [v][j]? = some u → (w.alloc (.cells #[v] 25)).cell? ((⟨w.heap.size, 0, none⟩ : Addr).add j) = some u := cell_one_new w v 25
theorem own_some {w : World} {base sz n : Nat} {e : TypeId} {v : Value} {xs : List Value} (h : w.ownsRow base e sz v n xs) (hn : 0 < n) : ∃ g cap, v = .slice (some ⟨g, 0, none⟩) n cap := by
  rcases h.2 with ⟨hv, hz⟩ | ⟨g, cap, cur, hv, _⟩
  · omega
  · exact ⟨_, _, hv⟩
set_option maxRecDepth 100000 in
theorem run_cut (w : World) (g n k c : Nat) (hk : k ≤ c) : (Instr.sliceAt 25 (.slice (some ⟨g, 0, none⟩) n c) none (some (.int .i64 (k : Int))) none).run Tryz.prog w = .ok (.slice (some ⟨g, 0, none⟩) k c) w := by
  have h1 : (k : Int) ≤ (c : Int) := by omega
  have h2 : (0 : Int) ≤ (k : Int) := by omega
  go_simp
theorem exec_cut {ρ : Operand → Value} {op : Oper} {w : World} {g n k c : Nat} (hk : k ≤ c) (x y : Operand) (ho : op.op = .slice 25 x none (some y) none) (hx : ρ x = .slice (some ⟨g, 0, none⟩) n c) (hy : ρ y = .int .i64 (k : Int)) : (execOp ρ op).run Tryz.prog w = .ok (.value (.slice (some ⟨g, 0, none⟩) k c)) w := by
  unfold execOp
  simp only [ho, hx, hy, Option.map_none, Option.map_some, Sem.run_bind, run_cut w g n k c hk, Result.andThen_ok, Sem.run_pure]
theorem own_cap {w : World} {base sz n m c : Nat} {ba : Option Addr} {e : TypeId} {xs : List Value} (h : w.ownsRow base e sz (.slice ba m c) n xs) : n ≤ c := by
  rcases h.2 with ⟨hv, hz⟩ | ⟨g, cap, cur, hv, _, _, hc, _⟩
  · omega
  · simp only [Value.slice.injEq] at hv
    omega
theorem own_lower {w : World} {base b' sz n : Nat} {e : TypeId} {v : Value} {xs : List Value} (h : w.ownsRow base e sz v n xs) (hb : b' ≤ base) : w.ownsRow b' e sz v n xs := by
  refine ⟨h.1, ?_⟩
  rcases h.2 with e | ⟨g, cap, cur, hv, hg, hr⟩
  · exact Or.inl e
  · exact Or.inr ⟨g, cap, cur, hv, Nat.le_trans hb hg, hr⟩
theorem Tw.lower {base b' : Nat} {W : World} {ns : List ND} {vl : Value} {zs : List (Int × Value)} (h : Tw base W ns vl zs) (hb : b' ≤ base) : Tw b' W ns vl zs := ⟨own_lower h.row hb, h.z, fun q hq hq' => own_lower (h.p q hq hq') hb⟩
theorem own_setH {w : World} {base sz n H j : Nat} {e : TypeId} {v u : Value} {xs : List Value} (h : w.ownsRow base e sz v n xs) (hH : H < base) : (w.setCell ⟨H, j, none⟩ u).ownsRow base e sz v n xs :=
  own_keep h fun g hg => Below.heap_setCell _ _ _ g (fun e => by have := (own_lt h hg).1; simp at e; omega)
/-- one node more -/
theorem Hn.step {base H : Nat} {W X3 X5 X8 : World} {ns : List ND} {vn vp vn' vp' v2 : Value} {zs : List (Int × Value)} {ls : List Value} {g c : Nat} (h : Hn base W ns vn vp zs ls) (hi : zs.length < ns.length) (hH : H < base) (b3 : Below W.heap.size W X3) (hv2 : v2 = .slice (some ⟨g, 0, none⟩) (ns[zs.length].ps.length + 3) c) (o2 : X3.ownsRow base 3 1 v2 (ns[zs.length].ps.length + 3) (ints (ns[zs.length].ps ++ [701, 702, 703])))
    (o5 : X5.ownsRow base 25 1 vp' (ls.length + 1) (ls ++ [v2])) (g5 : (X3.alloc (.cells #[v2] 25)).grownBy X5 vp.ownBlock)
    (o8 : X8.ownsRow base 87 2 vn' (zs.length + 1) (ndc zs ++ ndc [(ns[zs.length].z, .slice (some ⟨g, 0, none⟩) ns[zs.length].ps.length c)])) (g8 : ((X5.setCell ⟨H, 47, none⟩ vp').alloc (.cells #[.int .i64 ns[zs.length].z, .slice (some ⟨g, 0, none⟩) ns[zs.length].ps.length c] 87)).grownBy X8 vn.ownBlock) :
    Hn base (X8.setCell ⟨H, 46, none⟩ vn') ns vn' vp' (zs ++ [(ns[zs.length].z, .slice (some ⟨g, 0, none⟩) ns[zs.length].ps.length c)]) (ls ++ [v2]) := by
  have h3 := h.keep (W' := X3) fun g _ hg => b3.block g hg
  have b4 : Below X3.heap.size X3 (X3.alloc (.cells #[v2] 25)) := (Below.refl _ _).alloc (Nat.le_refl _) _
  have h4 := h3.keep (W' := X3.alloc (.cells #[v2] 25)) fun g _ hg => b4.block g hg
  have o4 := own_keep (X' := X3.alloc (.cells #[v2] 25)) o2 fun g hg => b4.block g (own_lt o2 hg).2
  have m : ∀ {t : TypeId} {sz n : Nat} {v : Value} {xs : List Value}, t ≠ 25 → t ≠ 87 → (X3.alloc (.cells #[v2] 25)).ownsRow base t sz v n xs → (X8.setCell ⟨H, 46, none⟩ vn').ownsRow base t sz v n xs := fun {t} {sz} {n} {v} {xs} t1 t2 hr => by
    have r5 := own_grown hr g5 (fun g hg e => own_apart hr h4.rp t1 g hg e)
    have r6 := own_setH (j := 47) (u := vp') r5 hH
    have b7 : Below (X5.setCell ⟨H, 47, none⟩ vp').heap.size (X5.setCell ⟨H, 47, none⟩ vp') ((X5.setCell ⟨H, 47, none⟩ vp').alloc (.cells #[.int .i64 ns[zs.length].z, .slice (some ⟨g, 0, none⟩) ns[zs.length].ps.length c] 87)) := (Below.refl _ _).alloc (Nat.le_refl _) _
    have r7 := own_keep r6 fun g hg => b7.block g (own_lt r6 hg).2
    have n5 := own_grown h4.rn g5 (fun g hg e => own_apart h4.rn h4.rp (by decide) g hg e)
    have n6 := own_setH (j := 47) (u := vp') n5 hH
    have n7 := own_keep n6 fun g hg => b7.block g (own_lt n6 hg).2
    have r8 := own_grown r7 g8 (fun g hg e => own_apart r7 n7 t2 g hg e)
    exact own_setH (j := 46) (u := vn') r8 hH
  have p8 : (X8.setCell ⟨H, 46, none⟩ vn').ownsRow base 25 1 vp' (ls.length + 1) (ls ++ [v2]) := by
    have r6 := own_setH (j := 47) (u := vp') o5 hH
    have b7 : Below (X5.setCell ⟨H, 47, none⟩ vp').heap.size (X5.setCell ⟨H, 47, none⟩ vp') ((X5.setCell ⟨H, 47, none⟩ vp').alloc (.cells #[.int .i64 ns[zs.length].z, .slice (some ⟨g, 0, none⟩) ns[zs.length].ps.length c] 87)) := (Below.refl _ _).alloc (Nat.le_refl _) _
    have r7 := own_keep r6 fun g hg => b7.block g (own_lt r6 hg).2
    have n5 := own_grown h4.rn g5 (fun g hg e => own_apart h4.rn h4.rp (by decide) g hg e)
    have n6 := own_setH (j := 47) (u := vp') n5 hH
    have n7 := own_keep n6 fun g hg => b7.block g (own_lt n6 hg).2
    exact own_setH (j := 46) (u := vn') (own_grown r7 g8 (fun g hg e => own_apart r7 n7 (by decide) g hg e)) hH
  refine ⟨by simp [h.len], ?_, ?_, fun q hq hq' => ?_, fun q hq h1 hq' => ?_⟩
  · rw [List.length_append, ndc_append]
    exact own_setH o8 hH
  · rw [List.length_append]
    exact p8
  · by_cases hql : q < zs.length
    · rw [List.getElem_append_left hql]
      exact h.z q hql hq'
    · have hqe : q = zs.length := by simp at hq; omega
      subst hqe
      simp
  · by_cases hql : q < zs.length
    · have hql1 : q < ls.length := by have := h.len; omega
      obtain ⟨g', c', e1, e2, oo⟩ := h4.l q hql hql1 hq'
      refine ⟨g', c', ?_, ?_, ?_⟩
      · rw [List.getElem_append_left hql]; exact e1
      · rw [List.getElem_append_left hql1]; exact e2
      · rw [List.getElem_append_left hql1]
        exact m (by decide) (by decide) oo
    · have hqe : q = zs.length := by simp at hq; omega
      subst hqe
      have hle := h.len
      refine ⟨g, c, by simp, ?_, ?_⟩
      · rw [List.getElem_append_right (by omega)]
        simp [hle, hv2]
      · rw [List.getElem_append_right (by omega)]
        simp only [hle, Nat.sub_self, List.getElem_cons_zero]
        exact m (by decide) (by decide) o4
def mk2 : List (Int × Value) := [(801, .slice none 0 0), (802, .slice none 0 0)]
theorem mk2_cells (w : World) : ∀ j u, (ndc mk2)[j]? = some u → (w.alloc (.cells #[.int .i64 801, .slice none 0 0, .int .i64 802, .slice none 0 0] 87)).cell? ((⟨w.heap.size, 0, none⟩ : Addr).add j) = some u := by
  intro j u hj
  have e := heap_last w (.cells #[.int .i64 801, .slice none 0 0, .int .i64 802, .slice none 0 0] 87)
  match j, hj with
  | 0, hj => simp [ndc, mk2] at hj; subst hj; rw [add_pl]; unfold World.cell?; rw [e]; rfl
  | 1, hj => simp [ndc, mk2] at hj; subst hj; rw [add_pl]; unfold World.cell?; rw [e]; rfl
  | 2, hj => simp [ndc, mk2] at hj; subst hj; rw [add_pl]; unfold World.cell?; rw [e]; rfl
  | 3, hj => simp [ndc, mk2] at hj; subst hj; rw [add_pl]; unfold World.cell?; rw [e]; rfl
  | (j + 4), hj => simp [ndc, mk2] at hj
theorem mk2_one : ∀ u ∈ ndc mk2, u.oneCell' = true := by
  intro u hu
  simp [ndc, mk2] at hu
  rcases hu with rfl | rfl | rfl | rfl <;> rfl
end Go.Proofs.YtndfhpfhgdamgaaGreatDoor
namespace Go.Proofs.YtndfhpfhgdamgaaGreatDoor
open Go.RowKit
set_option maxRecDepth 100000 in
theorem partV (x : Nat → Int) (i : Nat) (h : i < 21) (w : World) : (part 3 (vA x) (i * 1)).run Tryz.prog w = .ok (.int .i64 (x i)) w := by
  have : i = 0 ∨ i = 1 ∨ i = 2 ∨ i = 3 ∨ i = 4 ∨ i = 5 ∨ i = 6 ∨ i = 7 ∨ i = 8 ∨ i = 9 ∨ i = 10 ∨ i = 11 ∨ i = 12 ∨ i = 13 ∨ i = 14 ∨ i = 15 ∨ i = 16 ∨ i = 17 ∨ i = 18 ∨ i = 19 ∨ i = 20 := by omega
  clear h
  rcases this with h | h | h | h | h | h | h | h | h | h | h | h | h | h | h | h | h | h | h | h | h <;> rw [h] <;> rfl
theorem loopV (x : Nat → Int) (w : World) : ∀ (l : List Nat), (∀ i ∈ l, i < 21) → (forIn l ((none, ()) : Option Bool × Unit) fun i __s => do
            let __do_lift ← part 3 (vA x) (i * 1)
            let __do_lift_1 ← part 3 (vA x) (i * 1)
            let __do_lift ← Op.equalIn 9999 3 __do_lift __do_lift_1
            if (!__do_lift) = true then pure (ForInStep.done (some false, ())) else pure (ForInStep.yield (none, ())) : Sem (Option Bool × Unit)).run Tryz.prog w = .ok (none, ()) w
  | [], _ => by simp
  | i :: l, h => by
    have ih := loopV x w l (fun j hj => h j (by simp [hj]))
    have hp := partV x i (h i (by simp)) w
    rw [List.forIn_cons]
    simp only [Sem.run_bind, hp, Result.andThen_ok, run_equalIn_int w 9998 3 .i64 .i64 (x i) (x i) Tryz.underlying3, beq_self_eq_true, Bool.not_true, Bool.false_eq_true, if_false, Sem.run_pure]
    exact ih
end Go.Proofs.YtndfhpfhgdamgaaGreatDoor
namespace Go.Proofs.YtndfhpfhgdamgaaGreatDoor
open Go.RowKit
theorem exec_move {ρ : Operand → Value} {op : Oper} {w : World} {v : Value} (x : Operand) (ho : op.op = .move x) (hx : ρ x = v) : (execOp ρ op).run Tryz.prog w = .ok (.value v) w := by
  unfold execOp
  simp only [ho, hx, Sem.run_pure]
theorem exec_nil {ρ : Operand → Value} {op : Oper} {w : World} {a : Addr} (x : Operand) (ho : op.op = .nilCheck x) (hx : ρ x = .pointer (some a)) : (execOp ρ op).run Tryz.prog w = .ok (.value (.pointer (some a))) w := by
  unfold execOp
  simp only [ho, hx, Sem.run_pure]
theorem exec_fa {ρ : Operand → Value} {op : Oper} {w : World} {a a' : Addr} {s : TypeId} {f : Nat} (x : Operand) (ho : op.op = .fieldAddr s x f) (hx : ρ x = .pointer (some a)) (hf : (Instr.fieldAt s (.pointer (some a)) f).run Tryz.prog w = .ok (.pointer (some a')) w) : (execOp ρ op).run Tryz.prog w = .ok (.value (.pointer (some a'))) w := by
  unfold execOp
  simp only [ho, hx, hf, Sem.run_bind, Result.andThen_ok, Sem.run_pure]
theorem run_ld {w : World} {t : TypeId} {b o : Nat} {v : Value} (ht : t = 3 ∨ t = 22 ∨ t = 25) (hc : w.cell? ⟨b, o, none⟩ = some v) : (Instr.loadAt t (.pointer (some ⟨b, o, none⟩))).run Tryz.prog w = .ok v w := by
  rcases ht with rfl | rfl | rfl <;> go_simp
theorem exec_ld {ρ : Operand → Value} {op : Oper} {w : World} {b o : Nat} {t : TypeId} {v : Value} (x : Operand) (ho : op.op = .load t x) (ht : t = 3 ∨ t = 22 ∨ t = 25) (hx : ρ x = .pointer (some ⟨b, o, none⟩)) (hc : w.cell? ⟨b, o, none⟩ = some v) : (execOp ρ op).run Tryz.prog w = .ok (.value v) w := by
  unfold execOp
  simp only [ho, hx, run_ld ht hc, Sem.run_bind, Result.andThen_ok, Sem.run_pure]
theorem exec_len {ρ : Operand → Value} {op : Oper} {w : World} {ba : Option Addr} {n c : Nat} {t : TypeId} (x : Operand) (ho : op.op = .call { callee := .builtin .len, args := #[x], argTypes := #[t] }) (ht : t = 22 ∨ t = 25) (hx : ρ x = .slice ba n c) : (execOp ρ op).run Tryz.prog w = .ok (.value (.int .i64 (n : Int))) w := by
  unfold execOp
  rcases ht with rfl | rfl
  · simp only [ho, resolve, invoke, builtin, Sem.run_bind, Sem.run_pure, Result.andThen_ok, List.map_toArray, List.map_cons, List.map_nil, hx]
    go_simp
  · simp only [ho, resolve, invoke, builtin, Sem.run_bind, Sem.run_pure, Result.andThen_ok, List.map_toArray, List.map_cons, List.map_nil, hx]
    go_simp
theorem exec_addi {ρ : Operand → Value} {op : Oper} {w : World} {n : Int} {k : Int} {t2 : TypeId} (x : Operand) (ho : op.op = .binOp .add 3 x (.const (.int .i64 k)) t2) (hx : ρ x = .int .i64 n) (hk : ρ (.const (.int .i64 k)) = .int .i64 k) (h0 : -9223372036854775808 ≤ n + k) (h1 : n + k < 9223372036854775808) : (execOp ρ op).run Tryz.prog w = .ok (.value (.int .i64 (n + k))) w := by
  unfold execOp
  simp only [ho, hx, hk]
  go_simp
  exact i64_in h0 h1
theorem exec_neqi {ρ : Operand → Value} {op : Oper} {w : World} {n : Int} {t2 : TypeId} (x y : Operand) (ho : op.op = .binOp .neq 3 x y t2) (hx : ρ x = .int .i64 n) (hy : ρ y = .int .i64 n) : (execOp ρ op).run Tryz.prog w = .ok (.value (.bool false)) w := by
  unfold execOp
  simp only [ho, hx, hy]
  go_simp
theorem exec_pickf {ρ : Operand → Value} {op : Oper} {w : World} (x y z : Operand) (ho : op.op = .pick x y z) (hx : ρ x = .bool false) (hz : ρ z = .bool false) : (execOp ρ op).run Tryz.prog w = .ok (.value (.bool false)) w := by
  unfold execOp
  simp only [ho, hx, hz]
  go_simp
theorem exec_not {ρ : Operand → Value} {op : Oper} {w : World} (x : Operand) (t : TypeId) (ho : op.op = .unOp .not t x) (hx : ρ x = .bool true) : (execOp ρ op).run Tryz.prog w = .ok (.value (.bool false)) w := by
  unfold execOp
  simp only [ho, hx]
  go_simp
theorem exec_ixN {ρ : Operand → Value} {op : Oper} {w : World} {b o n c q : Nat} (x y : Operand) (ho : op.op = .indexAddr 22 x y) (hx : ρ x = .slice (some ⟨b, o, none⟩) n c) (hy : ρ y = .int .i64 (q : Int)) (hq : q < n) : (execOp ρ op).run Tryz.prog w = .ok (.value (.pointer (some ⟨b, o + q * 2, none⟩))) w := by
  have hqi : (q : Int) < (n : Int) := by omega
  unfold execOp
  simp only [ho, hx, hy]
  go_simp
theorem exec_ixI {ρ : Operand → Value} {op : Oper} {w : World} {b o n c q : Nat} (x y : Operand) (ho : op.op = .indexAddr 25 x y) (hx : ρ x = .slice (some ⟨b, o, none⟩) n c) (hy : ρ y = .int .i64 (q : Int)) (hq : q < n) : (execOp ρ op).run Tryz.prog w = .ok (.value (.pointer (some ⟨b, o + q, none⟩))) w := by
  have hqi : (q : Int) < (n : Int) := by omega
  unfold execOp
  simp only [ho, hx, hy]
  go_simp
/-- a definition out of the middle of a block -/
theorem exec_mid {ρ : Operand → Value} {op : Oper} {w : World} {b o : Nat} {st : ByteArray} {x : Nat → Int} {nv : Value} (p : Operand) (ho : op.op = .load 24 p) (hx : ρ p = .pointer (some ⟨b, o, none⟩)) (hc : w.rangeAt b o (clA st x nv).toList) : (execOp ρ op).run Tryz.prog w = .ok (.value (.agg (clA st x nv))) w := by
  unfold execOp
  have h := run_loadVar_mid (P := Tryz.prog) w b o 24 (clA st x nv).toList _ hc Tryz.underlying24 rfl (by rw [infoCl]; rfl)
  simp only [ho, hx, Instr.loadAt, Instr.sureAddr, Sem.run_bind, Sem.run_pure, Result.andThen_ok, h]
end Go.Proofs.YtndfhpfhgdamgaaGreatDoor
namespace Go.Proofs.YtndfhpfhgdamgaaGreatDoor
open Go.RowKit
theorem tm_facts (n : Int) (d : Int) (hd : 0 < d) : (n.tmod d < 0 → n % d = n.tmod d + d) ∧ (0 ≤ n.tmod d → n % d = n.tmod d) ∧ -d < n.tmod d ∧ n.tmod d < d := by
  have h := @Int.tmod_eq_emod n d
  have h1 := Int.emod_nonneg n (show d ≠ 0 by omega)
  have h2 := Int.emod_lt_of_pos n hd
  split at h
  · omega
  · rename_i hh
    have : n % d ≠ 0 := fun e => hh (Or.inr (Int.dvd_of_emod_eq_zero e))
    omega
theorem tm_twice (n m : Int) (h : 0 < m) : (n.tmod m + m).tmod m = n % m := by
  obtain ⟨t1, t2, t3, t4⟩ := tm_facts n m h
  obtain ⟨u1, u2, u3, u4⟩ := tm_facts (n.tmod m + m) m h
  have hq := Int.tmod_eq_emod_of_nonneg (a := n.tmod m + m) (b := m) (by omega)
  rw [hq, Int.add_emod_right]
  by_cases hs : n.tmod m < 0
  · have e := t1 hs
    have : (n.tmod m + m) % m = n.tmod m + m := Int.emod_eq_of_lt (by omega) (by omega)
    rw [Int.add_emod_right] at this
    rw [this, e]
  · rw [t2 (by omega)]
    exact Int.emod_eq_of_lt (by omega) (by omega)
theorem exec_remi {ρ : Operand → Value} {op : Oper} {w : World} {a b : Int} {t2 : TypeId} (x y : Operand) (ho : op.op = .binOp .rem 3 x y t2) (hx : ρ x = .int .i64 a) (hy : ρ y = .int .i64 b) (h0 : 0 < b) (h1 : b < 9223372036854775808) : (execOp ρ op).run Tryz.prog w = .ok (.value (.int .i64 (a.tmod b))) w := by
  unfold execOp
  simp only [ho, hx, hy]
  obtain ⟨_, _, t3, t4⟩ := tm_facts a b h0
  have hb0 : ¬ b = 0 := by omega
  have hb1 : ¬ b = -1 := by omega
  have e := wrap_in (x := a.tmod b) (by omega) (by omega)
  go_simp
theorem exec_addii {ρ : Operand → Value} {op : Oper} {w : World} {a b : Int} {t2 : TypeId} (x y : Operand) (ho : op.op = .binOp .add 3 x y t2) (hx : ρ x = .int .i64 a) (hy : ρ y = .int .i64 b) (h0 : -9223372036854775808 ≤ a + b) (h1 : a + b < 9223372036854775808) : (execOp ρ op).run Tryz.prog w = .ok (.value (.int .i64 (a + b))) w := by
  unfold execOp
  simp only [ho, hx, hy]
  go_simp
  exact i64_in (by omega) (by omega)
theorem wpList_addii {w : World} {ops : Array Oper} {rest : List Oper} {op : Oper} {a : Act} {Q : Exit → Act → World → Prop} (hgd : op.guard = none) {t2 : TypeId} (x y : Operand) (ho : op.op = .binOp .add 3 x y t2) (A B : Int) (hx : a.eval x = .int .i64 A) (hy : a.eval y = .int .i64 B) (h0 : -9223372036854775808 ≤ A + B) (h1 : A + B < 9223372036854775808) (h : wpList Tryz.prog ops Q rest (a.put op.dst (.int .i64 (A + B))) w) : wpList Tryz.prog ops Q (op :: rest) a w :=
  wpList_plain hgd fun _ hK => wp_exec (exec_addii x y ho hx hy h0 h1) (hK _ _ h)
theorem wpList_remi {w : World} {ops : Array Oper} {rest : List Oper} {op : Oper} {a : Act} {Q : Exit → Act → World → Prop} (hgd : op.guard = none) {t2 : TypeId} (x y : Operand) (ho : op.op = .binOp .rem 3 x y t2) (A B : Int) (hx : a.eval x = .int .i64 A) (hy : a.eval y = .int .i64 B) (h0 : 0 < B) (h1 : B < 9223372036854775808) (h : wpList Tryz.prog ops Q rest (a.put op.dst (.int .i64 (A.tmod B))) w) : wpList Tryz.prog ops Q (op :: rest) a w :=
  wpList_plain hgd fun _ hK => wp_exec (exec_remi x y ho hx hy h0 h1) (hK _ _ h)
/-- a list of numbers taken round -/
def atL (L : List Int) (i : Nat) : Int := if h : 0 < L.length then L[i % L.length]'(Nat.mod_lt _ h) else 0
end Go.Proofs.YtndfhpfhgdamgaaGreatDoor
namespace Go.Proofs.YtndfhpfhgdamgaaGreatDoor
/-- the node that has the partition k -/
def hm (ns : List ND) (k : Nat) : Int := ownF (k : Int) 0 ns
/-- the place i round the ring from f on -/
def plc (P f i : Nat) : Nat := (f + i) % P
/-- no place ahead of i has the node of the place i -/
def frsh (ns : List ND) (P f i : Nat) : Bool := (List.range i).all fun j => !(hm ns (plc P f j) == hm ns (plc P f i))
/-- what is taken of the first i places -/
def wkL (ns : List ND) (P f : Nat) : Nat → List Nat
  | 0 => []
  | i + 1 => if frsh ns P f i = true then wkL ns P f i ++ [plc P f i] else wkL ns P f i
theorem wkL_yes {ns : List ND} {P f i : Nat} (h : frsh ns P f i = true) : wkL ns P f (i + 1) = wkL ns P f i ++ [plc P f i] := by simp [wkL, h]
theorem wkL_no {ns : List ND} {P f i : Nat} (h : frsh ns P f i = false) : wkL ns P f (i + 1) = wkL ns P f i := by simp [wkL, h]
theorem wkL_len (ns : List ND) (P f : Nat) (i : Nat) : (wkL ns P f i).length ≤ i := by
  induction i with
  | zero => simp [wkL]
  | succ i ih =>
    cases h : frsh ns P f i with
    | true => rw [wkL_yes h]; simp; exact ih
    | false => rw [wkL_no h]; omega
theorem wkL_pre (ns : List ND) (P f i k : Nat) : ∃ r, wkL ns P f (i + k) = wkL ns P f i ++ r := by
  induction k with
  | zero => exact ⟨[], by simp⟩
  | succ k ih =>
    obtain ⟨r, hr⟩ := ih
    rw [← Nat.add_assoc]
    cases h : frsh ns P f (i + k) with
    | true => exact ⟨r ++ [plc P f (i + k)], by rw [wkL_yes h, hr, List.append_assoc]⟩
    | false => exact ⟨r, by rw [wkL_no h, hr]⟩
/-- the walk: the first R of all that is taken -/
def wkR (ns : List ND) (P f R : Nat) : List Nat := (wkL ns P f P).take R
theorem wkR_at {ns : List ND} {P f R i : Nat} (hi : i ≤ P) (h : (wkL ns P f i).length = R) : wkR ns P f R = wkL ns P f i := by
  obtain ⟨r, hr⟩ := wkL_pre ns P f i (P - i)
  rw [show i + (P - i) = P by omega] at hr
  unfold wkR
  rw [hr, ← h, List.take_left]
theorem wkR_all {ns : List ND} {P f R : Nat} (h : (wkL ns P f P).length ≤ R) : wkR ns P f R = wkL ns P f P := List.take_of_length_le h
theorem plc_lt {P f i : Nat} (h : 0 < P) : plc P f i < P := Nat.mod_lt _ h
theorem wkL_lt {ns : List ND} {P f : Nat} (hP : 0 < P) (i : Nat) : ∀ p ∈ wkL ns P f i, p < P := by
  induction i with
  | zero => intro p hp; simp [wkL] at hp
  | succ i ih =>
    cases h : frsh ns P f i with
    | true =>
      rw [wkL_yes h]
      intro p hp
      rcases List.mem_append.1 hp with hp | hp
      · exact ih p hp
      · simp at hp
        subst hp
        exact plc_lt hP
    | false => rw [wkL_no h]; exact ih
theorem wkL_from {ns : List ND} {P f : Nat} (i : Nat) : ∀ p ∈ wkL ns P f i, ∃ j, j < i ∧ p = plc P f j := by
  induction i with
  | zero => intro p hp; simp [wkL] at hp
  | succ i ih =>
    intro p hp
    cases h : frsh ns P f i with
    | true =>
      rw [wkL_yes h] at hp
      rcases List.mem_append.1 hp with hp | hp
      · obtain ⟨j, hj, e⟩ := ih p hp
        exact ⟨j, by omega, e⟩
      · simp at hp
        exact ⟨i, by omega, hp⟩
    | false =>
      rw [wkL_no h] at hp
      obtain ⟨j, hj, e⟩ := ih p hp
      exact ⟨j, by omega, e⟩
theorem frsh_true {ns : List ND} {P f i : Nat} : frsh ns P f i = true ↔ ∀ j, j < i → hm ns (plc P f j) ≠ hm ns (plc P f i) := by
  unfold frsh
  rw [List.all_eq_true]
  constructor
  · intro h j hj
    have := h j (List.mem_range.2 hj)
    simpa using this
  · intro h j hj
    have := h j (List.mem_range.1 hj)
    simpa using this
theorem wkL_homes {ns : List ND} {P f : Nat} (i : Nat) : ∀ j, j < i → ∃ p ∈ wkL ns P f i, hm ns p = hm ns (plc P f j) := by
  induction i with
  | zero => intro j hj; omega
  | succ i ih =>
    intro j hj
    cases h : frsh ns P f i with
    | true =>
      rw [wkL_yes h]
      by_cases e : j = i
      · subst e
        exact ⟨plc P f j, by simp, rfl⟩
      · obtain ⟨p, hp, ep⟩ := ih j (by omega)
        exact ⟨p, List.mem_append_left _ hp, ep⟩
    | false =>
      rw [wkL_no h]
      by_cases e : j = i
      · subst e
        have hn : ¬ ∀ k, k < j → hm ns (plc P f k) ≠ hm ns (plc P f j) := fun hc => by rw [frsh_true.2 hc] at h; exact absurd h (by simp)
        obtain ⟨k, hk⟩ := Classical.not_forall.1 hn
        obtain ⟨hk1, hk2⟩ := Classical.not_imp.1 hk
        obtain ⟨p, hp, ep⟩ := ih k hk1
        exact ⟨p, hp, ep.trans (Classical.not_not.1 hk2)⟩
      · exact ih j (by omega)
/-- fresh: none of those that were taken has its node -/
theorem frsh_taken {ns : List ND} {P f i : Nat} : frsh ns P f i = true ↔ ∀ p ∈ wkL ns P f i, hm ns p ≠ hm ns (plc P f i) := by
  rw [frsh_true]
  constructor
  · intro h p hp
    obtain ⟨j, hj, rfl⟩ := wkL_from i p hp
    exact h j hj
  · intro h j hj e
    obtain ⟨p, hp, ep⟩ := wkL_homes (ns := ns) (P := P) (f := f) i j hj
    exact h p hp (ep.trans e)
theorem frsh_no {ns : List ND} {P f i p : Nat} (hp : p ∈ wkL ns P f i) (e : hm ns p = hm ns (plc P f i)) : frsh ns P f i = false := by
  cases h : frsh ns P f i with
  | false => rfl
  | true => exact absurd e (frsh_taken.1 h p hp)
/-- numbers as ints -/
def nis (l : List Nat) : List Int := l.map fun n : Nat => (n : Int)
theorem nis_len (l : List Nat) : (nis l).length = l.length := by simp [nis]
theorem nis_append (a b : List Nat) : nis (a ++ b) = nis a ++ nis b := by simp [nis]
/-- the owners of those places -/
def owL (ns : List ND) (l : List Nat) : List Int := l.map fun p => hm ns p
theorem owL_len (ns : List ND) (l : List Nat) : (owL ns l).length = l.length := by simp [owL]
theorem owL_take {ns : List ND} {l : List Nat} {q : Nat} (h : q < l.length) : owL ns (l.take (q + 1)) = owL ns (l.take q) ++ [hm ns l[q]] := by
  unfold owL
  rw [List.take_succ_eq_append_getElem h, List.map_append]
  rfl
end Go.Proofs.YtndfhpfhgdamgaaGreatDoor
