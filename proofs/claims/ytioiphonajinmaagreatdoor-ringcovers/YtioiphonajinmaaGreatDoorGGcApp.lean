import Derived.Test.YtioiphonajinmaaGreatDoorGGcDoc
import Derived.Laws.AppendOwnNone
import Derived.Deep.MidRow
namespace Go.Proofs.YtioiphonajinmaaGreatDoor
open Go.RowKit
/-- ints, as cells -/
def ints (L : List Int) : List Value := L.map fun n : Int => .int .i64 n
theorem ints_len (L : List Int) : (ints L).length = L.length := by simp [ints]
theorem ints_at (L : List Int) (q : Nat) : (ints L)[q]? = (L[q]?).map fun n : Int => .int .i64 n := by simp [ints]
theorem ints_one (L : List Int) : ∀ u ∈ ints L, u.oneCell' = true := by
  intro u hu
  obtain ⟨n, _, rfl⟩ := List.mem_map.1 hu
  rfl
/-- nodes, as cells -/
def ndc (zs : List (Int × Value)) : List Value := zs.flatMap fun y => [.int .i64 y.1, y.2]
theorem ndc_len (zs : List (Int × Value)) : (ndc zs).length = zs.length * 2 := by
  induction zs with
  | nil => rfl
  | cons a r ih =>
    unfold ndc at *
    simp only [List.flatMap_cons, List.length_append, List.length_cons, List.length_nil, ih]
    omega
theorem ndc_append (a b : List (Int × Value)) : ndc (a ++ b) = ndc a ++ ndc b := List.flatMap_append
theorem ndc_at (zs : List (Int × Value)) (q : Nat) (h : q < zs.length) : (ndc zs)[q * 2]? = some (.int .i64 zs[q].1) ∧ (ndc zs)[q * 2 + 1]? = some zs[q].2 := by
  induction zs generalizing q with
  | nil => simp at h
  | cons a r ih =>
    cases q with
    | zero => exact ⟨rfl, rfl⟩
    | succ q =>
      have h' : q < r.length := by simpa using h
      obtain ⟨e1, e2⟩ := ih q h'
      unfold ndc at *
      simp only [List.flatMap_cons, List.getElem_cons_succ]
      rw [show (q + 1) * 2 = q * 2 + 2 by omega, show q * 2 + 2 + 1 = (q * 2 + 1) + 2 by omega]
      exact ⟨e1, e2⟩
theorem add_pl (b o j : Nat) : (⟨b, o, none⟩ : Addr).add j = ⟨b, o + j, none⟩ := Addr.add_mid b o j
/-- append([]int(nil), l...) -/
theorem run_copyI {N : Nat} (w : World) (base : Nat) (ty : TypeId) {ao : Option Addr} {b o : Nat} (cap : Nat) {L : List Int} (h : PsAt N w ao b o L) (hc : ao = none → cap = 0) (hb : base ≤ w.heap.size) :
    ∃ v' w', (Builtin.append_ #[22, 22] ty #[.slice none 0 0, .slice ao L.length cap]).run Tryz.prog w = .ok v' w' ∧ w'.ownsRow base 3 1 v' L.length (ints L) ∧ w.grownBy w' none ∧ (∀ g, v'.ownBlock = some g → g = w.heap.size) := by
  obtain ⟨i0, hi0, hz0, hz1, hz2⟩ := info_parts infoInt
  have hl := h.len
  cases ao with
  | none =>
    have h0 : L.length = 0 := by
      apply Classical.byContradiction
      intro hn
      have := h.at0 (by omega)
      cases this
    have hL : L = [] := List.length_eq_zero_iff.1 h0
    subst hL
    rw [hc rfl]
    have hrun := run_append_owned_none (P := Tryz.prog) (w := w) base 22 ty 3 i0 1 Tryz.underlying22 hi0 (.slice none 0 0) 0 [] (World.ownsRow_nil _ _ _ _)
    exact ⟨_, _, hrun, World.ownsRow_nil _ _ _ _, ⟨rfl, rfl, rfl, Nat.le_refl _, fun _ _ _ => rfl⟩, fun g hg => by simp [Value.ownBlock] at hg⟩
  | some ad =>
    obtain ⟨v', w', hr, h2, h3, _, h5⟩ := run_append_own_at (P := Tryz.prog) w base 22 ty 3 i0 (.int .i64 0) 1 8 Tryz.underlying22 hi0 hz0 hz1 hz2 rfl (by decide) (.slice none 0 0) 0 [] (World.ownsRow_nil _ _ _ _) ad L.length cap (ints L) (by rw [ints_len]; omega) (fun j u hj => by
      rw [ints_at] at hj
      cases hq : L[j]? with
      | none => rw [hq] at hj; cases hj
      | some n =>
        rw [hq] at hj
        have hjl : j < L.length := (List.getElem?_eq_some_iff.1 hq).1
        have ha := h.at0 (by omega)
        simp only [Option.some.injEq] at ha
        subst ha
        rw [add_pl]
        have := h.c j hjl
        have e : L[j] = n := (List.getElem?_eq_some_iff.1 hq).2
        rw [e] at this
        simp only [Option.map_some] at hj
        rw [← hj]
        exact this) (ints_one L) (by unfold maxLen; omega) (by omega) hb
    refine ⟨v', w', hr, ?_, h3, fun g hg => ?_⟩
    · rw [Nat.zero_add, List.nil_append] at h2
      exact h2
    · rcases h5 with h5 | h5
      · rw [h5] at hg
        simp [Value.ownBlock] at hg
      · rw [h5] at hg
        cases hg
        rfl
theorem wp_copyI {N : Nat} (w : World) {op : Oper} {a : Act} {K : Act → World → Prop} {Q : Exit → Act → World → Prop} (x : Operand) (ho : op.op = .call { callee := .builtin .append, args := #[.const (.slice none 0 0), x], argTypes := #[22, 22] }) (base : Nat) {ao : Option Addr} {b o : Nat} (cap : Nat) {L : List Int} (hx : a.eval x = .slice ao L.length cap) (h : PsAt N w ao b o L) (hc : ao = none → cap = 0) (hb : base ≤ w.heap.size)
    (hK : ∀ v' w', w'.ownsRow base 3 1 v' L.length (ints L) → w.grownBy w' none → (∀ g, v'.ownBlock = some g → g = w.heap.size) → K (a.put op.dst v') w') : op.wp Tryz.prog a w K Q := by
  obtain ⟨v', w', hr, h1, h2, h3⟩ := run_copyI w base op.type cap h hc hb
  have hs : a.eval (.const (.slice none 0 0)) = .slice none 0 0 := rfl
  unfold Oper.wp execOp
  simp only [ho, resolve, invoke, builtin, Sem.run_bind, Sem.run_pure, Result.andThen_ok, List.map_toArray, List.map_cons, List.map_nil, hs, hx, hr]
  exact hK v' w' h1 h2 h3
theorem wpList_copyI {N : Nat} (w : World) {ops : Array Oper} {rest : List Oper} {op : Oper} {a : Act} {Q : Exit → Act → World → Prop} (hgd : op.guard = none) (x : Operand) (ho : op.op = .call { callee := .builtin .append, args := #[.const (.slice none 0 0), x], argTypes := #[22, 22] }) (base : Nat) {ao : Option Addr} {b o : Nat} (cap : Nat) {L : List Int} (hx : a.eval x = .slice ao L.length cap) (h : PsAt N w ao b o L) (hc : ao = none → cap = 0) (hb : base ≤ w.heap.size)
    (hK : ∀ v' w', w'.ownsRow base 3 1 v' L.length (ints L) → w.grownBy w' none → (∀ g, v'.ownBlock = some g → g = w.heap.size) → wpList Tryz.prog ops Q rest (a.put op.dst v') w') : wpList Tryz.prog ops Q (op :: rest) a w :=
  wpList_plain hgd fun _ hK' => wp_copyI w x ho base cap hx h hc hb (fun v' w' a b c => hK' _ _ (hK v' w' a b c))
/-- where rows of unlike types lie apart -/
theorem own_apart {w : World} {b1 b2 n1 n2 s1 s2 : Nat} {t1 t2 : TypeId} {v1 v2 : Value} {x1 x2 : List Value} (h1 : w.ownsRow b1 t1 s1 v1 n1 x1) (h2 : w.ownsRow b2 t2 s2 v2 n2 x2) (ht : t1 ≠ t2) : ∀ g, v1.ownBlock = some g → v2.ownBlock ≠ some g := by
  intro g hg1 hg2
  rcases h1.2 with ⟨rfl, _⟩ | ⟨g1, c1, u1, rfl, _, k1, _⟩
  · simp [Value.ownBlock] at hg1
  · rcases h2.2 with ⟨rfl, _⟩ | ⟨g2, c2, u2, rfl, _, k2, _⟩
    · simp [Value.ownBlock] at hg2
    · simp [Value.ownBlock] at hg1 hg2
      subst hg1
      subst hg2
      have := k1.symm.trans k2
      simp only [Option.some.injEq, Obj.cells.injEq] at this
      exact ht this.2.1
theorem own_keep {X X' : World} {base sz n : Nat} {e : TypeId} {v : Value} {xs : List Value} (h : X.ownsRow base e sz v n xs) (hk : ∀ g, v.ownBlock = some g → X'.heap[g]? = X.heap[g]?) : X'.ownsRow base e sz v n xs := by
  refine ⟨h.1, ?_⟩
  rcases h.2 with e | ⟨g, cap, cur, rfl, hb, hg, hr⟩
  · exact Or.inl e
  · exact Or.inr ⟨g, cap, cur, rfl, hb, (hk g (by simp [Value.ownBlock])).trans hg, hr⟩
theorem own_lt {X : World} {base sz n g : Nat} {e : TypeId} {v : Value} {xs : List Value} (h : X.ownsRow base e sz v n xs) (hg : v.ownBlock = some g) : base ≤ g ∧ g < X.heap.size := by
  rcases h.2 with ⟨rfl, _⟩ | ⟨g', cap, cur, rfl, hb, hg', hr⟩
  · simp [Value.ownBlock] at hg
  · simp [Value.ownBlock] at hg
    subst hg
    exact ⟨hb, blk_lt hg'⟩
theorem own_grown {X X' : World} {base sz n : Nat} {e : TypeId} {v : Value} {xs : List Value} {row : Option Nat} (h : X.ownsRow base e sz v n xs) (hg : X.grownBy X' row) (hr : ∀ g, v.ownBlock = some g → row ≠ some g) : X'.ownsRow base e sz v n xs :=
  own_keep h fun g hw => hg.block g (own_lt h hw).2 (fun e => hr g hw e.symm)
theorem own_sl {w : World} {base sz n : Nat} {e : TypeId} {v : Value} {xs : List Value} (h : w.ownsRow base e sz v n xs) : ∃ ba cap, v = .slice ba n cap ∧ (ba = none → cap = 0) := by
  rcases h.2 with ⟨hv, hz⟩ | ⟨g, cap, cur, hv, _⟩
  · exact ⟨none, 0, by rw [hv, hz], fun _ => rfl⟩
  · exact ⟨_, _, hv, fun e => by cases e⟩
theorem own_one {w : World} {base sz n : Nat} {e : TypeId} {v : Value} {xs : List Value} (h : w.ownsRow base e sz v n xs) : v.oneCell' = true := by
  obtain ⟨ba, cap, rfl, _⟩ := own_sl h
  rfl
/-- a list of one's own, as it may be read -/
theorem own_ps {w : World} {base n : Nat} {v : Value} {L : List Int} (h : w.ownsRow base 3 1 v n (ints L)) (hn : n = L.length) (hl : L.length ≤ 17592186043904) : Pv w.heap.size w v L := by
  subst hn
  obtain ⟨ba, cap, rfl, _⟩ := own_sl h
  rcases h.2 with ⟨hv, hz⟩ | ⟨g, cap', cur, hv, hb, hg, _⟩
  · simp only [Value.slice.injEq] at hv
    obtain ⟨rfl, _, rfl⟩ := hv
    exact ⟨none, 0, 0, 0, rfl, fun e => by omega, fun e => by omega, fun q hq => by omega, hl⟩
  · simp only [Value.slice.injEq, true_and] at hv
    obtain ⟨rfl, rfl⟩ := hv
    refine ⟨_, g, 0, cap, rfl, fun _ => rfl, fun _ => blk_lt hg, fun q hq => ?_, hl⟩
    rw [Nat.zero_add, h.cellAt q (by omega), ints_at, List.getElem?_eq_getElem hq]
    rfl
end Go.Proofs.YtioiphonajinmaaGreatDoor
namespace Go.Proofs.YtioiphonajinmaaGreatDoor
open Go.RowKit
theorem infoNd : (Tryz.prog.info? 53).map (fun i => (i.zero, i.size, i.bytes)) = some (some (.agg #[.int .i64 0, .slice none 0 0]), 2, 32) := by kernel_rfl
theorem nd_cells (w : World) (z : Int) (v : Value) : ∀ j u, (ndc [(z, v)])[j]? = some u → (w.alloc (.cells #[.int .i64 z, v] 53)).cell? ((⟨w.heap.size, 0, none⟩ : Addr).add j) = some u := by
  intro j u hj
  have e := heap_last w (.cells #[.int .i64 z, v] 53)
  match j, hj with
  | 0, hj => simp [ndc] at hj; subst hj; rw [add_pl]; unfold World.cell?; rw [e]; rfl
  | 1, hj => simp [ndc] at hj; subst hj; rw [add_pl]; unfold World.cell?; rw [e]; rfl
  | (j + 2), hj => simp [ndc] at hj
theorem nd_one {z : Int} {v : Value} (hv : v.oneCell' = true) : ∀ u ∈ ndc [(z, v)], u.oneCell' = true := by
  intro u hu
  simp [ndc] at hu
  rcases hu with rfl | rfl
  · rfl
  · exact hv
/-- the nodes that are made so far -/
structure Tw (base : Nat) (W : World) (ns : List ND) (vl : Value) (zs : List (Int × Value)) : Prop where
  row : W.ownsRow base 53 2 vl zs.length (ndc zs)
  z : ∀ (q : Nat) (h : q < zs.length) (h' : q < ns.length), zs[q].1 = ns[q].z
  p : ∀ (q : Nat) (h : q < zs.length) (h' : q < ns.length), W.ownsRow base 3 1 zs[q].2 ns[q].ps.length (ints ns[q].ps)
theorem Tw.keep {base : Nat} {W W' : World} {ns : List ND} {vl : Value} {zs : List (Int × Value)} (h : Tw base W ns vl zs) (hb : Below W.heap.size W W') : Tw base W' ns vl zs :=
  ⟨own_keep h.row fun g hg => hb.block g (own_lt h.row hg).2, h.z, fun q hq hq' => own_keep (h.p q hq hq') fun g hg => hb.block g (own_lt (h.p q hq hq') hg).2⟩
/-- one node more -/
theorem Tw.step {base : Nat} {W X1 X3 : World} {ns : List ND} {vl vl' v1 : Value} {zs : List (Int × Value)} (h : Tw base W ns vl zs) (hi : zs.length < ns.length) (o1 : X1.ownsRow base 3 1 v1 ns[zs.length].ps.length (ints ns[zs.length].ps)) (g1 : W.grownBy X1 none) (o3 : X3.ownsRow base 53 2 vl' (zs.length + 1) (ndc zs ++ ndc [(ns[zs.length].z, v1)])) (g3 : (X1.alloc (.cells #[.int .i64 ns[zs.length].z, v1] 53)).grownBy X3 vl.ownBlock) : Tw base X3 ns vl' (zs ++ [(ns[zs.length].z, v1)]) := by
  have b1 : Below W.heap.size W X1 := ⟨g1.os, g1.tape, g1.output, g1.size, fun i hi => g1.block i hi (by simp)⟩
  have t1 := h.keep b1
  have b2 : Below X1.heap.size X1 (X1.alloc (.cells #[.int .i64 ns[zs.length].z, v1] 53)) := (Below.refl _ _).alloc (Nat.le_refl _) _
  have t2 := t1.keep b2
  have o2 := own_keep (X' := X1.alloc (.cells #[.int .i64 ns[zs.length].z, v1] 53)) o1 fun g hg => b2.block g (own_lt o1 hg).2
  refine ⟨?_, fun q hq hq' => ?_, fun q hq hq' => ?_⟩
  · rw [List.length_append, ndc_append]
    exact o3
  · by_cases hql : q < zs.length
    · rw [List.getElem_append_left hql]
      exact h.z q hql hq'
    · have hqe : q = zs.length := by simp at hq; omega
      subst hqe
      simp
  · by_cases hql : q < zs.length
    · rw [List.getElem_append_left hql]
      exact own_grown (t2.p q hql hq') g3 (fun g hg e => own_apart (t2.p q hql hq') t2.row (by decide) g hg e)
    · have hqe : q = zs.length := by simp at hq; omega
      subst hqe
      simp only [List.getElem_append_right (Nat.le_refl _), Nat.sub_self, List.getElem_cons_zero]
      exact own_grown o2 g3 (fun g hg e => own_apart o2 t2.row (by decide) g hg e)
/-- the nodes that are made, as they may be read -/
theorem Tw.nodes {base : Nat} {W : World} {ns : List ND} {vl : Value} {zs : List (Int × Value)} (h : Tw base W ns vl zs) (hl : zs.length = ns.length) (hlen : ns.length ≤ 4398046510976) (hps : ∀ (q : Nat) (h : q < ns.length), ns[q].ps.length ≤ 17592186043904) : ∃ ao b cap, vl = .slice ao ns.length cap ∧ NsAt W.heap.size W ao b 0 (fun q => (zs[q]?.map (·.2)).getD (.slice none 0 0)) ns := by
  obtain ⟨ba, cap, hv, _⟩ := own_sl h.row
  rw [hl] at hv
  have hp : ∀ (q : Nat) (hq : q < ns.length), Pv W.heap.size W ((zs[q]?.map (·.2)).getD (.slice none 0 0)) ns[q].ps := fun q hq => by
    rw [List.getElem?_eq_getElem (by omega)]
    exact own_ps (h.p q (by omega) hq) rfl (hps q hq)
  have hn : ∀ (q : Nat) (hq : q < ns.length) (c : Nat), (zs[q]?.map (·.2)).getD (.slice none 0 0) = .slice none ns[q].ps.length c → c = 0 := fun q hq c he => by
    rw [List.getElem?_eq_getElem (by omega)] at he
    obtain ⟨ba', cap', hv', hz⟩ := own_sl (h.p q (by omega) hq)
    simp only [Option.map_some, Option.getD_some] at he
    rw [hv'] at he
    simp only [Value.slice.injEq, true_and] at he
    rw [← he.2]
    exact hz he.1
  rcases h.row.2 with ⟨hv', hz⟩ | ⟨g, cap', cur, hv', hb, hg, _⟩
  · have h0 : ns.length = 0 := by omega
    exact ⟨ba, 0, cap, hv, fun e => by omega, fun e => by omega, fun q hq => by omega, fun q hq => by omega, hp, hlen, hn⟩
  · rw [hl] at hv'
    obtain ⟨rfl, rfl⟩ : ba = some ⟨g, 0, none⟩ ∧ cap = cap' := by
      have := hv.symm.trans hv'
      simpa using this
    have row := h.row
    rw [hv, hl] at row
    refine ⟨_, g, cap, hv, fun _ => rfl, fun _ => blk_lt hg, fun q hq => ?_, fun q hq => ?_, hp, hlen, hn⟩
    · rw [Nat.zero_add, row.cellAt (q * 2) (by omega), (ndc_at zs q (by omega)).1, h.z q (by omega) hq]
    · rw [Nat.zero_add, row.cellAt (q * 2 + 1) (by omega), (ndc_at zs q (by omega)).2, List.getElem?_eq_getElem (by omega)]
      rfl
theorem wp_exec {op : Oper} {a : Act} {w : World} {K : Act → World → Prop} {Q : Exit → Act → World → Prop} {v : Value} (h : (execOp a.eval op).run Tryz.prog w = .ok (.value v) w) (hk : K (a.put op.dst v) w) : op.wp Tryz.prog a w K Q := by
  unfold Oper.wp
  rw [h]
  exact hk
theorem built_nd (z : Int) (ba : Option Addr) (n c : Nat) : Tryz.prog.built 53 [(0, .int .i64 z), (1, .slice ba n c)] = some #[.int .i64 z, .slice ba n c] := by kernel_rfl
theorem exec_buildNd {ρ : Operand → Value} {op : Oper} {w : World} {z : Int} {ba : Option Addr} {n c : Nat} (x y : Operand) (ho : op.op = .build 53 #[(0, x), (1, y)]) (hx : ρ x = .int .i64 z) (hy : ρ y = .slice ba n c) : (execOp ρ op).run Tryz.prog w = .ok (.value (.agg #[.int .i64 z, .slice ba n c])) w := by
  unfold execOp
  have hb := run_build (P := Tryz.prog) w 53 #[(0, .int .i64 z), (1, .slice ba n c)] _ (built_nd z ba n c)
  have hm : (#[(0, x), (1, y)] : Array (Nat × Operand)).map (fun (i, x) => (i, ρ x)) = #[(0, .int .i64 z), (1, .slice ba n c)] := by simp only [List.map_toArray, List.map_cons, List.map_nil, hx, hy]
  simp only [ho, hm, Sem.run_bind, hb, Result.andThen_ok, Sem.run_pure]
theorem exec_buildNv {ρ : Operand → Value} {op : Oper} {w : World} {z : Int} {v : Value} (hv : ∃ ba n c, v = .slice ba n c) (x y : Operand) (ho : op.op = .build 53 #[(0, x), (1, y)]) (hx : ρ x = .int .i64 z) (hy : ρ y = v) : (execOp ρ op).run Tryz.prog w = .ok (.value (.agg #[.int .i64 z, v])) w := by
  obtain ⟨ba, n, c, rfl⟩ := hv
  exact exec_buildNd x y ho hx hy
theorem fill_nd (z : Int) (ba : Option Addr) (n c : Nat) (zz : Value) (hz : zz = .agg #[.int .i64 0, .slice none 0 0]) : Instr.fill (fun i => some (i * 2, 2)) ((Array.range (1 * 2)).map (zz.cells[· % zz.cells.size]!)) [(0, .agg #[.int .i64 z, .slice ba n c])] = some #[.int .i64 z, .slice ba n c] := by
  subst hz
  kernel_rfl
theorem wp_bsNd {w : World} {op : Oper} {a : Act} {K : Act → World → Prop} {Q : Exit → Act → World → Prop} (x : Operand) (ho : op.op = .buildSlice 26 1 #[(0, x)]) {z : Int} {ba : Option Addr} {n c : Nat} (hx : a.eval x = .agg #[.int .i64 z, .slice ba n c])
    (h : K (a.put op.dst (.slice (some ⟨w.heap.size, 0, none⟩) 1 1)) (w.alloc (.cells #[.int .i64 z, .slice ba n c] 53))) : op.wp Tryz.prog a w K Q := by
  obtain ⟨i0, hi, hz0, hz1, hz2⟩ := info_parts infoNd
  refine wp_buildSlice 26 53 1 _ ho #[.int .i64 z, .slice ba n c] i0 _ Tryz.underlying26 hi hz0 (by rw [hz1]; decide) (by rw [hz1]; decide) ?_ h
  rw [hz1]
  simp only [List.map_toArray, List.map_cons, List.map_nil, hx]
  exact fill_nd z ba n c _ rfl
theorem wp_bsNv {w : World} {op : Oper} {a : Act} {K : Act → World → Prop} {Q : Exit → Act → World → Prop} {z : Int} {v : Value} (hv : ∃ ba n c, v = .slice ba n c) (x : Operand) (ho : op.op = .buildSlice 26 1 #[(0, x)]) (hx : a.eval x = .agg #[.int .i64 z, v])
    (h : K (a.put op.dst (.slice (some ⟨w.heap.size, 0, none⟩) 1 1)) (w.alloc (.cells #[.int .i64 z, v] 53))) : op.wp Tryz.prog a w K Q := by
  obtain ⟨ba, n, c, rfl⟩ := hv
  exact wp_bsNd x ho hx h
end Go.Proofs.YtioiphonajinmaaGreatDoor
namespace Go.Proofs.YtioiphonajinmaaGreatDoor
open Go.RowKit
def zx : Nat → Int := fun _ => 0
theorem clA_one (st : ByteArray) (x : Nat → Int) {nv : Value} (h : nv.oneCell' = true) : (clA st x nv).all (·.oneCell') = true := by
  simp [clA, Value.oneCell'] at h ⊢
  exact h
theorem wpList_storeCl {w0 w : World} {ops : Array Oper} {rest : List Oper} {o : Oper} {a : Act} {Q : Exit → Act → World → Prop} (hgd : o.guard = none) (p y : Operand) (ho : o.op = .store 28 p y) (b : Nat) (hp : a.eval p = .pointer (some ⟨b, 0, none⟩)) (hb : b = w0.heap.size) (st : ByteArray) (x : Nat → Int) (nv : Value) (hn : nv.oneCell' = true) (hx : a.eval y = .agg (clA st x nv)) (c : Array Value) (hc : c.size = 23) (hw : w = w0.alloc (.cells c 28))
    (h : wpList Tryz.prog ops Q rest (a.put o.dst undef) (w0.alloc (.cells (clA st x nv) 28))) : wpList Tryz.prog ops Q (o :: rest) a w := by
  subst hw
  subst hb
  refine wpList_plain hgd fun K hK => ?_
  unfold Oper.wp execOp
  simp only [ho, Sem.run_bind, Sem.run_pure, Result.andThen_ok, hp, hx, run_storeAt_new w0 28 c (clA st x nv) infoCl (by rw [hc]; rfl) (clA_one st x hn)]
  exact hK _ _ h
theorem ClAt.set {w : World} {b : Nat} {st : ByteArray} {x : Nat → Int} {nv : Value} (h : ClAt w b st x nv) (vl : Value) : ClAt (w.setCell ⟨b, 22, none⟩ vl) b st x vl := by
  unfold ClAt at *
  simp only [World.setCell, Array.getElem?_modify, if_true, h, Option.map_some]
  rfl
theorem res_cl {fn : Func} {p : Tmp} (h : fn.results = #[.cell p 28]) (tmps : Array Value) (st : ByteArray) (x : Nat → Int) (nv : Value) (w : World) (b : Nat) (ht : tmps.getD p undef = .pointer (some ⟨b, 0, none⟩)) (hO : ClAt w b st x nv) : (results fn tmps).run Tryz.prog w = .ok (.agg (clA st x nv)) w := by
  have hl : (loadVar 28 ⟨b, 0, none⟩).run Tryz.prog w = .ok (.agg (clA st x nv)) w := run_loadVar_row _ _ 28 28 (clA st x nv) (0, 0) _ hO Tryz.underlying28 rfl infoCl
  have ht' : tmps[p]?.getD undef = .pointer (some ⟨b, 0, none⟩) := by simpa using ht
  unfold results
  rw [h]
  simp [ht', asAddr, hl]
theorem set_below {w X : World} {G j : Nat} {v : Value} {n : Nat} (h : Below n w X) (hG : n ≤ G) : Below n w (X.setCell ⟨G, j, none⟩ v) := below_setC h hG
set_option maxHeartbeats 8000000 in
set_option maxRecDepth 100000 in
set_option linter.unusedSimpArgs false in
set_option linter.unusedVariables false in
theorem twin_any (N : Nat) (w : World) (st : ByteArray) (x : Nat → Int) (ao : Option Addr) (b o cap : Nat) (pv : Nat → Value) (ns : List ND) (h : NsAt N w ao b o pv ns) (hN : N ≤ w.heap.size) :
    Calls Tryz.prog 7 #[.agg (clA st x (.slice ao ns.length cap))] w fun e w' => ∃ vl zs, e = .returned (.agg (clA st x vl)) ∧ zs.length = ns.length ∧ Tw (w.heap.size + 2) w' ns vl zs ∧ Below w.heap.size w w' := by
  obtain ⟨W0, hW0⟩ : ∃ W0, W0 = (w.alloc (.cells (clA st x (.slice ao ns.length cap)) 28)).alloc (.cells (clA ⟨#[]⟩ zx (.slice none 0 0)) 28) := ⟨_, rfl⟩
  have B0 : Hid (Below w.heap.size w W0) := by rw [hW0]; exact ((Below.refl _ _).alloc (Nat.le_refl _) _).alloc (by simp) _
  have C0 : Hid (ClAt W0 w.heap.size st x (.slice ao ns.length cap)) := by rw [hW0]; exact (new_cl _ _ _ _).below ((Below.refl _ _).alloc (Nat.le_refl _) _)
  have R0 : Hid (ClAt W0 (w.heap.size + 1) ⟨#[]⟩ zx (.slice none 0 0)) := by
    rw [hW0]
    have := new_cl (w.alloc (.cells (clA st x (.slice ao ns.length cap)) 28)) ⟨#[]⟩ zx (.slice none 0 0)
    simp only [World.size_alloc] at this
    exact this
  have s0 : Hid (W0.heap.size = w.heap.size + 2) := by rw [hW0]; show _ = _; simp
  have HN := hide h
  have hlen := h.len
  clear h
  obtain ⟨i0, hi0, hz0, hz1, hz2⟩ := info_parts infoNd
  go_enter Tryz.func7, Tryz.ntmps7
  go_upto_region 1 with fail
  rw [show (w.alloc (.cells (clA st x (.slice ao ns.length cap)) 28)).alloc (.cells #[.string ⟨#[]⟩, .int .i64 0, .int .i64 0, .int .i64 0, .int .i64 0, .int .i64 0, .int .i64 0, .int .i64 0, .int .i64 0, .int .i64 0, .int .i64 0, .int .i64 0, .int .i64 0, .int .i64 0, .int .i64 0, .int .i64 0, .int .i64 0, .int .i64 0, .int .i64 0, .int .i64 0, .int .i64 0, .int .i64 0, .slice none 0 0] 28) = W0 from hW0.symm]
  clear hW0
  go_wp2_with fail
  go_loopw [3, 4] (fun vl vi wr => ∃ (zs : List (Int × Value)), zs.length ≤ ns.length ∧ vi = .int .i64 (zs.length : Int) ∧ Tw W0.heap.size wr ns vl zs ∧ Below W0.heap.size W0 wr) (fun _ vi _ => ns.length - (intOf vi).toNat)
  case atStart => exact ⟨[], Nat.zero_le _, rfl, ⟨World.ownsRow_nil _ _ _ _, fun q hq => absurd hq (Nat.not_lt_zero _), fun q hq => absurd hq (Nat.not_lt_zero _)⟩, Below.refl _ _⟩
  case round =>
    obtain ⟨zs, hq, rfl, hT, hB⟩ := hrel
    have HT := hide hT
    have HB := hide hB
    clear hT hB
    obtain ⟨ba, cp, hv, _⟩ := own_sl HT.out.row
    subst hv
    by_cases hql : zs.length < ns.length
    case pos =>
      have hao := HN.out.at0 (by omega)
      subst hao
      have hqi : (zs.length : Int) < (ns.length : Int) := by omega
      have nvw := (C0.out.below HB.out).nv
      obtain ⟨pa, pb, po, pc, hpv, hp⟩ := HN.out.ps zs.length hql
      have P0 := hide hp
      have hnl : Hid (pa = none → pc = 0) := fun e => HN.out.nl zs.length hql pc (by rw [hpv, e])
      have hpl := hp.len
      have CC : Hid (∀ Y, Below W0.heap.size W0 Y → Y.cell? ⟨w.heap.size, 22, none⟩ = some (.slice (some ⟨b, o, none⟩) ns.length cap) ∧ Y.cell? ⟨b, o + zs.length * 2, none⟩ = some (.int .i64 ns[zs.length].z) ∧ Y.cell? ⟨b, o + zs.length * 2 + 1, none⟩ = some (.slice pa ns[zs.length].ps.length pc)) := fun Y hY => by
        have hN0 := HN.out.below ((B0.out.trans (hY.mono B0.out.size)).mono hN)
        refine ⟨(C0.out.below hY).nv, hN0.cz _ hql, ?_⟩
        rw [← hpv]
        exact hN0.cp _ hql
      have PP : Hid (∀ Y, Below W0.heap.size W0 Y → PsAt N Y pa pb po ns[zs.length].ps) := fun Y hY => P0.out.below ((B0.out.trans (hY.mono B0.out.size)).mono hN)
      clear hpv hp nvw P0
      have TS := hide (fun X1 X3 vl' v1 => HT.out.step (X1 := X1) (X3 := X3) (vl' := vl') (v1 := v1) hql)
      have nvw := (CC.out _ HB.out).1
      generalize hzz : ns[zs.length].z = z at *
      generalize hpp : ns[zs.length].ps = ps at *
      clear hzz hpp
      go_wp2_with fail
      clear nvw
      refine wp_region_held_drew (S := fun Y => Below W0.heap.size W0 Y) (by kernel_rfl) (HB.out.drew) (fun hHeld => ?_)
      refine wpAnyH_take (i := 0) (v := (.slice ba zs.length cp)) rfl (by kernel_rfl) (by kernel_rfl) (by kernel_rfl) (fun _ _ _ h => h) (Or.inl ⟨by rfl, ?_⟩) (by assumption) ?_
      · intro w' hSw
        (try dsimp only at hSw)
        go_simp
      (try simp only [Act.put, List.setIfInBounds_toArray, List.set_cons_zero, List.set_cons_succ])
      refine wpAnyH_take (i := 1) (v := (.pointer (some ⟨w.heap.size, 22, none⟩))) rfl (by kernel_rfl) (by kernel_rfl) (by kernel_rfl) (fun _ _ _ h => h) (Or.inl ⟨by rfl, ?_⟩) (by assumption) ?_
      · intro w' hSw
        (try dsimp only at hSw)
        go_simp
      (try simp only [Act.put, List.setIfInBounds_toArray, List.set_cons_zero, List.set_cons_succ])
      refine wpAnyH_take (i := 2) (v := (.slice (some ⟨b, o, none⟩) ns.length cap)) rfl (by kernel_rfl) (by kernel_rfl) (by kernel_rfl) (fun _ _ _ h => h) (Or.inl ⟨by rfl, ?_⟩) (by assumption) ?_
      · intro w' hSw
        (try dsimp only at hSw)
        (obtain ⟨y1, y2, y3⟩ := CC.out _ hSw; go_simp)
      (try simp only [Act.put, List.setIfInBounds_toArray, List.set_cons_zero, List.set_cons_succ])
      refine wpAnyH_take (i := 3) (v := (.int .i64 (zs.length : Int))) rfl (by kernel_rfl) (by kernel_rfl) (by kernel_rfl) (fun _ _ _ h => h) (Or.inl ⟨by rfl, ?_⟩) (by assumption) ?_
      · intro w' hSw
        (try dsimp only at hSw)
        go_simp
      (try simp only [Act.put, List.setIfInBounds_toArray, List.set_cons_zero, List.set_cons_succ])
      refine wpAnyH_take (i := 4) (v := (.pointer (some ⟨b, o + zs.length * 2, none⟩))) rfl (by kernel_rfl) (by kernel_rfl) (by kernel_rfl) (fun _ _ _ h => h) (Or.inl ⟨by rfl, ?_⟩) (by assumption) ?_
      · intro w' hSw
        (try dsimp only at hSw)
        go_simp
      (try simp only [Act.put, List.setIfInBounds_toArray, List.set_cons_zero, List.set_cons_succ])
      refine wpAnyH_take (i := 5) (v := (.pointer (some ⟨b, o + zs.length * 2, none⟩))) rfl (by kernel_rfl) (by kernel_rfl) (by kernel_rfl) (fun _ _ _ h => h) (Or.inl ⟨by rfl, ?_⟩) (by assumption) ?_
      · intro w' hSw
        (try dsimp only at hSw)
        go_simp
      (try simp only [Act.put, List.setIfInBounds_toArray, List.set_cons_zero, List.set_cons_succ])
      refine wpAnyH_take (i := 6) (v := (.int .i64 z)) rfl (by kernel_rfl) (by kernel_rfl) (by kernel_rfl) (fun _ _ _ h => h) (Or.inl ⟨by rfl, ?_⟩) (by assumption) ?_
      · intro w' hSw
        (try dsimp only at hSw)
        (obtain ⟨y1, y2, y3⟩ := CC.out _ hSw; go_simp)
      (try simp only [Act.put, List.setIfInBounds_toArray, List.set_cons_zero, List.set_cons_succ])
      refine wpAnyH_take (i := 7) (v := (.pointer (some ⟨w.heap.size, 22, none⟩))) rfl (by kernel_rfl) (by kernel_rfl) (by kernel_rfl) (fun _ _ _ h => h) (Or.inl ⟨by rfl, ?_⟩) (by assumption) ?_
      · intro w' hSw
        (try dsimp only at hSw)
        go_simp
      (try simp only [Act.put, List.setIfInBounds_toArray, List.set_cons_zero, List.set_cons_succ])
      refine wpAnyH_take (i := 8) (v := (.slice (some ⟨b, o, none⟩) ns.length cap)) rfl (by kernel_rfl) (by kernel_rfl) (by kernel_rfl) (fun _ _ _ h => h) (Or.inl ⟨by rfl, ?_⟩) (by assumption) ?_
      · intro w' hSw
        (try dsimp only at hSw)
        (obtain ⟨y1, y2, y3⟩ := CC.out _ hSw; go_simp)
      (try simp only [Act.put, List.setIfInBounds_toArray, List.set_cons_zero, List.set_cons_succ])
      refine wpAnyH_take (i := 9) (v := (.int .i64 (zs.length : Int))) rfl (by kernel_rfl) (by kernel_rfl) (by kernel_rfl) (fun _ _ _ h => h) (Or.inl ⟨by rfl, ?_⟩) (by assumption) ?_
      · intro w' hSw
        (try dsimp only at hSw)
        go_simp
      (try simp only [Act.put, List.setIfInBounds_toArray, List.set_cons_zero, List.set_cons_succ])
      refine wpAnyH_take (i := 10) (v := (.pointer (some ⟨b, o + zs.length * 2, none⟩))) rfl (by kernel_rfl) (by kernel_rfl) (by kernel_rfl) (fun _ _ _ h => h) (Or.inl ⟨by rfl, ?_⟩) (by assumption) ?_
      · intro w' hSw
        (try dsimp only at hSw)
        go_simp
      (try simp only [Act.put, List.setIfInBounds_toArray, List.set_cons_zero, List.set_cons_succ])
      refine wpAnyH_take (i := 11) (v := (.pointer (some ⟨b, o + zs.length * 2 + 1, none⟩))) rfl (by kernel_rfl) (by kernel_rfl) (by kernel_rfl) (fun _ _ _ h => h) (Or.inl ⟨by rfl, ?_⟩) (by assumption) ?_
      · intro w' hSw
        (try dsimp only at hSw)
        go_simp
      (try simp only [Act.put, List.setIfInBounds_toArray, List.set_cons_zero, List.set_cons_succ])
      refine wpAnyH_take (i := 12) (v := (.slice pa ps.length pc)) rfl (by kernel_rfl) (by kernel_rfl) (by kernel_rfl) (fun _ _ _ h => h) (Or.inl ⟨by rfl, ?_⟩) (by assumption) ?_
      · intro w' hSw
        (try dsimp only at hSw)
        (have y3 := (CC.out _ hSw).2.2; clear CC PP TS HB HT hHeld; go_simp)
      (try simp only [Act.put, List.setIfInBounds_toArray, List.set_cons_zero, List.set_cons_succ])
      refine wpAnyH_ready (rs := [13]) (by kernel_rfl) (by simp) ?_
      refine AllReadyH.cons rfl (fun K hK => ?_) AllReadyH.nil
      refine itY (by rfl) ?_
      refine wp_copyI wr.drew (.tmp 25) rfl W0.heap.size pc (by kernel_rfl) (PP.out _ HB.out.drew) hnl.out HB.out.size ?_
      intro v1 X1 o1 g1 a1
      have V1 : Hid (∃ ba n c, v1 = .slice ba n c) := by
        obtain ⟨b1, c1, hv1, _⟩ := own_sl o1
        exact ⟨_, _, _, hv1⟩
      have G1 : Hid (Below wr.heap.size wr X1) := ⟨g1.os, g1.tape, g1.output, g1.size, fun i hi => g1.block i hi (by simp)⟩
      have S1 := hide (HB.out.trans (G1.out.mono HB.out.size))
      refine hK.out _ _ (S1.out) (fun hHeld => ?_)
      clear hK
      (try simp only [Act.put, List.setIfInBounds_toArray, List.set_cons_zero, List.set_cons_succ])
      have O1 := hide o1
      have GG := hide g1
      clear o1 g1 a1
      refine wpAnyH_ready (rs := [14]) (by kernel_rfl) (by simp) ?_
      refine AllReadyH.cons rfl (fun K hK => ?_) AllReadyH.nil
      refine itY (by rfl) ?_
      refine wp_exec (exec_buildNv (z := z) (v := v1) V1.out (.tmp 19) (.tmp 26) rfl (by kernel_rfl) (by kernel_rfl)) ?_
      refine hK.out _ _ (S1.out) (fun hHeld => ?_)
      clear hK
      (try simp only [Act.put, List.setIfInBounds_toArray, List.set_cons_zero, List.set_cons_succ])
      refine wpAnyH_ready (rs := [15]) (by kernel_rfl) (by simp) ?_
      refine AllReadyH.cons rfl (fun K hK => ?_) AllReadyH.nil
      refine itY (by rfl) ?_
      refine wp_bsNv (z := z) (v := v1) V1.out (.tmp 27) rfl (by kernel_rfl) ?_
      refine hK.out _ _ ((S1.out.alloc S1.out.size _)) (fun hHeld => ?_)
      clear hK
      (try simp only [Act.put, List.setIfInBounds_toArray, List.set_cons_zero, List.set_cons_succ])
      refine wpAnyH_ready (rs := [16]) (by kernel_rfl) (by simp) ?_
      refine AllReadyH.cons rfl (fun K hK => ?_) AllReadyH.nil
      refine itY (by rfl) ?_
      have T1 : Hid (Tw W0.heap.size (X1.alloc (.cells #[.int .i64 z, v1] 53)) ns (.slice ba zs.length cp) zs) := (HT.out.keep G1.out).keep ((Below.refl _ _).alloc (Nat.le_refl _) _)
      refine wp_append_own (X1.alloc (.cells #[.int .i64 z, v1] 53)) (.tmp 13) (.tmp 28) 26 ?hAo W0.heap.size 53 i0 _ 2 32 Tryz.underlying26 hi0 hz0 hz1 hz2 ?hAz (by decide) (.slice ba zs.length cp) zs.length (ndc zs) ?hAs T1.out.row ⟨X1.heap.size, 0, none⟩ 1 1 (ndc [(z, v1)]) ?hAx rfl (nd_cells X1 z v1) (nd_one (own_one O1.out)) (by unfold maxLen; omega) (by omega) (by have := S1.out.size; simp; omega) ?hAk
      case hAo => rfl
      case hAz => rfl
      case hAs => kernel_rfl
      case hAx => kernel_rfl
      intro vl' X3 o3 g3 n3
      clear n3
      have T3 := hide (TS.out X1 X3 vl' _ O1.out ⟨GG.out.os, GG.out.tape, GG.out.output, GG.out.size, GG.out.block⟩ o3 g3)
      have S3 : Hid (Below W0.heap.size W0 X3) := (S1.out.alloc S1.out.size _).grown g3 (by have := S1.out.size; simp; omega) (fun j hj => (own_lt T1.out.row hj).1)
      clear o3 g3
      refine hK.out _ _ (S3.out) (fun hHeld => ?_)
      clear hK
      (try simp only [Act.put, List.setIfInBounds_toArray, List.set_cons_zero, List.set_cons_succ])
      refine wpAnyH_ready (rs := [17]) (by kernel_rfl) (by simp) ?_
      refine AllReadyH.cons rfl (fun K hK => ?_) AllReadyH.nil
      go_simp
      refine hK.out _ _ (S3.out) (fun hHeld => ?_)
      clear hK
      (try simp only [Act.put, List.setIfInBounds_toArray, List.set_cons_zero, List.set_cons_succ])
      refine wpAnyH_done (by kernel_rfl) ?_ _
      clear hHeld CC PP TS HT HB O1 GG G1 S1 T1
      go_wp2_with fail
      go_roundw
      case rel => exact ⟨zs ++ [(z, v1)], by simp; omega, by simp, T3.out, S3.out⟩
      case measure => simp [intOf]; omega
    case neg =>
      have hqe : zs.length = ns.length := by omega
      rw [hqe] at HT ⊢
      have hqi : ¬ (ns.length : Int) < (ns.length : Int) := by omega
      have nvw := (C0.out.below HB.out).nv
      obtain ⟨W5, hW5⟩ : ∃ W5, W5 = wr.alloc (.cells (clA st x (.slice ao ns.length cap)) 28) := ⟨_, rfl⟩
      have C5 : Hid (ClAt W5 wr.heap.size st x (.slice ao ns.length cap)) := by rw [hW5]; exact new_cl _ _ _ _
      have B5 : Hid (Below wr.heap.size wr W5) := by rw [hW5]; exact (Below.refl _ _).alloc (Nat.le_refl _) _
      have f5 : W5.frozen? ⟨wr.heap.size, 22, none⟩ = false := by unfold World.frozen?; rw [show W5.heap[wr.heap.size]? = _ from C5.out]; simp
      have n5 := C5.out.nv
      have CW := hide (C0.out.below HB.out)
      go_upto_region 7 with (first | (refine wpList_loadCl rfl (.tmp 1) rfl w.heap.size st x _ rfl CW.out ?_) | (refine wpList_storeCl (w0 := wr) rfl (.tmp 5) (.tmp 30) rfl _ rfl rfl st x _ rfl rfl _ rfl rfl ?_))
      rw [← hW5]
      clear hW5
      have T5 := HT.out.keep B5.out
      obtain ⟨X6, hX6⟩ : ∃ X6, X6 = W5.setCell ⟨wr.heap.size, 22, none⟩ (.slice ba ns.length cp) := ⟨_, rfl⟩
      have C6 : Hid (ClAt X6 wr.heap.size st x (.slice ba ns.length cp)) := by rw [hX6]; exact C5.out.set _
      have B6 : Hid (Below wr.heap.size wr X6) := by rw [hX6]; exact set_below B5.out (Nat.le_refl _)
      have hrs : Hid (w.heap.size + 1 < wr.heap.size) := by have := HB.out.size; have := s0.out; show _ < _; omega
      have R6 : Hid (ClAt X6 (w.heap.size + 1) ⟨#[]⟩ zx (.slice none 0 0)) := (B6.out.block _ hrs.out).trans ((HB.out.block _ (by have := s0.out; omega)).trans R0.out)
      go_upto_region 8 with fail
      rw [← hX6]
      clear hX6 n5 f5 nvw
      go_wp2_with (first | (refine wpList_loadCl rfl (.tmp 5) rfl wr.heap.size st x _ rfl C6.out ?_) | (refine wpList_store_row rfl 28 (.tmp 2) (.tmp 33) rfl (w.heap.size + 1) (clA st x (.slice ba ns.length cp)) rfl rfl 28 _ R6.out infoCl rfl (clA_one st x rfl) ?_))
      have E6 : ClAt (X6.setRow (w.heap.size + 1) (clA st x (.slice ba ns.length cp))) (w.heap.size + 1) st x (.slice ba ns.length cp) := setRow_heap X6 (w.heap.size + 1) _ _ 28 _ R6.out
      have oth : ∀ i, i ≠ w.heap.size + 1 → (X6.setRow (w.heap.size + 1) (clA st x (.slice ba ns.length cp))).heap[i]? = X6.heap[i]? := fun i hi => setRow_other X6 (w.heap.size + 1) i _ (fun e => hi (by first | exact e | exact e.symm))
      have T6 := HT.out.keep B6.out
      have T7 : Tw W0.heap.size (X6.setRow (w.heap.size + 1) (clA st x (.slice ba ns.length cp))) ns (.slice ba ns.length cp) zs := ⟨own_keep T6.row fun g hg => oth g (by have := (own_lt T6.row hg).1; have := s0.out; omega), T6.z, fun q hq hq' => own_keep (T6.p q hq hq') fun g hg => oth g (by have := (own_lt (T6.p q hq hq') hg).1; have := s0.out; omega)⟩
      rw [s0.out] at T7
      have B7 : Below w.heap.size w (X6.setRow (w.heap.size + 1) (clA st x (.slice ba ns.length cp))) := below_setRow (B0.out.trans ((HB.out.trans (B6.out.mono HB.out.size)).mono B0.out.size)) (by omega) _
      refine bodyPost_ret (v := .agg (clA st x (.slice ba ns.length cp))) (res_cl Tryz.results7 _ st x _ _ (w.heap.size + 1) rfl E6) rfl (by first | exact ⟨_, rfl, zs, hqe, T7, B7⟩ | exact ⟨_, zs, rfl, hqe, T7, B7⟩)
end Go.Proofs.YtioiphonajinmaaGreatDoor
namespace Go.Proofs.YtioiphonajinmaaGreatDoor
open Go.RowKit
/-- what was handed in: the definition, its twin, the lists of nodes and of partitions -/
def hdA (st : ByteArray) (x : Nat → Int) (a b c d : Value) : Array Value := #[.string st, .int .i64 (x 0), .int .i64 (x 1), .int .i64 (x 2), .int .i64 (x 3), .int .i64 (x 4), .int .i64 (x 5), .int .i64 (x 6), .int .i64 (x 7), .int .i64 (x 8), .int .i64 (x 9), .int .i64 (x 10), .int .i64 (x 11), .int .i64 (x 12), .int .i64 (x 13), .int .i64 (x 14), .int .i64 (x 15), .int .i64 (x 16), .int .i64 (x 17), .int .i64 (x 18), .int .i64 (x 19), .int .i64 (x 20), a, .string st, .int .i64 (x 0), .int .i64 (x 1), .int .i64 (x 2), .int .i64 (x 3), .int .i64 (x 4), .int .i64 (x 5), .int .i64 (x 6), .int .i64 (x 7), .int .i64 (x 8), .int .i64 (x 9), .int .i64 (x 10), .int .i64 (x 11), .int .i64 (x 12), .int .i64 (x 13), .int .i64 (x 14), .int .i64 (x 15), .int .i64 (x 16), .int .i64 (x 17), .int .i64 (x 18), .int .i64 (x 19), .int .i64 (x 20), b, c, d]
/-- lists of partitions, as cells -/
theorem infoPl : (Tryz.prog.info? 22).map (fun i => (i.zero, i.size, i.bytes)) = some (some (.slice none 0 0), 1, 24) := by kernel_rfl
/-- what Hand has made so far: the nodes, the lists with their marks -/
structure Hn (base : Nat) (W : World) (ns : List ND) (vn vp : Value) (zs : List (Int × Value)) (ls : List Value) : Prop where
  len : ls.length = zs.length
  rn : W.ownsRow base 53 2 vn zs.length (ndc zs)
  rp : W.ownsRow base 22 1 vp ls.length ls
  z : ∀ (q : Nat) (h : q < zs.length) (h' : q < ns.length), zs[q].1 = ns[q].z
  l : ∀ (q : Nat) (h : q < zs.length) (h1 : q < ls.length) (h' : q < ns.length), ∃ g c, zs[q].2 = .slice (some ⟨g, 0, none⟩) ns[q].ps.length c ∧ ls[q] = .slice (some ⟨g, 0, none⟩) (ns[q].ps.length + 3) c ∧ W.ownsRow base 3 1 ls[q] (ns[q].ps.length + 3) (ints (ns[q].ps ++ [701, 702, 703]))
theorem Hn.keep {base : Nat} {W W' : World} {ns : List ND} {vn vp : Value} {zs : List (Int × Value)} {ls : List Value} (h : Hn base W ns vn vp zs ls) (hk : ∀ g, base ≤ g → g < W.heap.size → W'.heap[g]? = W.heap[g]?) : Hn base W' ns vn vp zs ls :=
  ⟨h.len, own_keep h.rn fun g hg => hk g (own_lt h.rn hg).1 (own_lt h.rn hg).2, own_keep h.rp fun g hg => hk g (own_lt h.rp hg).1 (own_lt h.rp hg).2, h.z, fun q hq h1 hq' => by
    obtain ⟨g, c, e1, e2, o⟩ := h.l q hq h1 hq'
    exact ⟨g, c, e1, e2, own_keep o fun g hg => hk g (own_lt o hg).1 (own_lt o hg).2⟩⟩
end Go.Proofs.YtioiphonajinmaaGreatDoor
