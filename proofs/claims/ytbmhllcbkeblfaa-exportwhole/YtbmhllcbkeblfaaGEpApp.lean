import Derived.Test.YtbmhllcbkeblfaaGEpAsk
import Derived.Test.YtbmhllcbkeblfaaGGcName
import Derived.Laws.AppendOwnNone
import Derived.Deep.MidRow
namespace Go.Proofs.Ytbmhllcbkeblfaa.Cn
open Go.RowKit
set_option maxRecDepth 100000 in
set_option maxHeartbeats 4000000 in
theorem wp_apRow {w : World} {o : Oper} {a : Act} {K : Act → World → Prop} {Q : Exit → Act → World → Prop} (s x : Operand) (t : TypeId) (ho : o.op = .call { callee := .builtin .append, args := #[s, x], argTypes := #[t, t] })
    (base : Nat) (e : TypeId) {z : Value} {size bytes : Nat} (ht : Try.prog.underlying t = some (.slice e)) (hinf : (Try.prog.info? e).map (fun i => (i.zero, i.size, i.bytes)) = some (some z, size, bytes)) (hzs : z.cells.size = size) (hsz : 0 < size)
    (va : Value) (na : Nat) (xa : List Value) (hx : a.eval s = va) (hva : w.ownsRow base e size va na xa) (base2 : Nat) (vb : Value) (nb : Nat) (xb : List Value) (hy : a.eval x = vb) (hvb : w.ownsRow base2 e size vb nb xb) (h1 : ∀ u ∈ xb, u.oneCell' = true)
    (h63 : na + nb ≤ maxLen) (hbytes : (na + nb) * bytes ≤ 140737488355328) (hb : base ≤ w.heap.size)
    (h : ∀ v' w', w'.ownsRow base e size v' (na + nb) (xa ++ xb) → w.grownBy w' va.ownBlock → (v'.ownBlock = va.ownBlock ∨ v'.ownBlock = some w.heap.size) → K (a.put o.dst v') w') : o.wp Try.prog a w K Q := by
  obtain ⟨i0, hi, hz0, hz1, hz2⟩ := info_parts hinf
  rcases hvb.2 with ⟨hv, hz⟩ | ⟨g, cap, cur, hv, _⟩
  · have hrun := run_append_owned_none (P := Try.prog) (w := w) base t o.type e i0 size ht hi va na xa hva
    have hLb : xb = [] := by
      have := hvb.1
      rw [hz, Nat.zero_mul] at this
      exact List.length_eq_zero_iff.1 this
    unfold Oper.wp execOp
    simp only [ho, resolve, invoke, builtin, Sem.run_bind, Sem.run_pure, Result.andThen_ok, List.map_toArray, List.map_cons, List.map_nil, hx, hy, hv, hrun]
    refine h va w ?_ (World.grownBy.refl w _) (Or.inl rfl)
    rw [hLb, hz, List.append_nil, Nat.add_zero]
    exact hva
  · obtain ⟨v', w', hr, h2', h3', _, h5⟩ := run_append_own_at (P := Try.prog) w base t o.type e i0 z size bytes ht hi hz0 hz1 hz2 hzs hsz va na xa hva ⟨g, 0, none⟩ nb cap xb hvb.1 (by
      intro j u hj
      rw [Addr.add_mid, Nat.zero_add]
      obtain ⟨g', c', e1, hc, _⟩ := own_at hvb hj
      rw [hv] at e1
      injection e1 with e1
      injection e1 with e1
      injection e1 with e1
      rw [e1]
      exact hc) h1 h63 hbytes hb
    unfold Oper.wp execOp
    simp only [ho, resolve, invoke, builtin, Sem.run_bind, Sem.run_pure, Result.andThen_ok, List.map_toArray, List.map_cons, List.map_nil, hx, hy, hv, hr]
    exact h v' w' h2' h3' h5
theorem pr_infos : (Try.prog.info? 86).map (fun i => (i.zero, i.size, i.bytes)) = some (some (.agg (prV ⟨⟨#[]⟩, ⟨#[]⟩⟩)), 2, 32) := by kernel_rfl
/-- a new row of one element -/
theorem own_one (w : World) (e sz : Nat) (A : Array Value) (hs : A.size = sz) : (w.alloc (.cells A e)).ownsRow w.heap.size e sz (.slice (some ⟨w.heap.size, 0, none⟩) 1 1) 1 A.toList :=
  ⟨by rw [Nat.one_mul, ← hs, Array.length_toList], .inr ⟨w.heap.size, 1, A, rfl, Nat.le_refl _, heap_last _ _, Nat.le_refl _, by unfold maxLen; omega, by omega, by
    rw [Nat.one_mul, ← hs, ← Array.length_toList]
    exact List.take_length⟩⟩
theorem own_drew {w : World} {b e sz n : Nat} {u : Value} {xs : List Value} (h : w.ownsRow b e sz u n xs) : w.drew.ownsRow b e sz u n xs := h
end Go.Proofs.Ytbmhllcbkeblfaa.Cn
namespace Go.Proofs.Ytbmhllcbkeblfaa
open Go.RowKit
/-- ints, as cells -/
def ints (L : List Int) : List Value := L.map fun n : Int => .int .i64 n
theorem ints_len (L : List Int) : (ints L).length = L.length := by simp [ints]
theorem ints_at (L : List Int) (q : Nat) : (ints L)[q]? = (L[q]?).map fun n : Int => .int .i64 n := by simp [ints]
theorem ints_one (L : List Int) : ∀ u ∈ ints L, u.oneCell' = true := by
  intro u hu
  obtain ⟨n, _, rfl⟩ := List.mem_map.1 hu
  rfl
/-- nodes, as cells -/
def ndc (zs : List (Int × Value)) : List Value := zs.flatMap fun y => [.int .i64 y.1, y.2]
theorem ndc_len (zs : List (Int × Value)) : (ndc zs).length = zs.length * 2 := by
  induction zs with
  | nil => rfl
  | cons a r ih =>
    unfold ndc at *
    simp only [List.flatMap_cons, List.length_append, List.length_cons, List.length_nil, ih]
    omega
theorem ndc_append (a b : List (Int × Value)) : ndc (a ++ b) = ndc a ++ ndc b := List.flatMap_append
theorem ndc_at (zs : List (Int × Value)) (q : Nat) (h : q < zs.length) : (ndc zs)[q * 2]? = some (.int .i64 zs[q].1) ∧ (ndc zs)[q * 2 + 1]? = some zs[q].2 := by
  induction zs generalizing q with
  | nil => simp at h
  | cons a r ih =>
    cases q with
    | zero => exact ⟨rfl, rfl⟩
    | succ q =>
      have h' : q < r.length := by simpa using h
      obtain ⟨e1, e2⟩ := ih q h'
      unfold ndc at *
      simp only [List.flatMap_cons, List.getElem_cons_succ]
      rw [show (q + 1) * 2 = q * 2 + 2 by omega, show q * 2 + 2 + 1 = (q * 2 + 1) + 2 by omega]
      exact ⟨e1, e2⟩
theorem add_pl (b o j : Nat) : (⟨b, o, none⟩ : Addr).add j = ⟨b, o + j, none⟩ := Addr.add_mid b o j
/-- append([]int(nil), l...) -/
theorem run_copyI {N : Nat} (w : World) (base : Nat) (ty : TypeId) {ao : Option Addr} {b o : Nat} (cap : Nat) {L : List Int} (h : PsAt N w ao b o L) (hc : ao = none → cap = 0) (hb : base ≤ w.heap.size) :
    ∃ v' w', (Builtin.append_ #[47, 47] ty #[.slice none 0 0, .slice ao L.length cap]).run Try.prog w = .ok v' w' ∧ w'.ownsRow base 3 1 v' L.length (ints L) ∧ w.grownBy w' none ∧ (∀ g, v'.ownBlock = some g → g = w.heap.size) := by
  obtain ⟨i0, hi0, hz0, hz1, hz2⟩ := info_parts infoInt
  have hl := h.len
  cases ao with
  | none =>
    have h0 : L.length = 0 := by
      apply Classical.byContradiction
      intro hn
      have := h.at0 (by omega)
      cases this
    have hL : L = [] := List.length_eq_zero_iff.1 h0
    subst hL
    rw [hc rfl]
    have hrun := run_append_owned_none (P := Try.prog) (w := w) base 47 ty 3 i0 1 Try.underlying47 hi0 (.slice none 0 0) 0 [] (World.ownsRow_nil _ _ _ _)
    exact ⟨_, _, hrun, World.ownsRow_nil _ _ _ _, ⟨rfl, rfl, rfl, Nat.le_refl _, fun _ _ _ => rfl⟩, fun g hg => by simp [Value.ownBlock] at hg⟩
  | some ad =>
    obtain ⟨v', w', hr, h2, h3, _, h5⟩ := run_append_own_at (P := Try.prog) w base 47 ty 3 i0 (.int .i64 0) 1 8 Try.underlying47 hi0 hz0 hz1 hz2 rfl (by decide) (.slice none 0 0) 0 [] (World.ownsRow_nil _ _ _ _) ad L.length cap (ints L) (by rw [ints_len]; omega) (fun j u hj => by
      rw [ints_at] at hj
      cases hq : L[j]? with
      | none => rw [hq] at hj; cases hj
      | some n =>
        rw [hq] at hj
        have hjl : j < L.length := (List.getElem?_eq_some_iff.1 hq).1
        have ha := h.at0 (by omega)
        simp only [Option.some.injEq] at ha
        subst ha
        rw [add_pl]
        have := h.c j hjl
        have e : L[j] = n := (List.getElem?_eq_some_iff.1 hq).2
        rw [e] at this
        simp only [Option.map_some] at hj
        rw [← hj]
        exact this) (ints_one L) (by unfold maxLen; omega) (by omega) hb
    refine ⟨v', w', hr, ?_, h3, fun g hg => ?_⟩
    · rw [Nat.zero_add, List.nil_append] at h2
      exact h2
    · rcases h5 with h5 | h5
      · rw [h5] at hg
        simp [Value.ownBlock] at hg
      · rw [h5] at hg
        cases hg
        rfl
theorem wp_copyI {N : Nat} (w : World) {op : Oper} {a : Act} {K : Act → World → Prop} {Q : Exit → Act → World → Prop} (x : Operand) (ho : op.op = .call { callee := .builtin .append, args := #[.const (.slice none 0 0), x], argTypes := #[47, 47] }) (base : Nat) {ao : Option Addr} {b o : Nat} (cap : Nat) {L : List Int} (hx : a.eval x = .slice ao L.length cap) (h : PsAt N w ao b o L) (hc : ao = none → cap = 0) (hb : base ≤ w.heap.size)
    (hK : ∀ v' w', w'.ownsRow base 3 1 v' L.length (ints L) → w.grownBy w' none → (∀ g, v'.ownBlock = some g → g = w.heap.size) → K (a.put op.dst v') w') : op.wp Try.prog a w K Q := by
  obtain ⟨v', w', hr, h1, h2, h3⟩ := run_copyI w base op.type cap h hc hb
  have hs : a.eval (.const (.slice none 0 0)) = .slice none 0 0 := rfl
  unfold Oper.wp execOp
  simp only [ho, resolve, invoke, builtin, Sem.run_bind, Sem.run_pure, Result.andThen_ok, List.map_toArray, List.map_cons, List.map_nil, hs, hx, hr]
  exact hK v' w' h1 h2 h3
theorem wpList_copyI {N : Nat} (w : World) {ops : Array Oper} {rest : List Oper} {op : Oper} {a : Act} {Q : Exit → Act → World → Prop} (hgd : op.guard = none) (x : Operand) (ho : op.op = .call { callee := .builtin .append, args := #[.const (.slice none 0 0), x], argTypes := #[47, 47] }) (base : Nat) {ao : Option Addr} {b o : Nat} (cap : Nat) {L : List Int} (hx : a.eval x = .slice ao L.length cap) (h : PsAt N w ao b o L) (hc : ao = none → cap = 0) (hb : base ≤ w.heap.size)
    (hK : ∀ v' w', w'.ownsRow base 3 1 v' L.length (ints L) → w.grownBy w' none → (∀ g, v'.ownBlock = some g → g = w.heap.size) → wpList Try.prog ops Q rest (a.put op.dst v') w') : wpList Try.prog ops Q (op :: rest) a w :=
  wpList_plain hgd fun _ hK' => wp_copyI w x ho base cap hx h hc hb (fun v' w' a b c => hK' _ _ (hK v' w' a b c))
/-- where rows of unlike types lie apart -/
theorem own_apart {w : World} {b1 b2 n1 n2 s1 s2 : Nat} {t1 t2 : TypeId} {v1 v2 : Value} {x1 x2 : List Value} (h1 : w.ownsRow b1 t1 s1 v1 n1 x1) (h2 : w.ownsRow b2 t2 s2 v2 n2 x2) (ht : t1 ≠ t2) : ∀ g, v1.ownBlock = some g → v2.ownBlock ≠ some g := by
  intro g hg1 hg2
  rcases h1.2 with ⟨rfl, _⟩ | ⟨g1, c1, u1, rfl, _, k1, _⟩
  · simp [Value.ownBlock] at hg1
  · rcases h2.2 with ⟨rfl, _⟩ | ⟨g2, c2, u2, rfl, _, k2, _⟩
    · simp [Value.ownBlock] at hg2
    · simp [Value.ownBlock] at hg1 hg2
      subst hg1
      subst hg2
      have := k1.symm.trans k2
      simp only [Option.some.injEq, Obj.cells.injEq] at this
      exact ht this.2.1
theorem own_keep {X X' : World} {base sz n : Nat} {e : TypeId} {v : Value} {xs : List Value} (h : X.ownsRow base e sz v n xs) (hk : ∀ g, v.ownBlock = some g → X'.heap[g]? = X.heap[g]?) : X'.ownsRow base e sz v n xs := by
  refine ⟨h.1, ?_⟩
  rcases h.2 with e | ⟨g, cap, cur, rfl, hb, hg, hr⟩
  · exact Or.inl e
  · exact Or.inr ⟨g, cap, cur, rfl, hb, (hk g (by simp [Value.ownBlock])).trans hg, hr⟩
theorem own_lt {X : World} {base sz n g : Nat} {e : TypeId} {v : Value} {xs : List Value} (h : X.ownsRow base e sz v n xs) (hg : v.ownBlock = some g) : base ≤ g ∧ g < X.heap.size := by
  rcases h.2 with ⟨rfl, _⟩ | ⟨g', cap, cur, rfl, hb, hg', hr⟩
  · simp [Value.ownBlock] at hg
  · simp [Value.ownBlock] at hg
    subst hg
    exact ⟨hb, blk_lt hg'⟩
theorem own_grown {X X' : World} {base sz n : Nat} {e : TypeId} {v : Value} {xs : List Value} {row : Option Nat} (h : X.ownsRow base e sz v n xs) (hg : X.grownBy X' row) (hr : ∀ g, v.ownBlock = some g → row ≠ some g) : X'.ownsRow base e sz v n xs :=
  own_keep h fun g hw => hg.block g (own_lt h hw).2 (fun e => hr g hw e.symm)
theorem own_sl {w : World} {base sz n : Nat} {e : TypeId} {v : Value} {xs : List Value} (h : w.ownsRow base e sz v n xs) : ∃ ba cap, v = .slice ba n cap ∧ (ba = none → cap = 0) := by
  rcases h.2 with ⟨hv, hz⟩ | ⟨g, cap, cur, hv, _⟩
  · exact ⟨none, 0, by rw [hv, hz], fun _ => rfl⟩
  · exact ⟨_, _, hv, fun e => by cases e⟩
theorem own_one {w : World} {base sz n : Nat} {e : TypeId} {v : Value} {xs : List Value} (h : w.ownsRow base e sz v n xs) : v.oneCell' = true := by
  obtain ⟨ba, cap, rfl, _⟩ := own_sl h
  rfl
/-- a list of one's own, as it may be read -/
theorem own_ps {w : World} {base n : Nat} {v : Value} {L : List Int} (h : w.ownsRow base 3 1 v n (ints L)) (hn : n = L.length) (hl : L.length ≤ 17592186043904) : Pv w.heap.size w v L := by
  subst hn
  obtain ⟨ba, cap, rfl, _⟩ := own_sl h
  rcases h.2 with ⟨hv, hz⟩ | ⟨g, cap', cur, hv, hb, hg, _⟩
  · simp only [Value.slice.injEq] at hv
    obtain ⟨rfl, _, rfl⟩ := hv
    exact ⟨none, 0, 0, 0, rfl, fun e => by omega, fun e => by omega, fun q hq => by omega, hl⟩
  · simp only [Value.slice.injEq, true_and] at hv
    obtain ⟨rfl, rfl⟩ := hv
    refine ⟨_, g, 0, cap, rfl, fun _ => rfl, fun _ => blk_lt hg, fun q hq => ?_, hl⟩
    rw [Nat.zero_add, h.cellAt q (by omega), ints_at, List.getElem?_eq_getElem hq]
    rfl
end Go.Proofs.Ytbmhllcbkeblfaa
namespace Go.Proofs.Ytbmhllcbkeblfaa
open Go.RowKit
theorem infoNd : (Try.prog.info? 79).map (fun i => (i.zero, i.size, i.bytes)) = some (some (.agg #[.int .i64 0, .slice none 0 0]), 2, 32) := by kernel_rfl
theorem nd_cells (w : World) (z : Int) (v : Value) : ∀ j u, (ndc [(z, v)])[j]? = some u → (w.alloc (.cells #[.int .i64 z, v] 79)).cell? ((⟨w.heap.size, 0, none⟩ : Addr).add j) = some u := by
  intro j u hj
  have e := heap_last w (.cells #[.int .i64 z, v] 79)
  match j, hj with
  | 0, hj => simp [ndc] at hj; subst hj; rw [add_pl]; unfold World.cell?; rw [e]; rfl
  | 1, hj => simp [ndc] at hj; subst hj; rw [add_pl]; unfold World.cell?; rw [e]; rfl
  | (j + 2), hj => simp [ndc] at hj
theorem nd_one {z : Int} {v : Value} (hv : v.oneCell' = true) : ∀ u ∈ ndc [(z, v)], u.oneCell' = true := by
  intro u hu
  simp [ndc] at hu
  rcases hu with rfl | rfl
  · rfl
  · exact hv
/-- the nodes that are made so far -/
structure Tw (base : Nat) (W : World) (ns : List ND) (vl : Value) (zs : List (Int × Value)) : Prop where
  row : W.ownsRow base 79 2 vl zs.length (ndc zs)
  z : ∀ (q : Nat) (h : q < zs.length) (h' : q < ns.length), zs[q].1 = ns[q].z
  p : ∀ (q : Nat) (h : q < zs.length) (h' : q < ns.length), W.ownsRow base 3 1 zs[q].2 ns[q].ps.length (ints ns[q].ps)
theorem Tw.keep {base : Nat} {W W' : World} {ns : List ND} {vl : Value} {zs : List (Int × Value)} (h : Tw base W ns vl zs) (hb : Below W.heap.size W W') : Tw base W' ns vl zs :=
  ⟨own_keep h.row fun g hg => hb.block g (own_lt h.row hg).2, h.z, fun q hq hq' => own_keep (h.p q hq hq') fun g hg => hb.block g (own_lt (h.p q hq hq') hg).2⟩
/-- one node more -/
theorem Tw.step {base : Nat} {W X1 X3 : World} {ns : List ND} {vl vl' v1 : Value} {zs : List (Int × Value)} (h : Tw base W ns vl zs) (hi : zs.length < ns.length) (o1 : X1.ownsRow base 3 1 v1 ns[zs.length].ps.length (ints ns[zs.length].ps)) (g1 : W.grownBy X1 none) (o3 : X3.ownsRow base 79 2 vl' (zs.length + 1) (ndc zs ++ ndc [(ns[zs.length].z, v1)])) (g3 : (X1.alloc (.cells #[.int .i64 ns[zs.length].z, v1] 79)).grownBy X3 vl.ownBlock) : Tw base X3 ns vl' (zs ++ [(ns[zs.length].z, v1)]) := by
  have b1 : Below W.heap.size W X1 := ⟨g1.os, g1.tape, g1.output, g1.size, fun i hi => g1.block i hi (by simp)⟩
  have t1 := h.keep b1
  have b2 : Below X1.heap.size X1 (X1.alloc (.cells #[.int .i64 ns[zs.length].z, v1] 79)) := (Below.refl _ _).alloc (Nat.le_refl _) _
  have t2 := t1.keep b2
  have o2 := own_keep (X' := X1.alloc (.cells #[.int .i64 ns[zs.length].z, v1] 79)) o1 fun g hg => b2.block g (own_lt o1 hg).2
  refine ⟨?_, fun q hq hq' => ?_, fun q hq hq' => ?_⟩
  · rw [List.length_append, ndc_append]
    exact o3
  · by_cases hql : q < zs.length
    · rw [List.getElem_append_left hql]
      exact h.z q hql hq'
    · have hqe : q = zs.length := by simp at hq; omega
      subst hqe
      simp
  · by_cases hql : q < zs.length
    · rw [List.getElem_append_left hql]
      exact own_grown (t2.p q hql hq') g3 (fun g hg e => own_apart (t2.p q hql hq') t2.row (by decide) g hg e)
    · have hqe : q = zs.length := by simp at hq; omega
      subst hqe
      simp only [List.getElem_append_right (Nat.le_refl _), Nat.sub_self, List.getElem_cons_zero]
      exact own_grown o2 g3 (fun g hg e => own_apart o2 t2.row (by decide) g hg e)
/-- the nodes that are made, as they may be read -/
theorem Tw.nodes {base : Nat} {W : World} {ns : List ND} {vl : Value} {zs : List (Int × Value)} (h : Tw base W ns vl zs) (hl : zs.length = ns.length) (hlen : ns.length ≤ 4398046510976) (hps : ∀ (q : Nat) (h : q < ns.length), ns[q].ps.length ≤ 17592186043904) : ∃ ao b cap, vl = .slice ao ns.length cap ∧ NsAt W.heap.size W ao b 0 (fun q => (zs[q]?.map (·.2)).getD (.slice none 0 0)) ns := by
  obtain ⟨ba, cap, hv, _⟩ := own_sl h.row
  rw [hl] at hv
  have hp : ∀ (q : Nat) (hq : q < ns.length), Pv W.heap.size W ((zs[q]?.map (·.2)).getD (.slice none 0 0)) ns[q].ps := fun q hq => by
    rw [List.getElem?_eq_getElem (by omega)]
    exact own_ps (h.p q (by omega) hq) rfl (hps q hq)
  have hn : ∀ (q : Nat) (hq : q < ns.length) (c : Nat), (zs[q]?.map (·.2)).getD (.slice none 0 0) = .slice none ns[q].ps.length c → c = 0 := fun q hq c he => by
    rw [List.getElem?_eq_getElem (by omega)] at he
    obtain ⟨ba', cap', hv', hz⟩ := own_sl (h.p q (by omega) hq)
    simp only [Option.map_some, Option.getD_some] at he
    rw [hv'] at he
    simp only [Value.slice.injEq, true_and] at he
    rw [← he.2]
    exact hz he.1
  rcases h.row.2 with ⟨hv', hz⟩ | ⟨g, cap', cur, hv', hb, hg, _⟩
  · have h0 : ns.length = 0 := by omega
    exact ⟨ba, 0, cap, hv, fun e => by omega, fun e => by omega, fun q hq => by omega, fun q hq => by omega, hp, hlen, hn⟩
  · rw [hl] at hv'
    obtain ⟨rfl, rfl⟩ : ba = some ⟨g, 0, none⟩ ∧ cap = cap' := by
      have := hv.symm.trans hv'
      simpa using this
    have row := h.row
    rw [hv, hl] at row
    refine ⟨_, g, cap, hv, fun _ => rfl, fun _ => blk_lt hg, fun q hq => ?_, fun q hq => ?_, hp, hlen, hn⟩
    · rw [Nat.zero_add, row.cellAt (q * 2) (by omega), (ndc_at zs q (by omega)).1, h.z q (by omega) hq]
    · rw [Nat.zero_add, row.cellAt (q * 2 + 1) (by omega), (ndc_at zs q (by omega)).2, List.getElem?_eq_getElem (by omega)]
      rfl
theorem wp_exec {op : Oper} {a : Act} {w : World} {K : Act → World → Prop} {Q : Exit → Act → World → Prop} {v : Value} (h : (execOp a.eval op).run Try.prog w = .ok (.value v) w) (hk : K (a.put op.dst v) w) : op.wp Try.prog a w K Q := by
  unfold Oper.wp
  rw [h]
  exact hk
theorem built_nd (z : Int) (ba : Option Addr) (n c : Nat) : Try.prog.built 79 [(0, .int .i64 z), (1, .slice ba n c)] = some #[.int .i64 z, .slice ba n c] := by kernel_rfl
theorem exec_buildNd {ρ : Operand → Value} {op : Oper} {w : World} {z : Int} {ba : Option Addr} {n c : Nat} (x y : Operand) (ho : op.op = .build 79 #[(0, x), (1, y)]) (hx : ρ x = .int .i64 z) (hy : ρ y = .slice ba n c) : (execOp ρ op).run Try.prog w = .ok (.value (.agg #[.int .i64 z, .slice ba n c])) w := by
  unfold execOp
  have hb := run_build (P := Try.prog) w 79 #[(0, .int .i64 z), (1, .slice ba n c)] _ (built_nd z ba n c)
  have hm : (#[(0, x), (1, y)] : Array (Nat × Operand)).map (fun (i, x) => (i, ρ x)) = #[(0, .int .i64 z), (1, .slice ba n c)] := by simp only [List.map_toArray, List.map_cons, List.map_nil, hx, hy]
  simp only [ho, hm, Sem.run_bind, hb, Result.andThen_ok, Sem.run_pure]
theorem exec_buildNv {ρ : Operand → Value} {op : Oper} {w : World} {z : Int} {v : Value} (hv : ∃ ba n c, v = .slice ba n c) (x y : Operand) (ho : op.op = .build 79 #[(0, x), (1, y)]) (hx : ρ x = .int .i64 z) (hy : ρ y = v) : (execOp ρ op).run Try.prog w = .ok (.value (.agg #[.int .i64 z, v])) w := by
  obtain ⟨ba, n, c, rfl⟩ := hv
  exact exec_buildNd x y ho hx hy
theorem fill_nd (z : Int) (ba : Option Addr) (n c : Nat) (zz : Value) (hz : zz = .agg #[.int .i64 0, .slice none 0 0]) : Instr.fill (fun i => some (i * 2, 2)) ((Array.range (1 * 2)).map (zz.cells[· % zz.cells.size]!)) [(0, .agg #[.int .i64 z, .slice ba n c])] = some #[.int .i64 z, .slice ba n c] := by
  subst hz
  kernel_rfl
theorem wp_bsNd {w : World} {op : Oper} {a : Act} {K : Act → World → Prop} {Q : Exit → Act → World → Prop} (x : Operand) (ho : op.op = .buildSlice 22 1 #[(0, x)]) {z : Int} {ba : Option Addr} {n c : Nat} (hx : a.eval x = .agg #[.int .i64 z, .slice ba n c])
    (h : K (a.put op.dst (.slice (some ⟨w.heap.size, 0, none⟩) 1 1)) (w.alloc (.cells #[.int .i64 z, .slice ba n c] 79))) : op.wp Try.prog a w K Q := by
  obtain ⟨i0, hi, hz0, hz1, hz2⟩ := info_parts infoNd
  refine wp_buildSlice 22 79 1 _ ho #[.int .i64 z, .slice ba n c] i0 _ Try.underlying22 hi hz0 (by rw [hz1]; decide) (by rw [hz1]; decide) ?_ h
  rw [hz1]
  simp only [List.map_toArray, List.map_cons, List.map_nil, hx]
  exact fill_nd z ba n c _ rfl
theorem wp_bsNv {w : World} {op : Oper} {a : Act} {K : Act → World → Prop} {Q : Exit → Act → World → Prop} {z : Int} {v : Value} (hv : ∃ ba n c, v = .slice ba n c) (x : Operand) (ho : op.op = .buildSlice 22 1 #[(0, x)]) (hx : a.eval x = .agg #[.int .i64 z, v])
    (h : K (a.put op.dst (.slice (some ⟨w.heap.size, 0, none⟩) 1 1)) (w.alloc (.cells #[.int .i64 z, v] 79))) : op.wp Try.prog a w K Q := by
  obtain ⟨ba, n, c, rfl⟩ := hv
  exact wp_bsNd x ho hx h
end Go.Proofs.Ytbmhllcbkeblfaa
namespace Go.Proofs.Ytbmhllcbkeblfaa
open Go.RowKit
def zx : Nat → Int := fun _ => 0
theorem clA_one (st : ByteArray) (x : Nat → Int) {nv : Value} (h : nv.oneCell' = true) : (clA st x nv).all (·.oneCell') = true := by
  simp [clA, Value.oneCell'] at h ⊢
  exact h
theorem wpList_storeCl {w0 w : World} {ops : Array Oper} {rest : List Oper} {o : Oper} {a : Act} {Q : Exit → Act → World → Prop} (hgd : o.guard = none) (p y : Operand) (ho : o.op = .store 24 p y) (b : Nat) (hp : a.eval p = .pointer (some ⟨b, 0, none⟩)) (hb : b = w0.heap.size) (st : ByteArray) (x : Nat → Int) (nv : Value) (hn : nv.oneCell' = true) (hx : a.eval y = .agg (clA st x nv)) (c : Array Value) (hc : c.size = 23) (hw : w = w0.alloc (.cells c 24))
    (h : wpList Try.prog ops Q rest (a.put o.dst undef) (w0.alloc (.cells (clA st x nv) 24))) : wpList Try.prog ops Q (o :: rest) a w := by
  subst hw
  subst hb
  refine wpList_plain hgd fun K hK => ?_
  unfold Oper.wp execOp
  simp only [ho, Sem.run_bind, Sem.run_pure, Result.andThen_ok, hp, hx, run_storeAt_new w0 24 c (clA st x nv) infoCl (by rw [hc]; rfl) (clA_one st x hn)]
  exact hK _ _ h
theorem ClAt.set {w : World} {b : Nat} {st : ByteArray} {x : Nat → Int} {nv : Value} (h : ClAt w b st x nv) (vl : Value) : ClAt (w.setCell ⟨b, 22, none⟩ vl) b st x vl := by
  unfold ClAt at *
  simp only [World.setCell, Array.getElem?_modify, if_true, h, Option.map_some]
  rfl
theorem res_cl {fn : Func} {p : Tmp} (h : fn.results = #[.cell p 24]) (tmps : Array Value) (st : ByteArray) (x : Nat → Int) (nv : Value) (w : World) (b : Nat) (ht : tmps.getD p undef = .pointer (some ⟨b, 0, none⟩)) (hO : ClAt w b st x nv) : (results fn tmps).run Try.prog w = .ok (.agg (clA st x nv)) w := by
  have hl : (loadVar 24 ⟨b, 0, none⟩).run Try.prog w = .ok (.agg (clA st x nv)) w := run_loadVar_row _ _ 24 24 (clA st x nv) (0, 0) _ hO Try.underlying24 rfl infoCl
  have ht' : tmps[p]?.getD undef = .pointer (some ⟨b, 0, none⟩) := by simpa using ht
  unfold results
  rw [h]
  simp [ht', asAddr, hl]
theorem set_below {w X : World} {G j : Nat} {v : Value} {n : Nat} (h : Below n w X) (hG : n ≤ G) : Below n w (X.setCell ⟨G, j, none⟩ v) := below_setC h hG
end Go.Proofs.Ytbmhllcbkeblfaa
namespace Go.Proofs.Ytbmhllcbkeblfaa
open Go.RowKit
/-- what was handed in: the definition, its twin, the lists of nodes and of partitions -/
def hdA (st : ByteArray) (x : Nat → Int) (a b c d : Value) : Array Value := #[.string st, .int .i64 (x 0), .int .i64 (x 1), .int .i64 (x 2), .int .i64 (x 3), .int .i64 (x 4), .int .i64 (x 5), .int .i64 (x 6), .int .i64 (x 7), .int .i64 (x 8), .int .i64 (x 9), .int .i64 (x 10), .int .i64 (x 11), .int .i64 (x 12), .int .i64 (x 13), .int .i64 (x 14), .int .i64 (x 15), .int .i64 (x 16), .int .i64 (x 17), .int .i64 (x 18), .int .i64 (x 19), .int .i64 (x 20), a, .string st, .int .i64 (x 0), .int .i64 (x 1), .int .i64 (x 2), .int .i64 (x 3), .int .i64 (x 4), .int .i64 (x 5), .int .i64 (x 6), .int .i64 (x 7), .int .i64 (x 8), .int .i64 (x 9), .int .i64 (x 10), .int .i64 (x 11), .int .i64 (x 12), .int .i64 (x 13), .int .i64 (x 14), .int .i64 (x 15), .int .i64 (x 16), .int .i64 (x 17), .int .i64 (x 18), .int .i64 (x 19), .int .i64 (x 20), b, c, d]
/-- lists of partitions, as cells -/
theorem infoPl : (Try.prog.info? 47).map (fun i => (i.zero, i.size, i.bytes)) = some (some (.slice none 0 0), 1, 24) := by kernel_rfl
/-- what Hand has made so far: the nodes, the lists with their marks -/
structure Hn (base : Nat) (W : World) (ns : List ND) (vn vp : Value) (zs : List (Int × Value)) (ls : List Value) : Prop where
  len : ls.length = zs.length
  rn : W.ownsRow base 79 2 vn zs.length (ndc zs)
  rp : W.ownsRow base 47 1 vp ls.length ls
  z : ∀ (q : Nat) (h : q < zs.length) (h' : q < ns.length), zs[q].1 = ns[q].z
  l : ∀ (q : Nat) (h : q < zs.length) (h1 : q < ls.length) (h' : q < ns.length), ∃ g c, zs[q].2 = .slice (some ⟨g, 0, none⟩) ns[q].ps.length c ∧ ls[q] = .slice (some ⟨g, 0, none⟩) (ns[q].ps.length + 3) c ∧ W.ownsRow base 3 1 ls[q] (ns[q].ps.length + 3) (ints (ns[q].ps ++ [701, 702, 703]))
theorem Hn.keep {base : Nat} {W W' : World} {ns : List ND} {vn vp : Value} {zs : List (Int × Value)} {ls : List Value} (h : Hn base W ns vn vp zs ls) (hk : ∀ g, base ≤ g → g < W.heap.size → W'.heap[g]? = W.heap[g]?) : Hn base W' ns vn vp zs ls :=
  ⟨h.len, own_keep h.rn fun g hg => hk g (own_lt h.rn hg).1 (own_lt h.rn hg).2, own_keep h.rp fun g hg => hk g (own_lt h.rp hg).1 (own_lt h.rp hg).2, h.z, fun q hq h1 hq' => by
    obtain ⟨g, c, e1, e2, o⟩ := h.l q hq h1 hq'
    exact ⟨g, c, e1, e2, own_keep o fun g hg => hk g (own_lt o hg).1 (own_lt o hg).2⟩⟩
end Go.Proofs.Ytbmhllcbkeblfaa
namespace Go.Proofs.Ytbmhllcbkeblfaa
open Go.RowKit
theorem mark_cells (w : World) : ∀ j u, (ints [701, 702, 703])[j]? = some u → (w.alloc (.cells #[.int .i64 701, .int .i64 702, .int .i64 703] 3)).cell? ((⟨w.heap.size, 0, none⟩ : Addr).add j) = some u := by
  intro j u hj
  have e := heap_last w (.cells #[.int .i64 701, .int .i64 702, .int .i64 703] 3)
  match j, hj with
  | 0, hj => simp [ints] at hj; subst hj; rw [add_pl]; unfold World.cell?; rw [e]; rfl
  | 1, hj => simp [ints] at hj; subst hj; rw [add_pl]; unfold World.cell?; rw [e]; rfl
  | 2, hj => simp [ints] at hj; subst hj; rw [add_pl]; unfold World.cell?; rw [e]; rfl
  | (j + 3), hj => simp [ints] at hj
theorem sl_cells (w : World) (v : Value) : ∀ j u, [v][j]? = some u → (w.alloc (.cells #[v] 47)).cell? ((⟨w.heap.size, 0, none⟩ : Addr).add j) = some u := cell_one_new w v 47
theorem own_some {w : World} {base sz n : Nat} {e : TypeId} {v : Value} {xs : List Value} (h : w.ownsRow base e sz v n xs) (hn : 0 < n) : ∃ g cap, v = .slice (some ⟨g, 0, none⟩) n cap := by
  rcases h.2 with ⟨hv, hz⟩ | ⟨g, cap, cur, hv, _⟩
  · omega
  · exact ⟨_, _, hv⟩
set_option maxRecDepth 100000 in
theorem run_cut (w : World) (g n k c : Nat) (hk : k ≤ c) : (Instr.sliceAt 47 (.slice (some ⟨g, 0, none⟩) n c) none (some (.int .i64 (k : Int))) none).run Try.prog w = .ok (.slice (some ⟨g, 0, none⟩) k c) w := by
  have h1 : (k : Int) ≤ (c : Int) := by omega
  have h2 : (0 : Int) ≤ (k : Int) := by omega
  go_simp
theorem exec_cut {ρ : Operand → Value} {op : Oper} {w : World} {g n k c : Nat} (hk : k ≤ c) (x y : Operand) (ho : op.op = .slice 47 x none (some y) none) (hx : ρ x = .slice (some ⟨g, 0, none⟩) n c) (hy : ρ y = .int .i64 (k : Int)) : (execOp ρ op).run Try.prog w = .ok (.value (.slice (some ⟨g, 0, none⟩) k c)) w := by
  unfold execOp
  simp only [ho, hx, hy, Option.map_none, Option.map_some, Sem.run_bind, run_cut w g n k c hk, Result.andThen_ok, Sem.run_pure]
theorem own_cap {w : World} {base sz n m c : Nat} {ba : Option Addr} {e : TypeId} {xs : List Value} (h : w.ownsRow base e sz (.slice ba m c) n xs) : n ≤ c := by
  rcases h.2 with ⟨hv, hz⟩ | ⟨g, cap, cur, hv, _, _, hc, _⟩
  · omega
  · simp only [Value.slice.injEq] at hv
    omega
theorem own_lower {w : World} {base b' sz n : Nat} {e : TypeId} {v : Value} {xs : List Value} (h : w.ownsRow base e sz v n xs) (hb : b' ≤ base) : w.ownsRow b' e sz v n xs := by
  refine ⟨h.1, ?_⟩
  rcases h.2 with e | ⟨g, cap, cur, hv, hg, hr⟩
  · exact Or.inl e
  · exact Or.inr ⟨g, cap, cur, hv, Nat.le_trans hb hg, hr⟩
theorem Tw.lower {base b' : Nat} {W : World} {ns : List ND} {vl : Value} {zs : List (Int × Value)} (h : Tw base W ns vl zs) (hb : b' ≤ base) : Tw b' W ns vl zs := ⟨own_lower h.row hb, h.z, fun q hq hq' => own_lower (h.p q hq hq') hb⟩
theorem own_setH {w : World} {base sz n H j : Nat} {e : TypeId} {v u : Value} {xs : List Value} (h : w.ownsRow base e sz v n xs) (hH : H < base) : (w.setCell ⟨H, j, none⟩ u).ownsRow base e sz v n xs :=
  own_keep h fun g hg => Below.heap_setCell _ _ _ g (fun e => by have := (own_lt h hg).1; simp at e; omega)
/-- one node more -/
theorem Hn.step {base H : Nat} {W X3 X5 X8 : World} {ns : List ND} {vn vp vn' vp' v2 : Value} {zs : List (Int × Value)} {ls : List Value} {g c : Nat} (h : Hn base W ns vn vp zs ls) (hi : zs.length < ns.length) (hH : H < base) (b3 : Below W.heap.size W X3) (hv2 : v2 = .slice (some ⟨g, 0, none⟩) (ns[zs.length].ps.length + 3) c) (o2 : X3.ownsRow base 3 1 v2 (ns[zs.length].ps.length + 3) (ints (ns[zs.length].ps ++ [701, 702, 703])))
    (o5 : X5.ownsRow base 47 1 vp' (ls.length + 1) (ls ++ [v2])) (g5 : (X3.alloc (.cells #[v2] 47)).grownBy X5 vp.ownBlock)
    (o8 : X8.ownsRow base 79 2 vn' (zs.length + 1) (ndc zs ++ ndc [(ns[zs.length].z, .slice (some ⟨g, 0, none⟩) ns[zs.length].ps.length c)])) (g8 : ((X5.setCell ⟨H, 47, none⟩ vp').alloc (.cells #[.int .i64 ns[zs.length].z, .slice (some ⟨g, 0, none⟩) ns[zs.length].ps.length c] 79)).grownBy X8 vn.ownBlock) :
    Hn base (X8.setCell ⟨H, 46, none⟩ vn') ns vn' vp' (zs ++ [(ns[zs.length].z, .slice (some ⟨g, 0, none⟩) ns[zs.length].ps.length c)]) (ls ++ [v2]) := by
  have h3 := h.keep (W' := X3) fun g _ hg => b3.block g hg
  have b4 : Below X3.heap.size X3 (X3.alloc (.cells #[v2] 47)) := (Below.refl _ _).alloc (Nat.le_refl _) _
  have h4 := h3.keep (W' := X3.alloc (.cells #[v2] 47)) fun g _ hg => b4.block g hg
  have o4 := own_keep (X' := X3.alloc (.cells #[v2] 47)) o2 fun g hg => b4.block g (own_lt o2 hg).2
  have m : ∀ {t : TypeId} {sz n : Nat} {v : Value} {xs : List Value}, t ≠ 47 → t ≠ 79 → (X3.alloc (.cells #[v2] 47)).ownsRow base t sz v n xs → (X8.setCell ⟨H, 46, none⟩ vn').ownsRow base t sz v n xs := fun {t} {sz} {n} {v} {xs} t1 t2 hr => by
    have r5 := own_grown hr g5 (fun g hg e => own_apart hr h4.rp t1 g hg e)
    have r6 := own_setH (j := 47) (u := vp') r5 hH
    have b7 : Below (X5.setCell ⟨H, 47, none⟩ vp').heap.size (X5.setCell ⟨H, 47, none⟩ vp') ((X5.setCell ⟨H, 47, none⟩ vp').alloc (.cells #[.int .i64 ns[zs.length].z, .slice (some ⟨g, 0, none⟩) ns[zs.length].ps.length c] 79)) := (Below.refl _ _).alloc (Nat.le_refl _) _
    have r7 := own_keep r6 fun g hg => b7.block g (own_lt r6 hg).2
    have n5 := own_grown h4.rn g5 (fun g hg e => own_apart h4.rn h4.rp (by decide) g hg e)
    have n6 := own_setH (j := 47) (u := vp') n5 hH
    have n7 := own_keep n6 fun g hg => b7.block g (own_lt n6 hg).2
    have r8 := own_grown r7 g8 (fun g hg e => own_apart r7 n7 t2 g hg e)
    exact own_setH (j := 46) (u := vn') r8 hH
  have p8 : (X8.setCell ⟨H, 46, none⟩ vn').ownsRow base 47 1 vp' (ls.length + 1) (ls ++ [v2]) := by
    have r6 := own_setH (j := 47) (u := vp') o5 hH
    have b7 : Below (X5.setCell ⟨H, 47, none⟩ vp').heap.size (X5.setCell ⟨H, 47, none⟩ vp') ((X5.setCell ⟨H, 47, none⟩ vp').alloc (.cells #[.int .i64 ns[zs.length].z, .slice (some ⟨g, 0, none⟩) ns[zs.length].ps.length c] 79)) := (Below.refl _ _).alloc (Nat.le_refl _) _
    have r7 := own_keep r6 fun g hg => b7.block g (own_lt r6 hg).2
    have n5 := own_grown h4.rn g5 (fun g hg e => own_apart h4.rn h4.rp (by decide) g hg e)
    have n6 := own_setH (j := 47) (u := vp') n5 hH
    have n7 := own_keep n6 fun g hg => b7.block g (own_lt n6 hg).2
    exact own_setH (j := 46) (u := vn') (own_grown r7 g8 (fun g hg e => own_apart r7 n7 (by decide) g hg e)) hH
  refine ⟨by simp [h.len], ?_, ?_, fun q hq hq' => ?_, fun q hq h1 hq' => ?_⟩
  · rw [List.length_append, ndc_append]
    exact own_setH o8 hH
  · rw [List.length_append]
    exact p8
  · by_cases hql : q < zs.length
    · rw [List.getElem_append_left hql]
      exact h.z q hql hq'
    · have hqe : q = zs.length := by simp at hq; omega
      subst hqe
      simp
  · by_cases hql : q < zs.length
    · have hql1 : q < ls.length := by have := h.len; omega
      obtain ⟨g', c', e1, e2, oo⟩ := h4.l q hql hql1 hq'
      refine ⟨g', c', ?_, ?_, ?_⟩
      · rw [List.getElem_append_left hql]; exact e1
      · rw [List.getElem_append_left hql1]; exact e2
      · rw [List.getElem_append_left hql1]
        exact m (by decide) (by decide) oo
    · have hqe : q = zs.length := by simp at hq; omega
      subst hqe
      have hle := h.len
      refine ⟨g, c, by simp, ?_, ?_⟩
      · rw [List.getElem_append_right (by omega)]
        simp [hle, hv2]
      · rw [List.getElem_append_right (by omega)]
        simp only [hle, Nat.sub_self, List.getElem_cons_zero]
        exact m (by decide) (by decide) o4
def mk2 : List (Int × Value) := [(801, .slice none 0 0), (802, .slice none 0 0)]
theorem mk2_cells (w : World) : ∀ j u, (ndc mk2)[j]? = some u → (w.alloc (.cells #[.int .i64 801, .slice none 0 0, .int .i64 802, .slice none 0 0] 79)).cell? ((⟨w.heap.size, 0, none⟩ : Addr).add j) = some u := by
  intro j u hj
  have e := heap_last w (.cells #[.int .i64 801, .slice none 0 0, .int .i64 802, .slice none 0 0] 79)
  match j, hj with
  | 0, hj => simp [ndc, mk2] at hj; subst hj; rw [add_pl]; unfold World.cell?; rw [e]; rfl
  | 1, hj => simp [ndc, mk2] at hj; subst hj; rw [add_pl]; unfold World.cell?; rw [e]; rfl
  | 2, hj => simp [ndc, mk2] at hj; subst hj; rw [add_pl]; unfold World.cell?; rw [e]; rfl
  | 3, hj => simp [ndc, mk2] at hj; subst hj; rw [add_pl]; unfold World.cell?; rw [e]; rfl
  | (j + 4), hj => simp [ndc, mk2] at hj
theorem mk2_one : ∀ u ∈ ndc mk2, u.oneCell' = true := by
  intro u hu
  simp [ndc, mk2] at hu
  rcases hu with rfl | rfl | rfl | rfl <;> rfl
end Go.Proofs.Ytbmhllcbkeblfaa
namespace Go.Proofs.Ytbmhllcbkeblfaa
open Go.RowKit
set_option maxRecDepth 100000 in
theorem partV (x : Nat → Int) (i : Nat) (h : i < 21) (w : World) : (part 3 (vA x) (i * 1)).run Try.prog w = .ok (.int .i64 (x i)) w := by
  have : i = 0 ∨ i = 1 ∨ i = 2 ∨ i = 3 ∨ i = 4 ∨ i = 5 ∨ i = 6 ∨ i = 7 ∨ i = 8 ∨ i = 9 ∨ i = 10 ∨ i = 11 ∨ i = 12 ∨ i = 13 ∨ i = 14 ∨ i = 15 ∨ i = 16 ∨ i = 17 ∨ i = 18 ∨ i = 19 ∨ i = 20 := by omega
  clear h
  rcases this with h | h | h | h | h | h | h | h | h | h | h | h | h | h | h | h | h | h | h | h | h <;> rw [h] <;> rfl
theorem loopV (x : Nat → Int) (w : World) : ∀ (l : List Nat), (∀ i ∈ l, i < 21) → (forIn l ((none, ()) : Option Bool × Unit) fun i __s => do
            let __do_lift ← part 3 (vA x) (i * 1)
            let __do_lift_1 ← part 3 (vA x) (i * 1)
            let __do_lift ← Op.equalIn 9999 3 __do_lift __do_lift_1
            if (!__do_lift) = true then pure (ForInStep.done (some false, ())) else pure (ForInStep.yield (none, ())) : Sem (Option Bool × Unit)).run Try.prog w = .ok (none, ()) w
  | [], _ => by simp
  | i :: l, h => by
    have ih := loopV x w l (fun j hj => h j (by simp [hj]))
    have hp := partV x i (h i (by simp)) w
    rw [List.forIn_cons]
    simp only [Sem.run_bind, hp, Result.andThen_ok, run_equalIn_int w 9998 3 .i64 .i64 (x i) (x i) Try.underlying3, beq_self_eq_true, Bool.not_true, Bool.false_eq_true, if_false, Sem.run_pure]
    exact ih
end Go.Proofs.Ytbmhllcbkeblfaa
namespace Go.Proofs.Ytbmhllcbkeblfaa
open Go.RowKit
theorem exec_move {ρ : Operand → Value} {op : Oper} {w : World} {v : Value} (x : Operand) (ho : op.op = .move x) (hx : ρ x = v) : (execOp ρ op).run Try.prog w = .ok (.value v) w := by
  unfold execOp
  simp only [ho, hx, Sem.run_pure]
theorem exec_nil {ρ : Operand → Value} {op : Oper} {w : World} {a : Addr} (x : Operand) (ho : op.op = .nilCheck x) (hx : ρ x = .pointer (some a)) : (execOp ρ op).run Try.prog w = .ok (.value (.pointer (some a))) w := by
  unfold execOp
  simp only [ho, hx, Sem.run_pure]
theorem exec_fa {ρ : Operand → Value} {op : Oper} {w : World} {a a' : Addr} {s : TypeId} {f : Nat} (x : Operand) (ho : op.op = .fieldAddr s x f) (hx : ρ x = .pointer (some a)) (hf : (Instr.fieldAt s (.pointer (some a)) f).run Try.prog w = .ok (.pointer (some a')) w) : (execOp ρ op).run Try.prog w = .ok (.value (.pointer (some a'))) w := by
  unfold execOp
  simp only [ho, hx, hf, Sem.run_bind, Result.andThen_ok, Sem.run_pure]
theorem run_ld {w : World} {t : TypeId} {b o : Nat} {v : Value} (ht : t = 3 ∨ t = 22 ∨ t = 47) (hc : w.cell? ⟨b, o, none⟩ = some v) : (Instr.loadAt t (.pointer (some ⟨b, o, none⟩))).run Try.prog w = .ok v w := by
  rcases ht with rfl | rfl | rfl <;> go_simp
theorem exec_ld {ρ : Operand → Value} {op : Oper} {w : World} {b o : Nat} {t : TypeId} {v : Value} (x : Operand) (ho : op.op = .load t x) (ht : t = 3 ∨ t = 22 ∨ t = 47) (hx : ρ x = .pointer (some ⟨b, o, none⟩)) (hc : w.cell? ⟨b, o, none⟩ = some v) : (execOp ρ op).run Try.prog w = .ok (.value v) w := by
  unfold execOp
  simp only [ho, hx, run_ld ht hc, Sem.run_bind, Result.andThen_ok, Sem.run_pure]
theorem exec_len {ρ : Operand → Value} {op : Oper} {w : World} {ba : Option Addr} {n c : Nat} {t : TypeId} (x : Operand) (ho : op.op = .call { callee := .builtin .len, args := #[x], argTypes := #[t] }) (ht : t = 22 ∨ t = 47) (hx : ρ x = .slice ba n c) : (execOp ρ op).run Try.prog w = .ok (.value (.int .i64 (n : Int))) w := by
  unfold execOp
  rcases ht with rfl | rfl
  · simp only [ho, resolve, invoke, builtin, Sem.run_bind, Sem.run_pure, Result.andThen_ok, List.map_toArray, List.map_cons, List.map_nil, hx]
    go_simp
  · simp only [ho, resolve, invoke, builtin, Sem.run_bind, Sem.run_pure, Result.andThen_ok, List.map_toArray, List.map_cons, List.map_nil, hx]
    go_simp
theorem exec_addi {ρ : Operand → Value} {op : Oper} {w : World} {n : Int} {k : Int} {t2 : TypeId} (x : Operand) (ho : op.op = .binOp .add 3 x (.const (.int .i64 k)) t2) (hx : ρ x = .int .i64 n) (hk : ρ (.const (.int .i64 k)) = .int .i64 k) (h0 : -9223372036854775808 ≤ n + k) (h1 : n + k < 9223372036854775808) : (execOp ρ op).run Try.prog w = .ok (.value (.int .i64 (n + k))) w := by
  unfold execOp
  simp only [ho, hx, hk]
  go_simp
  exact i64_in h0 h1
theorem exec_neqi {ρ : Operand → Value} {op : Oper} {w : World} {n : Int} {t2 : TypeId} (x y : Operand) (ho : op.op = .binOp .neq 3 x y t2) (hx : ρ x = .int .i64 n) (hy : ρ y = .int .i64 n) : (execOp ρ op).run Try.prog w = .ok (.value (.bool false)) w := by
  unfold execOp
  simp only [ho, hx, hy]
  go_simp
theorem exec_pickf {ρ : Operand → Value} {op : Oper} {w : World} (x y z : Operand) (ho : op.op = .pick x y z) (hx : ρ x = .bool false) (hz : ρ z = .bool false) : (execOp ρ op).run Try.prog w = .ok (.value (.bool false)) w := by
  unfold execOp
  simp only [ho, hx, hz]
  go_simp
theorem exec_not {ρ : Operand → Value} {op : Oper} {w : World} (x : Operand) (t : TypeId) (ho : op.op = .unOp .not t x) (hx : ρ x = .bool true) : (execOp ρ op).run Try.prog w = .ok (.value (.bool false)) w := by
  unfold execOp
  simp only [ho, hx]
  go_simp
theorem exec_ixN {ρ : Operand → Value} {op : Oper} {w : World} {b o n c q : Nat} (x y : Operand) (ho : op.op = .indexAddr 22 x y) (hx : ρ x = .slice (some ⟨b, o, none⟩) n c) (hy : ρ y = .int .i64 (q : Int)) (hq : q < n) : (execOp ρ op).run Try.prog w = .ok (.value (.pointer (some ⟨b, o + q * 2, none⟩))) w := by
  have hqi : (q : Int) < (n : Int) := by omega
  unfold execOp
  simp only [ho, hx, hy]
  go_simp
theorem exec_ixI {ρ : Operand → Value} {op : Oper} {w : World} {b o n c q : Nat} (x y : Operand) (ho : op.op = .indexAddr 47 x y) (hx : ρ x = .slice (some ⟨b, o, none⟩) n c) (hy : ρ y = .int .i64 (q : Int)) (hq : q < n) : (execOp ρ op).run Try.prog w = .ok (.value (.pointer (some ⟨b, o + q, none⟩))) w := by
  have hqi : (q : Int) < (n : Int) := by omega
  unfold execOp
  simp only [ho, hx, hy]
  go_simp
/-- a definition out of the middle of a block -/
theorem exec_mid {ρ : Operand → Value} {op : Oper} {w : World} {b o : Nat} {st : ByteArray} {x : Nat → Int} {nv : Value} (p : Operand) (ho : op.op = .load 24 p) (hx : ρ p = .pointer (some ⟨b, o, none⟩)) (hc : w.rangeAt b o (clA st x nv).toList) : (execOp ρ op).run Try.prog w = .ok (.value (.agg (clA st x nv))) w := by
  unfold execOp
  have h := run_loadVar_mid (P := Try.prog) w b o 24 (clA st x nv).toList _ hc Try.underlying24 rfl (by rw [infoCl]; rfl)
  simp only [ho, hx, Instr.loadAt, Instr.sureAddr, Sem.run_bind, Sem.run_pure, Result.andThen_ok, h]
end Go.Proofs.Ytbmhllcbkeblfaa
namespace Go.Proofs.Ytbmhllcbkeblfaa
open Go.RowKit
theorem tm_facts (n : Int) (d : Int) (hd : 0 < d) : (n.tmod d < 0 → n % d = n.tmod d + d) ∧ (0 ≤ n.tmod d → n % d = n.tmod d) ∧ -d < n.tmod d ∧ n.tmod d < d := by
  have h := @Int.tmod_eq_emod n d
  have h1 := Int.emod_nonneg n (show d ≠ 0 by omega)
  have h2 := Int.emod_lt_of_pos n hd
  split at h
  · omega
  · rename_i hh
    have : n % d ≠ 0 := fun e => hh (Or.inr (Int.dvd_of_emod_eq_zero e))
    omega
theorem tm_twice (n m : Int) (h : 0 < m) : (n.tmod m + m).tmod m = n % m := by
  obtain ⟨t1, t2, t3, t4⟩ := tm_facts n m h
  obtain ⟨u1, u2, u3, u4⟩ := tm_facts (n.tmod m + m) m h
  have hq := Int.tmod_eq_emod_of_nonneg (a := n.tmod m + m) (b := m) (by omega)
  rw [hq, Int.add_emod_right]
  by_cases hs : n.tmod m < 0
  · have e := t1 hs
    have : (n.tmod m + m) % m = n.tmod m + m := Int.emod_eq_of_lt (by omega) (by omega)
    rw [Int.add_emod_right] at this
    rw [this, e]
  · rw [t2 (by omega)]
    exact Int.emod_eq_of_lt (by omega) (by omega)
theorem exec_remi {ρ : Operand → Value} {op : Oper} {w : World} {a b : Int} {t2 : TypeId} (x y : Operand) (ho : op.op = .binOp .rem 3 x y t2) (hx : ρ x = .int .i64 a) (hy : ρ y = .int .i64 b) (h0 : 0 < b) (h1 : b < 9223372036854775808) : (execOp ρ op).run Try.prog w = .ok (.value (.int .i64 (a.tmod b))) w := by
  unfold execOp
  simp only [ho, hx, hy]
  obtain ⟨_, _, t3, t4⟩ := tm_facts a b h0
  have hb0 : ¬ b = 0 := by omega
  have hb1 : ¬ b = -1 := by omega
  have e := wrap_in (x := a.tmod b) (by omega) (by omega)
  go_simp
theorem exec_addii {ρ : Operand → Value} {op : Oper} {w : World} {a b : Int} {t2 : TypeId} (x y : Operand) (ho : op.op = .binOp .add 3 x y t2) (hx : ρ x = .int .i64 a) (hy : ρ y = .int .i64 b) (h0 : -9223372036854775808 ≤ a + b) (h1 : a + b < 9223372036854775808) : (execOp ρ op).run Try.prog w = .ok (.value (.int .i64 (a + b))) w := by
  unfold execOp
  simp only [ho, hx, hy]
  go_simp
  exact i64_in (by omega) (by omega)
theorem wpList_addii {w : World} {ops : Array Oper} {rest : List Oper} {op : Oper} {a : Act} {Q : Exit → Act → World → Prop} (hgd : op.guard = none) {t2 : TypeId} (x y : Operand) (ho : op.op = .binOp .add 3 x y t2) (A B : Int) (hx : a.eval x = .int .i64 A) (hy : a.eval y = .int .i64 B) (h0 : -9223372036854775808 ≤ A + B) (h1 : A + B < 9223372036854775808) (h : wpList Try.prog ops Q rest (a.put op.dst (.int .i64 (A + B))) w) : wpList Try.prog ops Q (op :: rest) a w :=
  wpList_plain hgd fun _ hK => wp_exec (exec_addii x y ho hx hy h0 h1) (hK _ _ h)
theorem wpList_remi {w : World} {ops : Array Oper} {rest : List Oper} {op : Oper} {a : Act} {Q : Exit → Act → World → Prop} (hgd : op.guard = none) {t2 : TypeId} (x y : Operand) (ho : op.op = .binOp .rem 3 x y t2) (A B : Int) (hx : a.eval x = .int .i64 A) (hy : a.eval y = .int .i64 B) (h0 : 0 < B) (h1 : B < 9223372036854775808) (h : wpList Try.prog ops Q rest (a.put op.dst (.int .i64 (A.tmod B))) w) : wpList Try.prog ops Q (op :: rest) a w :=
  wpList_plain hgd fun _ hK => wp_exec (exec_remi x y ho hx hy h0 h1) (hK _ _ h)
/-- a list of numbers taken round -/
def atL (L : List Int) (i : Nat) : Int := if h : 0 < L.length then L[i % L.length]'(Nat.mod_lt _ h) else 0
end Go.Proofs.Ytbmhllcbkeblfaa
