import Derived.Test.YtpoegknmkbnjlaaDoorGGcDoc
import Derived.Laws.AppendOwnNone
import Derived.Deep.MidRow
import Derived.Test.YtpoegknmkbnjlaaDoorGcSpr2
import Derived.WalkMore
namespace Go.Proofs.YtpoegknmkbnjlaaDoor
open Go.RowKit
/-- ints, as cells -/
def ints (L : List Int) : List Value := L.map fun n : Int => .int .i64 n
theorem ints_at (L : List Int) (q : Nat) : (ints L)[q]? = (L[q]?).map fun n : Int => .int .i64 n := by simp [ints]
theorem ints_one (L : List Int) : ∀ u ∈ ints L, u.oneCell' = true := by
  intro u hu
  obtain ⟨n, _, rfl⟩ := List.mem_map.1 hu
  rfl
/-- nodes, as cells -/
def ndc (zs : List (Int × Value)) : List Value := zs.flatMap fun y => [.int .i64 y.1, y.2]
theorem ndc_append (a b : List (Int × Value)) : ndc (a ++ b) = ndc a ++ ndc b := List.flatMap_append
theorem ndc_at (zs : List (Int × Value)) (q : Nat) (h : q < zs.length) : (ndc zs)[q * 2]? = some (.int .i64 zs[q].1) ∧ (ndc zs)[q * 2 + 1]? = some zs[q].2 := by
  induction zs generalizing q with
  | nil => simp at h
  | cons a r ih =>
    cases q with
    | zero => exact ⟨rfl, rfl⟩
    | succ q =>
      have h' : q < r.length := by simpa using h
      obtain ⟨e1, e2⟩ := ih q h'
      unfold ndc at *
      simp only [List.flatMap_cons, List.getElem_cons_succ]
      rw [show (q + 1) * 2 = q * 2 + 2 by omega, show q * 2 + 2 + 1 = (q * 2 + 1) + 2 by omega]
      exact ⟨e1, e2⟩
theorem add_pl (b o j : Nat) : (⟨b, o, none⟩ : Addr).add j = ⟨b, o + j, none⟩ := Addr.add_mid b o j
/-- where rows of unlike types lie apart -/
theorem own_apart {w : World} {b1 b2 n1 n2 s1 s2 : Nat} {t1 t2 : TypeId} {v1 v2 : Value} {x1 x2 : List Value} (h1 : w.ownsRow b1 t1 s1 v1 n1 x1) (h2 : w.ownsRow b2 t2 s2 v2 n2 x2) (ht : t1 ≠ t2) : ∀ g, v1.ownBlock = some g → v2.ownBlock ≠ some g := by
  intro g hg1 hg2
  rcases h1.2 with ⟨rfl, _⟩ | ⟨g1, c1, u1, rfl, _, k1, _⟩
  · simp [Value.ownBlock] at hg1
  · rcases h2.2 with ⟨rfl, _⟩ | ⟨g2, c2, u2, rfl, _, k2, _⟩
    · simp [Value.ownBlock] at hg2
    · simp [Value.ownBlock] at hg1 hg2
      subst hg1
      subst hg2
      have := k1.symm.trans k2
      simp only [Option.some.injEq, Obj.cells.injEq] at this
      exact ht this.2.1
theorem own_keep {X X' : World} {base sz n : Nat} {e : TypeId} {v : Value} {xs : List Value} (h : X.ownsRow base e sz v n xs) (hk : ∀ g, v.ownBlock = some g → X'.heap[g]? = X.heap[g]?) : X'.ownsRow base e sz v n xs := by
  refine ⟨h.1, ?_⟩
  rcases h.2 with e | ⟨g, cap, cur, rfl, hb, hg, hr⟩
  · exact Or.inl e
  · exact Or.inr ⟨g, cap, cur, rfl, hb, (hk g (by simp [Value.ownBlock])).trans hg, hr⟩
theorem own_lt {X : World} {base sz n g : Nat} {e : TypeId} {v : Value} {xs : List Value} (h : X.ownsRow base e sz v n xs) (hg : v.ownBlock = some g) : base ≤ g ∧ g < X.heap.size := by
  rcases h.2 with ⟨rfl, _⟩ | ⟨g', cap, cur, rfl, hb, hg', hr⟩
  · simp [Value.ownBlock] at hg
  · simp [Value.ownBlock] at hg
    subst hg
    exact ⟨hb, blk_lt hg'⟩
theorem own_grown {X X' : World} {base sz n : Nat} {e : TypeId} {v : Value} {xs : List Value} {row : Option Nat} (h : X.ownsRow base e sz v n xs) (hg : X.grownBy X' row) (hr : ∀ g, v.ownBlock = some g → row ≠ some g) : X'.ownsRow base e sz v n xs :=
  own_keep h fun g hw => hg.block g (own_lt h hw).2 (fun e => hr g hw e.symm)
theorem own_sl {w : World} {base sz n : Nat} {e : TypeId} {v : Value} {xs : List Value} (h : w.ownsRow base e sz v n xs) : ∃ ba cap, v = .slice ba n cap ∧ (ba = none → cap = 0) := by
  rcases h.2 with ⟨hv, hz⟩ | ⟨g, cap, cur, hv, _⟩
  · exact ⟨none, 0, by rw [hv, hz], fun _ => rfl⟩
  · exact ⟨_, _, hv, fun e => by cases e⟩
theorem own_one {w : World} {base sz n : Nat} {e : TypeId} {v : Value} {xs : List Value} (h : w.ownsRow base e sz v n xs) : v.oneCell' = true := by
  obtain ⟨ba, cap, rfl, _⟩ := own_sl h
  rfl
/-- a list of one's own, as it may be read -/
theorem own_ps {w : World} {base n : Nat} {v : Value} {L : List Int} (h : w.ownsRow base 3 1 v n (ints L)) (hn : n = L.length) (hl : L.length ≤ 17592186043904) : Pv w.heap.size w v L := by
  subst hn
  obtain ⟨ba, cap, rfl, _⟩ := own_sl h
  rcases h.2 with ⟨hv, hz⟩ | ⟨g, cap', cur, hv, hb, hg, _⟩
  · simp only [Value.slice.injEq] at hv
    obtain ⟨rfl, _, rfl⟩ := hv
    exact ⟨none, 0, 0, 0, rfl, fun e => by omega, fun e => by omega, fun q hq => by omega, hl⟩
  · simp only [Value.slice.injEq, true_and] at hv
    obtain ⟨rfl, rfl⟩ := hv
    refine ⟨_, g, 0, cap, rfl, fun _ => rfl, fun _ => blk_lt hg, fun q hq => ?_, hl⟩
    rw [Nat.zero_add, h.cellAt q (by omega), ints_at, List.getElem?_eq_getElem hq]
    rfl
end Go.Proofs.YtpoegknmkbnjlaaDoor
namespace Go.Proofs.YtpoegknmkbnjlaaDoor
open Go.RowKit
theorem infoNd : (Tryd.prog.info? 50).map (fun i => (i.zero, i.size, i.bytes)) = some (some (.agg #[.int .i64 0, .slice none 0 0]), 2, 32) := by kernel_rfl
theorem nd_cells (w : World) (z : Int) (v : Value) : ∀ j u, (ndc [(z, v)])[j]? = some u → (w.alloc (.cells #[.int .i64 z, v] 50)).cell? ((⟨w.heap.size, 0, none⟩ : Addr).add j) = some u := by
  intro j u hj
  have e := heap_last w (.cells #[.int .i64 z, v] 50)
  match j, hj with
  | 0, hj => simp [ndc] at hj; subst hj; rw [add_pl]; unfold World.cell?; rw [e]; rfl
  | 1, hj => simp [ndc] at hj; subst hj; rw [add_pl]; unfold World.cell?; rw [e]; rfl
  | (j + 2), hj => simp [ndc] at hj
theorem nd_one {z : Int} {v : Value} (hv : v.oneCell' = true) : ∀ u ∈ ndc [(z, v)], u.oneCell' = true := by
  intro u hu
  simp [ndc] at hu
  rcases hu with rfl | rfl
  · rfl
  · exact hv
/-- the nodes that are made so far -/
structure Tw (base : Nat) (W : World) (ns : List ND) (vl : Value) (zs : List (Int × Value)) : Prop where
  row : W.ownsRow base 50 2 vl zs.length (ndc zs)
  z : ∀ (q : Nat) (h : q < zs.length) (h' : q < ns.length), zs[q].1 = ns[q].z
  p : ∀ (q : Nat) (h : q < zs.length) (h' : q < ns.length), W.ownsRow base 3 1 zs[q].2 ns[q].ps.length (ints ns[q].ps)
theorem Tw.keep {base : Nat} {W W' : World} {ns : List ND} {vl : Value} {zs : List (Int × Value)} (h : Tw base W ns vl zs) (hb : Below W.heap.size W W') : Tw base W' ns vl zs :=
  ⟨own_keep h.row fun g hg => hb.block g (own_lt h.row hg).2, h.z, fun q hq hq' => own_keep (h.p q hq hq') fun g hg => hb.block g (own_lt (h.p q hq hq') hg).2⟩
/-- one node more -/
theorem Tw.step {base : Nat} {W X1 X3 : World} {ns : List ND} {vl vl' v1 : Value} {zs : List (Int × Value)} (h : Tw base W ns vl zs) (hi : zs.length < ns.length) (o1 : X1.ownsRow base 3 1 v1 ns[zs.length].ps.length (ints ns[zs.length].ps)) (g1 : W.grownBy X1 none) (o3 : X3.ownsRow base 50 2 vl' (zs.length + 1) (ndc zs ++ ndc [(ns[zs.length].z, v1)])) (g3 : (X1.alloc (.cells #[.int .i64 ns[zs.length].z, v1] 50)).grownBy X3 vl.ownBlock) : Tw base X3 ns vl' (zs ++ [(ns[zs.length].z, v1)]) := by
  have b1 : Below W.heap.size W X1 := ⟨g1.os, g1.tape, g1.output, g1.size, fun i hi => g1.block i hi (by simp)⟩
  have t1 := h.keep b1
  have b2 : Below X1.heap.size X1 (X1.alloc (.cells #[.int .i64 ns[zs.length].z, v1] 50)) := (Below.refl _ _).alloc (Nat.le_refl _) _
  have t2 := t1.keep b2
  have o2 := own_keep (X' := X1.alloc (.cells #[.int .i64 ns[zs.length].z, v1] 50)) o1 fun g hg => b2.block g (own_lt o1 hg).2
  refine ⟨?_, fun q hq hq' => ?_, fun q hq hq' => ?_⟩
  · rw [List.length_append, ndc_append]
    exact o3
  · by_cases hql : q < zs.length
    · rw [List.getElem_append_left hql]
      exact h.z q hql hq'
    · have hqe : q = zs.length := by simp at hq; omega
      subst hqe
      simp
  · by_cases hql : q < zs.length
    · rw [List.getElem_append_left hql]
      exact own_grown (t2.p q hql hq') g3 (fun g hg e => own_apart (t2.p q hql hq') t2.row (by decide) g hg e)
    · have hqe : q = zs.length := by simp at hq; omega
      subst hqe
      simp only [List.getElem_append_right (Nat.le_refl _), Nat.sub_self, List.getElem_cons_zero]
      exact own_grown o2 g3 (fun g hg e => own_apart o2 t2.row (by decide) g hg e)
/-- the nodes that are made, as they may be read -/
theorem Tw.nodes {base : Nat} {W : World} {ns : List ND} {vl : Value} {zs : List (Int × Value)} (h : Tw base W ns vl zs) (hl : zs.length = ns.length) (hlen : ns.length ≤ 4398046510976) (hps : ∀ (q : Nat) (h : q < ns.length), ns[q].ps.length ≤ 17592186043904) : ∃ ao b cap, vl = .slice ao ns.length cap ∧ NsAt W.heap.size W ao b 0 (fun q => (zs[q]?.map (·.2)).getD (.slice none 0 0)) ns := by
  obtain ⟨ba, cap, hv, _⟩ := own_sl h.row
  rw [hl] at hv
  have hp : ∀ (q : Nat) (hq : q < ns.length), Pv W.heap.size W ((zs[q]?.map (·.2)).getD (.slice none 0 0)) ns[q].ps := fun q hq => by
    rw [List.getElem?_eq_getElem (by omega)]
    exact own_ps (h.p q (by omega) hq) rfl (hps q hq)
  have hn : ∀ (q : Nat) (hq : q < ns.length) (c : Nat), (zs[q]?.map (·.2)).getD (.slice none 0 0) = .slice none ns[q].ps.length c → c = 0 := fun q hq c he => by
    rw [List.getElem?_eq_getElem (by omega)] at he
    obtain ⟨ba', cap', hv', hz⟩ := own_sl (h.p q (by omega) hq)
    simp only [Option.map_some, Option.getD_some] at he
    rw [hv'] at he
    simp only [Value.slice.injEq, true_and] at he
    rw [← he.2]
    exact hz he.1
  rcases h.row.2 with ⟨hv', hz⟩ | ⟨g, cap', cur, hv', hb, hg, _⟩
  · have h0 : ns.length = 0 := by omega
    exact ⟨ba, 0, cap, hv, fun e => by omega, fun e => by omega, fun q hq => by omega, fun q hq => by omega, hp, hlen, hn⟩
  · rw [hl] at hv'
    obtain ⟨rfl, rfl⟩ : ba = some ⟨g, 0, none⟩ ∧ cap = cap' := by
      have := hv.symm.trans hv'
      simpa using this
    have row := h.row
    rw [hv, hl] at row
    refine ⟨_, g, cap, hv, fun _ => rfl, fun _ => blk_lt hg, fun q hq => ?_, fun q hq => ?_, hp, hlen, hn⟩
    · rw [Nat.zero_add, row.cellAt (q * 2) (by omega), (ndc_at zs q (by omega)).1, h.z q (by omega) hq]
    · rw [Nat.zero_add, row.cellAt (q * 2 + 1) (by omega), (ndc_at zs q (by omega)).2, List.getElem?_eq_getElem (by omega)]
      rfl
theorem wp_exec {op : Oper} {a : Act} {w : World} {K : Act → World → Prop} {Q : Exit → Act → World → Prop} {v : Value} (h : (execOp a.eval op).run Tryd.prog w = .ok (.value v) w) (hk : K (a.put op.dst v) w) : op.wp Tryd.prog a w K Q := by
  unfold Oper.wp
  rw [h]
  exact hk
theorem built_nd (z : Int) (ba : Option Addr) (n c : Nat) : Tryd.prog.built 50 [(0, .int .i64 z), (1, .slice ba n c)] = some #[.int .i64 z, .slice ba n c] := by kernel_rfl
theorem fill_nd (z : Int) (ba : Option Addr) (n c : Nat) (zz : Value) (hz : zz = .agg #[.int .i64 0, .slice none 0 0]) : Instr.fill (fun i => some (i * 2, 2)) ((Array.range (1 * 2)).map (zz.cells[· % zz.cells.size]!)) [(0, .agg #[.int .i64 z, .slice ba n c])] = some #[.int .i64 z, .slice ba n c] := by
  subst hz
  kernel_rfl
theorem wp_bsNd {w : World} {op : Oper} {a : Act} {K : Act → World → Prop} {Q : Exit → Act → World → Prop} (x : Operand) (ho : op.op = .buildSlice 22 1 #[(0, x)]) {z : Int} {ba : Option Addr} {n c : Nat} (hx : a.eval x = .agg #[.int .i64 z, .slice ba n c])
    (h : K (a.put op.dst (.slice (some ⟨w.heap.size, 0, none⟩) 1 1)) (w.alloc (.cells #[.int .i64 z, .slice ba n c] 50))) : op.wp Tryd.prog a w K Q := by
  obtain ⟨i0, hi, hz0, hz1, hz2⟩ := info_parts infoNd
  refine wp_buildSlice 22 50 1 _ ho #[.int .i64 z, .slice ba n c] i0 _ Tryd.underlying22 hi hz0 (by rw [hz1]; decide) (by rw [hz1]; decide) ?_ h
  rw [hz1]
  simp only [List.map_toArray, List.map_cons, List.map_nil, hx]
  exact fill_nd z ba n c _ rfl
end Go.Proofs.YtpoegknmkbnjlaaDoor
namespace Go.Proofs.YtpoegknmkbnjlaaDoor
open Go.RowKit
def zx : Nat → Int := fun _ => 0
theorem clA_one (st : ByteArray) (x : Nat → Int) {nv : Value} (h : nv.oneCell' = true) : (clA st x nv).all (·.oneCell') = true := by
  simp [clA, Value.oneCell'] at h ⊢
  exact h
theorem ClAt.set {w : World} {b : Nat} {st : ByteArray} {x : Nat → Int} {nv : Value} (h : ClAt w b st x nv) (vl : Value) : ClAt (w.setCell ⟨b, 22, none⟩ vl) b st x vl := by
  unfold ClAt at *
  simp only [World.setCell, Array.getElem?_modify, if_true, h, Option.map_some]
  rfl
theorem res_cl {fn : Func} {p : Tmp} (h : fn.results = #[.cell p 24]) (tmps : Array Value) (st : ByteArray) (x : Nat → Int) (nv : Value) (w : World) (b : Nat) (ht : tmps.getD p undef = .pointer (some ⟨b, 0, none⟩)) (hO : ClAt w b st x nv) : (results fn tmps).run Tryd.prog w = .ok (.agg (clA st x nv)) w := by
  have hl : (loadVar 24 ⟨b, 0, none⟩).run Tryd.prog w = .ok (.agg (clA st x nv)) w := run_loadVar_row _ _ 24 24 (clA st x nv) (0, 0) _ hO Tryd.underlying24 rfl infoCl
  have ht' : tmps[p]?.getD undef = .pointer (some ⟨b, 0, none⟩) := by simpa using ht
  unfold results
  rw [h]
  simp [ht', asAddr, hl]
theorem set_below {w X : World} {G j : Nat} {v : Value} {n : Nat} (h : Below n w X) (hG : n ≤ G) : Below n w (X.setCell ⟨G, j, none⟩ v) := below_setC h hG
end Go.Proofs.YtpoegknmkbnjlaaDoor
namespace Go.Proofs.YtpoegknmkbnjlaaDoor
open Go.RowKit
/-- what Hand has made so far: the nodes, the lists with their marks -/
structure Hn (base : Nat) (W : World) (ns : List ND) (vn vp : Value) (zs : List (Int × Value)) (ls : List Value) : Prop where
  len : ls.length = zs.length
  rn : W.ownsRow base 50 2 vn zs.length (ndc zs)
  rp : W.ownsRow base 48 1 vp ls.length ls
  z : ∀ (q : Nat) (h : q < zs.length) (h' : q < ns.length), zs[q].1 = ns[q].z
  l : ∀ (q : Nat) (h : q < zs.length) (h1 : q < ls.length) (h' : q < ns.length), ∃ g c, zs[q].2 = .slice (some ⟨g, 0, none⟩) ns[q].ps.length c ∧ ls[q] = .slice (some ⟨g, 0, none⟩) (ns[q].ps.length + 3) c ∧ W.ownsRow base 3 1 ls[q] (ns[q].ps.length + 3) (ints (ns[q].ps ++ [701, 702, 703]))
theorem Hn.keep {base : Nat} {W W' : World} {ns : List ND} {vn vp : Value} {zs : List (Int × Value)} {ls : List Value} (h : Hn base W ns vn vp zs ls) (hk : ∀ g, base ≤ g → g < W.heap.size → W'.heap[g]? = W.heap[g]?) : Hn base W' ns vn vp zs ls :=
  ⟨h.len, own_keep h.rn fun g hg => hk g (own_lt h.rn hg).1 (own_lt h.rn hg).2, own_keep h.rp fun g hg => hk g (own_lt h.rp hg).1 (own_lt h.rp hg).2, h.z, fun q hq h1 hq' => by
    obtain ⟨g, c, e1, e2, o⟩ := h.l q hq h1 hq'
    exact ⟨g, c, e1, e2, own_keep o fun g hg => hk g (own_lt o hg).1 (own_lt o hg).2⟩⟩
end Go.Proofs.YtpoegknmkbnjlaaDoor
namespace Go.Proofs.YtpoegknmkbnjlaaDoor
open Go.RowKit
theorem own_lower {w : World} {base b' sz n : Nat} {e : TypeId} {v : Value} {xs : List Value} (h : w.ownsRow base e sz v n xs) (hb : b' ≤ base) : w.ownsRow b' e sz v n xs := by
  refine ⟨h.1, ?_⟩
  rcases h.2 with e | ⟨g, cap, cur, hv, hg, hr⟩
  · exact Or.inl e
  · exact Or.inr ⟨g, cap, cur, hv, Nat.le_trans hb hg, hr⟩
theorem own_setH {w : World} {base sz n H j : Nat} {e : TypeId} {v u : Value} {xs : List Value} (h : w.ownsRow base e sz v n xs) (hH : H < base) : (w.setCell ⟨H, j, none⟩ u).ownsRow base e sz v n xs :=
  own_keep h fun g hg => Below.heap_setCell _ _ _ g (fun e => by have := (own_lt h hg).1; simp at e; omega)
/-- one node more -/
theorem Hn.step {base H : Nat} {W X3 X5 X8 : World} {ns : List ND} {vn vp vn' vp' v2 : Value} {zs : List (Int × Value)} {ls : List Value} {g c : Nat} (h : Hn base W ns vn vp zs ls) (hi : zs.length < ns.length) (hH : H < base) (b3 : Below W.heap.size W X3) (hv2 : v2 = .slice (some ⟨g, 0, none⟩) (ns[zs.length].ps.length + 3) c) (o2 : X3.ownsRow base 3 1 v2 (ns[zs.length].ps.length + 3) (ints (ns[zs.length].ps ++ [701, 702, 703])))
    (o5 : X5.ownsRow base 48 1 vp' (ls.length + 1) (ls ++ [v2])) (g5 : (X3.alloc (.cells #[v2] 48)).grownBy X5 vp.ownBlock)
    (o8 : X8.ownsRow base 50 2 vn' (zs.length + 1) (ndc zs ++ ndc [(ns[zs.length].z, .slice (some ⟨g, 0, none⟩) ns[zs.length].ps.length c)])) (g8 : ((X5.setCell ⟨H, 47, none⟩ vp').alloc (.cells #[.int .i64 ns[zs.length].z, .slice (some ⟨g, 0, none⟩) ns[zs.length].ps.length c] 50)).grownBy X8 vn.ownBlock) :
    Hn base (X8.setCell ⟨H, 46, none⟩ vn') ns vn' vp' (zs ++ [(ns[zs.length].z, .slice (some ⟨g, 0, none⟩) ns[zs.length].ps.length c)]) (ls ++ [v2]) := by
  have h3 := h.keep (W' := X3) fun g _ hg => b3.block g hg
  have b4 : Below X3.heap.size X3 (X3.alloc (.cells #[v2] 48)) := (Below.refl _ _).alloc (Nat.le_refl _) _
  have h4 := h3.keep (W' := X3.alloc (.cells #[v2] 48)) fun g _ hg => b4.block g hg
  have o4 := own_keep (X' := X3.alloc (.cells #[v2] 48)) o2 fun g hg => b4.block g (own_lt o2 hg).2
  have m : ∀ {t : TypeId} {sz n : Nat} {v : Value} {xs : List Value}, t ≠ 48 → t ≠ 50 → (X3.alloc (.cells #[v2] 48)).ownsRow base t sz v n xs → (X8.setCell ⟨H, 46, none⟩ vn').ownsRow base t sz v n xs := fun {t} {sz} {n} {v} {xs} t1 t2 hr => by
    have r5 := own_grown hr g5 (fun g hg e => own_apart hr h4.rp t1 g hg e)
    have r6 := own_setH (j := 47) (u := vp') r5 hH
    have b7 : Below (X5.setCell ⟨H, 47, none⟩ vp').heap.size (X5.setCell ⟨H, 47, none⟩ vp') ((X5.setCell ⟨H, 47, none⟩ vp').alloc (.cells #[.int .i64 ns[zs.length].z, .slice (some ⟨g, 0, none⟩) ns[zs.length].ps.length c] 50)) := (Below.refl _ _).alloc (Nat.le_refl _) _
    have r7 := own_keep r6 fun g hg => b7.block g (own_lt r6 hg).2
    have n5 := own_grown h4.rn g5 (fun g hg e => own_apart h4.rn h4.rp (by decide) g hg e)
    have n6 := own_setH (j := 47) (u := vp') n5 hH
    have n7 := own_keep n6 fun g hg => b7.block g (own_lt n6 hg).2
    have r8 := own_grown r7 g8 (fun g hg e => own_apart r7 n7 t2 g hg e)
    exact own_setH (j := 46) (u := vn') r8 hH
  have p8 : (X8.setCell ⟨H, 46, none⟩ vn').ownsRow base 48 1 vp' (ls.length + 1) (ls ++ [v2]) := by
    have r6 := own_setH (j := 47) (u := vp') o5 hH
    have b7 : Below (X5.setCell ⟨H, 47, none⟩ vp').heap.size (X5.setCell ⟨H, 47, none⟩ vp') ((X5.setCell ⟨H, 47, none⟩ vp').alloc (.cells #[.int .i64 ns[zs.length].z, .slice (some ⟨g, 0, none⟩) ns[zs.length].ps.length c] 50)) := (Below.refl _ _).alloc (Nat.le_refl _) _
    have r7 := own_keep r6 fun g hg => b7.block g (own_lt r6 hg).2
    have n5 := own_grown h4.rn g5 (fun g hg e => own_apart h4.rn h4.rp (by decide) g hg e)
    have n6 := own_setH (j := 47) (u := vp') n5 hH
    have n7 := own_keep n6 fun g hg => b7.block g (own_lt n6 hg).2
    exact own_setH (j := 46) (u := vn') (own_grown r7 g8 (fun g hg e => own_apart r7 n7 (by decide) g hg e)) hH
  refine ⟨by simp [h.len], ?_, ?_, fun q hq hq' => ?_, fun q hq h1 hq' => ?_⟩
  · rw [List.length_append, ndc_append]
    exact own_setH o8 hH
  · rw [List.length_append]
    exact p8
  · by_cases hql : q < zs.length
    · rw [List.getElem_append_left hql]
      exact h.z q hql hq'
    · have hqe : q = zs.length := by simp at hq; omega
      subst hqe
      simp
  · by_cases hql : q < zs.length
    · have hql1 : q < ls.length := by have := h.len; omega
      obtain ⟨g', c', e1, e2, oo⟩ := h4.l q hql hql1 hq'
      refine ⟨g', c', ?_, ?_, ?_⟩
      · rw [List.getElem_append_left hql]; exact e1
      · rw [List.getElem_append_left hql1]; exact e2
      · rw [List.getElem_append_left hql1]
        exact m (by decide) (by decide) oo
    · have hqe : q = zs.length := by simp at hq; omega
      subst hqe
      have hle := h.len
      refine ⟨g, c, by simp, ?_, ?_⟩
      · rw [List.getElem_append_right (by omega)]
        simp [hle, hv2]
      · rw [List.getElem_append_right (by omega)]
        simp only [hle, Nat.sub_self, List.getElem_cons_zero]
        exact m (by decide) (by decide) o4
end Go.Proofs.YtpoegknmkbnjlaaDoor
namespace Go.Proofs.YtpoegknmkbnjlaaDoor
open Go.RowKit
end Go.Proofs.YtpoegknmkbnjlaaDoor
namespace Go.Proofs.YtpoegknmkbnjlaaDoor
open Go.RowKit
theorem exec_move {ρ : Operand → Value} {op : Oper} {w : World} {v : Value} (x : Operand) (ho : op.op = .move x) (hx : ρ x = v) : (execOp ρ op).run Tryd.prog w = .ok (.value v) w := by
  unfold execOp
  simp only [ho, hx, Sem.run_pure]
theorem run_ld {w : World} {t : TypeId} {b o : Nat} {v : Value} (ht : t = 3 ∨ t = 22 ∨ t = 48) (hc : w.cell? ⟨b, o, none⟩ = some v) : (Instr.loadAt t (.pointer (some ⟨b, o, none⟩))).run Tryd.prog w = .ok v w := by
  rcases ht with rfl | rfl | rfl <;> go_simp
theorem exec_ld {ρ : Operand → Value} {op : Oper} {w : World} {b o : Nat} {t : TypeId} {v : Value} (x : Operand) (ho : op.op = .load t x) (ht : t = 3 ∨ t = 22 ∨ t = 48) (hx : ρ x = .pointer (some ⟨b, o, none⟩)) (hc : w.cell? ⟨b, o, none⟩ = some v) : (execOp ρ op).run Tryd.prog w = .ok (.value v) w := by
  unfold execOp
  simp only [ho, hx, run_ld ht hc, Sem.run_bind, Result.andThen_ok, Sem.run_pure]
theorem exec_ixI {ρ : Operand → Value} {op : Oper} {w : World} {b o n c q : Nat} (x y : Operand) (ho : op.op = .indexAddr 48 x y) (hx : ρ x = .slice (some ⟨b, o, none⟩) n c) (hy : ρ y = .int .i64 (q : Int)) (hq : q < n) : (execOp ρ op).run Tryd.prog w = .ok (.value (.pointer (some ⟨b, o + q, none⟩))) w := by
  have hqi : (q : Int) < (n : Int) := by omega
  unfold execOp
  simp only [ho, hx, hy]
  go_simp
end Go.Proofs.YtpoegknmkbnjlaaDoor
namespace Go.Proofs.YtpoegknmkbnjlaaDoor
open Go.RowKit
end Go.Proofs.YtpoegknmkbnjlaaDoor
namespace Go.Proofs.YtpoegknmkbnjlaaDoor
/-- the node that has the partition k -/
def hm (ns : List ND) (k : Nat) : Int := ownF (k : Int) 0 ns
/-- the place i round the ring from f on -/
def plc (P f i : Nat) : Nat := (f + i) % P
/-- no place ahead of i has the node of the place i -/
def frsh (ns : List ND) (P f i : Nat) : Bool := (List.range i).all fun j => !(hm ns (plc P f j) == hm ns (plc P f i))
/-- what is taken of the first i places -/
def wkL (ns : List ND) (P f : Nat) : Nat → List Nat
  | 0 => []
  | i + 1 => if frsh ns P f i = true then wkL ns P f i ++ [plc P f i] else wkL ns P f i
theorem wkL_yes {ns : List ND} {P f i : Nat} (h : frsh ns P f i = true) : wkL ns P f (i + 1) = wkL ns P f i ++ [plc P f i] := by simp [wkL, h]
theorem wkL_no {ns : List ND} {P f i : Nat} (h : frsh ns P f i = false) : wkL ns P f (i + 1) = wkL ns P f i := by simp [wkL, h]
theorem wkL_len (ns : List ND) (P f : Nat) (i : Nat) : (wkL ns P f i).length ≤ i := by
  induction i with
  | zero => simp [wkL]
  | succ i ih =>
    cases h : frsh ns P f i with
    | true => rw [wkL_yes h]; simp; exact ih
    | false => rw [wkL_no h]; omega
theorem wkL_pre (ns : List ND) (P f i k : Nat) : ∃ r, wkL ns P f (i + k) = wkL ns P f i ++ r := by
  induction k with
  | zero => exact ⟨[], by simp⟩
  | succ k ih =>
    obtain ⟨r, hr⟩ := ih
    rw [← Nat.add_assoc]
    cases h : frsh ns P f (i + k) with
    | true => exact ⟨r ++ [plc P f (i + k)], by rw [wkL_yes h, hr, List.append_assoc]⟩
    | false => exact ⟨r, by rw [wkL_no h, hr]⟩
/-- the walk: the first R of all that is taken -/
def wkR (ns : List ND) (P f R : Nat) : List Nat := (wkL ns P f P).take R
theorem wkR_at {ns : List ND} {P f R i : Nat} (hi : i ≤ P) (h : (wkL ns P f i).length = R) : wkR ns P f R = wkL ns P f i := by
  obtain ⟨r, hr⟩ := wkL_pre ns P f i (P - i)
  rw [show i + (P - i) = P by omega] at hr
  unfold wkR
  rw [hr, ← h, List.take_left]
theorem wkR_all {ns : List ND} {P f R : Nat} (h : (wkL ns P f P).length ≤ R) : wkR ns P f R = wkL ns P f P := List.take_of_length_le h
theorem plc_lt {P f i : Nat} (h : 0 < P) : plc P f i < P := Nat.mod_lt _ h
theorem wkL_lt {ns : List ND} {P f : Nat} (hP : 0 < P) (i : Nat) : ∀ p ∈ wkL ns P f i, p < P := by
  induction i with
  | zero => intro p hp; simp [wkL] at hp
  | succ i ih =>
    cases h : frsh ns P f i with
    | true =>
      rw [wkL_yes h]
      intro p hp
      rcases List.mem_append.1 hp with hp | hp
      · exact ih p hp
      · simp at hp
        subst hp
        exact plc_lt hP
    | false => rw [wkL_no h]; exact ih
theorem wkL_from {ns : List ND} {P f : Nat} (i : Nat) : ∀ p ∈ wkL ns P f i, ∃ j, j < i ∧ p = plc P f j := by
  induction i with
  | zero => intro p hp; simp [wkL] at hp
  | succ i ih =>
    intro p hp
    cases h : frsh ns P f i with
    | true =>
      rw [wkL_yes h] at hp
      rcases List.mem_append.1 hp with hp | hp
      · obtain ⟨j, hj, e⟩ := ih p hp
        exact ⟨j, by omega, e⟩
      · simp at hp
        exact ⟨i, by omega, hp⟩
    | false =>
      rw [wkL_no h] at hp
      obtain ⟨j, hj, e⟩ := ih p hp
      exact ⟨j, by omega, e⟩
theorem frsh_true {ns : List ND} {P f i : Nat} : frsh ns P f i = true ↔ ∀ j, j < i → hm ns (plc P f j) ≠ hm ns (plc P f i) := by
  unfold frsh
  rw [List.all_eq_true]
  constructor
  · intro h j hj
    have := h j (List.mem_range.2 hj)
    simpa using this
  · intro h j hj
    have := h j (List.mem_range.1 hj)
    simpa using this
theorem wkL_homes {ns : List ND} {P f : Nat} (i : Nat) : ∀ j, j < i → ∃ p ∈ wkL ns P f i, hm ns p = hm ns (plc P f j) := by
  induction i with
  | zero => intro j hj; omega
  | succ i ih =>
    intro j hj
    cases h : frsh ns P f i with
    | true =>
      rw [wkL_yes h]
      by_cases e : j = i
      · subst e
        exact ⟨plc P f j, by simp, rfl⟩
      · obtain ⟨p, hp, ep⟩ := ih j (by omega)
        exact ⟨p, List.mem_append_left _ hp, ep⟩
    | false =>
      rw [wkL_no h]
      by_cases e : j = i
      · subst e
        have hn : ¬ ∀ k, k < j → hm ns (plc P f k) ≠ hm ns (plc P f j) := fun hc => by rw [frsh_true.2 hc] at h; exact absurd h (by simp)
        obtain ⟨k, hk⟩ := Classical.not_forall.1 hn
        obtain ⟨hk1, hk2⟩ := Classical.not_imp.1 hk
        obtain ⟨p, hp, ep⟩ := ih k hk1
        exact ⟨p, hp, ep.trans (Classical.not_not.1 hk2)⟩
      · exact ih j (by omega)
/-- fresh: none of those that were taken has its node -/
theorem frsh_taken {ns : List ND} {P f i : Nat} : frsh ns P f i = true ↔ ∀ p ∈ wkL ns P f i, hm ns p ≠ hm ns (plc P f i) := by
  rw [frsh_true]
  constructor
  · intro h p hp
    obtain ⟨j, hj, rfl⟩ := wkL_from i p hp
    exact h j hj
  · intro h j hj e
    obtain ⟨p, hp, ep⟩ := wkL_homes (ns := ns) (P := P) (f := f) i j hj
    exact h p hp (ep.trans e)
theorem frsh_no {ns : List ND} {P f i p : Nat} (hp : p ∈ wkL ns P f i) (e : hm ns p = hm ns (plc P f i)) : frsh ns P f i = false := by
  cases h : frsh ns P f i with
  | false => rfl
  | true => exact absurd e (frsh_taken.1 h p hp)
/-- numbers as ints -/
def nis (l : List Nat) : List Int := l.map fun n : Nat => (n : Int)
theorem nis_len (l : List Nat) : (nis l).length = l.length := by simp [nis]
theorem nis_append (a b : List Nat) : nis (a ++ b) = nis a ++ nis b := by simp [nis]
/-- the owners of those places -/
def owL (ns : List ND) (l : List Nat) : List Int := l.map fun p => hm ns p
theorem owL_len (ns : List ND) (l : List Nat) : (owL ns l).length = l.length := by simp [owL]
theorem owL_take {ns : List ND} {l : List Nat} {q : Nat} (h : q < l.length) : owL ns (l.take (q + 1)) = owL ns (l.take q) ++ [hm ns l[q]] := by
  unfold owL
  rw [List.take_succ_eq_append_getElem h, List.map_append]
  rfl
end Go.Proofs.YtpoegknmkbnjlaaDoor
namespace Go.Proofs.YtpoegknmkbnjlaaDoor
open Go.RowKit
theorem outL_cell {w : World} {g k : Nat} {ns : List ND} (h : w.heap[g]? = some (.cells (outL ns).toArray 3 (0, 0))) (hk : k < (flat ns).length) : w.cell? ⟨g, k, none⟩ = some (.int .i64 (hm ns k)) := by
  unfold World.cell?
  simp only [h]
  simp [outL, hm, hk]
theorem one_cells (w : World) (n : Int) : ∀ j u, (ints [n])[j]? = some u → (w.alloc (.cells #[.int .i64 n] 3)).cell? ((⟨w.heap.size, 0, none⟩ : Addr).add j) = some u := cell_one_new w (.int .i64 n) 3
theorem own_cell {w : World} {base n cap g : Nat} {L : List Int} {q : Nat} (h : w.ownsRow base 3 1 (.slice (some ⟨g, 0, none⟩) n cap) n (ints L)) (hn : n = L.length) (hq : q < L.length) : w.cell? ⟨g, q, none⟩ = some (.int .i64 L[q]) := by
  subst hn
  rw [h.cellAt q (by omega), ints_at, List.getElem?_eq_getElem hq]
  rfl
theorem plc_int {P f i : Nat} : (((f : Int) + (i : Int)) % (P : Int)) = ((plc P f i : Nat) : Int) := by
  unfold plc
  rw [← Int.natCast_add]
  rfl
set_option maxHeartbeats 8000000 in
set_option maxRecDepth 100000 in
set_option linter.unusedSimpArgs false in
set_option linter.unusedVariables false in
theorem walk_any (w : World) (g P f R : Nat) (ns : List ND) (hg : w.heap[g]? = some (.cells (outL ns).toArray 3 (0, 0))) (hP : P = (flat ns).length) (p1 : 1 ≤ P) (p2 : P ≤ 64) (hf : f < P) (r1 : 1 ≤ R) (r2 : R ≤ 16) :
    Calls Tryd.prog 61 #[.slice (some ⟨g, 0, none⟩) P P, .int .i64 (f : Int), .int .i64 (R : Int)] w fun e w' => ∃ v, e = .returned v ∧ w'.ownsRow w.heap.size 3 1 v (wkR ns P f R).length (ints (nis (wkR ns P f R))) ∧ Below w.heap.size w w' := by
  have hgl := blk_lt hg
  have NC : Hid (∀ Y, Below w.heap.size w Y → ∀ k, k < P → Y.cell? ⟨g, k, none⟩ = some (.int .i64 (hm ns k))) := fun Y hY k hk => by
    rw [hY.cell (p := ⟨g, k, none⟩) hgl]
    exact outL_cell hg (hP ▸ hk)
  clear hg hP
  obtain ⟨k0, hk0, hx0, hx1, hx2⟩ := info_parts infoInt
  go_enter Tryd.func61, Tryd.ntmps61
  go_wp2_with fail
  go_step3
  go_wp2_with (first | (at_make; refine wpList_make_own _ rfl _ _ 48 rfl w.heap.size 3 k0 (.int .i64 0) 1 Tryd.underlying48 hk0 hx0 hx1 _ _ _ R rfl rfl rfl (by rw [hx2]; omega) (by unfold maxLen; omega) (Nat.le_refl _) ?_))
  intro w1 hown hgrow
  have B1 : Hid (Below w.heap.size w w1) := ⟨hgrow.os, hgrow.tape, hgrow.output, hgrow.size, fun i hi => hgrow.block i hi (by simp)⟩
  have O1 := hide hown
  clear hown hgrow
  go_wp2_with fail
  go_step3
  go_wp2_with fail
  go_loopw [7, 16] (fun vt vi wr => ∃ (i : Nat), i ≤ P ∧ vi = .int .i64 (i : Int) ∧ vt = .slice (some ⟨w.heap.size, 0, none⟩) (wkL ns P f i).length R ∧ (wkL ns P f i).length < R ∧ Hid (wr.ownsRow w.heap.size 3 1 vt (wkL ns P f i).length (ints (nis (wkL ns P f i)))) ∧ Hid (Below w.heap.size w wr)) (fun _ vi _ => P - (intOf vi).toNat)
  case atStart => exact ⟨0, Nat.zero_le _, rfl, rfl, by simp [wkL]; omega, O1, B1⟩
  case round =>
    obtain ⟨i, hi, rfl, rfl, hlt, HO, HB⟩ := hrel
    by_cases hil : i < P
    case neg =>
      obtain rfl : i = P := by omega
      have HE := hide (wkR_all (ns := ns) (P := i) (f := f) (R := R) (by omega))
      go_wp2_with fail
      try rw [Exit.noGoto_ret]
      go_ret
      exact ⟨_, rfl, by rw [HE.out]; exact HO.out, HB.out⟩
    case pos =>
      have hii : (i : Int) < (P : Int) := by omega
      have ew := wrap_in (x := (f : Int) + (i : Int)) (by omega) (by omega)
      go_upto_region 6 with fail
      rw [plc_int]
      have hpP := plc_lt (P := P) (f := f) (i := i) (by omega)
      have HNo : Hid (∀ q (h : q < (wkL ns P f i).length), hm ns (wkL ns P f i)[q] = hm ns (plc P f i) → wkL ns P f (i + 1) = wkL ns P f i) := fun q h e => wkL_no (frsh_no (List.getElem_mem h) e)
      have HYes : Hid ((∀ q (h : q < (wkL ns P f i).length), hm ns (wkL ns P f i)[q] ≠ hm ns (plc P f i)) → wkL ns P f (i + 1) = wkL ns P f i ++ [plc P f i]) := fun h => wkL_yes (frsh_taken.2 fun k hk => by
        obtain ⟨q, hq, rfl⟩ := List.getElem_of_mem hk
        exact h q hq)
      have HLt : Hid (∀ q (h : q < (wkL ns P f i).length), (wkL ns P f i)[q] < P) := fun q h => wkL_lt (by omega) i _ (List.getElem_mem h)
      clear ew
      generalize wkL ns P f i = L at *
      generalize plc P f i = p at *
      go_wp2_with fail
      go_loopw [27] (fun vi wq => ∃ (q : Nat), q ≤ L.length ∧ vi = .int .i64 (q : Int) ∧ Hid (∀ j (h : j < L.length), j < q → hm ns L[j] ≠ hm ns p) ∧ Hid (wq.ownsRow w.heap.size 3 1 (.slice (some ⟨w.heap.size, 0, none⟩) L.length R) L.length (ints (nis L))) ∧ Hid (Below w.heap.size w wq)) (fun vi _ => L.length - (intOf vi).toNat)
      case atStart => exact ⟨0, Nat.zero_le _, rfl, (fun j _ h => absurd h (Nat.not_lt_zero _)), HO, HB⟩
      case round =>
        clear HO HB
        obtain ⟨q, hq, rfl, HD, HO, HB⟩ := hrel
        by_cases hql : q < L.length
        case neg =>
          obtain rfl : q = L.length := by omega
          have HE := hide (HYes.out fun j h => HD.out j h h)
          clear HD HNo HYes HLt
          have HR := hide (wkR_at (ns := ns) (P := P) (f := f) (R := R) (i := i + 1) (by omega))
          go_upto_region 12 with (at_builtin; refine wpList_append_fits _ rfl (.tmp 41) (.tmp 43) 48 rfl w.heap.size 3 k0 1 Tryd.underlying48 hk0 hx1 w.heap.size L.length R (ints (nis L)) rfl (HO.out.alloc _) ⟨wr.heap.size, 0, none⟩ 1 1 (ints [(p : Int)]) rfl rfl (one_cells wr _) (ints_one _) (by omega) ?_; intro X3 o3 g3)
          have B3 : Hid (Below w.heap.size w X3) := (HB.out.alloc HB.out.size _).grown g3 (by have := HB.out.size; simp; omega) (fun j hj => by injection hj with hj; omega)
          have O3 : Hid (X3.ownsRow w.heap.size 3 1 (.slice (some ⟨w.heap.size, 0, none⟩) (L.length + 1) R) (wkL ns P f (i + 1)).length (ints (nis (wkL ns P f (i + 1))))) := by
            rw [HE.out, List.length_append, nis_append]
            unfold ints at o3 ⊢
            rw [List.map_append]
            exact o3
          have HLn : Hid ((wkL ns P f (i + 1)).length = L.length + 1) := by
            show _ = _
            rw [HE.out, List.length_append]
            rfl
          clear o3 g3 HE
          by_cases hR : L.length + 1 = R
          · have HE2 := hide (HR.out (HLn.out.trans hR))
            have hRi : (L.length : Int) + 1 = (R : Int) := by omega
            clear HR HLn
            go_wp2_with fail
            try rw [Exit.noGoto_ret]
            go_ret
            exact ⟨_, rfl, by rw [HE2.out]; exact O3.out, B3.out⟩
          · have hRi : ¬ (L.length : Int) + 1 = (R : Int) := by omega
            clear HR
            go_wp2_with fail
            go_roundw
            case rel => exact ⟨i + 1, by omega, by go_num, by rw [HLn.out], by rw [HLn.out]; omega, O3, B3⟩
            case measure => simp [intOf]; omega
        case pos =>
          have hqi : (q : Int) < (L.length : Int) := by omega
          have hl1 := HLt.out q hql
          have c0 := own_cell HO.out (by rw [nis_len]) (q := q) (by rw [nis_len]; exact hql)
          have e0 : (nis L)[q]'(by rw [nis_len]; exact hql) = ((L[q] : Nat) : Int) := by simp [nis]
          rw [e0] at c0
          have c1 := NC.out _ HB.out L[q] hl1
          have c2 := NC.out _ HB.out p hpP
          have HN2 := hide (HNo.out q hql)
          have HD2 : Hid (¬ hm ns L[q] = hm ns p → ∀ j (h : j < L.length), j < q + 1 → hm ns L[j] ≠ hm ns p) := fun hne j h hj => by
            by_cases ej : j = q
            · subst ej
              exact hne
            · exact HD.out j h (by omega)
          clear e0 HD
          have hli : ((L[q] : Nat) : Int) < (P : Int) := by omega
          have hpi : ((p : Nat) : Int) < (P : Int) := by omega
          generalize L[q] = e at *
          generalize hm ns e = a1 at *
          generalize hm ns p = a2 at *
          by_cases he : a1 = a2
          · have HE := hide (HN2.out he)
            subst he
            clear HN2 HD2 HNo HYes HLt NC
            go_upto_region 9 with fail
            go_quiet (fail)
            have O2 : Hid ((wr.drewN nq).ownsRow w.heap.size 3 1 (.slice (some ⟨w.heap.size, 0, none⟩) L.length R) L.length (ints (nis L))) := own_keep HO.out (fun _ _ => rfl)
            have B2 := hide (HB.out.trans (c := wr.drewN nq) ⟨rfl, rfl, rfl, Nat.le_refl _, fun _ _ => rfl⟩)
            generalize wr.drewN nq = W3 at *
            clear c0 c1 c2 HO HB
            go_wp2_with fail
            go_roundw
            case rel => exact ⟨i + 1, by omega, by go_num, by rw [HE.out], by rw [HE.out]; exact hlt, by rw [HE.out]; exact O2, B2⟩
            case measure => simp [intOf]; omega
          · have HE := hide (HD2.out he)
            have he' : (a1 == a2) = false := by simpa using he
            clear HN2 HD2
            go_upto_region 9 with fail
            go_quiet (fail)
            have O2 : Hid ((wr.drewN nq).ownsRow w.heap.size 3 1 (.slice (some ⟨w.heap.size, 0, none⟩) L.length R) L.length (ints (nis L))) := own_keep HO.out (fun _ _ => rfl)
            have B2 := hide (HB.out.trans (c := wr.drewN nq) ⟨rfl, rfl, rfl, Nat.le_refl _, fun _ _ => rfl⟩)
            generalize wr.drewN nq = W3 at *
            clear c0 c1 c2 HO HB
            go_wp2_with fail
            go_roundw
            case rel => exact ⟨q + 1, by omega, by go_num, HE, O2, B2⟩
            case measure => simp [intOf]; omega
end Go.Proofs.YtpoegknmkbnjlaaDoor
namespace Go.Proofs.YtpoegknmkbnjlaaDoor
open Go.RowKit
set_option maxHeartbeats 8000000 in
set_option maxRecDepth 100000 in
set_option linter.unusedSimpArgs false in
set_option linter.unusedVariables false in
theorem keepers_any (N : Nat) (w : World) (g P : Nat) (an : Option Addr) (ns : List ND) (L : List Nat) (pa : Option Addr) (pb po pc : Nat) (hp : PsAt N w pa pb po (nis L)) (hN : N ≤ w.heap.size) (han : 0 < L.length → an = some ⟨g, 0, none⟩ ∧ g < w.heap.size) (hc : ∀ k, k < P → w.cell? ⟨g, k, none⟩ = some (.int .i64 (hm ns k))) (hL : ∀ p ∈ L, p < P) (hl : L.length ≤ 64) (hP : P ≤ 64) :
    Calls Tryd.prog 42 #[.slice an P P, .slice pa L.length pc] w fun e w' => ∃ v, e = .returned v ∧ w'.ownsRow w.heap.size 3 1 v L.length (ints (owL ns L)) ∧ Below w.heap.size w w' := by
  have HP := hide hp
  have HC := hide hc
  have HA := hide han
  have HL := hide hL
  clear hp hc han hL
  obtain ⟨k0, hk0, hx0, hx1, hx2⟩ := info_parts infoInt
  go_enter Tryd.func42, Tryd.ntmps42
  go_wp2_with fail
  go_loopw [5, 10] (fun vt vi wr => ∃ (q : Nat), q ≤ L.length ∧ vi = .int .i64 (q : Int) ∧ Hid (wr.ownsRow w.heap.size 3 1 vt q (ints (owL ns (L.take q)))) ∧ Hid (Below w.heap.size w wr)) (fun _ vi _ => L.length - (intOf vi).toNat)
  case atStart => exact ⟨0, Nat.zero_le _, rfl, World.ownsRow_nil _ _ _ _, Below.refl _ _⟩
  case round =>
    obtain ⟨q, hq, rfl, HO, HB⟩ := hrel
    obtain ⟨ba, cp, hv, _⟩ := own_sl HO.out
    subst hv
    by_cases hql : q < L.length
    case neg =>
      obtain rfl : q = L.length := by omega
      have HO2 := HO.out
      rw [List.take_length] at HO2
      have HO3 := hide HO2
      clear HO2 HO
      go_wp2_with fail
      go_ret
      exact ⟨_, rfl, HO3.out, HB.out⟩
    case pos =>
      obtain ⟨h1, h2⟩ := HA.out (by omega)
      subst h1
      have h3 := HP.out.at0 (by rw [nis_len]; omega)
      subst h3
      have hqi : (q : Int) < (L.length : Int) := by omega
      have hpl := HL.out L[q] (List.getElem_mem hql)
      have hpi : ((L[q] : Nat) : Int) < (P : Int) := by omega
      have c1 : wr.cell? ⟨pb, po + q, none⟩ = some (.int .i64 ((L[q] : Nat) : Int)) := by
        rw [(HP.out.below (HB.out.mono hN)).c q (by rw [nis_len]; omega)]
        simp [nis]
      have c2 : wr.cell? ⟨g, L[q], none⟩ = some (.int .i64 (hm ns L[q])) := by
        rw [HB.out.cell (p := ⟨g, L[q], none⟩) h2]
        exact HC.out _ hpl
      have ET := hide (owL_take (ns := ns) hql)
      generalize L[q] = p at *
      generalize hm ns p = n at *
      go_wp2_with (at_builtin; refine wpList_append_own_at _ rfl (.tmp 14) (.tmp 19) 48 rfl w.heap.size 3 k0 (.int .i64 0) 1 8 Tryd.underlying48 hk0 hx0 hx1 hx2 rfl (by decide) _ _ _ rfl (HO.out.alloc _) ⟨wr.heap.size, 0, none⟩ 1 1 (ints [n]) rfl rfl (one_cells wr n) (ints_one _) (by unfold maxLen; omega) (by omega) (by have := HB.out.size; simp; omega) ?_; intro v2 X3 o3 g3 n3 a3; clear n3 a3)
      have B3 : Hid (Below w.heap.size w X3) := (HB.out.alloc HB.out.size _).grown g3 (by have := HB.out.size; simp; omega) (fun j hj => (own_lt HO.out hj).1)
      have O3 : Hid (X3.ownsRow w.heap.size 3 1 v2 (q + 1) (ints (owL ns (L.take (q + 1))))) := by
        rw [ET.out]
        unfold ints at o3 ⊢
        rw [List.map_append]
        exact o3
      clear o3 g3
      go_wp2_with fail
      go_roundw
      case rel => exact ⟨q + 1, by omega, by go_num, O3, B3⟩
      case measure => simp [intOf]; omega
end Go.Proofs.YtpoegknmkbnjlaaDoor
