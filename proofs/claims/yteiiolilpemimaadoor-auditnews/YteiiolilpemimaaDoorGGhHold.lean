import Derived.Test.YteiiolilpemimaaDoorGGmTake
import Derived.Test.YteiiolilpemimaaDoorGAaPick
import Derived.Test.YteiiolilpemimaaDoorGAaClone
import Derived.Test.YteiiolilpemimaaDoorGGcDoc
namespace Go.Proofs.YteiiolilpemimaaDoor
open Go.RowKit
theorem idx_way (L : List Int) (node : Int) : (node ∉ L ∧ Lib.idxOf (L.take L.length) node = -1) ∨ ∃ i, ∃ h : i < L.length, L[i] = node ∧ Lib.idxOf (L.take L.length) node = (i : Int) := by
  by_cases hm : node ∈ L
  · have hx : L.findIdx (fun a => a == node) < L.length := List.findIdx_lt_length_of_exists ⟨node, hm, by simp⟩
    have he : L[L.findIdx (fun a => a == node)] = node := by simpa using List.findIdx_getElem (w := hx)
    refine Or.inr ⟨_, hx, he, Lib.idxOf_hit L L.length _ node hx (Nat.le_refl _) (by rw [List.getD_eq_getElem?_getD, List.getElem?_eq_getElem hx]; exact he) fun j hj => ?_⟩
    have := List.not_of_lt_findIdx hj
    rw [List.getD_eq_getElem?_getD, List.getElem?_eq_getElem (by omega)]
    simpa using this
  · refine Or.inl ⟨hm, Lib.idxOf_miss L L.length node fun j hj e => hm ?_⟩
    rw [List.getD_eq_getElem?_getD, List.getElem?_eq_getElem hj] at e
    rw [← e]
    exact List.getElem_mem hj
/-- slots, as they lie there -/
def slc (l : List (Nat × Nat)) : List Value := l.flatMap fun s => [.int .i64 (s.1 : Int), .int .i64 (s.2 : Int)]
theorem slc_len (l : List (Nat × Nat)) : (slc l).length = l.length * 2 := by
  unfold slc
  induction l with
  | nil => rfl
  | cons s l ih => simp only [List.flatMap_cons, List.length_append, ih, List.length_cons, List.length_nil]; omega
theorem slc_append (a b : List (Nat × Nat)) : slc (a ++ b) = slc a ++ slc b := List.flatMap_append
theorem slc_at : ∀ (l : List (Nat × Nat)) (q : Nat) (h : q < l.length), (slc l)[q * 2]? = some (.int .i64 (l[q].1 : Int)) ∧ (slc l)[q * 2 + 1]? = some (.int .i64 (l[q].2 : Int))
  | [], q, h => absurd h (by simp)
  | s :: l, 0, _ => by simp [slc]
  | s :: l, q + 1, h => by
    have ih := slc_at l q (by simpa using h)
    rw [show (q + 1) * 2 = q * 2 + 1 + 1 by omega]
    simpa [slc] using ih
theorem slo_cells (w : World) (p r : Nat) : ∀ j u, (slc [(p, r)])[j]? = some u → (w.alloc (.cells #[.int .i64 (p : Int), .int .i64 (r : Int)] 85)).cell? ((⟨w.heap.size, 0, none⟩ : Addr).add j) = some u := by
  intro j u hj
  have e := heap_last w (.cells #[.int .i64 (p : Int), .int .i64 (r : Int)] 85)
  match j, hj with
  | 0, hj => simp [slc] at hj; subst hj; rw [add_pl]; unfold World.cell?; rw [e]; rfl
  | 1, hj => simp [slc] at hj; subst hj; rw [add_pl]; unfold World.cell?; rw [e]; rfl
  | (j + 2), hj => simp [slc] at hj
theorem sl_one (l : List (Nat × Nat)) : ∀ u ∈ slc l, u.oneCell' = true := by
  intro u hu
  unfold slc at hu
  obtain ⟨s, _, hs⟩ := List.mem_flatMap.1 hu
  simp at hs
  rcases hs with rfl | rfl <;> rfl
theorem infoSl : (Tryd.prog.info? 85).map (fun i => (i.zero, i.size, i.bytes)) = some (some (.agg #[.int .i64 0, .int .i64 0]), 2, 16) := by kernel_rfl
/-- the error of Holds -/
noncomputable def hdE (st : ByteArray) (x : Nat → Int) (ns : List ND) (node : Int) : Int := if errP st x ns = 0 then (if node < 0 ∨ (ns.length : Int) ≤ node then 68 else 0) else errP st x ns
theorem hdE_bad {st : ByteArray} {x : Nat → Int} {ns : List ND} {node : Int} (h : errP st x ns ≠ 0) : hdE st x ns node = errP st x ns := if_neg h
theorem hdE_node {st : ByteArray} {x : Nat → Int} {ns : List ND} {node : Int} (h : errP st x ns = 0) (hp : node < 0 ∨ (ns.length : Int) ≤ node) : hdE st x ns node = 68 := by unfold hdE; rw [if_pos h, if_pos hp]
theorem hdE_ok {st : ByteArray} {x : Nat → Int} {ns : List ND} {node : Int} (h : errP st x ns = 0) (hp : ¬ (node < 0 ∨ (ns.length : Int) ≤ node)) : hdE st x ns node = 0 := by unfold hdE; rw [if_pos h, if_neg hp]
theorem hdE_zero {st : ByteArray} {x : Nat → Int} {ns : List ND} {node : Int} (h : hdE st x ns node = 0) : errP st x ns = 0 := by
  by_cases e : errP st x ns = 0
  · exact e
  · rw [hdE_bad e] at h
    exact h
/-- what Holds answers -/
noncomputable def hdS (st : ByteArray) (x : Nat → Int) (ns : List ND) (node : Int) : List (Nat × Nat) := if hdE st x ns node = 0 then hdL x ns node (ptN ns) else []
theorem hdS_ok {st : ByteArray} {x : Nat → Int} {ns : List ND} {node : Int} (h : hdE st x ns node = 0) : hdS st x ns node = hdL x ns node (ptN ns) := if_pos h
theorem hdS_bad {st : ByteArray} {x : Nat → Int} {ns : List ND} {node : Int} (h : hdE st x ns node ≠ 0) : hdS st x ns node = [] := if_neg h
set_option maxHeartbeats 8000000 in
set_option maxRecDepth 100000 in
set_option linter.unusedSimpArgs false in
set_option linter.unusedVariables false in
theorem holds_any (N : Nat) (w : World) (st : ByteArray) (x : Nat → Int) (ao : Option Addr) (b o cap : Nat) (pv : Nat → Value) (ns : List ND) (node : Int) (h : NsAt N w ao b o pv ns) (hN : N ≤ w.heap.size) (hs : st.size ≤ 9223372036854775807) :
    Calls Tryd.prog 25 #[.agg (clA st x (.slice ao ns.length cap)), .int .i64 node] w fun e w' => ∃ v, e = .returned (.tuple #[v, .int .i64 (hdE st x ns node)]) ∧ w'.ownsRow w.heap.size 85 2 v (hdS st x ns node).length (slc (hdS st x ns node)) ∧ Below w.heap.size w w' := by
  have hlen := h.len
  obtain ⟨W0, hW0, hX⟩ := boxed st x cap h hN
  have HX := hide (hX.stand hN)
  have B0 := hide hX.bel
  clear hX h
  have ND := hide (nodesOf_any N W0 st x ao b o cap pv ns HX.out.nd HX.out.le hs)
  obtain ⟨k0, hk0, hx0, hx1, hx2⟩ := info_parts infoSl
  go_enter Tryd.func25, Tryd.ntmps25
  go_upto_region 1 with fail
  rw [← hW0]
  clear hW0
  go_wp2_with (refine wpList_loadCl rfl (.tmp 2) rfl w.heap.size st x _ rfl HX.out.cl ?_)
  refine Calls.mono ND.out ?_
  rintro e W1 ⟨⟨v, rfl, h1, h2⟩, hb⟩
  have X1 := hide (HX.out.below hb)
  have B1 := hide (B0.out.trans (hb.mono B0.out.size))
  clear hb HX ND
  have fin : Hid (∀ k : Int, k ≠ 0 → hdE st x ns node = k → ∃ v, Ending.returned (.tuple #[.slice none 0 0, .int .i64 k]) = .returned (.tuple #[v, .int .i64 (hdE st x ns node)]) ∧ W1.ownsRow w.heap.size 85 2 v (hdS st x ns node).length (slc (hdS st x ns node)) ∧ Below w.heap.size w W1) := fun k hk e => ⟨.slice none 0 0, by rw [e], by rw [hdS_bad (by rw [e]; exact hk)]; exact World.ownsRow_nil _ _ _ _, B1.out⟩
  by_cases he : errP st x ns = 0
  case neg =>
    obtain rfl := h2 he
    have HE := hide (fin.out _ he (hdE_bad he))
    generalize errP st x ns = k at *
    clear h1 h2 fin
    go_wp2_with fail
    go_ret2
    exact HE.out
  case pos =>
    obtain ⟨hd, g, rfl, hg, hgs⟩ := h1 he
    have d1 := hd.p1
    have d2 := hd.p2
    have hpt : (flat ns).length = ptN ns := rfl
    rw [hpt] at d1 d2
    have L0 : 1 ≤ x 0 ∧ x 0 ≤ 16 := sfP_lim (errP_ok he).1 0 (by omega)
    have HR : Hid (x 0 ≤ (kpN ns : Int)) := (errP_all he).2.2.2.2.1
    have HN68 := hide (fun hp => fin.out 68 (by omega) (hdE_node (node := node) he hp))
    have HOK := hide (fun hp => hdE_ok (node := node) he hp)
    have HD := hide hd
    have HG := hide hg
    have nvw := X1.out.cl.nv
    rw [he]
    clear h1 h2 hd hg hpt he fin hgs
    by_cases hp0 : node < 0
    · have HE := hide (HN68.out (Or.inl hp0))
      go_wp2_with fail
      go_ret2
      exact HE.out
    by_cases hp1 : (ns.length : Int) ≤ node
    · have HE := hide (HN68.out (Or.inr hp1))
      go_wp2_with fail
      go_ret2
      exact HE.out
    have HE := hide (HOK.out (by omega))
    clear HN68 HOK
    obtain ⟨R, hRR⟩ : ∃ R : Nat, (R : Int) = x 0 := ⟨(x 0).toNat, by omega⟩
    have x0c := X1.out.cl.x0
    rw [← hRR] at x0c HR
    have r1 : 1 ≤ R ∧ R ≤ 16 := by omega
    have HRR := hide hRR
    have CX : Hid (∀ Y, Below W1.heap.size W1 Y → Y.cell? ⟨w.heap.size, 1, none⟩ = some (.int .i64 (R : Int)) ∧ Y.heap[g]? = some (.cells (outL ns).toArray 3 (0, 0))) := fun Y hY => by
      refine ⟨?_, (hY.block _ (blk_lt HG.out)).trans HG.out⟩
      have := (X1.out.cl.below hY).x0
      rw [← HRR.out] at this
      exact this
    clear x0c L0 hRR
    obtain ⟨P, hP⟩ : ∃ P, P = ptN ns := ⟨_, rfl⟩
    have HP := hide hP
    rw [← hP] at d1 d2 ⊢
    clear hP
    go_wp2_with fail
    clear nvw
    go_loopw [8, 31] (fun vl vi wr => ∃ (q : Nat), q ≤ P ∧ vi = .int .i64 (q : Int) ∧ (∃ ba cp, vl = .slice ba (hdL x ns node q).length cp) ∧ Hid (wr.ownsRow W1.heap.size 85 2 vl (hdL x ns node q).length (slc (hdL x ns node q))) ∧ Hid (Below W1.heap.size W1 wr)) (fun _ vi _ => P - (intOf vi).toNat)
    case atStart => exact ⟨0, Nat.zero_le _, rfl, ⟨none, 0, rfl⟩, World.ownsRow_nil _ _ _ _, Below.refl _ _⟩
    case round =>
      obtain ⟨q, hq, rfl, ⟨ba, cp, rfl⟩, HO, HB⟩ := hrel
      by_cases hql : q < P
      case neg =>
        obtain rfl : q = P := by omega
        have FN : Hid (wr.ownsRow w.heap.size 85 2 (.slice ba (hdL x ns node q).length cp) (hdS st x ns node).length (slc (hdS st x ns node))) := by
          rw [hdS_ok HE.out, ← HP.out]
          exact own_lower HO.out B1.out.size
        go_wp2_with fail
        go_ret2
        exact ⟨_, by rw [HE.out]; rfl, FN.out, B1.out.trans (HB.out.mono B1.out.size)⟩
      case pos =>
        have hqi : (q : Int) < (P : Int) := by omega
        obtain ⟨x0c, hgr⟩ := CX.out _ HB.out
        have WK := walk_any wr g P q R ns hgr (by rw [HP.out]; rfl) (by omega) (by omega) hql (by omega) (by omega)
        have hwk : wkR ns P q R = wk x ns (q : Int) := by
          unfold wk
          rw [← HP.out, ← HRR.out]
          rfl
        rw [hwk] at WK
        have HW := hide (wk_diff x ns (q : Int))
        have HSu := hide (hdL_succ x ns node q)
        have hlw : (wk x ns (q : Int)).length = R := by
          have := wk_full (x := x) (p := (q : Int)) HD.out (by omega) (by rw [← HP.out]; omega) (by rw [← HRR.out]; omega) (by rw [← HRR.out]; exact HR.out)
          have := HRR.out
          omega
        have hwl : Hid (∀ k ∈ wk x ns (q : Int), k < P) := by rw [HP.out]; exact wk_lt (by rw [← HP.out]; omega)
        have hsl : (hdL x ns node q).length ≤ 64 := by have := hdL_len x ns node q; omega
        have hl1 : 1 ≤ (wk x ns (q : Int)).length ∧ (wk x ns (q : Int)).length ≤ 16 := by omega
        replace WK := hide WK
        clear hwk hgr hlw
        generalize wk x ns (q : Int) = L at *
        go_wp2_with fail
        refine Calls.mono WK.out ?_
        rintro e W2 ⟨v2, rfl, o2, hb⟩
        obtain ⟨pa, pb, po, pc, hv2, hps⟩ := own_ps o2 (nis_len _).symm (by rw [nis_len]; omega)
        subst hv2
        have HB2 := hide (HB.out.trans (hb.mono HB.out.size))
        have O2 : Hid (W2.ownsRow W1.heap.size 85 2 (.slice ba (hdL x ns node q).length cp) (hdL x ns node q).length (slc (hdL x ns node q))) := own_keep HO.out fun i hi => hb.block i (own_lt HO.out hi).2
        have KE := keepers_any W2.heap.size W2 g P (some ⟨g, 0, none⟩) ns L pa pb po pc hps (Nat.le_refl _) (fun _ => ⟨rfl, blk_lt (CX.out _ HB2.out).2⟩) (fun k hk => outL_cell (CX.out _ HB2.out).2 (show k < ptN ns by rw [← HP.out]; exact hk)) hwl.out (by omega) (by omega)
        rw [← nis_len L] at KE
        replace KE := hide KE
        clear hb o2 WK HO HB hps x0c
        go_wp2_with fail
        refine Calls.mono KE.out ?_
        rintro e W3 ⟨v3, rfl, o3, hb⟩
        rw [nis_len] at o3
        obtain ⟨go, co, hv3⟩ := own_some o3 (by omega)
        subst hv3
        have HB3 := hide (HB2.out.trans (hb.mono HB2.out.size))
        have O3 : Hid (W3.ownsRow W1.heap.size 85 2 (.slice ba (hdL x ns node q).length cp) (hdL x ns node q).length (slc (hdL x ns node q))) := own_keep O2.out fun i hi => hb.block i (own_lt O2.out hi).2
        have IX := Tryd.slices_Index_int go 0 L.length co (owL ns L) node W3 (by rw [owL_len]; exact Nat.le_refl _) (by omega) (fun j hj => by
          rw [Nat.zero_add, own_cell o3 (owL_len _ _).symm hj, List.getD_eq_getElem?_getD, List.getElem?_eq_getElem hj]
          rfl)
        rw [show List.take L.length (owL ns L) = List.take (owL ns L).length (owL ns L) by rw [owL_len]] at IX
        have HI := hide (idx_way (owL ns L) node)
        generalize Lib.idxOf (List.take (owL ns L).length (owL ns L)) node = ix at *
        replace IX := hide IX
        clear hb o3 KE O2 HB2
        go_wp2_with fail
        refine Calls.mono IX.out ?_
        rintro e W3' ⟨rfl, rfl⟩
        clear IX
        rcases HI.out with ⟨hm, rfl⟩ | ⟨i, hi, hmi, rfl⟩
        · have hS : hdL x ns node (q + 1) = hdL x ns node q := by rw [HSu.out, hdF_none hm, List.append_nil]
          have HS := hide hS
          clear hm hS HI HSu HW
          go_wp2_with fail
          go_roundw
          case rel => exact ⟨q + 1, by omega, by go_num, ⟨ba, cp, by rw [HS.out]⟩, by rw [HS.out]; exact O3, HB3⟩
          case measure => simp [intOf]; omega
        · have hS : hdL x ns node (q + 1) = hdL x ns node q ++ [(q, i)] := by rw [HSu.out, hdF_one hi HW.out hmi, Nat.zero_add]
          have HS := hide hS
          clear hS HI HSu HW hmi hi
          have hi0 : (0 : Int) ≤ (i : Int) := by omega
          generalize hdL x ns node q = A at *
          go_wp2_with (at_builtin; refine wpList_append_own_at _ rfl (.tmp 46) (.tmp 50) 71 rfl W1.heap.size 85 k0 (.agg #[.int .i64 0, .int .i64 0]) 2 16 Tryd.underlying71 hk0 hx0 hx1 hx2 rfl (by decide) _ _ _ rfl (O3.out.alloc _) ⟨_, 0, none⟩ 1 1 (slc [(q, i)]) rfl rfl (slo_cells _ q i) (sl_one _) (by unfold maxLen; omega) (by omega) (by have := HB3.out.size; simp; omega) ?_; intro v4 X4 o4 g4 n4 a4; clear n4 a4)
          have B4 : Hid (Below W1.heap.size W1 X4) := (HB3.out.alloc HB3.out.size _).grown g4 (by have := HB3.out.size; simp; omega) (fun j hj => (own_lt O3.out hj).1)
          have O4 : Hid (X4.ownsRow W1.heap.size 85 2 v4 (hdL x ns node (q + 1)).length (slc (hdL x ns node (q + 1)))) := by
            rw [HS.out, List.length_append, slc_append]
            exact o4
          obtain ⟨ba4, cp4, hv4, _⟩ := own_sl O4.out
          subst hv4
          clear o4 g4 O3
          go_wp2_with fail
          go_roundw
          case rel => exact ⟨q + 1, by omega, by go_num, ⟨ba4, cp4, rfl⟩, O4, B4⟩
          case measure => simp [intOf]; omega
end Go.Proofs.YteiiolilpemimaaDoor
namespace Go.Proofs.YteiiolilpemimaaDoor.Cn
open Go.RowKit
theorem ho_infos : (Tryd.prog.info? 76).map (fun i => (i.zero, i.size, i.bytes)) = some (some (.agg #[.slice none 0 0, .int .i64 0, .int .i64 0, .int .i64 0, .int .i64 0]), 5, 56) := by kernel_rfl
theorem fill_ho (k : Ho) : Instr.fill (fun i => some (i * 5, 5)) ((Array.range (1 * 5)).map ((Value.agg #[.slice none 0 0, .int .i64 0, .int .i64 0, .int .i64 0, .int .i64 0]).cells[· % (Value.agg #[.slice none 0 0, .int .i64 0, .int .i64 0, .int .i64 0, .int .i64 0]).cells.size]!)) [(0, .agg (hoV k))] = some (hoV k) := by kernel_rfl
theorem wpList_bsH {w : World} {ops : Array Oper} {rest : List Oper} {o : Oper} {a : Act} {Q : Exit → Act → World → Prop} (hgd : o.guard = none) (x : Operand) (ho : o.op = .buildSlice 68 1 #[(0, x)]) (k : Ho) (hx : a.eval x = .agg (hoV k))
    (h : wpList Tryd.prog ops Q rest (a.put o.dst (.slice (some ⟨w.heap.size, 0, none⟩) 1 1)) (w.alloc (.cells (hoV k) 76))) : wpList Tryd.prog ops Q (o :: rest) a w := by
  refine wpList_plain hgd fun _ hK => ?_
  obtain ⟨i0, hi, hz0, hz1, hz2⟩ := info_parts ho_infos
  refine wp_buildSlice 68 76 1 _ ho (hoV k) i0 _ Tryd.underlying68 hi hz0 (by rw [hz1]; decide) (by rw [hz1]; decide) ?_ (hK _ _ h)
  rw [hz1]
  simp only [List.map_toArray, List.map_cons, List.map_nil, hx]
  exact fill_ho k
theorem hos_one (k : Ho) : hos [k] = (hoV k).toList := by unfold hos; rw [List.flatMap_cons, List.flatMap_nil, List.append_nil]
theorem wpList_apH {w : World} {ops : Array Oper} {rest : List Oper} {o : Oper} {a : Act} {Q : Exit → Act → World → Prop} (hgd : o.guard = none) (x y : Operand) (ho : o.op = .call { callee := .builtin .append, args := #[x, y], argTypes := #[68, 68] }) (base : Nat) (v : Value) (L : List Ho) (hx : a.eval x = v) (hv : w.ownsRow base 76 5 v L.length (hos L)) (g : Nat) (k : Ho) (hy : a.eval y = .slice (some ⟨g, 0, none⟩) 1 1) (hg : w.heap[g]? = some (.cells (hoV k) 76)) (hone : (hoV k).all (·.oneCell') = true) (hl : L.length ≤ 1000000000) (hb : base ≤ w.heap.size)
    (h : ∀ v' w', w'.ownsRow base 76 5 v' (L.length + 1) (hos (L ++ [k])) → w.grownBy w' v.ownBlock → (v'.ownBlock = v.ownBlock ∨ v'.ownBlock = some w.heap.size) → wpList Tryd.prog ops Q rest (a.put o.dst v') w') : wpList Tryd.prog ops Q (o :: rest) a w := by
  obtain ⟨i0, hi, hz0, hz1, hz2⟩ := info_parts ho_infos
  refine wpList_append_own_at _ hgd _ _ 68 ho base 76 i0 _ 5 56 Tryd.underlying68 hi hz0 hz1 hz2 rfl (by decide) _ _ _ hx hv ⟨g, 0, none⟩ 1 1 (hos [k]) hy (by rw [hos_one]; rfl) ?_ ?_ (by unfold maxLen; omega) (by omega) hb ?_
  · rw [hos_one]
    intro j u hj
    rw [Addr.add_mid, Nat.zero_add, cell_row hg]
    simpa using hj
  · intro u hu
    rw [hos_one] at hu
    exact Array.all_eq_true_iff_forall_mem.1 hone u (by simpa using hu)
  · intro v' w' h1 h2 _ h4
    rw [← hos_append] at h1
    exact h v' w' h1 h2 h4
/-- a new auditor, with the holders hv -/
def auN (x : Nat → Int) (hv : Value) (M : Nat) : Array Value := #[.int .i64 (x 14), .int .i64 (x 15), .int .i64 (x 0), hv, .int .i64 0, .int .i64 0, .int .i64 0, .map (some M), .int .i64 0, .int .i64 0, .int .i64 0, .slice none 0 0, .slice none 0 0]
/-- a node, new -/
def newH (st : ByteArray) (x : Nat → Int) (ns : List ND) (j : Nat) (k : Ho) : Prop := k.sl = hdS st x ns (j : Int) ∧ k.stt = 0 ∧ k.pl = 0 ∧ k.tm = 0 ∧ k.ti = 0
structure NewV (st : ByteArray) (x : Nat → Int) (ns : List ND) (v : Au) : Prop where
  rs : v.rs = x 14
  lm : v.lm = x 15
  rp : v.rp = x 0
  len : v.hs.length = ns.length
  hs : ∀ j k, v.hs[j]? = some k → newH st x ns j k
  z : v.now = 0 ∧ v.num = 0 ∧ v.ver = 0 ∧ v.told = [] ∧ v.jb = 0
def NewR (st : ByteArray) (x : Nat → Int) (ns : List ND) (w w' : World) (A : Nat) : Prop := ∃ H hc M v, AuAt w' A H hc M v ∧ (w.heap.size ≤ A ∧ w.heap.size ≤ H ∧ w.heap.size ≤ M) ∧ NewV st x ns v ∧ Below w.heap.size w w'
structure NwL (st : ByteArray) (x : Nat → Int) (ns : List ND) (W : World) (A M base : Nat) (hv : Value) (L : List Ho) : Prop where
  blk : W.heap[A]? = some (.cells (auN x hv M) 70)
  row : W.ownsRow base 76 5 hv L.length (hos L)
  map : Mt W M []
  hs : ∀ j k, L[j]? = some k → newH st x ns j k ∧ W.ownsRow 0 85 2 k.sv k.sl.length (sls k.sl)
/-- the row has grown -/
theorem nw_grown {st : ByteArray} {x : Nat → Int} {ns : List ND} {W w3 : World} {A M base : Nat} {hv : Value} {L : List Ho} {k : Ho} (h : NwL st x ns W A M base hv L) (hr : (W.alloc (.cells (hoV k) 76)).ownsRow base 76 5 hv L.length (hos L)) (hg : (W.alloc (.cells (hoV k) 76)).grownBy w3 hv.ownBlock) : w3.cell? ⟨A, 3, none⟩ = some hv ∧ w3.frozen? ⟨A, 3, none⟩ = false ∧ w3.heap[A]? = some (.cells (auN x hv M) 70) ∧ Mt w3 M [] ∧ (∀ {u : Value} {n : Nat} {xs : List Value}, W.ownsRow 0 85 2 u n xs → w3.ownsRow 0 85 2 u n xs) := by
  have kg := Kp.of_grown hg
  have ka : Kp W (W.alloc (.cells (hoV k) 76)) non := (Kp.refl W non).alloc _
  have hb : ∀ b, some b = hv.ownBlock → ∃ cur, (W.alloc (.cells (hoV k) 76)).heap[b]? = some (.cells cur 76) := fun b e => own_typ hr e.symm
  have e1 : (W.alloc (.cells (hoV k) 76)).heap[A]? = some (.cells (auN x hv M) 70) := (ka.block _ (blk_lt h.blk) (fun f => f)).trans h.blk
  have e2 : w3.heap[A]? = some (.cells (auN x hv M) 70) := (kg.block _ (blk_lt e1) (fun e => by
    obtain ⟨cur, hc⟩ := hb _ e
    rw [e1] at hc
    simp at hc)).trans e1
  refine ⟨by rw [cell_row e2]; rfl, fz_row e2 3, e2, (h.map.kp ka (fun f => f)).kp kg (fun e => by
    obtain ⟨cur, hc⟩ := hb _ e
    exact (h.map.kp ka (fun f => f)).kind hc), fun {u n xs} ho => own_kp (own_kp ho ka (fun _ _ f => f)) kg (fun b hb' e => by
    obtain ⟨cur, hc⟩ := hb _ e
    obtain ⟨cur', hc'⟩ := own_typ (own_kp ho ka (fun _ _ f => f)) hb'
    rw [hc] at hc'
    simp at hc')⟩
theorem nw_step {st : ByteArray} {x : Nat → Int} {ns : List ND} {W w3 : World} {A M base : Nat} {hv : Value} {L : List Ho} {k : Ho} {va : Option Addr} {vc : Nat} (h : NwL st x ns W A M base hv L) (hr : (W.alloc (.cells (hoV k) 76)).ownsRow base 76 5 hv L.length (hos L)) (hg : (W.alloc (.cells (hoV k) 76)).grownBy w3 hv.ownBlock) (o2 : w3.ownsRow base 76 5 (.slice va (L.length + 1) vc) (L.length + 1) (hos (L ++ [k]))) (nh : newH st x ns L.length k) (so : W.ownsRow 0 85 2 k.sv k.sl.length (sls k.sl)) :
    NwL st x ns (w3.setCell ⟨A, 3, none⟩ (.slice va (L.length + 1) vc)) A M base (.slice va (L.length + 1) vc) (L ++ [k]) ∧ Kp W (w3.setCell ⟨A, 3, none⟩ (.slice va (L.length + 1) vc)) (fun b => b = A ∨ some b = hv.ownBlock) := by
  obtain ⟨_, _, e2, m3, tr⟩ := nw_grown h hr hg
  have ks : Kp w3 (w3.setCell ⟨A, 3, none⟩ (.slice va (L.length + 1) vc)) (fun b => b = A) := (Kp.refl w3 (fun b => b = A)).set (Or.inl rfl) _ _
  have off : ∀ {b e sz n' : Nat} {u : Value} {xs : List Value}, w3.ownsRow b e sz u n' xs → e ≠ 70 → (w3.setCell ⟨A, 3, none⟩ (.slice va (L.length + 1) vc)).ownsRow b e sz u n' xs := fun {b e sz n' u xs} ho he => own_kp ho ks (fun k hk ek => by
    obtain ⟨cur, hcu⟩ := own_typ ho hk
    rw [ek, e2] at hcu
    simp at hcu
    exact he hcu.2.symm)
  refine ⟨⟨?_, ?_, m3.kp ks (fun e => by rw [← e] at e2; exact m3.kind e2), fun j q hq => ?_⟩, ?_⟩
  · rw [heap_setCell _ _ _ _ _ _ _ e2]
    rfl
  · rw [List.length_append]
    exact off o2 (by decide)
  · by_cases hj : j < L.length
    · rw [List.getElem?_append_left hj] at hq
      obtain ⟨a1, a2⟩ := h.hs j q hq
      exact ⟨a1, off (tr a2) (by decide)⟩
    · rw [List.getElem?_append_right (by omega)] at hq
      have hj2 : j = L.length := by
        have := (List.getElem?_eq_some_iff.1 hq).1
        simp at this
        omega
      subst hj2
      rw [Nat.sub_self] at hq
      obtain rfl : k = q := by simpa using hq
      exact ⟨nh, off (tr so) (by decide)⟩
  · exact ((((Kp.refl W (fun b => b = A ∨ some b = hv.ownBlock)).alloc _).trans (T := fun b => some b = hv.ownBlock) (Kp.of_grown hg) (fun b e => Or.inl (Or.inr e)))).trans (T := fun b => b = A) ks (fun b e => Or.inl (Or.inl e))
set_option maxHeartbeats 16000000 in
set_option maxRecDepth 100000 in
set_option linter.unusedSimpArgs false in
set_option linter.unusedVariables false in
theorem New_no (N : Nat) (w : World) (st : ByteArray) (x : Nat → Int) (ao : Option Addr) (b o cap : Nat) (pv : Nat → Value) (ns : List ND) (h : NsAt N w ao b o pv ns) (hN : N ≤ w.heap.size) (hs : st.size ≤ 9223372036854775807) (he : errP st x ns ≠ 0) :
    Calls Tryd.prog 6 #[.agg (clA st x (.slice ao ns.length cap))] w fun e w' => e = .returned (.tuple #[.pointer none, .int .i64 (errP st x ns)]) ∧ Below w.heap.size w w' := by
  obtain ⟨W0, hW0, hX⟩ := boxed st x cap h hN
  have HX := hide (hX.stand hN)
  have B0 := hide hX.bel
  clear hX h
  have CK := hide (YteiiolilpemimaaDoor.check_any N W0 st x ao b o cap pv ns HX.out.nd HX.out.le hs)
  obtain ⟨er, her⟩ : ∃ er, er = errP st x ns := ⟨_, rfl⟩
  rw [← her] at CK he ⊢
  clear her
  go_enter Tryd.func6, Tryd.ntmps6
  go_upto_region 1 with fail
  rw [← hW0]
  clear hW0
  go_wp2_with (refine wpList_loadCl rfl (.tmp 1) rfl w.heap.size st x _ rfl HX.out.cl ?_)
  refine Calls.mono CK.out ?_
  rintro e W1 ⟨rfl, hb⟩
  have B1 := hide (B0.out.trans (hb.mono B0.out.size))
  clear hb
  have q1 : (er != 0) = true := by simp [he]
  go_wp2_with fail
  go_ret2
  exact ⟨rfl, B1.out⟩
set_option maxHeartbeats 16000000 in
set_option maxRecDepth 100000 in
set_option linter.unusedSimpArgs false in
set_option linter.unusedVariables false in
theorem New_ok (N : Nat) (w : World) (st : ByteArray) (x : Nat → Int) (ao : Option Addr) (b o cap : Nat) (pv : Nat → Value) (ns : List ND) (h : NsAt N w ao b o pv ns) (hN : N ≤ w.heap.size) (hs : st.size ≤ 9223372036854775807) (he : errP st x ns = 0) :
    Calls Tryd.prog 6 #[.agg (clA st x (.slice ao ns.length cap))] w fun e w' => ∃ A, e = .returned (.tuple #[.pointer (some ⟨A, 0, none⟩), .int .i64 0]) ∧ NewR st x ns w w' A := by
  have hlen := h.len
  obtain ⟨W0, hW0, hX⟩ := boxed st x cap h hN
  have HX := hide (hX.stand hN)
  have B0 := hide hX.bel
  clear hX h
  have CK := hide (YteiiolilpemimaaDoor.check_any N W0 st x ao b o cap pv ns HX.out.nd HX.out.le hs)
  obtain ⟨cn, hcn⟩ : ∃ cn, cn = ns.length := ⟨_, rfl⟩
  have HCN := hide hcn
  have hmm := @run_makeMap Tryd.prog
  have NP : Hid (0 < ns.length ∧ ns.length ≤ 16) := by
    have z := nfP_len (errP_ok he).2
    exact ⟨by omega, z.2⟩
  go_enter Tryd.func6, Tryd.ntmps6
  go_upto_region 1 with fail
  rw [← hW0]
  clear hW0
  go_wp2_with (refine wpList_loadCl rfl (.tmp 1) rfl w.heap.size st x _ rfl HX.out.cl ?_)
  refine Calls.mono CK.out ?_
  rintro e W1 ⟨rfl, hb⟩
  rw [he]
  have X1 := hide (HX.out.below hb)
  have B1 := hide (B0.out.trans (hb.mono B0.out.size))
  clear hb HX CK B0
  have x14 : W1.cell? ⟨w.heap.size, 15, none⟩ = some (.int .i64 (x 14)) := X1.out.cl.x 14 (by omega)
  have x15 : W1.cell? ⟨w.heap.size, 16, none⟩ = some (.int .i64 (x 15)) := X1.out.cl.x 15 (by omega)
  have x0 : W1.cell? ⟨w.heap.size, 1, none⟩ = some (.int .i64 (x 0)) := X1.out.cl.x 0 (by omega)
  obtain ⟨M, hM⟩ : ∃ M, M = W1.heap.size := ⟨_, rfl⟩
  obtain ⟨W2, hW2⟩ : ∃ W2, W2 = (W1.alloc (.map #[] 0)).alloc (.cells (auN x (.slice none 0 0) M) 70) := ⟨_, rfl⟩
  have k2 : Below W1.heap.size W1 W2 := by rw [hW2]; exact ((Below.refl _ W1).alloc (Nat.le_refl _) _).alloc (by simp) _
  have m2 : W2.heap[M + 1]? = some (.cells (auN x (.slice none 0 0) M) 70) := by
    rw [hW2, show M + 1 = (W1.alloc (.map #[] 0)).heap.size by rw [hM]; simp]
    exact heap_last _ _
  have t2 : Mt W2 M [] := by
    rw [hW2, hM]
    exact (Mt.made W1).kp ((Kp.refl _ non).alloc _) (fun f => f)
  have X2 := hide (X1.out.below k2)
  have B2 := hide (B1.out.trans (k2.mono B1.out.size))
  have L2 : Hid (NwL st x ns W2 (M + 1) M w.heap.size (.slice none 0 0) []) := ⟨m2, World.ownsRow_nil _ _ _ _, t2, fun j k hk => by simp at hk⟩
  have MG : Hid (w.heap.size ≤ M) := by rw [hM]; exact B1.out.size
  have HM := hide hM
  clear k2 m2 t2 X1 B1
  go_upto_region 5 with (first | refine wpList_blR rfl 70 #[(0, .tmp 15), (1, .tmp 17), (2, .tmp 19), (7, .tmp 20)] rfl (auN x (.slice none 0 0) W1.heap.size) (by kernel_rfl) ?_)
  rw [← hM, ← hW2]
  clear hW2 hM x14 x15 x0
  have nv := X2.out.cl.nv
  rw [← hcn] at nv
  go_wp2_with fail
  clear nv
  go_loopw [26] (fun vi wr => ∃ i : Nat, i ≤ cn ∧ vi = .int .i64 (i : Int) ∧ ∃ hv L, L.length = i ∧ Hid (NwL st x ns wr (M + 1) M w.heap.size hv L) ∧ Hid (Stand N w.heap.size wr st x ao b o cap pv ns) ∧ Hid (Below w.heap.size w wr)) (fun vi _ => cn - (intOf vi).toNat)
  case atStart => exact ⟨0, Nat.zero_le _, rfl, _, [], rfl, L2.out, X2.out, B2.out⟩
  case round =>
    obtain ⟨i, hi, rfl, hv, L, hL, HL, HX, HB⟩ := hrel
    by_cases hin : i < cn
    case neg =>
      have hii : ¬ (i : Int) < (cn : Int) := by omega
      have FIN : Hid (∃ H hc v, AuAt wr (M + 1) H hc M v ∧ w.heap.size ≤ H ∧ NewV st x ns v) := by
        have hl0 : 0 < L.length := by have := NP.out.1; omega
        obtain ⟨g, c, e⟩ := own_g HL.out.row hl0
        have hl := HL.out
        subst e
        refine ⟨g, c, ⟨x 14, x 15, x 0, L, 0, 0, 0, [], 0, 0, 0, [], [], .slice none 0 0, .slice none 0 0⟩, ⟨hl.blk, own_base hl.row (Nat.zero_le _), hl.map, fun k hk => ?_, World.ownsRow_nil _ _ _ _, World.ownsRow_nil _ _ _ _⟩, own_ge hl.row rfl, ⟨rfl, rfl, rfl, by show L.length = ns.length; omega, fun j k hk => (hl.hs j k hk).1, rfl, rfl, rfl, rfl, rfl⟩⟩
        obtain ⟨j, hj, e⟩ := List.getElem_of_mem hk
        exact (hl.hs j k (by rw [← e]; exact List.getElem?_eq_getElem hj)).2
      go_wp2_with fail
      go_ret2
      obtain ⟨H, hc, v, f1, f2, f3⟩ := FIN.out
      exact ⟨M + 1, rfl, H, hc, M, v, f1, ⟨by have := MG.out; omega, f2, MG.out⟩, f3, HB.out⟩
    case pos =>
      have hii : (i : Int) < (cn : Int) := by omega
      have HD := hide (holds_any N wr st x ao b o cap pv ns (i : Int) HX.out.nd HX.out.le hs)
      have e0 : hdE st x ns (i : Int) = 0 := hdE_ok he (by omega)
      rw [e0] at HD
      clear e0
      go_upto_region 8 with fail
      go_wp2_with (refine wpList_loadCl rfl (.tmp 1) rfl w.heap.size st x _ rfl HX.out.cl ?_)
      refine Calls.mono HD.out ?_
      rintro e W3 ⟨sv, rfl, so, b3⟩
      obtain ⟨sa, sc, rfl⟩ := own_sl so
      have X3 := hide (HX.out.below b3)
      have B3 := hide (HB.out.trans (b3.mono HB.out.size))
      have k3 : Kp wr W3 non := Kp.of_below b3 non
      obtain ⟨k, hk⟩ : ∃ k : Ho, k = ⟨hdS st x ns (i : Int), .slice sa (hdS st x ns (i : Int)).length sc, 0, 0, 0, 0⟩ := ⟨_, rfl⟩
      have SO : Hid (W3.ownsRow 0 85 2 k.sv k.sl.length (sls k.sl)) := by rw [hk]; exact own_base so (Nat.zero_le _)
      have NH : Hid (newH st x ns i k) := by rw [hk]; exact ⟨rfl, rfl, rfl, rfl, rfl⟩
      have ONE : Hid ((hoV k).all (·.oneCell') = true) := by rw [hk]; unfold Hid; simp [hoV, Value.oneCell']
      have HV : Hid (hoV k = #[.slice sa (hdS st x ns (i : Int)).length sc, .int .i64 0, .int .i64 0, .int .i64 0, .int .i64 0]) := by rw [hk]; rfl
      have L3 : NwL st x ns W3 (M + 1) M w.heap.size hv L := ⟨(k3.block _ (blk_lt HL.out.blk) (fun f => f)).trans HL.out.blk, own_kp HL.out.row k3 (fun _ _ f => f), HL.out.map.kp k3 (fun f => f), fun j q hq => ⟨(HL.out.hs j q hq).1, own_kp (HL.out.hs j q hq).2 k3 (fun _ _ f => f)⟩⟩
      have c3 : W3.cell? ⟨M + 1, 3, none⟩ = some hv := by rw [cell_row L3.blk]; rfl
      have R3 : Hid ((W3.alloc (.cells (hoV k) 76)).ownsRow w.heap.size 76 5 hv L.length (hos L)) := own_kp L3.row ((Kp.refl W3 non).alloc _) (fun _ _ f => f)
      have SZ : Hid (w.heap.size ≤ W3.heap.size) := B3.out.size
      have HL3 := hide L3
      have LL : Hid (L.length ≤ 16) := by have := NP.out.2; have := HCN.out; show L.length ≤ 16; omega
      clear so b3 k3 L3 HL HX HB HD hk
      generalize (hdS st x ns (i : Int)).length = sl at *
      go_upto_region 11 with fail
      go_wp2_with (first
        | refine wpList_blR rfl 76 #[(0, .tmp 43)] rfl (hoV k) (by rw [HV.out]; kernel_rfl) ?_
        | refine wpList_bsH rfl (.tmp 44) rfl k rfl ?_
        | (at_builtin; refine wpList_apH rfl (.tmp 42) (.tmp 45) rfl w.heap.size _ L rfl R3.out W3.heap.size k rfl (heap_last _ _) ONE.out (by have := LL.out; omega) (by rw [World.size_alloc]; have := SZ.out; omega) ?_; intro v' w3 o2 g2 hn2; obtain ⟨va, vc, rfl⟩ := own_sl o2; have F2 := nw_grown HL3.out R3.out g2; have c3b := F2.1; have f3b := F2.2.1; have HF2 := hide F2.2.2; have HO2 := hide o2; have HG2 := hide g2; have HN2 := hide hn2; clear o2 g2 hn2 F2))
      have ST := nw_step HL3.out R3.out HG2.out HO2.out (by rw [hL]; exact NH.out) SO.out
      rw [hL] at ST
      have HST := hide ST
      have LG : Hid (∀ b, some b = hv.ownBlock → w.heap.size ≤ b) := fun b e => own_ge R3.out e.symm
      have LA : Hid ((L ++ [k]).length = i + 1) := by rw [List.length_append, hL]; rfl
      have X4 : Hid (Stand N w.heap.size (w3.setCell ⟨M + 1, 3, none⟩ (.slice va (i + 1) vc)) st x ao b o cap pv ns) := by
        have kk := HST.out.2
        refine ⟨(kk.block _ (blk_lt X3.out.cl) (fun e => ?_)).trans X3.out.cl, X3.out.nd.below ⟨kk.os, kk.tape, kk.output, kk.size, fun j hj => kk.block j (Nat.lt_of_lt_of_le hj X3.out.le) (fun e => ?_)⟩, Nat.le_trans X3.out.le kk.size⟩
        · rcases e with e | e
          · have := MG.out
            omega
          · obtain ⟨cur, hcu⟩ := own_typ HL3.out.row e.symm
            have z : W3.heap[w.heap.size]? = _ := X3.out.cl
            rw [z] at hcu
            simp at hcu
        · rcases e with e | e
          · have := MG.out
            omega
          · have := LG.out j e
            omega
      have B4 : Hid (Below w.heap.size w (w3.setCell ⟨M + 1, 3, none⟩ (.slice va (i + 1) vc))) := by
        have kk := HST.out.2
        exact B3.out.trans ⟨kk.os, kk.tape, kk.output, kk.size, fun j hj => kk.block j (Nat.lt_of_lt_of_le hj SZ.out) (fun e => by
          rcases e with e | e
          · have := MG.out
            omega
          · have := LG.out j e
            omega)⟩
      clear ST
      go_roundw
      case rel => exact ⟨i + 1, by omega, by go_num, _, L ++ [k], LA.out, HST.out.1, X4.out, B4.out⟩
      case measure => simp [intOf]; omega
end Go.Proofs.YteiiolilpemimaaDoor.Cn
namespace Go.Proofs.YteiiolilpemimaaDoor.Cn
open Go.RowKit
/-- what becomes of a node whose question has had its time -/
def actH (v : Au) (k : Ho) : Ho := if v.lm ≤ k.tm then { k with stt := 2 } else sentH k v.now
theorem TkS.hs {n : Nat} {v v' : Au} {q : Nat} {L : List Mg} (h : TkS n v q L v') : ∃ k, v.hs[q]? = some k ∧ v'.hs = v.hs.set q (actH v k) := by
  obtain ⟨k, hk, ⟨ht, rfl, hl⟩ | ⟨ht, s, _, rfl, rfl⟩⟩ := h
  · refine ⟨k, hk, ?_⟩
    rw [(left_hs hl).1]
    unfold actH
    rw [if_pos ht]
    rfl
  · refine ⟨k, hk, ?_⟩
    unfold actH
    rw [if_neg (by omega)]
    rfl
theorem TkL.hs {n : Nat} {v v' : Au} {qs : List Nat} {L : List Mg} (h : TkL n v qs L v') (hd : qs.Nodup) : ∀ j, v'.hs[j]? = (v.hs[j]?).map fun k => if j ∈ qs then actH v k else k := by
  induction h with
  | nil => intro j; simp
  | snoc h1 h2 ih =>
    rename_i qs L L1 v1 v2 q
    rw [List.nodup_append] at hd
    have nq : q ∉ qs := fun hq => hd.2.2 q hq q (List.mem_singleton.2 rfl) rfl
    obtain ⟨k, hk, e⟩ := h2.hs
    obtain ⟨_, _, e3, _, e5, _⟩ := h1.keep
    have ea : actH v1 k = actH v k := by unfold actH sentH; rw [e3, e5]
    intro j
    rw [e]
    by_cases hj : j = q
    · subst hj
      have z := ih hd.1 j
      rw [hk] at z
      have hl := (List.getElem?_eq_some_iff.1 hk).1
      rw [List.getElem?_set_self hl]
      cases hv : v.hs[j]? with
      | none => rw [hv] at z; simp at z
      | some k0 =>
        rw [hv] at z
        simp only [Option.map_some, Option.some.injEq, if_neg nq] at z
        simp only [Option.map_some, Option.some.injEq, List.mem_append, List.mem_singleton, or_true, if_true]
        rw [ea, z]
    · rw [List.getElem?_set_ne (fun e => hj e.symm), ih hd.1 j]
      congr 1
      funext k0
      simp only [List.mem_append, List.mem_singleton, hj, or_false]
def tkH (v : Au) (k : Ho) : Ho := if isDueH v.tck k then actH v.tck k else k
theorem tick_hs {n : Nat} {v v' : Au} {L : List Mg} (h : TickR n v L v') : v'.hs = v.hs.map (tkH v) := by
  have z := TkL.hs h (up_nodup (pickN_up _ _ _))
  refine List.ext_getElem? fun j => ?_
  rw [z j, List.getElem?_map]
  show (v.hs[j]?).map _ = _
  cases hv : v.hs[j]? with
  | none => rfl
  | some k =>
    simp only [Option.map_some, Option.some.injEq]
    unfold tkH
    have hj := (List.getElem?_eq_some_iff.1 hv).1
    have e : j ∈ dueQ v.tck ↔ isDueH v.tck k = true := by
      unfold dueQ
      rw [pickN_mem]
      show j < v.hs.length ∧ ((v.hs[j]?).map _).getD false = true ↔ _
      rw [hv]
      exact ⟨fun q => q.2, fun q => ⟨hj, q⟩⟩
    by_cases hd : isDueH v.tck k = true
    · rw [if_pos (e.2 hd), if_pos hd]
    · rw [if_neg (fun q => hd (e.1 q)), if_neg hd]
theorem tick_keep {n : Nat} {v v' : Au} {L : List Mg} (h : TickR n v L v') : v'.lm = v.lm ∧ v'.rs = v.rs ∧ v'.now = v.now + 1 ∧ v'.num = v.num := by
  obtain ⟨_, _, a, b, c, _, d, _⟩ := TkL.keep h
  exact ⟨a, b, c, d⟩
/-- how many ticks a question has left -/
def rm (v : Au) (k : Ho) : Int := (v.lm - k.tm) * v.rs + (v.rs - (v.now - k.ti))
def Fr (v : Au) : Prop := ∀ k ∈ v.hs, k.stt = 1 → v.now - k.ti < v.rs
theorem rm_pos {v : Au} {n : Nat} (ok : Aok v n) (fr : Fr v) {k : Ho} (hk : k ∈ v.hs) (h1 : k.stt = 1) : 1 ≤ rm v k := by
  have a := (ok.hk k hk).tm h1
  have b := fr k hk h1
  have c := ok.rs
  have d : 0 ≤ (v.lm - k.tm) * v.rs := Int.mul_nonneg (by omega) (by omega)
  unfold rm
  omega
theorem rm_max {v : Au} {n : Nat} (ok : Aok v n) {k : Ho} (hk : k ∈ v.hs) (h1 : k.stt = 1) : rm v k ≤ v.lm * v.rs := by
  have a := (ok.hk k hk).tm h1
  have b := (ok.hk k hk).ti
  have c := ok.rs
  have d : (v.lm - k.tm) * v.rs ≤ (v.lm - 1) * v.rs := Int.mul_le_mul_of_nonneg_right (by omega) (by omega)
  rw [Int.sub_mul v.lm 1, Int.one_mul] at d
  unfold rm
  omega
theorem tk_one {v v' : Au} {n : Nat} (ok : Aok v n) (fr : Fr v) (e1 : v'.lm = v.lm) (e2 : v'.rs = v.rs) (e3 : v'.now = v.now + 1) {k : Ho} (hk : k ∈ v.hs) (h1 : k.stt = 1) : ((tkH v k).stt = 1 ∧ rm v' (tkH v k) = rm v k - 1 ∧ v'.now - (tkH v k).ti < v'.rs) ∨ ((tkH v k).stt = 2 ∧ rm v k = 1) := by
  have a := (ok.hk k hk).tm h1
  have b := fr k hk h1
  have c := ok.rs
  unfold tkH
  by_cases hd : isDueH v.tck k = true
  · rw [if_pos hd]
    have hd2 : v.rs ≤ v.now + 1 - k.ti := by
      unfold isDueH at hd
      simp at hd
      exact hd.2
    unfold actH
    by_cases ht : v.lm ≤ k.tm
    · rw [if_pos (show v.tck.lm ≤ k.tm from ht)]
      refine Or.inr ⟨rfl, ?_⟩
      have e : v.lm - k.tm = 0 := by omega
      unfold rm
      rw [e, Int.zero_mul]
      omega
    · rw [if_neg (show ¬ v.tck.lm ≤ k.tm from ht)]
      refine Or.inl ⟨h1, ?_, ?_⟩
      · unfold rm sentH
        show (v'.lm - (k.tm + 1)) * v'.rs + (v'.rs - (v'.now - (v.now + 1))) = _
        rw [e1, e2, e3, show v.lm - (k.tm + 1) = (v.lm - k.tm) - 1 by omega, Int.sub_mul (v.lm - k.tm) 1, Int.one_mul]
        omega
      · show v'.now - (v.now + 1) < v'.rs
        rw [e2, e3]
        omega
  · rw [if_neg hd]
    have hd2 : ¬ v.rs ≤ v.now + 1 - k.ti := fun q => hd (by
      unfold isDueH
      rw [h1]
      simp
      exact q)
    refine Or.inl ⟨h1, ?_, ?_⟩
    · unfold rm
      rw [e1, e2, e3]
      omega
    · rw [e2, e3]
      omega
theorem tk_other {v : Au} {k : Ho} (h1 : k.stt ≠ 1) : tkH v k = k := by
  unfold tkH
  rw [if_neg (fun q => by unfold isDueH at q; simp at q; exact h1 q.1)]
theorem tick_fr {n : Nat} {v v' : Au} {L : List Mg} (h : TickR n v L v') (ok : Aok v n) (fr : Fr v) : Fr v' := by
  obtain ⟨e1, e2, e3, _⟩ := tick_keep h
  intro k' hk' h1'
  rw [tick_hs h] at hk'
  obtain ⟨k, hk, rfl⟩ := List.mem_map.1 hk'
  by_cases h1 : k.stt = 1
  · rcases tk_one ok fr e1 e2 e3 hk h1 with ⟨_, _, q⟩ | ⟨q, _⟩
    · exact q
    · rw [q] at h1'
      omega
  · rw [tk_other h1] at h1'
    exact absurd h1' h1
/-- every question has M ticks left at most -/
def Lim (v : Au) (M : Int) : Prop := ∀ k ∈ v.hs, k.stt = 1 → rm v k ≤ M
theorem tick_lim {n : Nat} {v v' : Au} {L : List Mg} {M : Int} (h : TickR n v L v') (ok : Aok v n) (fr : Fr v) (hl : Lim v M) : Lim v' (M - 1) := by
  obtain ⟨e1, e2, e3, _⟩ := tick_keep h
  intro k' hk' h1'
  rw [tick_hs h] at hk'
  obtain ⟨k, hk, rfl⟩ := List.mem_map.1 hk'
  by_cases h1 : k.stt = 1
  · have := hl k hk h1
    rcases tk_one ok fr e1 e2 e3 hk h1 with ⟨_, q, _⟩ | ⟨q, _⟩
    · omega
    · rw [q] at h1'
      omega
  · rw [tk_other h1] at h1'
    exact absurd h1' h1
theorem lim_idle {n : Nat} {v : Au} {M : Int} (ok : Aok v n) (fr : Fr v) (hl : Lim v M) (hM : M ≤ 0) : busyL v.hs = false := by
  unfold busyL
  rw [List.any_eq_false]
  intro k hk h1
  have h1 : k.stt = 1 := by simpa using h1
  have := rm_pos ok fr hk h1
  have := hl k hk h1
  omega
/-- all that hold something are asked, with M ticks left -/
def Un (v : Au) (M : Int) : Prop := ∀ k ∈ v.hs, (k.sl = [] → k.stt = 0) ∧ (k.sl ≠ [] → k.stt = 1 ∧ rm v k = M)
theorem tk_sl (v : Au) (k : Ho) : (tkH v k).sl = k.sl := by
  unfold tkH actH sentH
  split
  · split <;> rfl
  · rfl
theorem tick_un {n : Nat} {v v' : Au} {L : List Mg} {M : Int} (h : TickR n v L v') (ok : Aok v n) (fr : Fr v) (hu : Un v M) (hM : 2 ≤ M) : Un v' (M - 1) := by
  obtain ⟨e1, e2, e3, _⟩ := tick_keep h
  intro k' hk'
  rw [tick_hs h] at hk'
  obtain ⟨k, hk, rfl⟩ := List.mem_map.1 hk'
  rw [tk_sl]
  obtain ⟨a, b⟩ := hu k hk
  refine ⟨fun e => ?_, fun e => ?_⟩
  · have := a e
    rw [tk_other (by omega)]
    exact this
  · obtain ⟨c, d⟩ := b e
    rcases tk_one ok fr e1 e2 e3 hk c with ⟨q1, q2, _⟩ | ⟨_, q⟩
    · exact ⟨q1, by omega⟩
    · omega
theorem tick_last {n : Nat} {v v' : Au} {L : List Mg} (h : TickR n v L v') (ok : Aok v n) (fr : Fr v) (hu : Un v 1) : ∀ k' ∈ v'.hs, (k'.sl = [] → k'.stt = 0) ∧ (k'.sl ≠ [] → k'.stt = 2) := by
  have ok' := ok.tick h
  have fr' := tick_fr h ok fr
  obtain ⟨e1, e2, e3, _⟩ := tick_keep h
  intro k' hk'
  have hk2 := hk'
  rw [tick_hs h] at hk'
  obtain ⟨k, hk, rfl⟩ := List.mem_map.1 hk'
  obtain ⟨a, b⟩ := hu k hk
  rw [tk_sl]
  refine ⟨fun e => ?_, fun e => ?_⟩
  · have := a e
    rw [tk_other (by omega)]
    exact this
  · obtain ⟨c, d⟩ := b e
    rcases tk_one ok fr e1 e2 e3 hk c with ⟨q1, q2, _⟩ | ⟨q, _⟩
    · have := rm_pos ok' fr' hk2 q1
      omega
    · exact q
/-- the audit has ended, with this report -/
structure Endd (n : Nat) (num : Int) (T : Tl) (v : Au) : Prop where
  idle : busyL v.hs = false
  jb : v.jb = num
  ml : v.ml = misL v
  tl : v.told = []
  df : ∃ DL, DfL T n DL ∧ v.dl = DL ∧ v.jo = outO DL.length (misL v).length
theorem left_end {n : Nat} {v v' : Au} (h : Left n v v') : (busyL v'.hs = true ∧ v'.told = v.told) ∨ Endd n v.num v.told v' := by
  rcases h with ⟨a, rfl⟩ | ⟨a, DL, dv, mv, hd, rfl⟩
  · exact Or.inl ⟨a, rfl⟩
  · exact Or.inr ⟨a, rfl, rfl, rfl, DL, hd, rfl, rfl⟩
theorem TkL.ends {n : Nat} {v v' : Au} {qs : List Nat} {L : List Mg} (h : TkL n v qs L v') (hd : qs.Nodup) (h1 : ∀ q ∈ qs, ∀ k, v.hs[q]? = some k → k.stt = 1) (hb : busyL v.hs = true) : (busyL v'.hs = true ∧ v'.told = v.told) ∨ Endd n v.num v.told v' := by
  induction h with
  | nil => exact Or.inl ⟨hb, rfl⟩
  | snoc h2 h3 ih =>
    rename_i qs L L1 v1 v2 q
    rw [List.nodup_append] at hd
    have nq : q ∉ qs := fun hq => hd.2.2 q hq q (List.mem_singleton.2 rfl) rfl
    obtain ⟨_, kq, _, _, _, _, en, _⟩ := h2.keep
    have bz : busyL v1.hs = true := by
      obtain ⟨k, hk, _⟩ := h3
      rw [kq q nq] at hk
      have hs := h1 q (List.mem_append_right _ (List.mem_singleton.2 rfl)) k hk
      unfold busyL
      rw [List.any_eq_true]
      rw [← kq q nq] at hk
      exact ⟨k, List.mem_of_getElem? hk, by simp [hs]⟩
    have tl : v1.told = v.told := by
      rcases ih hd.1 (fun x hx => h1 x (List.mem_append_left _ hx)) with ⟨_, q⟩ | q
      · exact q
      · rw [q.idle] at bz
        exact absurd bz (by decide)
    obtain ⟨k, hk, ⟨_, rfl, hl⟩ | ⟨_, s, _, rfl, rfl⟩⟩ := h3
    · have z := left_end hl
      rw [show (v1.put q k 2).told = v1.told from rfl, show (v1.put q k 2).num = v1.num from rfl, tl, en] at z
      exact z
    · refine Or.inl ⟨?_, tl⟩
      have hql := (List.getElem?_eq_some_iff.1 hk).1
      have hs : k.stt = 1 := by
        have hk2 := hk
        rw [kq q nq] at hk2
        exact h1 q (List.mem_append_right _ (List.mem_singleton.2 rfl)) k hk2
      unfold busyL
      rw [List.any_eq_true]
      exact ⟨sentH k v1.now, List.mem_of_getElem? (i := q) (by show (v1.hs.set q _)[q]? = _; rw [List.getElem?_set_self hql]), by show (k.stt == 1) = true; simp [hs]⟩
theorem tick_ends {n : Nat} {v v' : Au} {L : List Mg} (h : TickR n v L v') (hb : busyL v.hs = true) : (busyL v'.hs = true ∧ v'.told = v.told) ∨ Endd n v.num v.told v' := by
  have z := TkL.ends (v := v.tck) h (up_nodup (pickN_up _ _ _)) (fun q hq k hk => by
    obtain ⟨k', hk', hs, _⟩ := due_one hq
    rw [hk'] at hk
    rw [← Option.some.inj hk]
    exact hs) hb
  exact z
end Go.Proofs.YteiiolilpemimaaDoor.Cn
