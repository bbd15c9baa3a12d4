import Derived.Test.YtioiphonajinmaaGreatDoorGGmMade
import Derived.Test.YtioiphonajinmaaGreatDoorGGhSort
import Derived.Test.YtioiphonajinmaaGreatDoorGGcApp
import Derived.Test.YtioiphonajinmaaGreatDoorGDgPlain
import Derived.Shelf.Strconv.Atoi
import Derived.Shelf.Strconv.Itoa0
import Derived.Shelf.Strconv.Itoa1
import Derived.Shelf.LaysM
import Derived.Shelf.Strconv.Itoa2
import Derived.Shelf.Strconv.Itoa3
import Derived.Shelf.Strconv.AtoiErrFast
import Derived.Shelf.Strconv.ParseIntEmpty
import Derived.Shelf.Strconv.AtoiFail
import Derived.Shelf.Strconv.Clone
import Derived.Shelf.Strconv.SyntaxError
import Derived.Shelf.LaysC
import Derived.Shelf.Strconv.ToError
import Derived.Shelf.Strconv.Lower
import Derived.Shelf.Strconv.ParseUint10
import Derived.Shelf.Strconv.ParseUint10Empty
import Derived.Shelf.Strconv.ParseUint10Any
import Derived.Shelf.Strconv.ParseInt10
import Derived.Shelf.Strconv.AtoiLong
import Derived.Shelf.Strconv.AtoiInnerAll
import Derived.Shelf.Strconv.RangeError
import Derived.Shelf.Strconv.ToErrorRange
import Derived.Shelf.Strconv.AtoiAll
import Derived.Shelf.Strconv.ErrVarAll
import Derived.Shelf.Strings.Search1
import Derived.Shelf.Strings.Search2
import Derived.Shelf.Strings.Cut
import Derived.Shelf.Strings.Shaped
import Derived.Test.YtioiphonajinmaaGreatDoorProg
namespace Go.Proofs.YtioiphonajinmaaGreatDoor
open Go.RowKit
theorem idx_way (L : List Int) (node : Int) : (node ∉ L ∧ Lib.idxOf (L.take L.length) node = -1) ∨ ∃ i, ∃ h : i < L.length, L[i] = node ∧ Lib.idxOf (L.take L.length) node = (i : Int) := by
  by_cases hm : node ∈ L
  · have hx : L.findIdx (fun a => a == node) < L.length := List.findIdx_lt_length_of_exists ⟨node, hm, by simp⟩
    have he : L[L.findIdx (fun a => a == node)] = node := by simpa using List.findIdx_getElem (w := hx)
    refine Or.inr ⟨_, hx, he, Lib.idxOf_hit L L.length _ node hx (Nat.le_refl _) (by rw [List.getD_eq_getElem?_getD, List.getElem?_eq_getElem hx]; exact he) fun j hj => ?_⟩
    have := List.not_of_lt_findIdx hj
    rw [List.getD_eq_getElem?_getD, List.getElem?_eq_getElem (by omega)]
    simpa using this
  · refine Or.inl ⟨hm, Lib.idxOf_miss L L.length node fun j hj e => hm ?_⟩
    rw [List.getD_eq_getElem?_getD, List.getElem?_eq_getElem hj] at e
    rw [← e]
    exact List.getElem_mem hj
/-- slots, as they lie there -/
def slc (l : List (Nat × Nat)) : List Value := l.flatMap fun s => [.int .i64 (s.1 : Int), .int .i64 (s.2 : Int)]
theorem slc_len (l : List (Nat × Nat)) : (slc l).length = l.length * 2 := by
  unfold slc
  induction l with
  | nil => rfl
  | cons s l ih => simp only [List.flatMap_cons, List.length_append, ih, List.length_cons, List.length_nil]; omega
theorem slc_append (a b : List (Nat × Nat)) : slc (a ++ b) = slc a ++ slc b := List.flatMap_append
theorem slc_at : ∀ (l : List (Nat × Nat)) (q : Nat) (h : q < l.length), (slc l)[q * 2]? = some (.int .i64 (l[q].1 : Int)) ∧ (slc l)[q * 2 + 1]? = some (.int .i64 (l[q].2 : Int))
  | [], q, h => absurd h (by simp)
  | s :: l, 0, _ => by simp [slc]
  | s :: l, q + 1, h => by
    have ih := slc_at l q (by simpa using h)
    rw [show (q + 1) * 2 = q * 2 + 1 + 1 by omega]
    simpa [slc] using ih
theorem slo_cells (w : World) (p r : Nat) : ∀ j u, (slc [(p, r)])[j]? = some u → (w.alloc (.cells #[.int .i64 (p : Int), .int .i64 (r : Int)] 60)).cell? ((⟨w.heap.size, 0, none⟩ : Addr).add j) = some u := by
  intro j u hj
  have e := heap_last w (.cells #[.int .i64 (p : Int), .int .i64 (r : Int)] 60)
  match j, hj with
  | 0, hj => simp [slc] at hj; subst hj; rw [add_pl]; unfold World.cell?; rw [e]; rfl
  | 1, hj => simp [slc] at hj; subst hj; rw [add_pl]; unfold World.cell?; rw [e]; rfl
  | (j + 2), hj => simp [slc] at hj
theorem sl_one (l : List (Nat × Nat)) : ∀ u ∈ slc l, u.oneCell' = true := by
  intro u hu
  unfold slc at hu
  obtain ⟨s, _, hs⟩ := List.mem_flatMap.1 hu
  simp at hs
  rcases hs with rfl | rfl <;> rfl
theorem infoSl : (Tryz.prog.info? 60).map (fun i => (i.zero, i.size, i.bytes)) = some (some (.agg #[.int .i64 0, .int .i64 0]), 2, 16) := by kernel_rfl
/-- the error of Holds -/
noncomputable def hdE (st : ByteArray) (x : Nat → Int) (ns : List ND) (node : Int) : Int := if errP st x ns = 0 then (if node < 0 ∨ (ns.length : Int) ≤ node then 68 else 0) else errP st x ns
theorem hdE_bad {st : ByteArray} {x : Nat → Int} {ns : List ND} {node : Int} (h : errP st x ns ≠ 0) : hdE st x ns node = errP st x ns := if_neg h
theorem hdE_node {st : ByteArray} {x : Nat → Int} {ns : List ND} {node : Int} (h : errP st x ns = 0) (hp : node < 0 ∨ (ns.length : Int) ≤ node) : hdE st x ns node = 68 := by unfold hdE; rw [if_pos h, if_pos hp]
theorem hdE_ok {st : ByteArray} {x : Nat → Int} {ns : List ND} {node : Int} (h : errP st x ns = 0) (hp : ¬ (node < 0 ∨ (ns.length : Int) ≤ node)) : hdE st x ns node = 0 := by unfold hdE; rw [if_pos h, if_neg hp]
theorem hdE_zero {st : ByteArray} {x : Nat → Int} {ns : List ND} {node : Int} (h : hdE st x ns node = 0) : errP st x ns = 0 := by
  by_cases e : errP st x ns = 0
  · exact e
  · rw [hdE_bad e] at h
    exact h
/-- what Holds answers -/
noncomputable def hdS (st : ByteArray) (x : Nat → Int) (ns : List ND) (node : Int) : List (Nat × Nat) := if hdE st x ns node = 0 then hdL x ns node (ptN ns) else []
theorem hdS_ok {st : ByteArray} {x : Nat → Int} {ns : List ND} {node : Int} (h : hdE st x ns node = 0) : hdS st x ns node = hdL x ns node (ptN ns) := if_pos h
theorem hdS_bad {st : ByteArray} {x : Nat → Int} {ns : List ND} {node : Int} (h : hdE st x ns node ≠ 0) : hdS st x ns node = [] := if_neg h
set_option maxHeartbeats 8000000 in
set_option maxRecDepth 100000 in
set_option linter.unusedSimpArgs false in
set_option linter.unusedVariables false in
theorem holds_any (N : Nat) (w : World) (st : ByteArray) (x : Nat → Int) (ao : Option Addr) (b o cap : Nat) (pv : Nat → Value) (ns : List ND) (node : Int) (h : NsAt N w ao b o pv ns) (hN : N ≤ w.heap.size) (hs : st.size ≤ 9223372036854775807) :
    Calls Tryz.prog 8 #[.agg (clA st x (.slice ao ns.length cap)), .int .i64 node] w fun e w' => ∃ v, e = .returned (.tuple #[v, .int .i64 (hdE st x ns node)]) ∧ w'.ownsRow w.heap.size 60 2 v (hdS st x ns node).length (slc (hdS st x ns node)) ∧ Below w.heap.size w w' := by
  have hlen := h.len
  obtain ⟨W0, hW0, hX⟩ := boxed st x cap h hN
  have HX := hide (hX.stand hN)
  have B0 := hide hX.bel
  clear hX h
  have ND := hide (nodesOf_any N W0 st x ao b o cap pv ns HX.out.nd HX.out.le hs)
  obtain ⟨k0, hk0, hx0, hx1, hx2⟩ := info_parts infoSl
  go_enter Tryz.func8, Tryz.ntmps8
  go_upto_region 1 with fail
  rw [← hW0]
  clear hW0
  go_wp2_with (refine wpList_loadCl rfl (.tmp 2) rfl w.heap.size st x _ rfl HX.out.cl ?_)
  refine Calls.mono ND.out ?_
  rintro e W1 ⟨⟨v, rfl, h1, h2⟩, hb⟩
  have X1 := hide (HX.out.below hb)
  have B1 := hide (B0.out.trans (hb.mono B0.out.size))
  clear hb HX ND
  have fin : Hid (∀ k : Int, k ≠ 0 → hdE st x ns node = k → ∃ v, Ending.returned (.tuple #[.slice none 0 0, .int .i64 k]) = .returned (.tuple #[v, .int .i64 (hdE st x ns node)]) ∧ W1.ownsRow w.heap.size 60 2 v (hdS st x ns node).length (slc (hdS st x ns node)) ∧ Below w.heap.size w W1) := fun k hk e => ⟨.slice none 0 0, by rw [e], by rw [hdS_bad (by rw [e]; exact hk)]; exact World.ownsRow_nil _ _ _ _, B1.out⟩
  by_cases he : errP st x ns = 0
  case neg =>
    obtain rfl := h2 he
    have HE := hide (fin.out _ he (hdE_bad he))
    generalize errP st x ns = k at *
    clear h1 h2 fin
    go_wp2_with fail
    go_ret2
    exact HE.out
  case pos =>
    obtain ⟨hd, g, rfl, hg, hgs⟩ := h1 he
    have d1 := hd.p1
    have d2 := hd.p2
    have hpt : (flat ns).length = ptN ns := rfl
    rw [hpt] at d1 d2
    have L0 : 1 ≤ x 0 ∧ x 0 ≤ 16 := sfP_lim (errP_ok he).1 0 (by omega)
    have HR : Hid (x 0 ≤ (kpN ns : Int)) := (errP_all he).2.2.2.2.1
    have HN68 := hide (fun hp => fin.out 68 (by omega) (hdE_node (node := node) he hp))
    have HOK := hide (fun hp => hdE_ok (node := node) he hp)
    have HD := hide hd
    have HG := hide hg
    have nvw := X1.out.cl.nv
    rw [he]
    clear h1 h2 hd hg hpt he fin hgs
    by_cases hp0 : node < 0
    · have HE := hide (HN68.out (Or.inl hp0))
      go_wp2_with fail
      go_ret2
      exact HE.out
    by_cases hp1 : (ns.length : Int) ≤ node
    · have HE := hide (HN68.out (Or.inr hp1))
      go_wp2_with fail
      go_ret2
      exact HE.out
    have HE := hide (HOK.out (by omega))
    clear HN68 HOK
    obtain ⟨R, hRR⟩ : ∃ R : Nat, (R : Int) = x 0 := ⟨(x 0).toNat, by omega⟩
    have x0c := X1.out.cl.x0
    rw [← hRR] at x0c HR
    have r1 : 1 ≤ R ∧ R ≤ 16 := by omega
    have HRR := hide hRR
    have CX : Hid (∀ Y, Below W1.heap.size W1 Y → Y.cell? ⟨w.heap.size, 1, none⟩ = some (.int .i64 (R : Int)) ∧ Y.heap[g]? = some (.cells (outL ns).toArray 3 (0, 0))) := fun Y hY => by
      refine ⟨?_, (hY.block _ (blk_lt HG.out)).trans HG.out⟩
      have := (X1.out.cl.below hY).x0
      rw [← HRR.out] at this
      exact this
    clear x0c L0 hRR
    obtain ⟨P, hP⟩ : ∃ P, P = ptN ns := ⟨_, rfl⟩
    have HP := hide hP
    rw [← hP] at d1 d2 ⊢
    clear hP
    go_wp2_with fail
    clear nvw
    go_loopw [8, 31] (fun vl vi wr => ∃ (q : Nat), q ≤ P ∧ vi = .int .i64 (q : Int) ∧ (∃ ba cp, vl = .slice ba (hdL x ns node q).length cp) ∧ Hid (wr.ownsRow W1.heap.size 60 2 vl (hdL x ns node q).length (slc (hdL x ns node q))) ∧ Hid (Below W1.heap.size W1 wr)) (fun _ vi _ => P - (intOf vi).toNat)
    case atStart => exact ⟨0, Nat.zero_le _, rfl, ⟨none, 0, rfl⟩, World.ownsRow_nil _ _ _ _, Below.refl _ _⟩
    case round =>
      obtain ⟨q, hq, rfl, ⟨ba, cp, rfl⟩, HO, HB⟩ := hrel
      by_cases hql : q < P
      case neg =>
        obtain rfl : q = P := by omega
        have FN : Hid (wr.ownsRow w.heap.size 60 2 (.slice ba (hdL x ns node q).length cp) (hdS st x ns node).length (slc (hdS st x ns node))) := by
          rw [hdS_ok HE.out, ← HP.out]
          exact own_lower HO.out B1.out.size
        go_wp2_with fail
        go_ret2
        exact ⟨_, by rw [HE.out]; rfl, FN.out, B1.out.trans (HB.out.mono B1.out.size)⟩
      case pos =>
        have hqi : (q : Int) < (P : Int) := by omega
        obtain ⟨x0c, hgr⟩ := CX.out _ HB.out
        have WK := walk_any wr g P q R ns hgr (by rw [HP.out]; rfl) (by omega) (by omega) hql (by omega) (by omega)
        have hwk : wkR ns P q R = wk x ns (q : Int) := by
          unfold wk
          rw [← HP.out, ← HRR.out]
          rfl
        rw [hwk] at WK
        have HW := hide (wk_diff x ns (q : Int))
        have HSu := hide (hdL_succ x ns node q)
        have hlw : (wk x ns (q : Int)).length = R := by
          have := wk_full (x := x) (p := (q : Int)) HD.out (by omega) (by rw [← HP.out]; omega) (by rw [← HRR.out]; omega) (by rw [← HRR.out]; exact HR.out)
          have := HRR.out
          omega
        have hwl : Hid (∀ k ∈ wk x ns (q : Int), k < P) := by rw [HP.out]; exact wk_lt (by rw [← HP.out]; omega)
        have hsl : (hdL x ns node q).length ≤ 64 := by have := hdL_len x ns node q; omega
        have hl1 : 1 ≤ (wk x ns (q : Int)).length ∧ (wk x ns (q : Int)).length ≤ 16 := by omega
        replace WK := hide WK
        clear hwk hgr hlw
        generalize wk x ns (q : Int) = L at *
        go_wp2_with fail
        refine Calls.mono WK.out ?_
        rintro e W2 ⟨v2, rfl, o2, hb⟩
        obtain ⟨pa, pb, po, pc, hv2, hps⟩ := own_ps o2 (nis_len _).symm (by rw [nis_len]; omega)
        subst hv2
        have HB2 := hide (HB.out.trans (hb.mono HB.out.size))
        have O2 : Hid (W2.ownsRow W1.heap.size 60 2 (.slice ba (hdL x ns node q).length cp) (hdL x ns node q).length (slc (hdL x ns node q))) := own_keep HO.out fun i hi => hb.block i (own_lt HO.out hi).2
        have KE := keepers_any W2.heap.size W2 g P (some ⟨g, 0, none⟩) ns L pa pb po pc hps (Nat.le_refl _) (fun _ => ⟨rfl, blk_lt (CX.out _ HB2.out).2⟩) (fun k hk => outL_cell (CX.out _ HB2.out).2 (show k < ptN ns by rw [← HP.out]; exact hk)) hwl.out (by omega) (by omega)
        rw [← nis_len L] at KE
        replace KE := hide KE
        clear hb o2 WK HO HB hps x0c
        go_wp2_with fail
        refine Calls.mono KE.out ?_
        rintro e W3 ⟨v3, rfl, o3, hb⟩
        rw [nis_len] at o3
        obtain ⟨go, co, hv3⟩ := own_some o3 (by omega)
        subst hv3
        have HB3 := hide (HB2.out.trans (hb.mono HB2.out.size))
        have O3 : Hid (W3.ownsRow W1.heap.size 60 2 (.slice ba (hdL x ns node q).length cp) (hdL x ns node q).length (slc (hdL x ns node q))) := own_keep O2.out fun i hi => hb.block i (own_lt O2.out hi).2
        have IX := Tryz.slices_Index_int go 0 L.length co (owL ns L) node W3 (by rw [owL_len]; exact Nat.le_refl _) (by omega) (fun j hj => by
          rw [Nat.zero_add, own_cell o3 (owL_len _ _).symm hj, List.getD_eq_getElem?_getD, List.getElem?_eq_getElem hj]
          rfl)
        rw [show List.take L.length (owL ns L) = List.take (owL ns L).length (owL ns L) by rw [owL_len]] at IX
        have HI := hide (idx_way (owL ns L) node)
        generalize Lib.idxOf (List.take (owL ns L).length (owL ns L)) node = ix at *
        replace IX := hide IX
        clear hb o3 KE O2 HB2
        go_wp2_with fail
        refine Calls.mono IX.out ?_
        rintro e W3' ⟨rfl, rfl⟩
        clear IX
        rcases HI.out with ⟨hm, rfl⟩ | ⟨i, hi, hmi, rfl⟩
        · have hS : hdL x ns node (q + 1) = hdL x ns node q := by rw [HSu.out, hdF_none hm, List.append_nil]
          have HS := hide hS
          clear hm hS HI HSu HW
          go_wp2_with fail
          go_roundw
          case rel => exact ⟨q + 1, by omega, by go_num, ⟨ba, cp, by rw [HS.out]⟩, by rw [HS.out]; exact O3, HB3⟩
          case measure => simp [intOf]; omega
        · have hS : hdL x ns node (q + 1) = hdL x ns node q ++ [(q, i)] := by rw [HSu.out, hdF_one hi HW.out hmi, Nat.zero_add]
          have HS := hide hS
          clear hS HI HSu HW hmi hi
          have hi0 : (0 : Int) ≤ (i : Int) := by omega
          generalize hdL x ns node q = A at *
          go_wp2_with (at_builtin; refine wpList_append_own_at _ rfl (.tmp 46) (.tmp 50) 34 rfl W1.heap.size 60 k0 (.agg #[.int .i64 0, .int .i64 0]) 2 16 Tryz.underlying34 hk0 hx0 hx1 hx2 rfl (by decide) _ _ _ rfl (O3.out.alloc _) ⟨_, 0, none⟩ 1 1 (slc [(q, i)]) rfl rfl (slo_cells _ q i) (sl_one _) (by unfold maxLen; omega) (by omega) (by have := HB3.out.size; simp; omega) ?_; intro v4 X4 o4 g4 n4 a4; clear n4 a4)
          have B4 : Hid (Below W1.heap.size W1 X4) := (HB3.out.alloc HB3.out.size _).grown g4 (by have := HB3.out.size; simp; omega) (fun j hj => (own_lt O3.out hj).1)
          have O4 : Hid (X4.ownsRow W1.heap.size 60 2 v4 (hdL x ns node (q + 1)).length (slc (hdL x ns node (q + 1)))) := by
            rw [HS.out, List.length_append, slc_append]
            exact o4
          obtain ⟨ba4, cp4, hv4, _⟩ := own_sl O4.out
          subst hv4
          clear o4 g4 O3
          go_wp2_with fail
          go_roundw
          case rel => exact ⟨q + 1, by omega, by go_num, ⟨ba4, cp4, rfl⟩, O4, B4⟩
          case measure => simp [intOf]; omega
end Go.Proofs.YtioiphonajinmaaGreatDoor
namespace Go.Proofs.YtioiphonajinmaaGreatDoor
open Go.RowKit
/-- names, as they lie there -/
def nmc (l : List (List UInt8)) : List Value := l.map fun s => .string (strOf s)
theorem nmc_len (l : List (List UInt8)) : (nmc l).length = l.length := by simp [nmc]
theorem nmc_append (a b : List (List UInt8)) : nmc (a ++ b) = nmc a ++ nmc b := by simp [nmc]
theorem nmc_at (l : List (List UInt8)) (q : Nat) (h : q < l.length) : (nmc l)[q]? = some (.string (strOf l[q])) := by simp [nmc, h]
theorem nmc_one (l : List (List UInt8)) : ∀ u ∈ nmc l, u.oneCell' = true := by
  intro u hu
  obtain ⟨s, _, rfl⟩ := List.mem_map.1 hu
  rfl
theorem insA_len (l : List (List UInt8)) : (insA l).length = l.length := by
  have := (fold_perm l []).length_eq
  simpa [insA] using this
/-- slices.Sort of names -/
theorem sort_names (w : World) (base g cap : Nat) (L : List (List UInt8)) (h : w.ownsRow base 9 1 (.slice (some ⟨g, 0, none⟩) L.length cap) L.length (nmc L)) (hl : L.length < 4611686018427387904) :
    Calls Tryz.prog 25 #[.slice (some ⟨g, 0, none⟩) L.length cap] w fun e w' => e = .returned (.tuple #[]) ∧ w'.ownsRow base 9 1 (.slice (some ⟨g, 0, none⟩) L.length cap) L.length (nmc (insA L)) ∧ Below base w w' := by
  rcases h.2 with ⟨e, _⟩ | ⟨g', cap', cur, e, hb, hg, hc1, hc2, hc3, hc4⟩
  · cases e
  injection e with e1 e2 e3
  injection e1 with e1
  injection e1 with e1
  subst e1
  subst e3
  rw [Nat.mul_one] at hc3 hc4
  have hcur : ∀ j (hj : j < L.length), cur[j]? = some (.string (strOf L[j])) := fun j hj => by
    rw [← nmc_at L j hj, ← hc4, List.getElem?_take, if_pos hj, Array.getElem?_toList]
  have hH : Sort.Holds encStr w g 0 L.toArray := fun j hj => by
    have hj' : j < L.length := by simpa using hj
    constructor
    · unfold World.cell?
      rw [Nat.zero_add]
      simp only [hg]
      rw [show cur[j]? = _ from hcur j hj']
      simp only [Array.getElem!_eq_getD, Array.getD_eq_getD_getElem?]
      simp [hj', encStr, strOf]
    · unfold World.frozen?
      rw [hg]
      simp
  refine (Tryz.slices_Sort_string g 0 cap L w hH (blk_lt hg) hl).mono ?_
  rintro e w' ⟨rfl, n, os, rfl⟩
  rw [← insA_sort]
  have hlen := insA_len L
  refine ⟨rfl, ⟨by rw [nmc_len, hlen]; omega, Or.inr ⟨g, cap, Sort.putCells encStr 0 (insA L).toArray cur, rfl, hb, ?_, hc1, hc2, by simp [Sort.putCells, hc3], ?_⟩⟩, ?_⟩
  · rw [Sort.heap_grow_old _ _ (by rw [Sort.size_putRow]; exact blk_lt hg)]
    simp only [Sort.putRow, Sort.mapBlock, Sort.heap_ahead, Array.getElem?_modify, if_true, hg, Option.map_some, Sort.onCells]
  · refine List.ext_getElem? fun j => ?_
    rw [List.getElem?_take]
    by_cases hj : j < L.length
    · rw [if_pos (by omega), Array.getElem?_toList, nmc_at _ _ (by rw [hlen]; exact hj)]
      have hj2 : j < (insA L).length := by rw [hlen]; exact hj
      simp only [Sort.putCells, Array.getElem?_mapIdx, hcur j hj, Option.map_some]
      rw [if_pos ⟨Nat.zero_le _, by simpa using hj2⟩]
      simp [hj2, encStr, strOf]
    · rw [if_neg (by omega), List.getElem?_eq_none (by rw [nmc_len, hlen]; omega)]
  · refine ⟨rfl, rfl, rfl, by simp, fun i hi => ?_⟩
    by_cases hiw : i < w.heap.size
    · rw [Sort.heap_grow_old _ _ (by rw [Sort.size_putRow]; exact hiw)]
      simp only [Sort.putRow, Sort.mapBlock, Sort.heap_ahead, Array.getElem?_modify]
      rw [if_neg (by omega)]
    · exact absurd hi (by have := blk_lt hg; omega)
end Go.Proofs.YtioiphonajinmaaGreatDoor
namespace Go.Proofs
open Go.Shelf Go.RowKit
def Tryz.lays171_ren : Go.Shelf.Ren := ⟨fun | 171 => 39 | 243 => 49 | 246 => 68 | 283 => 87 | 284 => 88 | 285 => 89 | 286 => 90 | 129 => 60 | 317 => 106 | 318 => 107 | 319 => 108 | 320 => 109 | 337 => 116 | 338 => 117 | n => n, fun | 3 => 3 | 9 => 9 | 2 => 2 | 4 => 4 | 171 => 149 | 0 => 0 | 53 => 116 | 37 => 135 | 5 => 5 | 173 => 151 | 212 => 175 | 51 => 114 | 20 => 20 | 213 => 176 | 46 => 88 | 232 => 187 | 233 => 120 | n => n, fun | 17 => 5 | 18 => 6 | 19 => 7 | n => n⟩
theorem Tryz.lays171 : Go.Proofs.Lays.n171 Tryz.prog Tryz.lays171_ren := {
  mixed := by kernel_rfl
  f129 := Tryz.func60.trans (congrArg some (by kernel_rfl))
  f171 := Tryz.func39.trans (congrArg some (by kernel_rfl))
  f243 := Tryz.func49.trans (congrArg some (by kernel_rfl))
  f246 := Tryz.func68.trans (congrArg some (by kernel_rfl))
  f283 := Tryz.func87.trans (congrArg some (by kernel_rfl))
  f284 := Tryz.func88.trans (congrArg some (by kernel_rfl))
  f285 := Tryz.func89.trans (congrArg some (by kernel_rfl))
  f286 := Tryz.func90.trans (congrArg some (by kernel_rfl))
  f317 := Tryz.func106.trans (congrArg some (by kernel_rfl))
  f318 := Tryz.func107.trans (congrArg some (by kernel_rfl))
  f319 := Tryz.func108.trans (congrArg some (by kernel_rfl))
  f320 := Tryz.func109.trans (congrArg some (by kernel_rfl))
  f337 := Tryz.func116.trans (congrArg some (by kernel_rfl))
  f338 := Tryz.func117.trans (congrArg some (by kernel_rfl))
  t0 := Tryz.underlying0
  a0 := Tryz.isAgg0
  z0 := Tryz.sizeOf0
  v0 := Tryz.zeroValue0
  t2 := Tryz.underlying2
  a2 := Tryz.isAgg2
  z2 := Tryz.sizeOf2
  v2 := Tryz.zeroValue2
  t3 := Tryz.underlying3
  a3 := Tryz.isAgg3
  z3 := Tryz.sizeOf3
  v3 := Tryz.zeroValue3
  t4 := Tryz.underlying4
  a4 := Tryz.isAgg4
  z4 := Tryz.sizeOf4
  v4 := Tryz.zeroValue4
  t5 := Tryz.underlying5
  a5 := Tryz.isAgg5
  z5 := Tryz.sizeOf5
  v5 := Tryz.zeroValue5
  t9 := Tryz.underlying9
  a9 := Tryz.isAgg9
  z9 := Tryz.sizeOf9
  v9 := Tryz.zeroValue9
  t20 := Tryz.underlying20
  a20 := Tryz.isAgg20
  z20 := Tryz.sizeOf20
  v20 := Tryz.zeroValue20
  t37 := Tryz.underlying135
  a37 := Tryz.isAgg135
  z37 := Tryz.sizeOf135
  v37 := Tryz.zeroValue135
  t46 := Tryz.underlying88
  a46 := Tryz.isAgg88
  z46 := Tryz.sizeOf88
  v46 := Tryz.zeroValue88
  t51 := Tryz.underlying114
  a51 := Tryz.isAgg114
  z51 := Tryz.sizeOf114
  v51 := Tryz.zeroValue114
  t53 := Tryz.underlying116
  a53 := Tryz.isAgg116
  z53 := Tryz.sizeOf116
  v53 := Tryz.zeroValue116
  t171 := Tryz.underlying149
  a171 := Tryz.isAgg149
  z171 := Tryz.sizeOf149
  v171 := Tryz.zeroValue149
  t173 := Tryz.underlying151
  a173 := Tryz.isAgg151
  z173 := Tryz.sizeOf151
  v173 := Tryz.zeroValue151
  t212 := Tryz.underlying175
  a212 := Tryz.isAgg175
  z212 := Tryz.sizeOf175
  v212 := Tryz.zeroValue175
  t213 := Tryz.underlying176
  a213 := Tryz.isAgg176
  z213 := Tryz.sizeOf176
  t232 := Tryz.underlying187
  a232 := Tryz.isAgg187
  z232 := Tryz.sizeOf187
  v232 := Tryz.zeroValue187
  t233 := Tryz.underlying120
  a233 := Tryz.isAgg120
  z233 := Tryz.sizeOf120
  v233 := Tryz.zeroValue120
  g17 := by kernel_rfl
  g18 := by kernel_rfl
  g19 := by kernel_rfl }
open Go.RowKit Go.Sort Go.Lib in
theorem Tryz.strconv_Itoa_small (i : Nat) (hi : i < 100) (w : World) :
    Calls Tryz.prog 39 #[.int .i64 i] w fun e w' => e = .returned (.string ⟨(Lib.decDigits i).toArray⟩) ∧ w' = w := Any.strconv_Itoa_small Tryz.lays171 i hi w
def Tryz.laysC172_ren : Go.Shelf.Ren := ⟨fun | 172 => 43 | 244 => 62 | 245 => 63 | 247 => 76 | 279 => 77 | 280 => 78 | 281 => 79 | 282 => 80 | 287 => 95 | 316 => 96 | 171 => 39 | 205 => 97 | 321 => 111 | 322 => 112 | 243 => 49 | 246 => 68 | 283 => 87 | 284 => 88 | 285 => 89 | 286 => 90 | 129 => 60 | 317 => 106 | 318 => 107 | 319 => 108 | 320 => 109 | 337 => 116 | 338 => 117 | n => n, fun | 9 => 9 | 3 => 3 | 75 => 92 | 76 => 93 | 4 => 4 | 5 => 5 | 167 => 134 | 37 => 135 | 0 => 0 | 85 => 136 | 2 => 2 | 168 => 138 | 53 => 116 | 175 => 157 | 46 => 88 | 210 => 161 | 127 => 180 | 145 => 183 | 143 => 181 | 21 => 21 | 171 => 149 | 173 => 151 | 212 => 175 | 51 => 114 | 20 => 20 | 213 => 176 | 232 => 187 | 233 => 120 | 80 => 64 | n => n, fun | 15 => 1 | 16 => 2 | 17 => 5 | 18 => 6 | 19 => 7 | n => n⟩
theorem Tryz.laysC172 : Go.Proofs.LaysC.n172 Tryz.prog Tryz.laysC172_ren := {
  mixed := by kernel_rfl
  f129 := Tryz.func60.trans (congrArg some (by kernel_rfl))
  f171 := Tryz.func39.trans (congrArg some (by kernel_rfl))
  f172 := Tryz.func43.trans (congrArg some (by kernel_rfl))
  f205 := Tryz.func97.trans (congrArg some (by kernel_rfl))
  f243 := Tryz.func49.trans (congrArg some (by kernel_rfl))
  f244 := Tryz.func62.trans (congrArg some (by kernel_rfl))
  f245 := Tryz.func63.trans (congrArg some (by kernel_rfl))
  f246 := Tryz.func68.trans (congrArg some (by kernel_rfl))
  f247 := Tryz.func76.trans (congrArg some (by kernel_rfl))
  f279 := Tryz.func77.trans (congrArg some (by kernel_rfl))
  f280 := Tryz.func78.trans (congrArg some (by kernel_rfl))
  f281 := Tryz.func79.trans (congrArg some (by kernel_rfl))
  f282 := Tryz.func80.trans (congrArg some (by kernel_rfl))
  f283 := Tryz.func87.trans (congrArg some (by kernel_rfl))
  f284 := Tryz.func88.trans (congrArg some (by kernel_rfl))
  f285 := Tryz.func89.trans (congrArg some (by kernel_rfl))
  f286 := Tryz.func90.trans (congrArg some (by kernel_rfl))
  f287 := Tryz.func95.trans (congrArg some (by kernel_rfl))
  f316 := Tryz.func96.trans (congrArg some (by kernel_rfl))
  f317 := Tryz.func106.trans (congrArg some (by kernel_rfl))
  f318 := Tryz.func107.trans (congrArg some (by kernel_rfl))
  f319 := Tryz.func108.trans (congrArg some (by kernel_rfl))
  f320 := Tryz.func109.trans (congrArg some (by kernel_rfl))
  f321 := Tryz.func111.trans (congrArg some (by kernel_rfl))
  f322 := Tryz.func112.trans (congrArg some (by kernel_rfl))
  f337 := Tryz.func116.trans (congrArg some (by kernel_rfl))
  f338 := Tryz.func117.trans (congrArg some (by kernel_rfl))
  t0 := Tryz.underlying0
  a0 := Tryz.isAgg0
  z0 := Tryz.sizeOf0
  v0 := Tryz.zeroValue0
  t2 := Tryz.underlying2
  a2 := Tryz.isAgg2
  z2 := Tryz.sizeOf2
  v2 := Tryz.zeroValue2
  t3 := Tryz.underlying3
  a3 := Tryz.isAgg3
  z3 := Tryz.sizeOf3
  v3 := Tryz.zeroValue3
  t4 := Tryz.underlying4
  a4 := Tryz.isAgg4
  z4 := Tryz.sizeOf4
  v4 := Tryz.zeroValue4
  t5 := Tryz.underlying5
  a5 := Tryz.isAgg5
  z5 := Tryz.sizeOf5
  v5 := Tryz.zeroValue5
  t9 := Tryz.underlying9
  a9 := Tryz.isAgg9
  z9 := Tryz.sizeOf9
  v9 := Tryz.zeroValue9
  t20 := Tryz.underlying20
  a20 := Tryz.isAgg20
  z20 := Tryz.sizeOf20
  v20 := Tryz.zeroValue20
  t21 := Tryz.underlying21
  a21 := Tryz.isAgg21
  z21 := Tryz.sizeOf21
  v21 := Tryz.zeroValue21
  t37 := Tryz.underlying135
  a37 := Tryz.isAgg135
  z37 := Tryz.sizeOf135
  v37 := Tryz.zeroValue135
  t46 := Tryz.underlying88
  a46 := Tryz.isAgg88
  z46 := Tryz.sizeOf88
  v46 := Tryz.zeroValue88
  t51 := Tryz.underlying114
  a51 := Tryz.isAgg114
  z51 := Tryz.sizeOf114
  v51 := Tryz.zeroValue114
  t53 := Tryz.underlying116
  a53 := Tryz.isAgg116
  z53 := Tryz.sizeOf116
  v53 := Tryz.zeroValue116
  t75 := Tryz.underlying92
  a75 := Tryz.isAgg92
  z75 := Tryz.sizeOf92
  v75 := Tryz.zeroValue92
  t76 := Tryz.underlying93
  a76 := Tryz.isAgg93
  z76 := Tryz.sizeOf93
  v76 := Tryz.zeroValue93
  t85 := Tryz.underlying136
  a85 := Tryz.isAgg136
  z85 := Tryz.sizeOf136
  v85 := Tryz.zeroValue136
  t127 := Tryz.underlying180
  a127 := Tryz.isAgg180
  z127 := Tryz.sizeOf180
  v127 := Tryz.zeroValue180
  t143 := Tryz.underlying181
  a143 := Tryz.isAgg181
  z143 := Tryz.sizeOf181
  v143 := Tryz.zeroValue181
  t145 := Tryz.underlying183
  a145 := Tryz.isAgg183
  z145 := Tryz.sizeOf183
  v145 := Tryz.zeroValue183
  t167 := Tryz.underlying134
  a167 := Tryz.isAgg134
  z167 := Tryz.sizeOf134
  v167 := Tryz.zeroValue134
  t168 := Tryz.underlying138
  a168 := Tryz.isAgg138
  z168 := Tryz.sizeOf138
  v168 := Tryz.zeroValue138
  t171 := Tryz.underlying149
  a171 := Tryz.isAgg149
  z171 := Tryz.sizeOf149
  v171 := Tryz.zeroValue149
  t173 := Tryz.underlying151
  a173 := Tryz.isAgg151
  z173 := Tryz.sizeOf151
  v173 := Tryz.zeroValue151
  t175 := Tryz.underlying157
  a175 := Tryz.isAgg157
  z175 := Tryz.sizeOf157
  v175 := Tryz.zeroValue157
  t210 := Tryz.underlying161
  a210 := Tryz.isAgg161
  z210 := Tryz.sizeOf161
  v210 := Tryz.zeroValue161
  t212 := Tryz.underlying175
  a212 := Tryz.isAgg175
  z212 := Tryz.sizeOf175
  v212 := Tryz.zeroValue175
  t213 := Tryz.underlying176
  a213 := Tryz.isAgg176
  z213 := Tryz.sizeOf176
  t232 := Tryz.underlying187
  a232 := Tryz.isAgg187
  z232 := Tryz.sizeOf187
  v232 := Tryz.zeroValue187
  t233 := Tryz.underlying120
  a233 := Tryz.isAgg120
  z233 := Tryz.sizeOf120
  v233 := Tryz.zeroValue120
  g15 := by kernel_rfl
  g16 := by kernel_rfl
  g17 := by kernel_rfl
  g18 := by kernel_rfl
  g19 := by kernel_rfl
  t80 := Tryz.underlying64
  a80 := Tryz.isAgg64
  z80 := Tryz.sizeOf64
  v80 := Tryz.zeroValue64
  i0 := by kernel_rfl
  i2 := by kernel_rfl
  i3 := by kernel_rfl
  i4 := by kernel_rfl
  i5 := by kernel_rfl
  i9 := by kernel_rfl
  i20 := by kernel_rfl
  i21 := by kernel_rfl
  i37 := by kernel_rfl
  i46 := by kernel_rfl
  i51 := by kernel_rfl
  i53 := by kernel_rfl
  i75 := by kernel_rfl
  i76 := by kernel_rfl
  i80 := by kernel_rfl
  i85 := by kernel_rfl
  i127 := by kernel_rfl
  i143 := by kernel_rfl
  i145 := by kernel_rfl
  i167 := by kernel_rfl
  i168 := by kernel_rfl
  i171 := by kernel_rfl
  i173 := by kernel_rfl
  i175 := by kernel_rfl
  i210 := by kernel_rfl
  i212 := by kernel_rfl
  i232 := by kernel_rfl
  i233 := by kernel_rfl
  m15 := by kernel_rfl
  m16 := by kernel_rfl
  m17 := by kernel_rfl
  m18 := by kernel_rfl
  m19 := by kernel_rfl
  c0 := by kernel_rfl
  c2 := by kernel_rfl
  c3 := by kernel_rfl
  c4 := by kernel_rfl
  c5 := by kernel_rfl
  c9 := by kernel_rfl
  c20 := by kernel_rfl
  c21 := by kernel_rfl
  c37 := by kernel_rfl
  c46 := by kernel_rfl
  c51 := by kernel_rfl
  c53 := by kernel_rfl
  c75 := by kernel_rfl
  c76 := by kernel_rfl
  c80 := by kernel_rfl
  c85 := by kernel_rfl
  c127 := by kernel_rfl
  c143 := by kernel_rfl
  c145 := by kernel_rfl
  c167 := by kernel_rfl
  c168 := by kernel_rfl
  c171 := by kernel_rfl
  c173 := by kernel_rfl
  c175 := by kernel_rfl
  c210 := by kernel_rfl
  c212 := by kernel_rfl
  c213 := by kernel_rfl
  c232 := by kernel_rfl
  c233 := by kernel_rfl }
open Go.RowKit in
theorem Tryz.strconv_Atoi_ok (s : ByteArray) (hmax : s.size ≤ 9223372036854775806) (v : Int) (h : Lib.atoiAll s.data.toList = .ok v) (w : World) :
    Calls Tryz.prog 43 #[.string s] w fun e w' => e = .returned (.tuple #[.int .i64 v, .nilIface]) ∧ (w' = w ∨ ∃ t, w' = Lib.bytesWorld w 5 t) := Any.strconv_Atoi_ok Tryz.laysC172 s hmax v h w
open Go.RowKit in
theorem Tryz.strconv_Atoi_range (s : ByteArray) (hlim : s.size ≤ 281474976710656) (h : Lib.atoiAll s.data.toList = .range) (ev : Value) (w : World) (hv : w.cell? ⟨2, 0, none⟩ = some ev) (hev : ev = .nilIface ∨ ∃ te pe, ev = .iface te pe) :
    Calls Tryz.prog 43 #[.string s] w fun e w' => ∃ N, e = .returned (.tuple #[.int .i64 (Lib.atoiSat s.data.toList), .iface 138 (.pointer (some ⟨N, 0, none⟩))]) ∧ w.heap.size ≤ N ∧ w'.heap[N]? = some (.cells #[.string ⟨#[65, 116, 111, 105]⟩, .string s, ev] 161 (0, 0)) ∧ Below w.heap.size w w' := Any.strconv_Atoi_range Tryz.laysC172 s hlim h ev w hv hev
open Go.RowKit in
theorem Tryz.strconv_Atoi_syntax (s : ByteArray) (hlim : s.size ≤ 281474976710656) (h : Lib.atoiAll s.data.toList = .«syntax») (ev : Value) (w : World) (hv : w.cell? ⟨1, 0, none⟩ = some ev) (hev : ev = .nilIface ∨ ∃ te pe, ev = .iface te pe) :
    Calls Tryz.prog 43 #[.string s] w fun e w' => ∃ N, e = .returned (.tuple #[.int .i64 (0), .iface 138 (.pointer (some ⟨N, 0, none⟩))]) ∧ w.heap.size ≤ N ∧ w'.heap[N]? = some (.cells #[.string ⟨#[65, 116, 111, 105]⟩, .string s, ev] 161 (0, 0)) ∧ Below w.heap.size w w' := Any.strconv_Atoi_syntax Tryz.laysC172 s hlim h ev w hv hev
def Tryz.lays145_ren : Go.Shelf.Ren := ⟨fun | 145 => 42 | 220 => 61 | 219 => 75 | 217 => 84 | 225 => 92 | 224 => 93 | 267 => 94 | 266 => 105 | 314 => 110 | n => n, fun | 9 => 9 | 4 => 4 | 59 => 89 | 3 => 3 | 5 => 5 | 46 => 88 | 146 => 145 | 51 => 114 | n => n, fun | 1 => 0 | n => n⟩
theorem Tryz.lays145 : Go.Proofs.Lays.n145 Tryz.prog Tryz.lays145_ren := {
  mixed := by kernel_rfl
  f145 := Tryz.func42.trans (congrArg some (by kernel_rfl))
  f217 := Tryz.func84.trans (congrArg some (by kernel_rfl))
  f219 := Tryz.func75.trans (congrArg some (by kernel_rfl))
  f220 := Tryz.func61.trans (congrArg some (by kernel_rfl))
  f224 := Tryz.func93.trans (congrArg some (by kernel_rfl))
  f225 := Tryz.func92.trans (congrArg some (by kernel_rfl))
  f266 := Tryz.func105.trans (congrArg some (by kernel_rfl))
  f267 := Tryz.func94.trans (congrArg some (by kernel_rfl))
  f314 := Tryz.func110.trans (congrArg some (by kernel_rfl))
  t3 := Tryz.underlying3
  a3 := Tryz.isAgg3
  z3 := Tryz.sizeOf3
  v3 := Tryz.zeroValue3
  t4 := Tryz.underlying4
  a4 := Tryz.isAgg4
  z4 := Tryz.sizeOf4
  v4 := Tryz.zeroValue4
  t5 := Tryz.underlying5
  a5 := Tryz.isAgg5
  z5 := Tryz.sizeOf5
  v5 := Tryz.zeroValue5
  t9 := Tryz.underlying9
  a9 := Tryz.isAgg9
  z9 := Tryz.sizeOf9
  v9 := Tryz.zeroValue9
  t46 := Tryz.underlying88
  a46 := Tryz.isAgg88
  z46 := Tryz.sizeOf88
  v46 := Tryz.zeroValue88
  t51 := Tryz.underlying114
  a51 := Tryz.isAgg114
  z51 := Tryz.sizeOf114
  v51 := Tryz.zeroValue114
  t59 := Tryz.underlying89
  a59 := Tryz.isAgg89
  z59 := Tryz.sizeOf89
  v59 := Tryz.zeroValue89
  t146 := Tryz.underlying145
  a146 := Tryz.isAgg145
  z146 := Tryz.sizeOf145
  v146 := Tryz.zeroValue145
  g1 := by kernel_rfl }
open Go.RowKit Go.Lib in
theorem Tryz.strings_Cut (s sep : ByteArray) (m : Int) (w : World) (hs : s.size < 4294967281) (hm : w.cell? ⟨0, 0, none⟩ = some (.int .i64 m)) :
    Calls Tryz.prog 42 #[.string s, .string sep] w fun e w' => e = .returned (.tuple #[.string ⟨(Lib.cut s.data.toList sep.data.toList).1.toArray⟩, .string ⟨(Lib.cut s.data.toList sep.data.toList).2.1.toArray⟩, .bool (Lib.cut s.data.toList sep.data.toList).2.2]) ∧ ∃ n, w' = w.drewN n := Any.strings_Cut Tryz.lays145 s sep m w hs hm
end Go.Proofs
