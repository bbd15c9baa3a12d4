import Derived.Test.YtanlnelfbfjelaaDoorGGtClus
import Derived.Test.YtanlnelfbfjelaaDoorGDgPlain
namespace Go.Proofs.YtanlnelfbfjelaaDoor
open Go.RowKit Go.Maps
def sxI (l : List UInt8) : Int := if wdI l < 21 then ((wdI l : Nat) : Int) else -1
set_option maxHeartbeats 8000000 in
set_option maxRecDepth 100000 in
set_option linter.unusedSimpArgs false in
set_option linter.unusedVariables false in
theorem tsetting_any (w : World) (l : List UInt8) (hT : TabW w) :
    Calls Tryd.prog 53 #[.string (strOf l)] w fun e w' => e = .returned (.int .i64 (sxI l)) ∧ w = w' := by
  have HT := hide hT
  clear hT
  have HHIT : Hid (∀ q, q < 21 → swd q = l → sxI l = (q : Int)) := fun q hq e => by unfold sxI; rw [wdI_hit hq e, if_pos hq]
  have HMISS : Hid ((∀ j, j < 21 → swd j ≠ l) → sxI l = -1) := fun h => by unfold sxI; rw [wdI_miss h]; rfl
  have SE := hide (fun q => str_eq (swd q) l)
  obtain ⟨R, hR⟩ : ∃ R, R = sxI l := ⟨_, rfl⟩
  rw [← hR] at HHIT HMISS
  rw [← hR]
  clear hR
  obtain ⟨ts, hts⟩ : ∃ ts, ts = strOf l := ⟨_, rfl⟩
  rw [← hts] at SE
  rw [← hts]
  clear hts
  go_enter Tryd.func53, Tryd.ntmps53
  go_wp2_with fail
  go_loopw [3] (fun vi wr => ∃ (q : Nat), q ≤ 21 ∧ vi = .int .i64 (q : Int) ∧ Hid (∀ j, j < q → swd j ≠ l) ∧ w = wr) (fun vi _ => 21 - (intOf vi).toNat)
  case atStart => exact ⟨0, Nat.zero_le _, rfl, fun j hj => absurd hj (Nat.not_lt_zero _), rfl⟩
  case round =>
    obtain ⟨q, hq, rfl, hA, rfl⟩ := hrel
    by_cases hql : q < 21
    case pos =>
      have hqi : (q : Int) < 21 := by omega
      have d0 := HT.out q hql
      have HE := SE.out q
      have HQ := hide (HHIT.out q hql)
      have HA2 : Hid (swd q ≠ l → ∀ j, j < q + 1 → swd j ≠ l) := fun e j hj => by
        by_cases h : j = q
        · subst h; exact e
        · exact hA.out j (by omega)
      generalize strOf (swd q) = wq at *
      by_cases e : swd q = l
      · obtain rfl : R = (q : Int) := HQ.out e
        rw [decide_eq_true e] at HE
        clear e HQ HA2
        go_wp2_with fail
        go_ret
        exact ⟨rfl, rfl⟩
      · rw [decide_eq_false e] at HE
        have HZ := hide (HA2.out e)
        clear e HQ HA2
        go_wp2_with fail
        go_roundw
        case rel => exact ⟨q + 1, by omega, by go_num, HZ.out, trivial⟩
        case measure => simp [intOf]; omega
    case neg =>
      obtain rfl : q = 21 := by omega
      obtain rfl : R = -1 := HMISS.out hA.out
      go_wp2_with fail
      go_ret
      exact ⟨rfl, rfl⟩
theorem ws_of_row {w : World} {base : Nat} {v : Value} {L : List (List UInt8)} (h : w.ownsRow base 9 1 v L.length (L.map fun l => Value.string (strOf l))) (hL : 0 < L.length) : ∃ g cap, v = .slice (some ⟨g, 0, none⟩) L.length cap ∧ base ≤ g ∧ L.length ≤ cap ∧ WsAt w (some ⟨g, 0, none⟩) g 0 L := by
  rcases h.2 with ⟨_, hz⟩ | ⟨g, cap, cur, hv, hb, hg, hc, _⟩
  · omega
  · subst hv
    refine ⟨g, cap, rfl, hb, hc, fun _ => rfl, fun _ => blk_lt hg, fun q hq => ?_⟩
    rw [Nat.zero_add, h.cellAt q (by omega)]
    simp [hq]
/-- the document's node line -/
noncomputable def ndR (L : List (List UInt8)) (k : Nat) (pv : Value) : Array Value := if ndOk L k = true then #[.int .i64 (numV (wAt L 3)), pv] else #[.int .i64 0, .slice none 0 0]
theorem res_nd2 {fn : Func} {p q : Tmp} (h : fn.results = #[.cell p 59, .tmp q]) (tmps : Array Value) (z : Int) (nv : Value) (w : World) (b : Nat) (ht : tmps.getD p undef = .pointer (some ⟨b, 0, none⟩)) (hO : w.heap[b]? = some (.cells #[.int .i64 z, nv] 59)) (v : Value) (hv : tmps.getD q undef = v) : (results fn tmps).run Tryd.prog w = .ok (.tuple #[.agg #[.int .i64 z, nv], v]) w := by
  have hl : (loadVar 59 ⟨b, 0, none⟩).run Tryd.prog w = .ok (.agg #[.int .i64 z, nv]) w := run_loadVar_row _ _ 59 59 #[.int .i64 z, nv] (0, 0) _ hO Tryd.underlying59 rfl (by kernel_rfl)
  have ht' : tmps[p]?.getD undef = .pointer (some ⟨b, 0, none⟩) := by simpa using ht
  have hv' : tmps[q]?.getD undef = v := by simpa using hv
  unfold results
  rw [h]
  simp [ht', hv', asAddr, hl]
end Go.Proofs.YtanlnelfbfjelaaDoor
namespace Go.Proofs.YtanlnelfbfjelaaDoor
open Go.RowKit Go.Maps
theorem infoNd2 : (Tryd.prog.info? 59).map (·.size) = some 2 := by kernel_rfl
theorem nd_all1 (z : Int) (ba : Option Addr) (n c : Nat) : (#[.int .i64 z, .slice ba n c] : Array Value).all (·.oneCell') = true := by simp [Value.oneCell']
theorem ndR_no {L : List (List UInt8)} {k : Nat} (h : ndOk L k = false) (pv : Value) : ndR L k pv = #[.int .i64 0, .slice none 0 0] := by unfold ndR; rw [h]; rfl
theorem ndR_yes {L : List (List UInt8)} {k : Nat} (h : ndOk L k = true) (pv : Value) : ndR L k pv = #[.int .i64 (numV (wAt L 3)), pv] := by unfold ndR; rw [h]; rfl
theorem wAt_drop (L : List (List UInt8)) (q : Nat) (h : q < (L.drop 5).length) : wAt L (q + 5) = (L.drop 5)[q] := by
  have h' : q + 5 < L.length := by simp at h; omega
  unfold wAt
  rw [List.getElem?_eq_getElem h', List.getElem_drop]
  simp [Nat.add_comm]
set_option maxHeartbeats 8000000 in
set_option maxRecDepth 100000 in
set_option linter.unusedSimpArgs false in
set_option linter.unusedVariables false in
theorem tnode_any (w : World) (b cap k : Nat) (L : List (List UInt8)) (hw : WsAt w (some ⟨b, 0, none⟩) b 0 L) (hl : L.length ≤ 70000) (hm : ∀ l ∈ L, l.length ≤ 70000) (hk : k ≤ 70000) :
    Calls Tryd.prog 52 #[.slice (some ⟨b, 0, none⟩) L.length cap, .int .i64 (k : Int)] w fun e w' => Below w.heap.size w w' ∧ ∃ pv, e = .returned (.tuple #[.agg (ndR L k pv), .bool (ndOk L k)]) ∧ (ndOk L k = true → w'.ownsRow w.heap.size 3 1 pv (L.length - 5) (ints ((L.drop 5).map numV))) := by
  obtain ⟨i0, hi0, hx0, hx1, hx2⟩ := info_parts infoIntT
  obtain ⟨W0, hW0⟩ : ∃ W0, W0 = w.alloc (.cells #[.int .i64 0, .slice none 0 0] 59) := ⟨_, rfl⟩
  have B0 : Hid (Below w.heap.size w W0) := by rw [hW0]; exact (Below.refl _ _).alloc (Nat.le_refl _) _
  have R0 : Hid (W0.heap[w.heap.size]? = some (.cells #[.int .i64 0, .slice none 0 0] 59)) := by rw [hW0]; exact heap_last _ _
  have s0 : Hid (W0.heap.size = w.heap.size + 1) := by rw [hW0]; show _ = _; simp
  have WS := hide (hw.below B0.out)
  have HM := hide hm
  clear hw hm
  have FIN : Hid (ndOk L k = false → ∀ X : World, Below w.heap.size w X → ((Ending.returned (.tuple #[.agg #[.int .i64 0, .slice none 0 0], .bool false])) = .returned (.tuple #[.agg (ndR L k (.slice none 0 0)), .bool (ndOk L k)]) ∧ (ndOk L k = true → X.ownsRow w.heap.size 3 1 (.slice none 0 0) (L.length - 5) (ints ((L.drop 5).map numV))))) := fun h X _ => ⟨by rw [ndR_no h, h], fun e => by rw [h] at e; cases e⟩
  by_cases h5 : 5 ≤ L.length
  case neg =>
    have hno : ndOk L k = false := by unfold ndOk; rw [decide_eq_false h5]; rfl
    have h5' : (L.length : Int) < 5 := by omega
    have FF := hide (FIN.out hno)
    clear hno FIN
    go_enter Tryd.func52, Tryd.ntmps52
    go_upto_region 1 with fail
    rw [← hW0]
    clear hW0
    go_wp2_with (refine wpList_store_row rfl 59 (.tmp 4) (.tmp 39) rfl w.heap.size #[.int .i64 0, .slice none 0 0] rfl rfl 59 _ R0.out infoNd2 rfl (nd_all1 _ _ _ _) ?_)
    have E6 : (W0.setRow w.heap.size #[.int .i64 0, .slice none 0 0]).heap[w.heap.size]? = some (.cells #[.int .i64 0, .slice none 0 0] 59) := setRow_heap W0 w.heap.size _ _ 59 _ R0.out
    have B7 : Below w.heap.size w (W0.setRow w.heap.size #[.int .i64 0, .slice none 0 0]) := below_setRow B0.out (Nat.le_refl _) _
    refine bodyPost_ret (v := .tuple #[.agg #[.int .i64 0, .slice none 0 0], .bool false]) (res_nd2 Tryd.results52 _ 0 _ _ w.heap.size rfl E6 _ rfl) rfl ⟨B7, _, FF.out _ B7⟩
  have h5' : ¬ (L.length : Int) < 5 := by omega
  have e1 := WS.out.at 1 (by omega)
  have e2 := WS.out.at 2 (by omega)
  have e3 := WS.out.at 3 (by omega)
  have e4 := WS.out.at 4 (by omega)
  have wm : ∀ i, (wAt L i).length ≤ 70000 := fun i => by
    unfold wAt
    by_cases hi : i < L.length
    · rw [List.getElem?_eq_getElem hi]; exact HM.out _ (List.getElem_mem hi)
    · rw [List.getElem?_eq_none (by omega)]; simp
  have NM1 := hide (fun w' => tnumber_any (strOf (wAt L 1)) w' (by rw [strOf_size]; exact wm 1))
  have NM3 := hide (fun w' => tnumber_any (strOf (wAt L 3)) w' (by rw [strOf_size]; exact wm 3))
  rw [strOf_data] at NM1 NM3
  have E2 := str_eq (wAt L 2) zoneW
  have E4 := str_eq (wAt L 4) partsW
  rw [show (strOf zoneW).toList = [122, 111, 110, 101] from by rw [toList_data]; rfl] at E2
  rw [show (strOf partsW).toList = [112, 97, 114, 116, 115] from by rw [toList_data]; rfl] at E4
  have HOK : Hid (ndOk L k = (decide (wAt L 2 = zoneW) && decide (wAt L 4 = partsW) && decide (numV (wAt L 1) = (k : Int)) && decide (0 ≤ numV (wAt L 3)) && (L.drop 5).all okN)) := by
    show ndOk L k = _
    unfold ndOk okN
    rw [decide_eq_true h5, Bool.true_and]
  have HY := hide (fun h pv => ndR_yes (L := L) (k := k) h pv)
  have HDR : Hid (∀ q (h : q < (L.drop 5).length), W0.cell? ⟨b, q + 5, none⟩ = some (.string (strOf (L.drop 5)[q])) ∧ (L.drop 5)[q].length ≤ 70000) := fun q h => by
    rw [← wAt_drop L q h]
    exact ⟨WS.out.at (q + 5) (by simp at h; omega), wm _⟩
  have HDL : Hid ((L.drop 5).length = L.length - 5) := by show _ = _; simp
  have HBL : Hid (b < W0.heap.size) := WS.out.lt (by omega)
  clear wm HM
  generalize ndR L k = nr at *
  generalize ndOk L k = ok at *
  generalize wAt L 1 = l1 at *
  generalize wAt L 2 = l2 at *
  generalize wAt L 3 = l3 at *
  generalize wAt L 4 = l4 at *
  generalize L.drop 5 = L5 at *
  have WS2 : Hid True := trivial
  clear WS
  generalize hmL : L.length = m at *
  clear hmL
  have HR1 := hide (numV_le l1)
  have HR3 := hide (numV_le l3)
  generalize numV l1 = v1 at *
  generalize numV l3 = v3 at *
  generalize strOf l1 = t1 at *
  generalize strOf l2 = t2 at *
  generalize strOf l3 = t3 at *
  generalize strOf l4 = t4 at *
  by_cases hz : l2 = zoneW
  case neg =>
    rw [decide_eq_false hz] at E2
    have FF := hide (FIN.out (by rw [HOK.out, decide_eq_false hz]; rfl))
    clear hz FIN HOK
    go_enter Tryd.func52, Tryd.ntmps52
    go_upto_region 1 with fail
    rw [← hW0]
    clear hW0
    go_wp2_with (refine wpList_store_row rfl 59 (.tmp 4) (.tmp 39) rfl w.heap.size #[.int .i64 0, .slice none 0 0] rfl rfl 59 _ R0.out infoNd2 rfl (nd_all1 _ _ _ _) ?_)
    have E6 : (W0.setRow w.heap.size #[.int .i64 0, .slice none 0 0]).heap[w.heap.size]? = some (.cells #[.int .i64 0, .slice none 0 0] 59) := setRow_heap W0 w.heap.size _ _ 59 _ R0.out
    have B7 : Below w.heap.size w (W0.setRow w.heap.size #[.int .i64 0, .slice none 0 0]) := below_setRow B0.out (Nat.le_refl _) _
    refine bodyPost_ret (v := .tuple #[.agg #[.int .i64 0, .slice none 0 0], .bool false]) (res_nd2 Tryd.results52 _ 0 _ _ w.heap.size rfl E6 _ rfl) rfl ⟨B7, _, FF.out _ B7⟩
  by_cases hp : l4 = partsW
  case neg =>
    rw [decide_eq_true hz] at E2
    rw [decide_eq_false hp] at E4
    have FF := hide (FIN.out (by rw [HOK.out, decide_eq_false hp, Bool.and_false]; rfl))
    clear hz hp FIN HOK
    go_enter Tryd.func52, Tryd.ntmps52
    go_upto_region 1 with fail
    rw [← hW0]
    clear hW0
    go_wp2_with (refine wpList_store_row rfl 59 (.tmp 4) (.tmp 39) rfl w.heap.size #[.int .i64 0, .slice none 0 0] rfl rfl 59 _ R0.out infoNd2 rfl (nd_all1 _ _ _ _) ?_)
    have E6 : (W0.setRow w.heap.size #[.int .i64 0, .slice none 0 0]).heap[w.heap.size]? = some (.cells #[.int .i64 0, .slice none 0 0] 59) := setRow_heap W0 w.heap.size _ _ 59 _ R0.out
    have B7 : Below w.heap.size w (W0.setRow w.heap.size #[.int .i64 0, .slice none 0 0]) := below_setRow B0.out (Nat.le_refl _) _
    refine bodyPost_ret (v := .tuple #[.agg #[.int .i64 0, .slice none 0 0], .bool false]) (res_nd2 Tryd.results52 _ 0 _ _ w.heap.size rfl E6 _ rfl) rfl ⟨B7, _, FF.out _ B7⟩
  rw [decide_eq_true hz] at E2
  rw [decide_eq_true hp] at E4
  have HO2 : Hid (ok = (decide (v1 = (k : Int)) && decide (0 ≤ v3) && L5.all okN)) := by show ok = _; rw [HOK.out, decide_eq_true hz, decide_eq_true hp]; rfl
  clear hz hp HOK
  by_cases hq : v1 = (k : Int)
  case neg =>
    have FF := hide (FIN.out (by rw [HO2.out, decide_eq_false hq]; rfl))
    clear FIN HO2
    go_enter Tryd.func52, Tryd.ntmps52
    go_upto_region 1 with fail
    rw [← hW0]
    clear hW0
    go_wp2_with fail
    refine Calls.mono (NM1.out _) ?_
    rintro e W9 ⟨rfl, rfl⟩
    go_wp2_with (refine wpList_store_row rfl 59 (.tmp 4) (.tmp 39) rfl w.heap.size #[.int .i64 0, .slice none 0 0] rfl rfl 59 _ R0.out infoNd2 rfl (nd_all1 _ _ _ _) ?_)
    have E6 : (W0.setRow w.heap.size #[.int .i64 0, .slice none 0 0]).heap[w.heap.size]? = some (.cells #[.int .i64 0, .slice none 0 0] 59) := setRow_heap W0 w.heap.size _ _ 59 _ R0.out
    have B7 : Below w.heap.size w (W0.setRow w.heap.size #[.int .i64 0, .slice none 0 0]) := below_setRow B0.out (Nat.le_refl _) _
    refine bodyPost_ret (v := .tuple #[.agg #[.int .i64 0, .slice none 0 0], .bool false]) (res_nd2 Tryd.results52 _ 0 _ _ w.heap.size rfl E6 _ rfl) rfl ⟨B7, _, FF.out _ B7⟩
  by_cases h3 : 0 ≤ v3
  case neg =>
    have FF := hide (FIN.out (by rw [HO2.out, decide_eq_false h3, Bool.and_false]; rfl))
    have h3' : v3 < 0 := by omega
    subst hq
    clear FIN HO2 h3
    go_enter Tryd.func52, Tryd.ntmps52
    go_upto_region 1 with fail
    rw [← hW0]
    clear hW0
    go_wp2_with fail
    refine Calls.mono (NM1.out _) ?_
    rintro e W9 ⟨rfl, rfl⟩
    go_wp2_with fail
    refine Calls.mono (NM3.out _) ?_
    rintro e W9 ⟨rfl, rfl⟩
    go_wp2_with (refine wpList_store_row rfl 59 (.tmp 4) (.tmp 39) rfl w.heap.size #[.int .i64 0, .slice none 0 0] rfl rfl 59 _ R0.out infoNd2 rfl (nd_all1 _ _ _ _) ?_)
    have E6 : (W0.setRow w.heap.size #[.int .i64 0, .slice none 0 0]).heap[w.heap.size]? = some (.cells #[.int .i64 0, .slice none 0 0] 59) := setRow_heap W0 w.heap.size _ _ 59 _ R0.out
    have B7 : Below w.heap.size w (W0.setRow w.heap.size #[.int .i64 0, .slice none 0 0]) := below_setRow B0.out (Nat.le_refl _) _
    refine bodyPost_ret (v := .tuple #[.agg #[.int .i64 0, .slice none 0 0], .bool false]) (res_nd2 Tryd.results52 _ 0 _ _ w.heap.size rfl E6 _ rfl) rfl ⟨B7, _, FF.out _ B7⟩
  have HO3 : Hid (ok = L5.all okN) := by show ok = _; rw [HO2.out, decide_eq_true hq, decide_eq_true h3]; rfl
  have h3' : ¬ v3 < 0 := by omega
  subst hq
  clear HO2
  go_enter Tryd.func52, Tryd.ntmps52
  go_upto_region 1 with fail
  rw [← hW0]
  clear hW0
  go_wp2_with fail
  refine Calls.mono (NM1.out _) ?_
  rintro e W9 ⟨rfl, rfl⟩
  go_wp2_with fail
  refine Calls.mono (NM3.out _) ?_
  rintro e W9 ⟨rfl, rfl⟩
  go_wp2_with fail
  refine Calls.mono (NM3.out _) ?_
  rintro e W9 ⟨rfl, rfl⟩
  obtain ⟨W1, hW1⟩ : ∃ W1, W1 = W0.alloc (.cells #[.int .i64 v3, .slice none 0 0] 59) := ⟨_, rfl⟩
  have b1 : Hid (Below W0.heap.size W0 W1) := by rw [hW1]; exact (Below.refl _ _).alloc (Nat.le_refl _) _
  have D1 : Hid (W1.heap[W0.heap.size]? = some (.cells #[.int .i64 v3, .slice none 0 0] 59)) := by rw [hW1]; exact heap_last _ _
  clear e1 e2 e3 e4 E2 E4 NM1 NM3
  go_wp2_with fail
  rw [← hW1]
  clear hW1
  go_loopw [7] (fun vi wr => ∃ j q : Nat, Hid (j = q + 5 ∧ q ≤ L5.length) ∧ j ≤ m ∧ vi = .int .i64 (j : Int) ∧ Hid ((L5.take q).all okN = true) ∧ Hid (∃ pv, wr.heap[W0.heap.size]? = some (.cells #[.int .i64 v3, pv] 59) ∧ wr.ownsRow (W0.heap.size + 1) 3 1 pv q (ints ((L5.take q).map numV))) ∧ Hid (Below W0.heap.size W0 wr)) (fun vi _ => m - (intOf vi).toNat)
  case atStart => exact ⟨5, 0, ⟨rfl, Nat.zero_le _⟩, h5, rfl, rfl, ⟨_, D1.out, World.ownsRow_nil _ _ _ _⟩, b1.out⟩
  case round =>
    obtain ⟨j, q, HJ, hjm, rfl, hA, hP, HB⟩ := hrel
    obtain ⟨pv, hD, hO⟩ := hP.out
    have HD := hide hD
    have HO := hide hO
    clear hP
    obtain ⟨ba, cc, hpv, _⟩ := own_sl hO
    subst hpv
    clear hD hO
    have hws : W0.heap.size + 1 ≤ wr.heap.size := by have := blk_lt HD.out; omega
    have R8 : Hid (wr.heap[w.heap.size]? = some (.cells #[.int .i64 0, .slice none 0 0] 59)) := (HB.out.block _ (by have := s0.out; omega)).trans R0.out
    have B8 := hide (B0.out.trans (HB.out.mono B0.out.size))
    by_cases hjl : j < m
    case pos =>
      have hql : q < L5.length := by have := HJ.out; have := HDL.out; omega
      have hji : (j : Int) < (m : Int) := by omega
      obtain ⟨e0, hlen⟩ := HDR.out q hql
      rw [← HB.out.cell (p := ⟨b, q + 5, none⟩) HBL.out, ← HJ.out.1] at e0
      have NM := hide (fun w' => tnumber_any (strOf L5[q]) w' (by rw [strOf_size]; exact hlen))
      rw [strOf_data] at NM
      have HT := hide (all_take hql hA.out)
      have HF := hide (all_no (f := okN) hql)
      have HOKN : Hid (okN L5[q] = decide (0 ≤ numV L5[q])) := rfl
      have HMP : Hid ((L5.take (q + 1)).map numV = (L5.take q).map numV ++ [numV L5[q]]) := by
        show _ = _
        rw [List.take_succ_eq_append_getElem hql, List.map_append]
        rfl
      have HVL := hide (numV_le L5[q])
      have HQL : Hid (q < 70000) := by have := HJ.out; show _ < _; omega
      clear hlen
      generalize L5[q] = l at *
      clear hql
      generalize okN l = okl at *
      generalize numV l = nv at *
      generalize strOf l = tl at *
      go_wp2_with fail
      refine Calls.mono (NM.out _) ?_
      rintro e W9 ⟨rfl, rfl⟩
      by_cases hn0 : nv < 0
      · have FF := hide (FIN.out (by rw [HO3.out]; exact HF.out (by rw [HOKN.out, decide_eq_false (by omega)])))
        clear FIN HO3 HT HMP e0 HF
        go_wp2_with (refine wpList_store_row rfl 59 (.tmp 4) (.tmp 58) rfl w.heap.size #[.int .i64 0, .slice none 0 0] rfl rfl 59 _ R8.out infoNd2 rfl (nd_all1 _ _ _ _) ?_)
        have E6 : (wr.setRow w.heap.size #[.int .i64 0, .slice none 0 0]).heap[w.heap.size]? = some (.cells #[.int .i64 0, .slice none 0 0] 59) := setRow_heap wr w.heap.size _ _ 59 _ R8.out
        have B7 : Below w.heap.size w (wr.setRow w.heap.size #[.int .i64 0, .slice none 0 0]) := below_setRow B8.out (Nat.le_refl _) _
        refine bodyPost_ret (v := .tuple #[.agg #[.int .i64 0, .slice none 0 0], .bool false]) (res_nd2 Tryd.results52 _ 0 _ _ w.heap.size rfl E6 _ rfl) rfl ⟨B7, _, FF.out _ B7⟩
      · have HZ := hide (HT.out (by rw [HOKN.out, decide_eq_true (by omega)]))
        have c1 := (nd_facts HD.out).1
        clear HT HF FIN HY HO3 R8 B8 e0
        have hq70 := HQL.out
        have SXf : Hid (∀ X : World, (wr.alloc (.cells #[.int .i64 nv] 3)).grownBy X (Value.slice ba q cc).ownBlock → X.heap[W0.heap.size]? = some (.cells #[.int .i64 v3, .slice ba q cc] 59)) := fun X g => nd_grown HD.out HO.out g
        go_wp2_with (at_builtin; refine wpList_append_own_at _ rfl (.tmp 60) (.tmp 62) 33 rfl (W0.heap.size + 1) 3 i0 (.int .i64 0) 1 8 Tryd.underlying33 hi0 hx0 hx1 hx2 rfl (by decide) _ _ _ rfl (HO.out.alloc _) ⟨wr.heap.size, 0, none⟩ 1 1 (ints [nv]) rfl rfl (one_cellT wr nv) (ints_one _) (by unfold maxLen; omega) (by omega) (by simp; omega) ?_; intro v2 X3 o3 g3 n3 a3; clear n3 a3 c1; obtain ⟨bv, cv, hvv, _⟩ := own_sl o3; subst hvv; have cX := (nd_facts (SXf.out X3 g3)).1; have fX := (nd_facts (SXf.out X3 g3)).2)
        go_roundw
        case rel =>
          refine ⟨j + 1, q + 1, ⟨by have := HJ.out; omega, by have := HJ.out; have := HDL.out; omega⟩, by omega, by go_num, HZ.out, ⟨_, nd_set (SXf.out X3 g3), ?_⟩, ?_⟩
          · rw [HMP.out]
            unfold ints at *
            rw [List.map_append]
            exact own_set o3 (by omega) _
          · refine set_below ((HB.out.alloc (by omega) _).grown g3 (by simp; omega) (fun k hk => ?_)) (Nat.le_refl _)
            have := (own_lt HO.out hk).1
            omega
        case measure => simp [intOf]; omega
    case neg =>
      obtain rfl : j = m := by omega
      have hq5 : q = L5.length := by have := HJ.out; have := HDL.out; omega
      subst hq5
      have hA' := hA.out
      rw [List.take_length] at hA'
      have HA := hide hA'
      have hO' := HO.out
      rw [List.take_length] at hO'
      have HO' := hide hO'
      clear hA hA' hO' HO
      have c0 : wr.cell? ⟨W0.heap.size, 0, none⟩ = some (.int .i64 v3) := by unfold World.cell?; rw [HD.out]; rfl
      have c1 := (nd_facts HD.out).1
      go_wp2_with (refine wpList_store_row rfl 59 (.tmp 4) (.tmp 65) rfl w.heap.size #[.int .i64 v3, .slice ba L5.length cc] rfl rfl 59 _ R8.out infoNd2 rfl (nd_all1 _ _ _ _) ?_)
      have E6 : (wr.setRow w.heap.size #[.int .i64 v3, .slice ba L5.length cc]).heap[w.heap.size]? = some (.cells #[.int .i64 v3, .slice ba L5.length cc] 59) := setRow_heap wr w.heap.size _ _ 59 _ R8.out
      have B7 : Below w.heap.size w (wr.setRow w.heap.size #[.int .i64 v3, .slice ba L5.length cc]) := below_setRow B8.out (Nat.le_refl _) _
      have O7 : (wr.setRow w.heap.size #[.int .i64 v3, .slice ba L5.length cc]).ownsRow w.heap.size 3 1 (.slice ba L5.length cc) L5.length (ints (L5.map numV)) := by
        refine own_lowr (own_keep HO'.out fun g hg => ?_) (by have := s0.out; omega : w.heap.size ≤ W0.heap.size + 1)
        have := (own_lt HO'.out hg).1
        exact setRow_other wr w.heap.size g _ (by have := s0.out; omega)
      have hok : ok = true := HO3.out.trans HA.out
      have HYY := HY.out hok (.slice ba L5.length cc)
      refine bodyPost_ret (v := .tuple #[.agg #[.int .i64 v3, .slice ba L5.length cc], .bool true]) (res_nd2 Tryd.results52 _ v3 _ _ w.heap.size rfl E6 _ rfl) rfl ⟨B7, .slice ba L5.length cc, by rw [HYY, hok], fun _ => ?_⟩
      rw [← HDL.out]
      exact O7
end Go.Proofs.YtanlnelfbfjelaaDoor
