import Derived.Test.YteiiolilpemimaaDoorGAfTold
import Derived.Test.YteiiolilpemimaaDoorAfEnd0
namespace Go.Proofs.YteiiolilpemimaaDoor.Cn
open Go.RowKit
theorem cellW_len {ys : List Ce} {S : Nat → List Sl} (h : ∀ j, (S j).length ≤ 64) (i : Nat) : (cellW ys S i).length ≤ i * 64 := by
  induction i with
  | zero => simp [cellW]
  | succ i ih =>
    rw [cellW_succ, List.length_append]
    have h1 : (celL ys i (S i)).length ≤ 64 := by
      have := List.Sublist.length_le (List.takeWhile_sublist (fitB) (l := (S i).map (cel ys i)))
      rw [List.length_map] at this
      unfold celL
      exact Nat.le_trans this (h i)
    omega
theorem tl_eq (x y : ByteArray) : x.toList = y.toList ↔ x = y := by
  rw [ByteArray.toList_eq, ByteArray.toList_eq]
  exact ⟨fun h => ByteArray.ext (Array.toList_inj.mp h), fun h => by rw [h]⟩
/-- a node's slots -/
noncomputable def hdN (st : ByteArray) (x : Nat → Int) (ns : List ND) (j : Nat) : List Sl := hdS st x ns (j : Int)
/-- the report under way, in memory -/
structure RpAt (w : World) (R base : Nat) (ver out : Int) (dv mv : Value) (D M : List Int) : Prop where
  blk : w.heap[R]? = some (.cells (rpA ⟨1, ver, out, [], []⟩ dv mv) 49)
  df : w.ownsRow base 3 1 dv D.length (ints D)
  ms : w.ownsRow base 3 1 mv M.length (ints M)
theorem RpAt.kp {w w' : World} {R base : Nat} {ver out : Int} {dv mv : Value} {D M : List Int} (h : RpAt w R base ver out dv mv D M) (hk : Kp w w' non) : RpAt w' R base ver out dv mv D M := ⟨(hk.block _ (blk_lt h.blk) (fun f => f)).trans h.blk, own_kp h.df hk (fun _ _ f => f), own_kp h.ms hk (fun _ _ f => f)⟩
theorem RpAt.cells {w : World} {R base : Nat} {ver out : Int} {dv mv : Value} {D M : List Int} (h : RpAt w R base ver out dv mv D M) : w.cell? ⟨R, 3, none⟩ = some dv ∧ w.cell? ⟨R, 4, none⟩ = some mv := by
  simp only [cell_row h.blk]
  exact ⟨rfl, rfl⟩
/-- what lies below a place is kept where all that is written lies above it -/
theorem below_up {w1 wr w' : World} {b : Nat} {S : Nat → Prop} (h : Below b w1 wr) (hk : Kp wr w' S) (hS : ∀ k, S k → b ≤ k) (hb : b ≤ wr.heap.size) : Below b w1 w' := h.trans ⟨hk.os, hk.tape, hk.output, hk.size, fun k hk' => hk.block k (Nat.lt_of_lt_of_le hk' hb) (fun e => by have := hS k e; omega)⟩
theorem RpAt.keep {w w' : World} {R base b2 n : Nat} {ver out : Int} {dv mv u : Value} {D M : List Int} {xs : List Value} (h : RpAt w R base ver out dv mv D M) (ho : w.ownsRow b2 45 5 u n xs) (hk : Kp w w' (fun k => some k = u.ownBlock)) : RpAt w' R base ver out dv mv D M := by
  have off : ∀ {k : Nat} {C : Array Value} {t : TypeId} {fr : Nat × Nat}, w.heap[k]? = some (.cells C t fr) → t ≠ 45 → ¬ some k = u.ownBlock := fun {k C t fr} hc ht e => by
    obtain ⟨cur, hc'⟩ := own_typ ho e.symm
    rw [hc] at hc'
    simp at hc'
    exact ht hc'.2.1
  refine ⟨(hk.block _ (blk_lt h.blk) (off h.blk (by decide))).trans h.blk, own_kp h.df hk (fun k hk' => ?_), own_kp h.ms hk (fun k hk' => ?_)⟩
  · obtain ⟨cur, hc⟩ := own_typ h.df hk'
    exact off hc (by decide)
  · obtain ⟨cur, hc⟩ := own_typ h.ms hk'
    exact off hc (by decide)
/-- behind an append to one of the report's lists -/
theorem apR {w w3 : World} {R base n : Nat} {X : Array Value} {o : Obj} {mv : Value} {xs : List Value} (hb : w.heap[R]? = some (.cells X 49)) (hm : w.ownsRow base 3 1 mv n xs) (g : (w.alloc o).grownBy w3 mv.ownBlock) : w3.heap[R]? = some (.cells X 49) ∧ w3.frozen? ⟨R, 3, none⟩ = false ∧ w3.frozen? ⟨R, 4, none⟩ = false ∧ Kp w w3 (fun b => some b = mv.ownBlock) := by
  have k3 : Kp w w3 (fun b => some b = mv.ownBlock) := ((Kp.refl w (fun b => some b = mv.ownBlock)).alloc o).trans (Kp.of_grown g) (fun _ e => Or.inl e)
  have nR : ¬ some R = mv.ownBlock := fun e => by
    obtain ⟨cur, hc⟩ := own_typ hm e.symm
    rw [hb] at hc
    simp at hc
  have b3 := (k3.block _ (blk_lt hb) nR).trans hb
  exact ⟨b3, fz_row b3 3, fz_row b3 4, k3⟩
theorem rp_put4 {w : World} {R : Nat} {p : Rp} {d m : Value} (h : w.heap[R]? = some (.cells (rpA p d m) 49)) (v : Value) : (w.setCell ⟨R, 4, none⟩ v).heap[R]? = some (.cells (rpA p d v) 49) := set_row h 4 v
set_option maxHeartbeats 16000000 in
set_option maxRecDepth 100000 in
set_option linter.unusedSimpArgs false in
set_option linter.unusedVariables false in
theorem want_a (N : Nat) (w : World) (st : ByteArray) (x : Nat → Int) (ao : Option Addr) (b o cap : Nat) (pv : Nat → Value) (ns : List ND) (h : NsAt N w ao b o pv ns) (hN : N ≤ w.heap.size) (hs : st.size ≤ 9223372036854775807) (he : errP st x ns = 0) (hT : TabG w) (N2 : Nat) (ao2 : Option Addr) (bb oo cap2 : Nat) (ys : List Ce) (hR : RwAt 5 ceV N2 w ao2 bb oo ys) (hN2 : N2 ≤ w.heap.size) (ver : Int) :
    Calls Tryd.prog 18 #[.agg (clA st x (.slice ao ns.length cap)), .slice ao2 ys.length cap2, .int .i64 ver] w fun e w' => ∃ dv mv, e = .returned (.agg (rpA ⟨1, ver, outO (difW (cellW ys (hdN st x ns) ns.length)).length (missW ys (hdN st x ns) ns.length).length, [], []⟩ dv mv)) ∧ w'.ownsRow w.heap.size 3 1 dv (difW (cellW ys (hdN st x ns) ns.length)).length (ints (difW (cellW ys (hdN st x ns) ns.length))) ∧ w'.ownsRow w.heap.size 3 1 mv (missW ys (hdN st x ns) ns.length).length (ints (missW ys (hdN st x ns) ns.length)) ∧ Below w.heap.size w w' := by
  have zn := nfP_len (errP_ok he).2
  have hln : Hid (∀ j : Nat, (hdS st x ns (j : Int)).length ≤ 64) := fun j => by
    unfold hdS
    split
    · exact Nat.le_trans (hdL_len _ _ _ _) (errP_all he).2.2.2.1.p2
    · simp
  obtain ⟨W0, hW0, hX⟩ := boxed st x cap h hN
  obtain ⟨WA, hWA⟩ : ∃ WA, WA = W0.alloc (.cells (rpA rp0 (.slice none 0 0) (.slice none 0 0)) 49) := ⟨_, rfl⟩
  have bA : Below W0.heap.size W0 WA := by rw [hWA]; exact ((Kp.refl W0 non).alloc _).below
  have X0 := hX.stand hN
  have mA : Hid (WA.heap[w.heap.size + 1]? = some (.cells (rpA rp0 (.slice none 0 0) (.slice none 0 0)) 49)) := by
    have e : W0.heap.size = w.heap.size + 1 := by rw [hW0]; exact World.size_alloc _ _
    rw [hWA, ← e]
    exact heap_last W0 _
  have HX := hide (X0.below bA)
  have B0 := hide (hX.bel.trans (bA.mono hX.bel.size))
  have T0 := hide ((hT.below hX.bel).below bA)
  have HS := hide hs
  have HE := hide he
  have TB : Hid (RwAt 5 ceV N2 WA ao2 bb oo ys) := hR.below (B0.out.mono hN2)
  have LI := hide (lists_a N WA st x ao b o cap pv ns HX.out.nd HX.out.le hs he T0.out)
  have N2L : Hid (N2 ≤ WA.heap.size) := Nat.le_trans hN2 B0.out.size
  obtain ⟨cn, hcn⟩ : ∃ cn, cn = ns.length := ⟨_, rfl⟩
  have HCN := hide hcn
  rw [← hcn] at zn ⊢
  obtain ⟨yn, hyn⟩ : ∃ yn, yn = ys.length := ⟨_, rfl⟩
  have HYN := hide hyn
  rw [← hyn]
  obtain ⟨S, hS⟩ : ∃ S : Nat → List Sl, S = hdN st x ns := ⟨_, rfl⟩
  have HSS := hide hS
  have LS : Hid (∀ j, (S j).length ≤ 64) := by rw [hS]; exact hln.out
  rw [← hS]
  clear hX h hcn hT hR hyn bA X0 hs he hS hln
  have ZB : Hid (∀ i, (cellW ys S i).length ≤ i * 64) := cellW_len LS.out
  go_enter Tryd.func18, Tryd.ntmps18
  rw [HCN.out]
  go_upto_region 1 with fail
  rw [← hW0, show (#[.int .i64 0, .int .i64 0, .int .i64 0, .slice none 0 0, .slice none 0 0] : Array Value) = rpA rp0 (.slice none 0 0) (.slice none 0 0) from rfl, ← hWA, ← HCN.out]
  clear hW0 hWA
  go_wp2_with (refine YteiiolilpemimaaDoor.wpList_loadCl rfl (.tmp 3) rfl w.heap.size st x _ rfl HX.out.cl ?_)
  rw [HCN.out]
  refine Calls.mono LI.out ?_
  rintro e W1 ⟨u, vs, rfl, ou, lv, b1⟩
  have OU := hide ou
  have LV := hide lv
  have B1 := hide (B0.out.trans (b1.mono B0.out.size))
  have MA : Hid (W1.heap[w.heap.size + 1]? = some (.cells (rpA rp0 (.slice none 0 0) (.slice none 0 0)) 49)) := by rw [b1.block _ (blk_lt mA.out)]; exact mA.out
  have TB1 : Hid (RwAt 5 ceV N2 W1 ao2 bb oo ys) := TB.out.below (b1.mono N2L.out)
  have N2W : Hid (N2 ≤ W1.heap.size) := Nat.le_trans N2L.out b1.size
  have VL : Hid (vs.length = cn) := by show vs.length = cn; have := ou.1; rw [HCN.out]; omega
  obtain ⟨ua, uc, rfl⟩ := own_sl ou
  rw [← HCN.out] at OU ⊢
  clear ou lv b1 LI HX mA TB B0 T0 N2L
  obtain ⟨R, hR⟩ : ∃ R, R = W1.heap.size := ⟨_, rfl⟩
  obtain ⟨W2, hW2⟩ : ∃ W2, W2 = W1.alloc (.cells (rpA ⟨1, ver, 1, [], []⟩ (.slice none 0 0) (.slice none 0 0)) 49) := ⟨_, rfl⟩
  have r2 : Hid (RpAt W2 R R ver 1 (.slice none 0 0) (.slice none 0 0) [] (missW ys S 0)) := by
    refine ⟨?_, World.ownsRow_nil _ _ _ _, World.ownsRow_nil _ _ _ _⟩
    rw [hW2, hR]
    exact heap_last W1 _
  have B2 : Hid (Below R W1 W2) := by rw [hW2, hR]; exact ((Kp.refl W1 non).alloc _).below
  have MR : Hid (w.heap.size + 1 < R) := by rw [hR]; exact blk_lt MA.out
  have RW : Hid (w.heap.size ≤ R) := by have := MR.out; show w.heap.size ≤ R; omega
  have O2 : Hid (W2.ownsRow R 45 5 (.slice none 0 0) (cellW ys S 0).length (ces (cellW ys S 0))) := World.ownsRow_nil _ _ _ _
  have HRR := hide hR
  go_upto_region 3 with (first | refine wpList_blR rfl 49 _ rfl (rpA ⟨1, ver, 1, [], []⟩ (.slice none 0 0) (.slice none 0 0)) (by kernel_rfl) ?_ | refine wpList_stR rfl 49 (.tmp 8) (.tmp 20) rfl W1.heap.size rfl (rpA ⟨1, ver, 1, [], []⟩ (.slice none 0 0) (.slice none 0 0)) _ rfl _ (heap_last _ _) rp_info rfl (by simp [rpA, Value.oneCell']) ?_)
  rw [World.setRow_alloc_new, ← hW2, ← hR]
  clear hW2 hR
  go_wp2_with fail
  go_loopw [9, 10] (fun v9 v10 wr => ∃ i : Nat, i ≤ cn ∧ v10 = .int .i64 (i : Int) ∧ Hid (wr.ownsRow R 45 5 v9 (cellW ys S i).length (ces (cellW ys S i))) ∧ ∃ mv, Hid (RpAt wr R R ver 1 (.slice none 0 0) mv [] (missW ys S i)) ∧ Hid (Below R W1 wr)) (fun _ v10 _ => cn - (intOf v10).toNat)
  case atStart => exact ⟨0, Nat.zero_le _, rfl, O2.out, _, r2.out, B2.out⟩
  case round =>
    clear O2 r2 B2
    obtain ⟨i, hi, rfl, HO, mv, HM, HB⟩ := hrel
    obtain ⟨oa, oc, rfl⟩ := own_sl HO.out
    by_cases hin : i < cn
    case pos =>
      have hii : (i : Int) < (cn : Int) := by omega
      obtain ⟨vi, hvi⟩ : ∃ vi, vs[i]? = some vi := ⟨_, List.getElem?_eq_getElem (by have := VL.out; omega)⟩
      have HVI := hide hvi
      have lq := LV.out i vi hvi
      obtain ⟨a1, n1, rfl⟩ := own_sl lq
      have hsi : hdS st x ns (i : Int) = S i := by rw [HSS.out]; rfl
      have LQ : Hid (W1.ownsRow 0 3 1 (.slice a1 (ptsL (hdS st x ns (i : Int))).length n1) (ptsL (hdS st x ns (i : Int))).length (ints (ptsL (hdS st x ns (i : Int))))) := lq
      rw [hsi] at LQ HVI
      have hpl : (ptsL (S i)).length = (S i).length := by unfold ptsL; rw [List.length_map]
      rw [hpl] at LQ HVI
      obtain ⟨ln, hln⟩ : ∃ ln, ln = (S i).length := ⟨_, rfl⟩
      have HLN := hide hln
      rw [← hln] at LQ HVI
      obtain ⟨g, uc', eu, -, -⟩ := own_at OU.out HVI.out
      injection eu with eu _ ec
      subst eu
      subst ec
      have CG : Hid (∀ X, Below R W1 X → X.cell? ⟨g, i, none⟩ = some (.slice a1 ln n1)) := fun X hX => by
        obtain ⟨g', c', e', q', -⟩ := own_at (own_kp OU.out (Kp.of_below (by rw [← HRR.out]; exact hX) non) (fun _ _ f => f)) HVI.out
        injection e' with e' _ _
        injection e' with e'
        injection e' with e' _ _
        subst e'
        exact q'
      have CJ : Hid (∀ X, Below R W1 X → ∀ (j : Nat) (s : Sl), (S i)[j]? = some s → ∃ ga, a1 = some ⟨ga, 0, none⟩ ∧ X.cell? ⟨ga, j, none⟩ = some (.int .i64 (s.1 : Int))) := fun X hX j s hs => by
        have e : (ints (ptsL (S i)))[j]? = some (.int .i64 (s.1 : Int)) := by
          unfold ints ptsL
          rw [List.map_map, List.getElem?_map, hs]
          rfl
        obtain ⟨ga, c', e', hc, -⟩ := own_at (own_kp LQ.out (Kp.of_below (by rw [← HRR.out]; exact hX) non) (fun _ _ f => f)) e
        injection e' with e' _ _
        exact ⟨ga, e', hc⟩
      have O0 : Hid (wr.ownsRow R 45 5 (.slice oa (cellW ys S i).length oc) (cellW ys S i ++ ((S i).take 0).map (cel ys i)).length (ces (cellW ys S i ++ ((S i).take 0).map (cel ys i)))) := by
        rw [List.take_zero, List.map_nil, List.append_nil]
        exact HO.out
      have F0 : Hid (∀ s ∈ (S i).take 0, fitB (cel ys i s) = true) := fun s hs => by simp at hs
      have hl64 : ln ≤ 64 := by rw [hln]; exact LS.out i
      clear hvi lq hsi hpl hln HO
      generalize (cellW ys S i).length = cl at *
      go_wp2_with fail
      go_loopw [9, 11] (fun v9 v11 wx => ∃ j : Nat, j ≤ ln ∧ v11 = .int .i64 (j : Int) ∧ Hid (wx.ownsRow R 45 5 v9 (cellW ys S i ++ ((S i).take j).map (cel ys i)).length (ces (cellW ys S i ++ ((S i).take j).map (cel ys i)))) ∧ ∃ mv, Hid (RpAt wx R R ver 1 (.slice none 0 0) mv [] (missW ys S i)) ∧ Hid (∀ s ∈ (S i).take j, fitB (cel ys i s) = true) ∧ Hid (Below R W1 wx)) (fun _ v11 _ => ln - (intOf v11).toNat)
      case atStart => exact ⟨0, Nat.zero_le _, rfl, O0.out, mv, HM.out, F0.out, HB.out⟩
      case round =>
        clear O0 F0 HM HB
        obtain ⟨j, hj, rfl, HO, mv, HM, HF, HB⟩ := hrel
        have cg := CG.out wr HB.out
        by_cases hjn : j < ln
        case neg =>
          obtain rfl : j = ln := by omega
          have hjj : ¬ (j : Int) < (j : Int) := by omega
          have HFA : ∀ s ∈ S i, fitB (cel ys i s) = true := by
            have z := HF.out
            rw [List.take_of_length_le (by rw [HLN.out]; exact Nat.le_refl _)] at z
            exact z
          have O9 : Hid (wr.ownsRow R 45 5 u9 (cellW ys S (i + 1)).length (ces (cellW ys S (i + 1)))) := by
            have z := HO.out
            rw [List.take_of_length_le (by rw [HLN.out]; exact Nat.le_refl _), ← celL_all HFA, ← cellW_succ] at z
            exact z
          have M9 : Hid (RpAt wr R R ver 1 (.slice none 0 0) mv [] (missW ys S (i + 1))) := by
            have e : missW ys S (i + 1) = missW ys S i := if_pos (allF_yes HFA)
            rw [e]
            exact HM.out
          clear HFA
          go_wp2_with fail
          go_roundw
          case rel => first | exact ⟨i + 1, by omega, by go_num, O9.out, mv, M9.out, HB.out⟩ | exact ⟨i + 1, by omega, by go_num, O9.out, mv, M9.out⟩
          case measure => simp [intOf]; omega
        case pos =>
          have hjj : (j : Int) < (ln : Int) := by omega
          obtain ⟨s, hs⟩ : ∃ s, (S i)[j]? = some s := ⟨_, List.getElem?_eq_getElem (by rw [← HLN.out]; exact hjn)⟩
          have HS1 := hide hs
          obtain ⟨ga, rfl, q9⟩ := CJ.out wr HB.out j s hs
          have TO := hide (told_a N2 wr ao2 bb oo cap2 ys (TB1.out.below (HB.out.mono (by rw [HRR.out]; exact N2W.out))) (by have := HB.out.size; have := N2W.out; omega) (i : Int) (s.1 : Int))
          rw [← HYN.out] at TO
          obtain ⟨c, hc⟩ : ∃ c, c = cel ys i s := ⟨_, rfl⟩
          have ETC : Hid (tellC ys (i : Int) (s.1 : Int) = c) := by rw [hc]; rfl
          rw [ETC.out] at TO
          have HC := hide hc
          obtain ⟨pp, hpp⟩ : ∃ pp : Int, pp = (s.1 : Int) := ⟨_, rfl⟩
          rw [← hpp] at TO q9
          clear hs hc hpp ETC
          go_upto_region 11 with fail
          refine Calls.mono TO.out ?_
          rintro e WT ⟨rfl, kt⟩
          have KT := hide kt
          clear kt
          obtain ⟨WB, hWB⟩ : ∃ WB, WB = WT.alloc (.cells (ceV c) 45) := ⟨_, rfl⟩
          have kb : Kp wr WB non := by rw [hWB]; exact KT.out.alloc _
          have mb : WB.heap[WT.heap.size]? = some (.cells (ceV c) 45) := by rw [hWB]; exact heap_last WT _
          have KB := hide kb
          have MB := hide mb
          clear kb mb
          go_upto_region 11 with (refine wpList_stR rfl 45 (.tmp 12) (.tmp 45) rfl WT.heap.size rfl (ceV c) _ rfl _ (heap_last _ _) ce_info rfl (ce_one _) ?_)
          rw [World.setRow_alloc_new, ← hWB]
          clear hWB
          obtain ⟨P, hP⟩ : ∃ P, P = WT.heap.size := ⟨_, rfl⟩
          rw [← hP] at MB ⊢
          clear hP
          have FT := hide (fit_a WB c)
          go_wp2_with (refine wpList_ldR rfl 45 (.tmp 12) rfl P rfl _ (ceV c) MB.out Tryd.underlying45 ce_info ?_)
          refine Calls.mono FT.out ?_
          rintro e WF ⟨rfl, kf⟩
          have KF : Hid (Kp wr WF non) := KB.out.trans kf (fun _ f => f.elim)
          have MF : Hid (WF.heap[P]? = some (.cells (ceV c) 45)) := (kf.block _ (blk_lt MB.out) (fun f => f)).trans MB.out
          have BF : Hid (Below R W1 WF) := below_up HB.out KF.out (fun _ f => f.elim) (by have := HB.out.size; rw [HRR.out]; exact this)
          have OF : Hid (WF.ownsRow R 45 5 u9 (cellW ys S i ++ ((S i).take j).map (cel ys i)).length (ces (cellW ys S i ++ ((S i).take j).map (cel ys i)))) := own_kp HO.out KF.out (fun _ _ f => f)
          have RF : Hid (RpAt WF R R ver 1 (.slice none 0 0) mv [] (missW ys S i)) := HM.out.kp KF.out
          have SZ : Hid (R ≤ WF.heap.size) := by have := BF.out.size; rw [HRR.out]; exact this
          have LNB : Hid ((cellW ys S i ++ ((S i).take j).map (cel ys i)).length ≤ 1000000) := by
            show _ ≤ _
            rw [List.length_append, List.length_map, List.length_take]
            have z1 := ZB.out i
            have z2 := LS.out i
            omega
          obtain ⟨oa9, oc9, rfl⟩ := own_sl HO.out
          clear kf KB MB FT KT TO HO HM HB
          cases hf : fitB c
          case false =>
            have BRK := hide (celL_brk (q := i) HF.out HS1.out (by rw [← HC.out]; exact hf))
            have OK9 : Hid (WF.ownsRow R 45 5 (.slice oa9 (cellW ys S i ++ ((S i).take j).map (cel ys i)).length oc9) (cellW ys S (i + 1)).length (ces (cellW ys S (i + 1)))) := by
              rw [cellW_succ, BRK.out.1]
              exact OF.out
            have EM : Hid (missW ys S (i + 1) = missW ys S i ++ [(i : Int)]) := if_neg (by rw [BRK.out.2]; decide)
            clear hf BRK OF
            generalize (cellW ys S i ++ ((S i).take j).map (cel ys i)).length = cl2 at *
            obtain ⟨-, x4⟩ := RF.out.cells
            obtain ⟨ml, hml⟩ : ∃ ml, ml = missW ys S i := ⟨_, rfl⟩
            have MLB : Hid (ml.length ≤ 1000) := by show ml.length ≤ 1000; rw [hml]; have := missW_len ys S i; omega
            rw [← hml] at RF EM
            obtain ⟨ma, mc, rfl⟩ := own_sl RF.out.ms
            clear hml
            have XI : Hid (WF.frozen? ⟨R, 4, none⟩ = false) := fz_row RF.out.blk 4
            have O1 : Hid ((WF.alloc (.cells #[.int .i64 (i : Int)] 3)).ownsRow R 3 1 (.slice ma ml.length mc) ml.length (ints ml)) := own_kp RF.out.ms ((Kp.refl WF non).alloc _) (fun _ _ f => f)
            have G1 : Hid ((WF.alloc (.cells #[.int .i64 (i : Int)] 3)).heap[WF.heap.size]? = some (.cells #[.int .i64 (i : Int)] 3)) := heap_last _ _
            obtain ⟨mn, hmn⟩ : ∃ mn, mn = ml.length := ⟨_, rfl⟩
            rw [← hmn] at x4 O1 MLB
            have HMN := hide hmn
            clear hmn
            go_wp2_with (at_builtin; refine wpList_apIB rfl (.tmp 50) (.tmp 52) rfl R _ mn ml rfl O1.out WF.heap.size (i : Int) rfl G1.out (by have := MLB.out; omega) (by have := SZ.out; rw [World.size_alloc]; omega) ?_; intro v' w3 o2 g2 g3; obtain ⟨b3, -, f3, k3⟩ := apR RF.out.blk RF.out.ms (by rw [HMN.out] at g2; exact g2); obtain ⟨va, vc, rfl⟩ := own_sl o2; have x43 : w3.cell? ⟨R, 4, none⟩ = some (.slice ma ml.length mc) := by rw [cell_row b3]; rfl)
            have k5 : Kp WF (w3.setCell ⟨R, 4, none⟩ (.slice va (mn + 1) vc)) (fun b => b = R ∨ some b = (Value.slice ma ml.length mc).ownBlock) := (k3.mono (T := fun b => b = R ∨ some b = (Value.slice ma ml.length mc).ownBlock) (fun _ e => Or.inr e)).set (Or.inl (Or.inl rfl)) _ _
            have B5 : Hid (Below R W1 (w3.setCell ⟨R, 4, none⟩ (.slice va (mn + 1) vc))) := below_up BF.out k5 (fun k e => by
              rcases e with e | e
              · omega
              · exact own_ge RF.out.ms e.symm) SZ.out
            have O5 : Hid ((w3.setCell ⟨R, 4, none⟩ (.slice va (mn + 1) vc)).ownsRow R 45 5 (.slice oa9 cl2 oc9) (cellW ys S (i + 1)).length (ces (cellW ys S (i + 1)))) := own_kp OK9.out k5 (fun k hk e => by
              obtain ⟨cur, hc⟩ := own_typ OK9.out hk
              rcases e with e | e
              · rw [e, RF.out.blk] at hc
                simp at hc
              · obtain ⟨cur', hc'⟩ := own_typ RF.out.ms e.symm
                rw [hc'] at hc
                simp at hc)
            have R5 : Hid (RpAt (w3.setCell ⟨R, 4, none⟩ (.slice va (mn + 1) vc)) R R ver 1 (.slice none 0 0) (.slice va (mn + 1) vc) [] (missW ys S (i + 1))) := by
              refine ⟨rp_put4 b3 _, World.ownsRow_nil _ _ _ _, ?_⟩
              rw [EM.out, List.length_append, ← HMN.out]
              exact own_kp o2 ((Kp.refl w3 (fun b => b = R)).set (Or.inl rfl) _ _) (fun k hk e => by
                obtain ⟨cur, hc⟩ := own_typ o2 hk
                rw [e, b3] at hc
                simp at hc)
            clear k5 k3 b3 o2 g2 g3 OK9 RF O1 G1 XI x43 f3 x4
            generalize w3.setCell ⟨R, 4, none⟩ (.slice va (mn + 1) vc) = W9 at *
            go_wp2_with fail
            go_roundw
            case rel => exact ⟨i + 1, by omega, by go_num, O5.out, _, R5.out, B5.out⟩
            case measure => simp [intOf]; omega
          case true =>
            have TK : Hid (cellW ys S i ++ ((S i).take (j + 1)).map (cel ys i) = (cellW ys S i ++ ((S i).take j).map (cel ys i)) ++ [c]) := by
              obtain ⟨hjl, hsj⟩ := List.getElem?_eq_some_iff.1 HS1.out
              show _ = _
              rw [List.take_succ_eq_append_getElem hjl, List.map_append, List.append_assoc, hsj, HC.out]
              rfl
            have F9 : Hid (∀ s ∈ (S i).take (j + 1), fitB (cel ys i s) = true) := fun t ht => by
              obtain ⟨hjl, hsj⟩ := List.getElem?_eq_some_iff.1 HS1.out
              rw [List.take_succ_eq_append_getElem hjl, List.mem_append] at ht
              rcases ht with ht | ht
              · exact HF.out t ht
              · simp at ht
                rw [ht, hsj, ← HC.out]
                exact hf
            clear hf
            generalize (cellW ys S i ++ ((S i).take j).map (cel ys i)) = CL at *
            go_upto_region 13 with fail
            go_wp2_with (first
              | refine wpList_ldR rfl 45 (.tmp 12) rfl P rfl _ (ceV c) MF.out Tryd.underlying45 ce_info ?_
              | refine wpList_bsC rfl (.tmp 56) rfl c rfl ?_
              | (at_builtin
                 refine wpList_apC rfl (.tmp 55) (.tmp 57) rfl R _ CL rfl (own_kp OF.out ((Kp.refl WF non).alloc _) (fun _ _ f => f)) WF.heap.size c rfl (heap_last _ _) (by have := LNB.out; omega) (by rw [World.size_alloc]; have := SZ.out; omega) ?_
                 intro v' w3 o2 g2))
            have k9 : Kp WF w3 (fun k => some k = (Value.slice oa9 CL.length oc9).ownBlock) := ((Kp.refl WF _).alloc _).trans (Kp.of_grown g2) (fun _ e => Or.inl e)
            have R9 := hide (RF.out.keep OF.out k9)
            have B9 : Hid (Below R W1 w3) := below_up BF.out k9 (fun k e => own_ge OF.out e.symm) SZ.out
            have O9 : Hid (w3.ownsRow R 45 5 v' (cellW ys S i ++ ((S i).take (j + 1)).map (cel ys i)).length (ces (cellW ys S i ++ ((S i).take (j + 1)).map (cel ys i)))) := by
              rw [TK.out, List.length_append]
              exact o2
            clear k9 o2 g2 OF RF
            go_roundw
            case rel => exact ⟨j + 1, by omega, by go_num, O9.out, mv, R9.out, F9.out, B9.out⟩
            case measure => simp [intOf]; omega
    case neg =>
      obtain rfl : i = cn := by omega
      have hii : ¬ (i : Int) < (i : Int) := by omega
      obtain ⟨C, hC⟩ : ∃ C, C = cellW ys S i := ⟨_, rfl⟩
      obtain ⟨M, hM⟩ : ∃ M, M = missW ys S i := ⟨_, rfl⟩
      have HCC := hide hC
      have HMM := hide hM
      rw [← hC] at HO ⊢
      rw [← hM] at HM
      have MLB : Hid (M.length ≤ 1000) := by show M.length ≤ 1000; rw [hM]; have := missW_len ys S i; omega
      have CLB : Hid (C.length ≤ 1000000) := by show C.length ≤ _; rw [hC]; have := ZB.out i; omega
      clear hC hM
      have HML : Hid (R < wr.heap.size) := blk_lt HM.out.blk
      have CC : Hid (∀ X, Kp wr X (fun b => b = R) → ∀ (i : Nat) (hi : i < C.length), ∃ g, oa = some ⟨g, 0, none⟩ ∧ X.cell? ⟨g, i * 5 + 1, none⟩ = some (.int .i64 C[i].pt) ∧ X.cell? ⟨g, i * 5 + 2, none⟩ = some (.int .i64 C[i].en) ∧ X.cell? ⟨g, i * 5 + 4, none⟩ = some (.string C[i].dg)) := fun X hX i hi => by
        have ow := own_kp HO.out hX (fun k hk e => by
          obtain ⟨cur, hc⟩ := own_typ HO.out hk
          rw [e, HM.out.blk] at hc
          simp at hc)
        have e1 : (ces C)[i * 5 + 1]? = some (.int .i64 C[i].pt) := ces_at C i hi 1 (by omega)
        have e2 : (ces C)[i * 5 + 2]? = some (.int .i64 C[i].en) := ces_at C i hi 2 (by omega)
        have e4 : (ces C)[i * 5 + 4]? = some (.string C[i].dg) := ces_at C i hi 4 (by omega)
        obtain ⟨g, c, e, q1, -⟩ := own_at ow e1
        obtain ⟨g', c', e', q2, -⟩ := own_at ow e2
        obtain ⟨g'', c'', e'', q4, -⟩ := own_at ow e4
        injection e with e _ _
        rw [e] at e' e''
        injection e' with e' _ _
        injection e'' with e'' _ _
        injection e' with e'
        injection e'' with e''
        injection e' with e' _ _
        injection e'' with e'' _ _
        subst e'
        subst e''
        exact ⟨g, e, q1, q2, q4⟩
      have D0 : Hid (wr.ownsRow wr.heap.size 3 1 (.slice none 0 0) (difN C 0).length (ints (difN C 0))) := World.ownsRow_nil _ _ _ _
      have BLK0 : Hid (wr.heap[R]? = some (.cells (rpA ⟨1, ver, 1, [], []⟩ (.slice none 0 0) mv) 49)) := HM.out.blk
      have FIN : Hid (∀ (X : World) (Y : Array Value) (dv : Value) (D : List Int), Kp wr X (fun b => b = R) → X.ownsRow wr.heap.size 3 1 dv D.length (ints D) → X.heap[w.heap.size + 1]? = some (.cells (rpA rp0 (.slice none 0 0) (.slice none 0 0)) 49) ∧ (X.setRow (w.heap.size + 1) Y).ownsRow w.heap.size 3 1 dv D.length (ints D) ∧ (X.setRow (w.heap.size + 1) Y).ownsRow w.heap.size 3 1 mv M.length (ints M) ∧ Below w.heap.size w (X.setRow (w.heap.size + 1) Y)) := fun X Y dv D hX hD => by
        have hAR := MR.out
        have hRw := HML.out
        have hA1 : wr.heap[w.heap.size + 1]? = some (.cells (rpA rp0 (.slice none 0 0) (.slice none 0 0)) 49) := (HB.out.block _ hAR).trans MA.out
        have hA2 := (hX.block _ (blk_lt hA1) (by omega)).trans hA1
        have ty : ∀ {b2 n : Nat} {u : Value} {xs : List Value}, X.ownsRow b2 3 1 u n xs → (X.setRow (w.heap.size + 1) Y).ownsRow b2 3 1 u n xs := fun {b2 n u xs} ho => own_kp ho ((Kp.refl X (fun b => b = w.heap.size + 1)).row (Or.inl rfl) Y) (fun k hk e => by
          obtain ⟨cur, hc⟩ := own_typ ho hk
          rw [e, hA2] at hc
          simp at hc)
        have hm : X.ownsRow R 3 1 mv M.length (ints M) := own_kp HM.out.ms hX (fun k hk e => by
          obtain ⟨cur, hc⟩ := own_typ HM.out.ms hk
          rw [e, HM.out.blk] at hc
          simp at hc)
        have b1 : Below w.heap.size w wr := B1.out.trans (HB.out.mono RW.out)
        have b2 : Below w.heap.size w X := below_up b1 hX (fun k e => by have := RW.out; omega) b1.size
        exact ⟨hA2, own_base (ty hD) b1.size, own_base (ty hm) RW.out, below_up b2 ((Kp.refl X (fun b => b = w.heap.size + 1)).row (Or.inl rfl) Y) (fun k e => by omega) b2.size⟩
      obtain ⟨Wx, hWx⟩ : ∃ Wx, Wx = wr := ⟨_, rfl⟩
      have HWX := hide hWx
      have K00 : Hid (Kp Wx wr (fun b => b = R)) := by rw [hWx]; exact Kp.refl _ _
      rw [← hWx] at D0 CC FIN
      have D00 : Hid (wr.ownsRow Wx.heap.size 3 1 (.slice none 0 0) (difN C 0).length (ints (difN C 0))) := World.ownsRow_nil _ _ _ _
      clear hWx D0
      go_wp2_with fail
      go_loopw [13] (fun v13 wx => ∃ p : Nat, p ≤ 64 ∧ v13 = .int .i64 (p : Int) ∧ ∃ dv, Hid (wx.heap[R]? = some (.cells (rpA ⟨1, ver, 1, [], []⟩ dv mv) 49)) ∧ Hid (wx.ownsRow Wx.heap.size 3 1 dv (difN C p).length (ints (difN C p))) ∧ Hid (Kp Wx wx (fun b => b = R))) (fun v13 _ => 64 - (intOf v13).toNat)
      case atStart => exact ⟨0, Nat.zero_le _, rfl, _, BLK0.out, D00.out, K00.out⟩
      case round =>
        clear BLK0 D00 K00
        obtain ⟨p, hp, rfl, dv, HBK, HD, HKP⟩ := hrel
        by_cases hp64 : p < 64
        case neg =>
          obtain rfl : p = 64 := by omega
          have x3 : ∃ da dc, dv = .slice da (difN C 64).length dc := own_sl HD.out
          have x4 : ∃ ma mc, mv = .slice ma M.length mc := own_sl HM.out.ms
          have DS : Hid (∃ a n c, dv = .slice a n c) := by obtain ⟨a, c, e⟩ := x3; exact ⟨a, _, c, e⟩
          have MS : Hid (∃ a n c, mv = .slice a n c) := by obtain ⟨a, c, e⟩ := x4; exact ⟨a, _, c, e⟩
          have c2 : wr.cell? ⟨R, 2, none⟩ = some (.int .i64 1) := by rw [cell_row HBK.out]; rfl
          have c3 : wr.cell? ⟨R, 3, none⟩ = some dv := by rw [cell_row HBK.out]; rfl
          have c4 : wr.cell? ⟨R, 4, none⟩ = some mv := by rw [cell_row HBK.out]; rfl
          have f2 : wr.frozen? ⟨R, 2, none⟩ = false := fz_row HBK.out 2
          obtain ⟨da, dc, rfl⟩ := x3
          obtain ⟨ma, mc, rfl⟩ := x4
          by_cases d0 : 0 < (difN C 64).length
          case pos =>
            have d0i : (0 : Int) < ((difN C 64).length : Int) := by omega
            have EO : Hid (outO (difW C).length M.length = 2) := if_pos d0
            have XB : Hid ((wr.setCell ⟨R, 2, none⟩ (.int .i64 2)).heap[R]? = some (.cells (rpA ⟨1, ver, 2, [], []⟩ (.slice da (difN C 64).length dc) (.slice ma M.length mc)) 49)) := set_row HBK.out 2 _
            have XK : Hid (Kp Wx (wr.setCell ⟨R, 2, none⟩ (.int .i64 2)) (fun b => b = R)) := HKP.out.set (Or.inl rfl) _ _
            have XD : Hid ((wr.setCell ⟨R, 2, none⟩ (.int .i64 2)).ownsRow Wx.heap.size 3 1 (.slice da (difN C 64).length dc) (difN C 64).length (ints (difN C 64))) := own_kp HD.out ((Kp.refl wr (fun b => b = R)).set (Or.inl rfl) _ _) (fun k hk e => by
              obtain ⟨cur, hc⟩ := own_typ HD.out hk
              rw [e, HBK.out] at hc
              simp at hc)
            have FN := hide (FIN.out _ (rpA ⟨1, ver, 2, [], []⟩ (.slice da (difN C 64).length dc) (.slice ma M.length mc)) (.slice da (difN C 64).length dc) _ XK.out XD.out)
            skip
            go_upto_region 32 with fail
            go_wp2_with (first | refine wpList_ldR rfl 49 (.tmp 8) rfl R rfl _ (rpA ⟨1, ver, 2, [], []⟩ (.slice da (difN C 64).length dc) (.slice ma M.length mc)) XB.out Tryd.underlying49 rp_info ?_ | refine wpList_stR rfl 49 (.tmp 6) (.tmp 124) rfl (w.heap.size + 1) rfl (rpA ⟨1, ver, 2, [], []⟩ (.slice da (difN C 64).length dc) (.slice ma M.length mc)) _ rfl _ FN.out.1 rp_info rfl (rp_one _ DS.out MS.out) ?_)
            refine bodyPost_ret (v := .agg (rpA ⟨1, ver, 2, [], []⟩ (.slice da (difN C 64).length dc) (.slice ma M.length mc))) (res_row1 Tryd.results18 _ _ _ (w.heap.size + 1) rfl _ (setRow_heap _ _ _ _ _ _ FN.out.1) Tryd.underlying49 rp_info) rfl ?_
            refine ⟨.slice da (difN C 64).length dc, .slice ma M.length mc, ?_, ?_, ?_, FN.out.2.2.2⟩
            · rw [← HCN.out, ← HCC.out, ← HMM.out, EO.out]
            · rw [← HCN.out, ← HCC.out]
              exact FN.out.2.1
            · rw [← HCN.out, ← HMM.out]
              exact FN.out.2.2.1
          case neg =>
            have d0i : ¬ (0 : Int) < ((difN C 64).length : Int) := by omega
            by_cases m0 : 0 < M.length
            case pos =>
              have m0i : (0 : Int) < (M.length : Int) := by omega
              have EO : Hid (outO (difW C).length M.length = 3) := (if_neg d0).trans (if_pos m0)
              have XB : Hid ((wr.setCell ⟨R, 2, none⟩ (.int .i64 3)).heap[R]? = some (.cells (rpA ⟨1, ver, 3, [], []⟩ (.slice da (difN C 64).length dc) (.slice ma M.length mc)) 49)) := set_row HBK.out 2 _
              have XK : Hid (Kp Wx (wr.setCell ⟨R, 2, none⟩ (.int .i64 3)) (fun b => b = R)) := HKP.out.set (Or.inl rfl) _ _
              have XD : Hid ((wr.setCell ⟨R, 2, none⟩ (.int .i64 3)).ownsRow Wx.heap.size 3 1 (.slice da (difN C 64).length dc) (difN C 64).length (ints (difN C 64))) := own_kp HD.out ((Kp.refl wr (fun b => b = R)).set (Or.inl rfl) _ _) (fun k hk e => by
                obtain ⟨cur, hc⟩ := own_typ HD.out hk
                rw [e, HBK.out] at hc
                simp at hc)
              have FN := hide (FIN.out _ (rpA ⟨1, ver, 3, [], []⟩ (.slice da (difN C 64).length dc) (.slice ma M.length mc)) (.slice da (difN C 64).length dc) _ XK.out XD.out)
              skip
              go_upto_region 32 with fail
              go_wp2_with (first | refine wpList_ldR rfl 49 (.tmp 8) rfl R rfl _ (rpA ⟨1, ver, 3, [], []⟩ (.slice da (difN C 64).length dc) (.slice ma M.length mc)) XB.out Tryd.underlying49 rp_info ?_ | refine wpList_stR rfl 49 (.tmp 6) (.tmp 124) rfl (w.heap.size + 1) rfl (rpA ⟨1, ver, 3, [], []⟩ (.slice da (difN C 64).length dc) (.slice ma M.length mc)) _ rfl _ FN.out.1 rp_info rfl (rp_one _ DS.out MS.out) ?_)
              refine bodyPost_ret (v := .agg (rpA ⟨1, ver, 3, [], []⟩ (.slice da (difN C 64).length dc) (.slice ma M.length mc))) (res_row1 Tryd.results18 _ _ _ (w.heap.size + 1) rfl _ (setRow_heap _ _ _ _ _ _ FN.out.1) Tryd.underlying49 rp_info) rfl ?_
              refine ⟨.slice da (difN C 64).length dc, .slice ma M.length mc, ?_, ?_, ?_, FN.out.2.2.2⟩
              · rw [← HCN.out, ← HCC.out, ← HMM.out, EO.out]
              · rw [← HCN.out, ← HCC.out]
                exact FN.out.2.1
              · rw [← HCN.out, ← HMM.out]
                exact FN.out.2.2.1
            case neg =>
              have m0i : ¬ (0 : Int) < (M.length : Int) := by omega
              have EO : Hid (outO (difW C).length M.length = 1) := (if_neg d0).trans (if_neg m0)
              have XB := HBK
              have FN := hide (FIN.out _ (rpA ⟨1, ver, 1, [], []⟩ (.slice da (difN C 64).length dc) (.slice ma M.length mc)) (.slice da (difN C 64).length dc) _ HKP.out HD.out)
              skip
              go_upto_region 32 with fail
              go_wp2_with (first | refine wpList_ldR rfl 49 (.tmp 8) rfl R rfl _ (rpA ⟨1, ver, 1, [], []⟩ (.slice da (difN C 64).length dc) (.slice ma M.length mc)) XB.out Tryd.underlying49 rp_info ?_ | refine wpList_stR rfl 49 (.tmp 6) (.tmp 124) rfl (w.heap.size + 1) rfl (rpA ⟨1, ver, 1, [], []⟩ (.slice da (difN C 64).length dc) (.slice ma M.length mc)) _ rfl _ FN.out.1 rp_info rfl (rp_one _ DS.out MS.out) ?_)
              refine bodyPost_ret (v := .agg (rpA ⟨1, ver, 1, [], []⟩ (.slice da (difN C 64).length dc) (.slice ma M.length mc))) (res_row1 Tryd.results18 _ _ _ (w.heap.size + 1) rfl _ (setRow_heap _ _ _ _ _ _ FN.out.1) Tryd.underlying49 rp_info) rfl ?_
              refine ⟨.slice da (difN C 64).length dc, .slice ma M.length mc, ?_, ?_, ?_, FN.out.2.2.2⟩
              · rw [← HCN.out, ← HCC.out, ← HMM.out, EO.out]
              · rw [← HCN.out, ← HCC.out]
                exact FN.out.2.1
              · rw [← HCN.out, ← HMM.out]
                exact FN.out.2.2.1
        case pos =>
          have hpp : (p : Int) < 64 := by omega
          have S0 : Hid (Sf C (p : Int) 0 (-1) true) := Sf.start C _
          have KK0 : Hid (Kp wr wr non) := Kp.refl _ _
          obtain ⟨Wy, hWy⟩ : ∃ Wy, Wy = wr := ⟨_, rfl⟩
          have KY0 : Hid (Kp Wy wr non) := by rw [hWy]; exact Kp.refl _ _
          have HBY : Hid (Wy.heap[R]? = some (.cells (rpA ⟨1, ver, 1, [], []⟩ dv mv) 49)) := by rw [hWy]; exact HBK.out
          have HDY : Hid (Wy.ownsRow Wx.heap.size 3 1 dv (difN C p).length (ints (difN C p))) := by rw [hWy]; exact HD.out
          have HKY : Hid (Kp Wx Wy (fun b => b = R)) := by rw [hWy]; exact HKP.out
          clear hWy KK0 HBK HD HKP
          go_wp2_with fail
          go_loopw [14, 15, 16] (fun v14 v15 v16 wz => ∃ (i : Nat) (k : Int) (b : Bool), i ≤ C.length ∧ v16 = .int .i64 (i : Int) ∧ v14 = .int .i64 k ∧ v15 = .bool b ∧ Hid (Sf C (p : Int) i k b) ∧ Hid (Kp Wy wz non)) (fun _ _ v16 _ => C.length - (intOf v16).toNat)
          case atStart => exact ⟨0, -1, true, Nat.zero_le _, rfl, rfl, rfl, S0.out, KY0.out⟩
          case round =>
            clear S0 KY0
            obtain ⟨i, k, b, hi, rfl, rfl, rfl, HSF, HK⟩ := hrel
            have hcb : C.length ≤ 1000000 := CLB.out
            by_cases hic : i < C.length
            case neg =>
              have hie : i = C.length := by omega
              subst hie
              have hii : ¬ (C.length : Int) < (C.length : Int) := by omega
              have HBV := hide HSF.out.fin
              have HB9 : Hid (wr.heap[R]? = some (.cells (rpA ⟨1, ver, 1, [], []⟩ dv mv) 49)) := (HK.out.block _ (blk_lt HBY.out) (fun f => f)).trans HBY.out
              have HD9 : Hid (wr.ownsRow Wx.heap.size 3 1 dv (difN C p).length (ints (difN C p))) := own_kp HDY.out HK.out (fun _ _ f => f)
              have HK9 : Hid (Kp Wx wr (fun b => b = R)) := HKY.out.trans HK.out (fun _ f => f.elim)
              clear HSF hi hcb hic
              cases b
              case true =>
                have ED : Hid (difN C (p + 1) = difN C p) := by
                  show _ = _
                  rw [difN_succ, if_neg]
                  have := HBV.out
                  intro q
                  rw [q] at this
                  exact absurd this (by decide)
                have HD10 : Hid (wr.ownsRow Wx.heap.size 3 1 dv (difN C (p + 1)).length (ints (difN C (p + 1)))) := by rw [ED.out]; exact HD9.out
                clear HD9
                go_wp2_with fail
                go_roundw
                case rel => exact ⟨p + 1, by omega, by go_num, dv, HB9.out, HD10.out, HK9.out⟩
                case measure => simp [intOf]; omega
              case false =>
                have ED : Hid (difN C (p + 1) = difN C p ++ [(p : Int)]) := by
                  show _ = _
                  rw [difN_succ, if_pos]
                  have := HBV.out
                  cases hq : dfP C (p : Int) with
                  | true => rfl
                  | false => rw [hq] at this; exact absurd this (by decide)
                have LB := difN_len C p
                obtain ⟨L, hL⟩ : ∃ L, L = difN C p := ⟨_, rfl⟩
                rw [← hL] at ED HD9 LB
                clear hL
                obtain ⟨da, dc, rfl⟩ := own_sl HD9.out
                have x3 : wr.cell? ⟨R, 3, none⟩ = some (.slice da L.length dc) := by rw [cell_row HB9.out]; rfl
                have SZ : Hid (Wx.heap.size ≤ wr.heap.size) := HK9.out.size
                have O1 : Hid ((wr.alloc (.cells #[.int .i64 (p : Int)] 3)).ownsRow Wx.heap.size 3 1 (.slice da L.length dc) L.length (ints L)) := own_kp HD9.out ((Kp.refl wr non).alloc _) (fun _ _ f => f)
                have G1 : Hid ((wr.alloc (.cells #[.int .i64 (p : Int)] 3)).heap[wr.heap.size]? = some (.cells #[.int .i64 (p : Int)] 3)) := heap_last _ _
                obtain ⟨dn, hdn⟩ : ∃ dn, dn = L.length := ⟨_, rfl⟩
                rw [← hdn] at x3 O1 LB
                have HDN := hide hdn
                clear hdn
                go_wp2_with (at_builtin; refine wpList_apIB rfl (.tmp 109) (.tmp 111) rfl Wx.heap.size _ dn L rfl O1.out wr.heap.size (p : Int) rfl G1.out (by omega) (by have := SZ.out; rw [World.size_alloc]; omega) ?_; intro v' w3 o2 g2 g3; obtain ⟨b3, f3, -, k3⟩ := apR HB9.out HD9.out (by rw [HDN.out] at g2; exact g2); obtain ⟨va, vc, rfl⟩ := own_sl o2; have x33 : w3.cell? ⟨R, 3, none⟩ = some (.slice da L.length dc) := by rw [cell_row b3]; rfl)
                have k5 : Hid (Kp Wx (w3.setCell ⟨R, 3, none⟩ (.slice va (dn + 1) vc)) (fun b => b = R)) := (HK9.out.trans k3 (fun k e => Or.inr (own_ge HD9.out e.symm))).set (Or.inl rfl) _ _
                have B5 : Hid ((w3.setCell ⟨R, 3, none⟩ (.slice va (dn + 1) vc)).heap[R]? = some (.cells (rpA ⟨1, ver, 1, [], []⟩ (.slice va (dn + 1) vc) mv) 49)) := set_row b3 3 _
                have D5 : Hid ((w3.setCell ⟨R, 3, none⟩ (.slice va (dn + 1) vc)).ownsRow Wx.heap.size 3 1 (.slice va (dn + 1) vc) (difN C (p + 1)).length (ints (difN C (p + 1)))) := by
                  rw [ED.out, List.length_append, ← HDN.out]
                  exact own_kp o2 ((Kp.refl w3 (fun b => b = R)).set (Or.inl rfl) _ _) (fun k hk e => by
                    obtain ⟨cur, hc⟩ := own_typ o2 hk
                    rw [e, b3] at hc
                    simp at hc)
                clear k3 b3 f3 o2 g2 g3 x33 x3 O1 G1 HB9 HD9 HK9
                generalize w3.setCell ⟨R, 3, none⟩ (.slice va (dn + 1) vc) = W9 at *
                go_wp2_with fail
                go_roundw
                case rel => exact ⟨p + 1, by omega, by go_num, _, B5.out, D5.out, k5.out⟩
                case measure => simp [intOf]; omega
            case pos =>
              have hii : (i : Int) < (C.length : Int) := by omega
              obtain ⟨g, rfl, c1, c2, c4⟩ := CC.out wr (HKY.out.trans HK.out (fun _ f => f.elim)) i hic
              by_cases hpt : C[i].pt = (p : Int)
              case neg =>
                have SF2 := hide (HSF.out.skip hic hpt)
                have q0 : (C[i].pt != (p : Int)) = true := by simpa using hpt
                generalize C[i].pt = z at *
                clear hpt c2 c4
                go_wp2_with fail
                go_roundw
                case rel => exact ⟨i + 1, k, b, by omega, by go_num, rfl, rfl, SF2.out, HK.out⟩
                case measure => simp [intOf]; omega
              case pos =>
                obtain ⟨kk, hkk, hor, sf2⟩ := HSF.out.step hic hpt
                obtain ⟨g', e', -, d2, d4⟩ := CC.out wr (HKY.out.trans HK.out (fun _ f => f.elim)) kk hkk
                injection e' with e'
                injection e' with e' _ _
                subst e'
                have SF2 := hide sf2
                rw [hpt] at c1
                have q0 : ((p : Int) != (p : Int)) = false := by simp
                obtain ⟨cdg, hcdg⟩ : ∃ cdg, cdg = C[i].dg := ⟨_, rfl⟩
                obtain ⟨cen, hcen⟩ : ∃ cen, cen = C[i].en := ⟨_, rfl⟩
                obtain ⟨kdg, hkdg⟩ : ∃ kdg, kdg = C[kk].dg := ⟨_, rfl⟩
                obtain ⟨ken, hken⟩ : ∃ ken, ken = C[kk].en := ⟨_, rfl⟩
                rw [← hcdg, ← hcen, ← hkdg, ← hken] at SF2
                rw [← hcdg] at c4
                rw [← hcen] at c2
                rw [← hkdg] at d4
                rw [← hken] at d2
                have C0 : Hid (wr.cell? ⟨g, i * 5 + 4, none⟩ = some (.string cdg) ∧ wr.cell? ⟨g, kk * 5 + 4, none⟩ = some (.string kdg) ∧ wr.cell? ⟨g, i * 5 + 2, none⟩ = some (.int .i64 cen) ∧ wr.cell? ⟨g, kk * 5 + 2, none⟩ = some (.int .i64 ken)) := ⟨c4, d4, c2, d2⟩
                have hkc : (kk : Int) < (C.length : Int) := by omega
                clear hcdg hcen hkdg hken c4 c2 d4 d2 sf2 hpt
                rcases hor with ⟨hk0, hki⟩ | ⟨hk0, rfl⟩
                · obtain rfl : i = kk := hki.symm
                  have ecd : kdg = cdg := by
                    have z := C0.out.1.symm.trans C0.out.2.1
                    simp at z
                    exact z.symm
                  have een : ken = cen := by
                    have z := C0.out.2.2.1.symm.trans C0.out.2.2.2
                    simp at z
                    exact z.symm
                  subst ecd
                  subst een
                  have D0 : Hid (wr.cell? ⟨g, i * 5 + 4, none⟩ = some (.string kdg) ∧ wr.cell? ⟨g, i * 5 + 2, none⟩ = some (.int .i64 ken)) := ⟨C0.out.1, C0.out.2.2.1⟩
                  clear C0
                  go_upto_region 25 with fail
                  clear c1
                  cases b
                  case false =>
                    refine wp_region_held_drew (S := fun X => X.cell? ⟨g, i * 5 + 4, none⟩ = some (.string kdg) ∧ X.cell? ⟨g, i * 5 + 2, none⟩ = some (.int .i64 ken)) (by kernel_rfl) D0.out (fun hHeld => ?_)
                    refine wpAnyH_take (i := 0) (v := (.bool false)) rfl (by kernel_rfl) (by kernel_rfl) (by kernel_rfl) (fun _ _ _ h => h) (Or.inl ⟨by kernel_rfl, ?_⟩) (by assumption) ?_
                    · intro w' hSw
                      (try dsimp only at hSw)
                      go_simp
                    (try simp only [Act.put, List.getElem_toArray, List.getElem_cons_zero, List.getElem_cons_succ, List.setIfInBounds_toArray, List.set_cons_zero, List.set_cons_succ])
                    refine wpAnyH_take (i := 1) (v := (.bool false)) rfl (by kernel_rfl) (by kernel_rfl) (by kernel_rfl) (fun _ _ _ h => h) (Or.inl ⟨by kernel_rfl, ?_⟩) (by assumption) ?_
                    · intro w' hSw
                      (try dsimp only at hSw)
                      go_simp
                    (try simp only [Act.put, List.getElem_toArray, List.getElem_cons_zero, List.getElem_cons_succ, List.setIfInBounds_toArray, List.set_cons_zero, List.set_cons_succ])
                    refine wpAnyH_take (i := 2) (v := undef) rfl (by kernel_rfl) (by kernel_rfl) (by kernel_rfl) (fun _ _ _ h => h) (Or.inr ⟨by kernel_rfl, rfl⟩) (by assumption) ?_
                    (try simp only [Act.put, List.setIfInBounds_toArray, List.set_cons_zero, List.set_cons_succ])
                    refine wpAnyH_take (i := 3) (v := undef) rfl (by kernel_rfl) (by kernel_rfl) (by kernel_rfl) (fun _ _ _ h => h) (Or.inr ⟨by kernel_rfl, rfl⟩) (by assumption) ?_
                    (try simp only [Act.put, List.setIfInBounds_toArray, List.set_cons_zero, List.set_cons_succ])
                    refine wpAnyH_take (i := 4) (v := undef) rfl (by kernel_rfl) (by kernel_rfl) (by kernel_rfl) (fun _ _ _ h => h) (Or.inr ⟨by kernel_rfl, rfl⟩) (by assumption) ?_
                    (try simp only [Act.put, List.setIfInBounds_toArray, List.set_cons_zero, List.set_cons_succ])
                    refine wpAnyH_take (i := 5) (v := undef) rfl (by kernel_rfl) (by kernel_rfl) (by kernel_rfl) (fun _ _ _ h => h) (Or.inr ⟨by kernel_rfl, rfl⟩) (by assumption) ?_
                    (try simp only [Act.put, List.setIfInBounds_toArray, List.set_cons_zero, List.set_cons_succ])
                    refine wpAnyH_take (i := 6) (v := undef) rfl (by kernel_rfl) (by kernel_rfl) (by kernel_rfl) (fun _ _ _ h => h) (Or.inr ⟨by kernel_rfl, rfl⟩) (by assumption) ?_
                    (try simp only [Act.put, List.setIfInBounds_toArray, List.set_cons_zero, List.set_cons_succ])
                    refine wpAnyH_take (i := 7) (v := undef) rfl (by kernel_rfl) (by kernel_rfl) (by kernel_rfl) (fun _ _ _ h => h) (Or.inr ⟨by kernel_rfl, rfl⟩) (by assumption) ?_
                    (try simp only [Act.put, List.setIfInBounds_toArray, List.set_cons_zero, List.set_cons_succ])
                    refine wpAnyH_take (i := 8) (v := undef) rfl (by kernel_rfl) (by kernel_rfl) (by kernel_rfl) (fun _ _ _ h => h) (Or.inr ⟨by kernel_rfl, rfl⟩) (by assumption) ?_
                    (try simp only [Act.put, List.setIfInBounds_toArray, List.set_cons_zero, List.set_cons_succ])
                    refine wpAnyH_take (i := 9) (v := undef) rfl (by kernel_rfl) (by kernel_rfl) (by kernel_rfl) (fun _ _ _ h => h) (Or.inr ⟨by kernel_rfl, rfl⟩) (by assumption) ?_
                    (try simp only [Act.put, List.setIfInBounds_toArray, List.set_cons_zero, List.set_cons_succ])
                    refine wpAnyH_take (i := 10) (v := undef) rfl (by kernel_rfl) (by kernel_rfl) (by kernel_rfl) (fun _ _ _ h => h) (Or.inr ⟨by kernel_rfl, rfl⟩) (by assumption) ?_
                    (try simp only [Act.put, List.setIfInBounds_toArray, List.set_cons_zero, List.set_cons_succ])
                    refine wpAnyH_take (i := 11) (v := undef) rfl (by kernel_rfl) (by kernel_rfl) (by kernel_rfl) (fun _ _ _ h => h) (Or.inr ⟨by kernel_rfl, rfl⟩) (by assumption) ?_
                    (try simp only [Act.put, List.setIfInBounds_toArray, List.set_cons_zero, List.set_cons_succ])
                    refine wpAnyH_take (i := 12) (v := undef) rfl (by kernel_rfl) (by kernel_rfl) (by kernel_rfl) (fun _ _ _ h => h) (Or.inr ⟨by kernel_rfl, rfl⟩) (by assumption) ?_
                    (try simp only [Act.put, List.setIfInBounds_toArray, List.set_cons_zero, List.set_cons_succ])
                    refine wpAnyH_take (i := 13) (v := (.bool false)) rfl (by kernel_rfl) (by kernel_rfl) (by kernel_rfl) (fun _ _ _ h => h) (Or.inl ⟨by kernel_rfl, ?_⟩) (by assumption) ?_
                    · intro w' hSw
                      (try dsimp only at hSw)
                      go_simp
                    (try simp only [Act.put, List.getElem_toArray, List.getElem_cons_zero, List.getElem_cons_succ, List.setIfInBounds_toArray, List.set_cons_zero, List.set_cons_succ])
                    refine wpAnyH_take (i := 14) (v := (.bool false)) rfl (by kernel_rfl) (by kernel_rfl) (by kernel_rfl) (fun _ _ _ h => h) (Or.inl ⟨by kernel_rfl, ?_⟩) (by assumption) ?_
                    · intro w' hSw
                      (try dsimp only at hSw)
                      go_simp
                    (try simp only [Act.put, List.getElem_toArray, List.getElem_cons_zero, List.getElem_cons_succ, List.setIfInBounds_toArray, List.set_cons_zero, List.set_cons_succ])
                    refine wpAnyH_take (i := 15) (v := undef) rfl (by kernel_rfl) (by kernel_rfl) (by kernel_rfl) (fun _ _ _ h => h) (Or.inr ⟨by kernel_rfl, rfl⟩) (by assumption) ?_
                    (try simp only [Act.put, List.setIfInBounds_toArray, List.set_cons_zero, List.set_cons_succ])
                    refine wpAnyH_take (i := 16) (v := undef) rfl (by kernel_rfl) (by kernel_rfl) (by kernel_rfl) (fun _ _ _ h => h) (Or.inr ⟨by kernel_rfl, rfl⟩) (by assumption) ?_
                    (try simp only [Act.put, List.setIfInBounds_toArray, List.set_cons_zero, List.set_cons_succ])
                    refine wpAnyH_take (i := 17) (v := undef) rfl (by kernel_rfl) (by kernel_rfl) (by kernel_rfl) (fun _ _ _ h => h) (Or.inr ⟨by kernel_rfl, rfl⟩) (by assumption) ?_
                    (try simp only [Act.put, List.setIfInBounds_toArray, List.set_cons_zero, List.set_cons_succ])
                    refine wpAnyH_take (i := 18) (v := undef) rfl (by kernel_rfl) (by kernel_rfl) (by kernel_rfl) (fun _ _ _ h => h) (Or.inr ⟨by kernel_rfl, rfl⟩) (by assumption) ?_
                    (try simp only [Act.put, List.setIfInBounds_toArray, List.set_cons_zero, List.set_cons_succ])
                    refine wpAnyH_take (i := 19) (v := undef) rfl (by kernel_rfl) (by kernel_rfl) (by kernel_rfl) (fun _ _ _ h => h) (Or.inr ⟨by kernel_rfl, rfl⟩) (by assumption) ?_
                    (try simp only [Act.put, List.setIfInBounds_toArray, List.set_cons_zero, List.set_cons_succ])
                    refine wpAnyH_take (i := 20) (v := undef) rfl (by kernel_rfl) (by kernel_rfl) (by kernel_rfl) (fun _ _ _ h => h) (Or.inr ⟨by kernel_rfl, rfl⟩) (by assumption) ?_
                    (try simp only [Act.put, List.setIfInBounds_toArray, List.set_cons_zero, List.set_cons_succ])
                    refine wpAnyH_take (i := 21) (v := undef) rfl (by kernel_rfl) (by kernel_rfl) (by kernel_rfl) (fun _ _ _ h => h) (Or.inr ⟨by kernel_rfl, rfl⟩) (by assumption) ?_
                    (try simp only [Act.put, List.setIfInBounds_toArray, List.set_cons_zero, List.set_cons_succ])
                    refine wpAnyH_take (i := 22) (v := undef) rfl (by kernel_rfl) (by kernel_rfl) (by kernel_rfl) (fun _ _ _ h => h) (Or.inr ⟨by kernel_rfl, rfl⟩) (by assumption) ?_
                    (try simp only [Act.put, List.setIfInBounds_toArray, List.set_cons_zero, List.set_cons_succ])
                    refine wpAnyH_take (i := 23) (v := undef) rfl (by kernel_rfl) (by kernel_rfl) (by kernel_rfl) (fun _ _ _ h => h) (Or.inr ⟨by kernel_rfl, rfl⟩) (by assumption) ?_
                    (try simp only [Act.put, List.setIfInBounds_toArray, List.set_cons_zero, List.set_cons_succ])
                    refine wpAnyH_take (i := 24) (v := undef) rfl (by kernel_rfl) (by kernel_rfl) (by kernel_rfl) (fun _ _ _ h => h) (Or.inr ⟨by kernel_rfl, rfl⟩) (by assumption) ?_
                    (try simp only [Act.put, List.setIfInBounds_toArray, List.set_cons_zero, List.set_cons_succ])
                    refine wpAnyH_take (i := 25) (v := undef) rfl (by kernel_rfl) (by kernel_rfl) (by kernel_rfl) (fun _ _ _ h => h) (Or.inr ⟨by kernel_rfl, rfl⟩) (by assumption) ?_
                    (try simp only [Act.put, List.setIfInBounds_toArray, List.set_cons_zero, List.set_cons_succ])
                    refine wpAnyH_take (i := 26) (v := (.bool false)) rfl (by kernel_rfl) (by kernel_rfl) (by kernel_rfl) (fun _ _ _ h => h) (Or.inl ⟨by kernel_rfl, ?_⟩) (by assumption) ?_
                    · intro w' hSw
                      (try dsimp only at hSw)
                      go_simp
                    (try simp only [Act.put, List.getElem_toArray, List.getElem_cons_zero, List.getElem_cons_succ, List.setIfInBounds_toArray, List.set_cons_zero, List.set_cons_succ])
                    refine wpAnyH_ready (rs := [27]) (by kernel_rfl) (by simp) ?_
                    refine AllReadyH.cons rfl (fun K hK => ?_) AllReadyH.nil
                    go_simp
                    refine hK.out _ _ (D0.out) (fun hHeld => ?_)
                    clear hK
                    (try simp only [Act.put, List.setIfInBounds_toArray, List.set_cons_zero, List.set_cons_succ])
                    refine wpAnyH_done (by kernel_rfl) ?_ _
                    clear hHeld D0
                    go_wp2_with fail
                    go_roundw
                    case rel => exact ⟨i + 1, (i : Int), false, by omega, by go_num, rfl, rfl, (by first | exact SF2.out | (have z := SF2.out; refine (?_ : Sf _ _ _ _ _); simpa using z)), HK.out.drew⟩
                    case measure => simp [intOf]; omega
                  case true =>
                    refine wp_region_held_drew (S := fun X => X.cell? ⟨g, i * 5 + 4, none⟩ = some (.string kdg) ∧ X.cell? ⟨g, i * 5 + 2, none⟩ = some (.int .i64 ken)) (by kernel_rfl) D0.out (fun hHeld => ?_)
                    refine wpAnyH_take (i := 0) (v := (.bool true)) rfl (by kernel_rfl) (by kernel_rfl) (by kernel_rfl) (fun _ _ _ h => h) (Or.inl ⟨by kernel_rfl, ?_⟩) (by assumption) ?_
                    · intro w' hSw
                      (try dsimp only at hSw)
                      go_simp
                    (try simp only [Act.put, List.getElem_toArray, List.getElem_cons_zero, List.getElem_cons_succ, List.setIfInBounds_toArray, List.set_cons_zero, List.set_cons_succ])
                    refine wpAnyH_take (i := 1) (v := (.bool true)) rfl (by kernel_rfl) (by kernel_rfl) (by kernel_rfl) (fun _ _ _ h => h) (Or.inl ⟨by kernel_rfl, ?_⟩) (by assumption) ?_
                    · intro w' hSw
                      (try dsimp only at hSw)
                      go_simp
                    (try simp only [Act.put, List.getElem_toArray, List.getElem_cons_zero, List.getElem_cons_succ, List.setIfInBounds_toArray, List.set_cons_zero, List.set_cons_succ])
                    refine wpAnyH_take (i := 2) (v := (.slice (some ⟨g, 0, none⟩) C.length oc)) rfl (by kernel_rfl) (by kernel_rfl) (by kernel_rfl) (fun _ _ _ h => h) (Or.inl ⟨by kernel_rfl, ?_⟩) (by assumption) ?_
                    · intro w' hSw
                      (try dsimp only at hSw)
                      go_simp
                    (try simp only [Act.put, List.getElem_toArray, List.getElem_cons_zero, List.getElem_cons_succ, List.setIfInBounds_toArray, List.set_cons_zero, List.set_cons_succ])
                    refine wpAnyH_take (i := 3) (v := (.int .i64 (i : Int))) rfl (by kernel_rfl) (by kernel_rfl) (by kernel_rfl) (fun _ _ _ h => h) (Or.inl ⟨by kernel_rfl, ?_⟩) (by assumption) ?_
                    · intro w' hSw
                      (try dsimp only at hSw)
                      go_simp
                    (try simp only [Act.put, List.getElem_toArray, List.getElem_cons_zero, List.getElem_cons_succ, List.setIfInBounds_toArray, List.set_cons_zero, List.set_cons_succ])
                    refine wpAnyH_take (i := 4) (v := (.pointer (some ⟨g, i * 5, none⟩))) rfl (by kernel_rfl) (by kernel_rfl) (by kernel_rfl) (fun _ _ _ h => h) (Or.inl ⟨by kernel_rfl, ?_⟩) (by assumption) ?_
                    · intro w' hSw
                      (try dsimp only at hSw)
                      go_simp
                    (try simp only [Act.put, List.getElem_toArray, List.getElem_cons_zero, List.getElem_cons_succ, List.setIfInBounds_toArray, List.set_cons_zero, List.set_cons_succ])
                    refine wpAnyH_take (i := 5) (v := (.pointer (some ⟨g, i * 5 + 4, none⟩))) rfl (by kernel_rfl) (by kernel_rfl) (by kernel_rfl) (fun _ _ _ h => h) (Or.inl ⟨by kernel_rfl, ?_⟩) (by assumption) ?_
                    · intro w' hSw
                      (try dsimp only at hSw)
                      go_simp
                    (try simp only [Act.put, List.getElem_toArray, List.getElem_cons_zero, List.getElem_cons_succ, List.setIfInBounds_toArray, List.set_cons_zero, List.set_cons_succ])
                    refine wpAnyH_take (i := 6) (v := (.string kdg)) rfl (by kernel_rfl) (by kernel_rfl) (by kernel_rfl) (fun _ _ _ h => h) (Or.inl ⟨by kernel_rfl, ?_⟩) (by assumption) ?_
                    · intro w' hSw
                      (try dsimp only at hSw)
                      (have y := hSw.1; go_simp)
                    (try simp only [Act.put, List.getElem_toArray, List.getElem_cons_zero, List.getElem_cons_succ, List.setIfInBounds_toArray, List.set_cons_zero, List.set_cons_succ])
                    refine wpAnyH_take (i := 7) (v := (.slice (some ⟨g, 0, none⟩) C.length oc)) rfl (by kernel_rfl) (by kernel_rfl) (by kernel_rfl) (fun _ _ _ h => h) (Or.inl ⟨by kernel_rfl, ?_⟩) (by assumption) ?_
                    · intro w' hSw
                      (try dsimp only at hSw)
                      go_simp
                    (try simp only [Act.put, List.getElem_toArray, List.getElem_cons_zero, List.getElem_cons_succ, List.setIfInBounds_toArray, List.set_cons_zero, List.set_cons_succ])
                    refine wpAnyH_take (i := 8) (v := (.int .i64 (i : Int))) rfl (by kernel_rfl) (by kernel_rfl) (by kernel_rfl) (fun _ _ _ h => h) (Or.inl ⟨by kernel_rfl, ?_⟩) (by assumption) ?_
                    · intro w' hSw
                      (try dsimp only at hSw)
                      go_simp
                    (try simp only [Act.put, List.getElem_toArray, List.getElem_cons_zero, List.getElem_cons_succ, List.setIfInBounds_toArray, List.set_cons_zero, List.set_cons_succ])
                    refine wpAnyH_take (i := 9) (v := (.pointer (some ⟨g, i * 5, none⟩))) rfl (by kernel_rfl) (by kernel_rfl) (by kernel_rfl) (fun _ _ _ h => h) (Or.inl ⟨by kernel_rfl, ?_⟩) (by assumption) ?_
                    · intro w' hSw
                      (try dsimp only at hSw)
                      go_simp
                    (try simp only [Act.put, List.getElem_toArray, List.getElem_cons_zero, List.getElem_cons_succ, List.setIfInBounds_toArray, List.set_cons_zero, List.set_cons_succ])
                    refine wpAnyH_take (i := 10) (v := (.pointer (some ⟨g, i * 5 + 4, none⟩))) rfl (by kernel_rfl) (by kernel_rfl) (by kernel_rfl) (fun _ _ _ h => h) (Or.inl ⟨by kernel_rfl, ?_⟩) (by assumption) ?_
                    · intro w' hSw
                      (try dsimp only at hSw)
                      go_simp
                    (try simp only [Act.put, List.getElem_toArray, List.getElem_cons_zero, List.getElem_cons_succ, List.setIfInBounds_toArray, List.set_cons_zero, List.set_cons_succ])
                    refine wpAnyH_take (i := 11) (v := (.string kdg)) rfl (by kernel_rfl) (by kernel_rfl) (by kernel_rfl) (fun _ _ _ h => h) (Or.inl ⟨by kernel_rfl, ?_⟩) (by assumption) ?_
                    · intro w' hSw
                      (try dsimp only at hSw)
                      (have y := hSw.1; go_simp)
                    (try simp only [Act.put, List.getElem_toArray, List.getElem_cons_zero, List.getElem_cons_succ, List.setIfInBounds_toArray, List.set_cons_zero, List.set_cons_succ])
                    refine wpAnyH_take (i := 12) (v := (.bool true)) rfl (by kernel_rfl) (by kernel_rfl) (by kernel_rfl) (fun _ _ _ h => h) (Or.inl ⟨by kernel_rfl, ?_⟩) (by assumption) ?_
                    · intro w' hSw
                      (try dsimp only at hSw)
                      go_simp
                    (try simp only [Act.put, List.getElem_toArray, List.getElem_cons_zero, List.getElem_cons_succ, List.setIfInBounds_toArray, List.set_cons_zero, List.set_cons_succ])
                    refine wpAnyH_take (i := 13) (v := (.bool true)) rfl (by kernel_rfl) (by kernel_rfl) (by kernel_rfl) (fun _ _ _ h => h) (Or.inl ⟨by kernel_rfl, ?_⟩) (by assumption) ?_
                    · intro w' hSw
                      (try dsimp only at hSw)
                      go_simp
                    (try simp only [Act.put, List.getElem_toArray, List.getElem_cons_zero, List.getElem_cons_succ, List.setIfInBounds_toArray, List.set_cons_zero, List.set_cons_succ])
                    refine wpAnyH_take (i := 14) (v := (.bool true)) rfl (by kernel_rfl) (by kernel_rfl) (by kernel_rfl) (fun _ _ _ h => h) (Or.inl ⟨by kernel_rfl, ?_⟩) (by assumption) ?_
                    · intro w' hSw
                      (try dsimp only at hSw)
                      go_simp
                    (try simp only [Act.put, List.getElem_toArray, List.getElem_cons_zero, List.getElem_cons_succ, List.setIfInBounds_toArray, List.set_cons_zero, List.set_cons_succ])
                    refine wpAnyH_take (i := 15) (v := (.slice (some ⟨g, 0, none⟩) C.length oc)) rfl (by kernel_rfl) (by kernel_rfl) (by kernel_rfl) (fun _ _ _ h => h) (Or.inl ⟨by kernel_rfl, ?_⟩) (by assumption) ?_
                    · intro w' hSw
                      (try dsimp only at hSw)
                      go_simp
                    (try simp only [Act.put, List.getElem_toArray, List.getElem_cons_zero, List.getElem_cons_succ, List.setIfInBounds_toArray, List.set_cons_zero, List.set_cons_succ])
                    refine wpAnyH_take (i := 16) (v := (.int .i64 (i : Int))) rfl (by kernel_rfl) (by kernel_rfl) (by kernel_rfl) (fun _ _ _ h => h) (Or.inl ⟨by kernel_rfl, ?_⟩) (by assumption) ?_
                    · intro w' hSw
                      (try dsimp only at hSw)
                      go_simp
                    (try simp only [Act.put, List.getElem_toArray, List.getElem_cons_zero, List.getElem_cons_succ, List.setIfInBounds_toArray, List.set_cons_zero, List.set_cons_succ])
                    refine wpAnyH_take (i := 17) (v := (.pointer (some ⟨g, i * 5, none⟩))) rfl (by kernel_rfl) (by kernel_rfl) (by kernel_rfl) (fun _ _ _ h => h) (Or.inl ⟨by kernel_rfl, ?_⟩) (by assumption) ?_
                    · intro w' hSw
                      (try dsimp only at hSw)
                      go_simp
                    (try simp only [Act.put, List.getElem_toArray, List.getElem_cons_zero, List.getElem_cons_succ, List.setIfInBounds_toArray, List.set_cons_zero, List.set_cons_succ])
                    refine wpAnyH_take (i := 18) (v := (.pointer (some ⟨g, i * 5 + 2, none⟩))) rfl (by kernel_rfl) (by kernel_rfl) (by kernel_rfl) (fun _ _ _ h => h) (Or.inl ⟨by kernel_rfl, ?_⟩) (by assumption) ?_
                    · intro w' hSw
                      (try dsimp only at hSw)
                      go_simp
                    (try simp only [Act.put, List.getElem_toArray, List.getElem_cons_zero, List.getElem_cons_succ, List.setIfInBounds_toArray, List.set_cons_zero, List.set_cons_succ])
                    refine wpAnyH_take (i := 19) (v := (.int .i64 ken)) rfl (by kernel_rfl) (by kernel_rfl) (by kernel_rfl) (fun _ _ _ h => h) (Or.inl ⟨by kernel_rfl, ?_⟩) (by assumption) ?_
                    · intro w' hSw
                      (try dsimp only at hSw)
                      (have y := hSw.2; go_simp)
                    (try simp only [Act.put, List.getElem_toArray, List.getElem_cons_zero, List.getElem_cons_succ, List.setIfInBounds_toArray, List.set_cons_zero, List.set_cons_succ])
                    refine wpAnyH_take (i := 20) (v := (.slice (some ⟨g, 0, none⟩) C.length oc)) rfl (by kernel_rfl) (by kernel_rfl) (by kernel_rfl) (fun _ _ _ h => h) (Or.inl ⟨by kernel_rfl, ?_⟩) (by assumption) ?_
                    · intro w' hSw
                      (try dsimp only at hSw)
                      go_simp
                    (try simp only [Act.put, List.getElem_toArray, List.getElem_cons_zero, List.getElem_cons_succ, List.setIfInBounds_toArray, List.set_cons_zero, List.set_cons_succ])
                    refine wpAnyH_take (i := 21) (v := (.int .i64 (i : Int))) rfl (by kernel_rfl) (by kernel_rfl) (by kernel_rfl) (fun _ _ _ h => h) (Or.inl ⟨by kernel_rfl, ?_⟩) (by assumption) ?_
                    · intro w' hSw
                      (try dsimp only at hSw)
                      go_simp
                    (try simp only [Act.put, List.getElem_toArray, List.getElem_cons_zero, List.getElem_cons_succ, List.setIfInBounds_toArray, List.set_cons_zero, List.set_cons_succ])
                    refine wpAnyH_take (i := 22) (v := (.pointer (some ⟨g, i * 5, none⟩))) rfl (by kernel_rfl) (by kernel_rfl) (by kernel_rfl) (fun _ _ _ h => h) (Or.inl ⟨by kernel_rfl, ?_⟩) (by assumption) ?_
                    · intro w' hSw
                      (try dsimp only at hSw)
                      go_simp
                    (try simp only [Act.put, List.getElem_toArray, List.getElem_cons_zero, List.getElem_cons_succ, List.setIfInBounds_toArray, List.set_cons_zero, List.set_cons_succ])
                    refine wpAnyH_take (i := 23) (v := (.pointer (some ⟨g, i * 5 + 2, none⟩))) rfl (by kernel_rfl) (by kernel_rfl) (by kernel_rfl) (fun _ _ _ h => h) (Or.inl ⟨by kernel_rfl, ?_⟩) (by assumption) ?_
                    · intro w' hSw
                      (try dsimp only at hSw)
                      go_simp
                    (try simp only [Act.put, List.getElem_toArray, List.getElem_cons_zero, List.getElem_cons_succ, List.setIfInBounds_toArray, List.set_cons_zero, List.set_cons_succ])
                    refine wpAnyH_take (i := 24) (v := (.int .i64 ken)) rfl (by kernel_rfl) (by kernel_rfl) (by kernel_rfl) (fun _ _ _ h => h) (Or.inl ⟨by kernel_rfl, ?_⟩) (by assumption) ?_
                    · intro w' hSw
                      (try dsimp only at hSw)
                      (have y := hSw.2; go_simp)
                    (try simp only [Act.put, List.getElem_toArray, List.getElem_cons_zero, List.getElem_cons_succ, List.setIfInBounds_toArray, List.set_cons_zero, List.set_cons_succ])
                    refine wpAnyH_take (i := 25) (v := (.bool true)) rfl (by kernel_rfl) (by kernel_rfl) (by kernel_rfl) (fun _ _ _ h => h) (Or.inl ⟨by kernel_rfl, ?_⟩) (by assumption) ?_
                    · intro w' hSw
                      (try dsimp only at hSw)
                      go_simp
                    (try simp only [Act.put, List.getElem_toArray, List.getElem_cons_zero, List.getElem_cons_succ, List.setIfInBounds_toArray, List.set_cons_zero, List.set_cons_succ])
                    refine wpAnyH_take (i := 26) (v := (.bool true)) rfl (by kernel_rfl) (by kernel_rfl) (by kernel_rfl) (fun _ _ _ h => h) (Or.inl ⟨by kernel_rfl, ?_⟩) (by assumption) ?_
                    · intro w' hSw
                      (try dsimp only at hSw)
                      go_simp
                    (try simp only [Act.put, List.getElem_toArray, List.getElem_cons_zero, List.getElem_cons_succ, List.setIfInBounds_toArray, List.set_cons_zero, List.set_cons_succ])
                    refine wpAnyH_ready (rs := [27]) (by kernel_rfl) (by simp) ?_
                    refine AllReadyH.cons rfl (fun K hK => ?_) AllReadyH.nil
                    go_simp
                    refine hK.out _ _ (D0.out) (fun hHeld => ?_)
                    clear hK
                    (try simp only [Act.put, List.setIfInBounds_toArray, List.set_cons_zero, List.set_cons_succ])
                    refine wpAnyH_done (by kernel_rfl) ?_ _
                    clear hHeld D0
                    go_wp2_with fail
                    go_roundw
                    case rel => exact ⟨i + 1, (i : Int), true, by omega, by go_num, rfl, rfl, (by first | exact SF2.out | (have z := SF2.out; refine (?_ : Sf _ _ _ _ _); simpa using z)), HK.out.drew⟩
                    case measure => simp [intOf]; omega
                · have hk1 : ¬ ((kk : Int) < 0) := by omega
                  go_upto_region 25 with fail
                  clear c1
                  cases b
                  case false =>
                    refine wp_region_held_drew (S := fun X => X.cell? ⟨g, i * 5 + 4, none⟩ = some (.string cdg) ∧ X.cell? ⟨g, kk * 5 + 4, none⟩ = some (.string kdg) ∧ X.cell? ⟨g, i * 5 + 2, none⟩ = some (.int .i64 cen) ∧ X.cell? ⟨g, kk * 5 + 2, none⟩ = some (.int .i64 ken)) (by kernel_rfl) C0.out (fun hHeld => ?_)
                    refine wpAnyH_take (i := 0) (v := (.bool false)) rfl (by kernel_rfl) (by kernel_rfl) (by kernel_rfl) (fun _ _ _ h => h) (Or.inl ⟨by kernel_rfl, ?_⟩) (by assumption) ?_
                    · intro w' hSw
                      (try dsimp only at hSw)
                      go_simp
                    (try simp only [Act.put, List.getElem_toArray, List.getElem_cons_zero, List.getElem_cons_succ, List.setIfInBounds_toArray, List.set_cons_zero, List.set_cons_succ])
                    refine wpAnyH_take (i := 1) (v := (.bool false)) rfl (by kernel_rfl) (by kernel_rfl) (by kernel_rfl) (fun _ _ _ h => h) (Or.inl ⟨by kernel_rfl, ?_⟩) (by assumption) ?_
                    · intro w' hSw
                      (try dsimp only at hSw)
                      go_simp
                    (try simp only [Act.put, List.getElem_toArray, List.getElem_cons_zero, List.getElem_cons_succ, List.setIfInBounds_toArray, List.set_cons_zero, List.set_cons_succ])
                    refine wpAnyH_take (i := 2) (v := undef) rfl (by kernel_rfl) (by kernel_rfl) (by kernel_rfl) (fun _ _ _ h => h) (Or.inr ⟨by kernel_rfl, rfl⟩) (by assumption) ?_
                    (try simp only [Act.put, List.setIfInBounds_toArray, List.set_cons_zero, List.set_cons_succ])
                    refine wpAnyH_take (i := 3) (v := undef) rfl (by kernel_rfl) (by kernel_rfl) (by kernel_rfl) (fun _ _ _ h => h) (Or.inr ⟨by kernel_rfl, rfl⟩) (by assumption) ?_
                    (try simp only [Act.put, List.setIfInBounds_toArray, List.set_cons_zero, List.set_cons_succ])
                    refine wpAnyH_take (i := 4) (v := undef) rfl (by kernel_rfl) (by kernel_rfl) (by kernel_rfl) (fun _ _ _ h => h) (Or.inr ⟨by kernel_rfl, rfl⟩) (by assumption) ?_
                    (try simp only [Act.put, List.setIfInBounds_toArray, List.set_cons_zero, List.set_cons_succ])
                    refine wpAnyH_take (i := 5) (v := undef) rfl (by kernel_rfl) (by kernel_rfl) (by kernel_rfl) (fun _ _ _ h => h) (Or.inr ⟨by kernel_rfl, rfl⟩) (by assumption) ?_
                    (try simp only [Act.put, List.setIfInBounds_toArray, List.set_cons_zero, List.set_cons_succ])
                    refine wpAnyH_take (i := 6) (v := undef) rfl (by kernel_rfl) (by kernel_rfl) (by kernel_rfl) (fun _ _ _ h => h) (Or.inr ⟨by kernel_rfl, rfl⟩) (by assumption) ?_
                    (try simp only [Act.put, List.setIfInBounds_toArray, List.set_cons_zero, List.set_cons_succ])
                    refine wpAnyH_take (i := 7) (v := undef) rfl (by kernel_rfl) (by kernel_rfl) (by kernel_rfl) (fun _ _ _ h => h) (Or.inr ⟨by kernel_rfl, rfl⟩) (by assumption) ?_
                    (try simp only [Act.put, List.setIfInBounds_toArray, List.set_cons_zero, List.set_cons_succ])
                    refine wpAnyH_take (i := 8) (v := undef) rfl (by kernel_rfl) (by kernel_rfl) (by kernel_rfl) (fun _ _ _ h => h) (Or.inr ⟨by kernel_rfl, rfl⟩) (by assumption) ?_
                    (try simp only [Act.put, List.setIfInBounds_toArray, List.set_cons_zero, List.set_cons_succ])
                    refine wpAnyH_take (i := 9) (v := undef) rfl (by kernel_rfl) (by kernel_rfl) (by kernel_rfl) (fun _ _ _ h => h) (Or.inr ⟨by kernel_rfl, rfl⟩) (by assumption) ?_
                    (try simp only [Act.put, List.setIfInBounds_toArray, List.set_cons_zero, List.set_cons_succ])
                    refine wpAnyH_take (i := 10) (v := undef) rfl (by kernel_rfl) (by kernel_rfl) (by kernel_rfl) (fun _ _ _ h => h) (Or.inr ⟨by kernel_rfl, rfl⟩) (by assumption) ?_
                    (try simp only [Act.put, List.setIfInBounds_toArray, List.set_cons_zero, List.set_cons_succ])
                    refine wpAnyH_take (i := 11) (v := undef) rfl (by kernel_rfl) (by kernel_rfl) (by kernel_rfl) (fun _ _ _ h => h) (Or.inr ⟨by kernel_rfl, rfl⟩) (by assumption) ?_
                    (try simp only [Act.put, List.setIfInBounds_toArray, List.set_cons_zero, List.set_cons_succ])
                    refine wpAnyH_take (i := 12) (v := undef) rfl (by kernel_rfl) (by kernel_rfl) (by kernel_rfl) (fun _ _ _ h => h) (Or.inr ⟨by kernel_rfl, rfl⟩) (by assumption) ?_
                    (try simp only [Act.put, List.setIfInBounds_toArray, List.set_cons_zero, List.set_cons_succ])
                    refine wpAnyH_take (i := 13) (v := (.bool false)) rfl (by kernel_rfl) (by kernel_rfl) (by kernel_rfl) (fun _ _ _ h => h) (Or.inl ⟨by kernel_rfl, ?_⟩) (by assumption) ?_
                    · intro w' hSw
                      (try dsimp only at hSw)
                      go_simp
                    (try simp only [Act.put, List.getElem_toArray, List.getElem_cons_zero, List.getElem_cons_succ, List.setIfInBounds_toArray, List.set_cons_zero, List.set_cons_succ])
                    refine wpAnyH_take (i := 14) (v := (.bool false)) rfl (by kernel_rfl) (by kernel_rfl) (by kernel_rfl) (fun _ _ _ h => h) (Or.inl ⟨by kernel_rfl, ?_⟩) (by assumption) ?_
                    · intro w' hSw
                      (try dsimp only at hSw)
                      go_simp
                    (try simp only [Act.put, List.getElem_toArray, List.getElem_cons_zero, List.getElem_cons_succ, List.setIfInBounds_toArray, List.set_cons_zero, List.set_cons_succ])
                    refine wpAnyH_take (i := 15) (v := undef) rfl (by kernel_rfl) (by kernel_rfl) (by kernel_rfl) (fun _ _ _ h => h) (Or.inr ⟨by kernel_rfl, rfl⟩) (by assumption) ?_
                    (try simp only [Act.put, List.setIfInBounds_toArray, List.set_cons_zero, List.set_cons_succ])
                    refine wpAnyH_take (i := 16) (v := undef) rfl (by kernel_rfl) (by kernel_rfl) (by kernel_rfl) (fun _ _ _ h => h) (Or.inr ⟨by kernel_rfl, rfl⟩) (by assumption) ?_
                    (try simp only [Act.put, List.setIfInBounds_toArray, List.set_cons_zero, List.set_cons_succ])
                    refine wpAnyH_take (i := 17) (v := undef) rfl (by kernel_rfl) (by kernel_rfl) (by kernel_rfl) (fun _ _ _ h => h) (Or.inr ⟨by kernel_rfl, rfl⟩) (by assumption) ?_
                    (try simp only [Act.put, List.setIfInBounds_toArray, List.set_cons_zero, List.set_cons_succ])
                    refine wpAnyH_take (i := 18) (v := undef) rfl (by kernel_rfl) (by kernel_rfl) (by kernel_rfl) (fun _ _ _ h => h) (Or.inr ⟨by kernel_rfl, rfl⟩) (by assumption) ?_
                    (try simp only [Act.put, List.setIfInBounds_toArray, List.set_cons_zero, List.set_cons_succ])
                    refine wpAnyH_take (i := 19) (v := undef) rfl (by kernel_rfl) (by kernel_rfl) (by kernel_rfl) (fun _ _ _ h => h) (Or.inr ⟨by kernel_rfl, rfl⟩) (by assumption) ?_
                    (try simp only [Act.put, List.setIfInBounds_toArray, List.set_cons_zero, List.set_cons_succ])
                    refine wpAnyH_take (i := 20) (v := undef) rfl (by kernel_rfl) (by kernel_rfl) (by kernel_rfl) (fun _ _ _ h => h) (Or.inr ⟨by kernel_rfl, rfl⟩) (by assumption) ?_
                    (try simp only [Act.put, List.setIfInBounds_toArray, List.set_cons_zero, List.set_cons_succ])
                    refine wpAnyH_take (i := 21) (v := undef) rfl (by kernel_rfl) (by kernel_rfl) (by kernel_rfl) (fun _ _ _ h => h) (Or.inr ⟨by kernel_rfl, rfl⟩) (by assumption) ?_
                    (try simp only [Act.put, List.setIfInBounds_toArray, List.set_cons_zero, List.set_cons_succ])
                    refine wpAnyH_take (i := 22) (v := undef) rfl (by kernel_rfl) (by kernel_rfl) (by kernel_rfl) (fun _ _ _ h => h) (Or.inr ⟨by kernel_rfl, rfl⟩) (by assumption) ?_
                    (try simp only [Act.put, List.setIfInBounds_toArray, List.set_cons_zero, List.set_cons_succ])
                    refine wpAnyH_take (i := 23) (v := undef) rfl (by kernel_rfl) (by kernel_rfl) (by kernel_rfl) (fun _ _ _ h => h) (Or.inr ⟨by kernel_rfl, rfl⟩) (by assumption) ?_
                    (try simp only [Act.put, List.setIfInBounds_toArray, List.set_cons_zero, List.set_cons_succ])
                    refine wpAnyH_take (i := 24) (v := undef) rfl (by kernel_rfl) (by kernel_rfl) (by kernel_rfl) (fun _ _ _ h => h) (Or.inr ⟨by kernel_rfl, rfl⟩) (by assumption) ?_
                    (try simp only [Act.put, List.setIfInBounds_toArray, List.set_cons_zero, List.set_cons_succ])
                    refine wpAnyH_take (i := 25) (v := undef) rfl (by kernel_rfl) (by kernel_rfl) (by kernel_rfl) (fun _ _ _ h => h) (Or.inr ⟨by kernel_rfl, rfl⟩) (by assumption) ?_
                    (try simp only [Act.put, List.setIfInBounds_toArray, List.set_cons_zero, List.set_cons_succ])
                    refine wpAnyH_take (i := 26) (v := (.bool false)) rfl (by kernel_rfl) (by kernel_rfl) (by kernel_rfl) (fun _ _ _ h => h) (Or.inl ⟨by kernel_rfl, ?_⟩) (by assumption) ?_
                    · intro w' hSw
                      (try dsimp only at hSw)
                      go_simp
                    (try simp only [Act.put, List.getElem_toArray, List.getElem_cons_zero, List.getElem_cons_succ, List.setIfInBounds_toArray, List.set_cons_zero, List.set_cons_succ])
                    refine wpAnyH_ready (rs := [27]) (by kernel_rfl) (by simp) ?_
                    refine AllReadyH.cons rfl (fun K hK => ?_) AllReadyH.nil
                    go_simp
                    refine hK.out _ _ (C0.out) (fun hHeld => ?_)
                    clear hK
                    (try simp only [Act.put, List.setIfInBounds_toArray, List.set_cons_zero, List.set_cons_succ])
                    refine wpAnyH_done (by kernel_rfl) ?_ _
                    clear hHeld C0
                    go_wp2_with fail
                    go_roundw
                    case rel => exact ⟨i + 1, (kk : Int), false, by omega, by go_num, rfl, rfl, (by first | exact SF2.out | (have z := SF2.out; refine (?_ : Sf _ _ _ _ _); simpa using z)), HK.out.drew⟩
                    case measure => simp [intOf]; omega
                  case true =>
                    by_cases ed : cdg = kdg
                    case neg =>
                      have q1 : ¬ cdg.toList = kdg.toList := fun e => ed ((tl_eq _ _).1 e)
                      have q2 : decide (cdg = kdg) = false := by simpa using ed
                      rw [q2] at SF2
                      refine wp_region_held_drew (S := fun X => X.cell? ⟨g, i * 5 + 4, none⟩ = some (.string cdg) ∧ X.cell? ⟨g, kk * 5 + 4, none⟩ = some (.string kdg) ∧ X.cell? ⟨g, i * 5 + 2, none⟩ = some (.int .i64 cen) ∧ X.cell? ⟨g, kk * 5 + 2, none⟩ = some (.int .i64 ken)) (by kernel_rfl) C0.out (fun hHeld => ?_)
                      refine wpAnyH_take (i := 0) (v := (.bool true)) rfl (by kernel_rfl) (by kernel_rfl) (by kernel_rfl) (fun _ _ _ h => h) (Or.inl ⟨by kernel_rfl, ?_⟩) (by assumption) ?_
                      · intro w' hSw
                        (try dsimp only at hSw)
                        go_simp
                      (try simp only [Act.put, List.getElem_toArray, List.getElem_cons_zero, List.getElem_cons_succ, List.setIfInBounds_toArray, List.set_cons_zero, List.set_cons_succ])
                      refine wpAnyH_take (i := 1) (v := (.bool true)) rfl (by kernel_rfl) (by kernel_rfl) (by kernel_rfl) (fun _ _ _ h => h) (Or.inl ⟨by kernel_rfl, ?_⟩) (by assumption) ?_
                      · intro w' hSw
                        (try dsimp only at hSw)
                        go_simp
                      (try simp only [Act.put, List.getElem_toArray, List.getElem_cons_zero, List.getElem_cons_succ, List.setIfInBounds_toArray, List.set_cons_zero, List.set_cons_succ])
                      refine wpAnyH_take (i := 2) (v := (.slice (some ⟨g, 0, none⟩) C.length oc)) rfl (by kernel_rfl) (by kernel_rfl) (by kernel_rfl) (fun _ _ _ h => h) (Or.inl ⟨by kernel_rfl, ?_⟩) (by assumption) ?_
                      · intro w' hSw
                        (try dsimp only at hSw)
                        go_simp
                      (try simp only [Act.put, List.getElem_toArray, List.getElem_cons_zero, List.getElem_cons_succ, List.setIfInBounds_toArray, List.set_cons_zero, List.set_cons_succ])
                      refine wpAnyH_take (i := 3) (v := (.int .i64 (i : Int))) rfl (by kernel_rfl) (by kernel_rfl) (by kernel_rfl) (fun _ _ _ h => h) (Or.inl ⟨by kernel_rfl, ?_⟩) (by assumption) ?_
                      · intro w' hSw
                        (try dsimp only at hSw)
                        go_simp
                      (try simp only [Act.put, List.getElem_toArray, List.getElem_cons_zero, List.getElem_cons_succ, List.setIfInBounds_toArray, List.set_cons_zero, List.set_cons_succ])
                      refine wpAnyH_take (i := 4) (v := (.pointer (some ⟨g, i * 5, none⟩))) rfl (by kernel_rfl) (by kernel_rfl) (by kernel_rfl) (fun _ _ _ h => h) (Or.inl ⟨by kernel_rfl, ?_⟩) (by assumption) ?_
                      · intro w' hSw
                        (try dsimp only at hSw)
                        go_simp
                      (try simp only [Act.put, List.getElem_toArray, List.getElem_cons_zero, List.getElem_cons_succ, List.setIfInBounds_toArray, List.set_cons_zero, List.set_cons_succ])
                      refine wpAnyH_take (i := 5) (v := (.pointer (some ⟨g, i * 5 + 4, none⟩))) rfl (by kernel_rfl) (by kernel_rfl) (by kernel_rfl) (fun _ _ _ h => h) (Or.inl ⟨by kernel_rfl, ?_⟩) (by assumption) ?_
                      · intro w' hSw
                        (try dsimp only at hSw)
                        go_simp
                      (try simp only [Act.put, List.getElem_toArray, List.getElem_cons_zero, List.getElem_cons_succ, List.setIfInBounds_toArray, List.set_cons_zero, List.set_cons_succ])
                      refine wpAnyH_take (i := 6) (v := (.string cdg)) rfl (by kernel_rfl) (by kernel_rfl) (by kernel_rfl) (fun _ _ _ h => h) (Or.inl ⟨by kernel_rfl, ?_⟩) (by assumption) ?_
                      · intro w' hSw
                        (try dsimp only at hSw)
                        (have y := hSw.1; go_simp)
                      (try simp only [Act.put, List.getElem_toArray, List.getElem_cons_zero, List.getElem_cons_succ, List.setIfInBounds_toArray, List.set_cons_zero, List.set_cons_succ])
                      refine wpAnyH_take (i := 7) (v := (.slice (some ⟨g, 0, none⟩) C.length oc)) rfl (by kernel_rfl) (by kernel_rfl) (by kernel_rfl) (fun _ _ _ h => h) (Or.inl ⟨by kernel_rfl, ?_⟩) (by assumption) ?_
                      · intro w' hSw
                        (try dsimp only at hSw)
                        go_simp
                      (try simp only [Act.put, List.getElem_toArray, List.getElem_cons_zero, List.getElem_cons_succ, List.setIfInBounds_toArray, List.set_cons_zero, List.set_cons_succ])
                      refine wpAnyH_take (i := 8) (v := (.int .i64 (kk : Int))) rfl (by kernel_rfl) (by kernel_rfl) (by kernel_rfl) (fun _ _ _ h => h) (Or.inl ⟨by kernel_rfl, ?_⟩) (by assumption) ?_
                      · intro w' hSw
                        (try dsimp only at hSw)
                        go_simp
                      (try simp only [Act.put, List.getElem_toArray, List.getElem_cons_zero, List.getElem_cons_succ, List.setIfInBounds_toArray, List.set_cons_zero, List.set_cons_succ])
                      refine wpAnyH_take (i := 9) (v := (.pointer (some ⟨g, kk * 5, none⟩))) rfl (by kernel_rfl) (by kernel_rfl) (by kernel_rfl) (fun _ _ _ h => h) (Or.inl ⟨by kernel_rfl, ?_⟩) (by assumption) ?_
                      · intro w' hSw
                        (try dsimp only at hSw)
                        go_simp
                      (try simp only [Act.put, List.getElem_toArray, List.getElem_cons_zero, List.getElem_cons_succ, List.setIfInBounds_toArray, List.set_cons_zero, List.set_cons_succ])
                      refine wpAnyH_take (i := 10) (v := (.pointer (some ⟨g, kk * 5 + 4, none⟩))) rfl (by kernel_rfl) (by kernel_rfl) (by kernel_rfl) (fun _ _ _ h => h) (Or.inl ⟨by kernel_rfl, ?_⟩) (by assumption) ?_
                      · intro w' hSw
                        (try dsimp only at hSw)
                        go_simp
                      (try simp only [Act.put, List.getElem_toArray, List.getElem_cons_zero, List.getElem_cons_succ, List.setIfInBounds_toArray, List.set_cons_zero, List.set_cons_succ])
                      refine wpAnyH_take (i := 11) (v := (.string kdg)) rfl (by kernel_rfl) (by kernel_rfl) (by kernel_rfl) (fun _ _ _ h => h) (Or.inl ⟨by kernel_rfl, ?_⟩) (by assumption) ?_
                      · intro w' hSw
                        (try dsimp only at hSw)
                        (have y := hSw.2.1; go_simp)
                      (try simp only [Act.put, List.getElem_toArray, List.getElem_cons_zero, List.getElem_cons_succ, List.setIfInBounds_toArray, List.set_cons_zero, List.set_cons_succ])
                      refine wpAnyH_take (i := 12) (v := (.bool false)) rfl (by kernel_rfl) (by kernel_rfl) (by kernel_rfl) (fun _ _ _ h => h) (Or.inl ⟨by kernel_rfl, ?_⟩) (by assumption) ?_
                      · intro w' hSw
                        (try dsimp only at hSw)
                        go_simp
                      (try simp only [Act.put, List.getElem_toArray, List.getElem_cons_zero, List.getElem_cons_succ, List.setIfInBounds_toArray, List.set_cons_zero, List.set_cons_succ])
                      refine wpAnyH_take (i := 13) (v := (.bool false)) rfl (by kernel_rfl) (by kernel_rfl) (by kernel_rfl) (fun _ _ _ h => h) (Or.inl ⟨by kernel_rfl, ?_⟩) (by assumption) ?_
                      · intro w' hSw
                        (try dsimp only at hSw)
                        go_simp
                      (try simp only [Act.put, List.getElem_toArray, List.getElem_cons_zero, List.getElem_cons_succ, List.setIfInBounds_toArray, List.set_cons_zero, List.set_cons_succ])
                      refine wpAnyH_take (i := 14) (v := (.bool false)) rfl (by kernel_rfl) (by kernel_rfl) (by kernel_rfl) (fun _ _ _ h => h) (Or.inl ⟨by kernel_rfl, ?_⟩) (by assumption) ?_
                      · intro w' hSw
                        (try dsimp only at hSw)
                        go_simp
                      (try simp only [Act.put, List.getElem_toArray, List.getElem_cons_zero, List.getElem_cons_succ, List.setIfInBounds_toArray, List.set_cons_zero, List.set_cons_succ])
                      refine wpAnyH_take (i := 15) (v := undef) rfl (by kernel_rfl) (by kernel_rfl) (by kernel_rfl) (fun _ _ _ h => h) (Or.inr ⟨by kernel_rfl, rfl⟩) (by assumption) ?_
                      (try simp only [Act.put, List.setIfInBounds_toArray, List.set_cons_zero, List.set_cons_succ])
                      refine wpAnyH_take (i := 16) (v := undef) rfl (by kernel_rfl) (by kernel_rfl) (by kernel_rfl) (fun _ _ _ h => h) (Or.inr ⟨by kernel_rfl, rfl⟩) (by assumption) ?_
                      (try simp only [Act.put, List.setIfInBounds_toArray, List.set_cons_zero, List.set_cons_succ])
                      refine wpAnyH_take (i := 17) (v := undef) rfl (by kernel_rfl) (by kernel_rfl) (by kernel_rfl) (fun _ _ _ h => h) (Or.inr ⟨by kernel_rfl, rfl⟩) (by assumption) ?_
                      (try simp only [Act.put, List.setIfInBounds_toArray, List.set_cons_zero, List.set_cons_succ])
                      refine wpAnyH_take (i := 18) (v := undef) rfl (by kernel_rfl) (by kernel_rfl) (by kernel_rfl) (fun _ _ _ h => h) (Or.inr ⟨by kernel_rfl, rfl⟩) (by assumption) ?_
                      (try simp only [Act.put, List.setIfInBounds_toArray, List.set_cons_zero, List.set_cons_succ])
                      refine wpAnyH_take (i := 19) (v := undef) rfl (by kernel_rfl) (by kernel_rfl) (by kernel_rfl) (fun _ _ _ h => h) (Or.inr ⟨by kernel_rfl, rfl⟩) (by assumption) ?_
                      (try simp only [Act.put, List.setIfInBounds_toArray, List.set_cons_zero, List.set_cons_succ])
                      refine wpAnyH_take (i := 20) (v := undef) rfl (by kernel_rfl) (by kernel_rfl) (by kernel_rfl) (fun _ _ _ h => h) (Or.inr ⟨by kernel_rfl, rfl⟩) (by assumption) ?_
                      (try simp only [Act.put, List.setIfInBounds_toArray, List.set_cons_zero, List.set_cons_succ])
                      refine wpAnyH_take (i := 21) (v := undef) rfl (by kernel_rfl) (by kernel_rfl) (by kernel_rfl) (fun _ _ _ h => h) (Or.inr ⟨by kernel_rfl, rfl⟩) (by assumption) ?_
                      (try simp only [Act.put, List.setIfInBounds_toArray, List.set_cons_zero, List.set_cons_succ])
                      refine wpAnyH_take (i := 22) (v := undef) rfl (by kernel_rfl) (by kernel_rfl) (by kernel_rfl) (fun _ _ _ h => h) (Or.inr ⟨by kernel_rfl, rfl⟩) (by assumption) ?_
                      (try simp only [Act.put, List.setIfInBounds_toArray, List.set_cons_zero, List.set_cons_succ])
                      refine wpAnyH_take (i := 23) (v := undef) rfl (by kernel_rfl) (by kernel_rfl) (by kernel_rfl) (fun _ _ _ h => h) (Or.inr ⟨by kernel_rfl, rfl⟩) (by assumption) ?_
                      (try simp only [Act.put, List.setIfInBounds_toArray, List.set_cons_zero, List.set_cons_succ])
                      refine wpAnyH_take (i := 24) (v := undef) rfl (by kernel_rfl) (by kernel_rfl) (by kernel_rfl) (fun _ _ _ h => h) (Or.inr ⟨by kernel_rfl, rfl⟩) (by assumption) ?_
                      (try simp only [Act.put, List.setIfInBounds_toArray, List.set_cons_zero, List.set_cons_succ])
                      refine wpAnyH_take (i := 25) (v := undef) rfl (by kernel_rfl) (by kernel_rfl) (by kernel_rfl) (fun _ _ _ h => h) (Or.inr ⟨by kernel_rfl, rfl⟩) (by assumption) ?_
                      (try simp only [Act.put, List.setIfInBounds_toArray, List.set_cons_zero, List.set_cons_succ])
                      refine wpAnyH_take (i := 26) (v := (.bool false)) rfl (by kernel_rfl) (by kernel_rfl) (by kernel_rfl) (fun _ _ _ h => h) (Or.inl ⟨by kernel_rfl, ?_⟩) (by assumption) ?_
                      · intro w' hSw
                        (try dsimp only at hSw)
                        go_simp
                      (try simp only [Act.put, List.getElem_toArray, List.getElem_cons_zero, List.getElem_cons_succ, List.setIfInBounds_toArray, List.set_cons_zero, List.set_cons_succ])
                      refine wpAnyH_ready (rs := [27]) (by kernel_rfl) (by simp) ?_
                      refine AllReadyH.cons rfl (fun K hK => ?_) AllReadyH.nil
                      go_simp
                      refine hK.out _ _ (C0.out) (fun hHeld => ?_)
                      clear hK
                      (try simp only [Act.put, List.setIfInBounds_toArray, List.set_cons_zero, List.set_cons_succ])
                      refine wpAnyH_done (by kernel_rfl) ?_ _
                      clear hHeld C0
                      go_wp2_with fail
                      go_roundw
                      case rel => exact ⟨i + 1, (kk : Int), false, by omega, by go_num, rfl, rfl, (by first | exact SF2.out | (have z := SF2.out; refine (?_ : Sf _ _ _ _ _); simpa using z)), HK.out.drew⟩
                      case measure => simp [intOf]; omega
                    case pos =>
                      have q1 : cdg.toList = kdg.toList := (tl_eq _ _).2 ed
                      have q2 : decide (cdg = kdg) = true := by simpa using ed
                      rw [q2] at SF2
                      clear ed
                      by_cases ee : cen = ken
                      case neg =>
                        have q3 : (cen == ken) = false := by simpa using ee
                        have q4 : decide (cen = ken) = false := by simpa using ee
                        rw [q4] at SF2
                        refine wp_region_held_drew (S := fun X => X.cell? ⟨g, i * 5 + 4, none⟩ = some (.string cdg) ∧ X.cell? ⟨g, kk * 5 + 4, none⟩ = some (.string kdg) ∧ X.cell? ⟨g, i * 5 + 2, none⟩ = some (.int .i64 cen) ∧ X.cell? ⟨g, kk * 5 + 2, none⟩ = some (.int .i64 ken)) (by kernel_rfl) C0.out (fun hHeld => ?_)
                        refine wpAnyH_take (i := 0) (v := (.bool true)) rfl (by kernel_rfl) (by kernel_rfl) (by kernel_rfl) (fun _ _ _ h => h) (Or.inl ⟨by kernel_rfl, ?_⟩) (by assumption) ?_
                        · intro w' hSw
                          (try dsimp only at hSw)
                          go_simp
                        (try simp only [Act.put, List.getElem_toArray, List.getElem_cons_zero, List.getElem_cons_succ, List.setIfInBounds_toArray, List.set_cons_zero, List.set_cons_succ])
                        refine wpAnyH_take (i := 1) (v := (.bool true)) rfl (by kernel_rfl) (by kernel_rfl) (by kernel_rfl) (fun _ _ _ h => h) (Or.inl ⟨by kernel_rfl, ?_⟩) (by assumption) ?_
                        · intro w' hSw
                          (try dsimp only at hSw)
                          go_simp
                        (try simp only [Act.put, List.getElem_toArray, List.getElem_cons_zero, List.getElem_cons_succ, List.setIfInBounds_toArray, List.set_cons_zero, List.set_cons_succ])
                        refine wpAnyH_take (i := 2) (v := (.slice (some ⟨g, 0, none⟩) C.length oc)) rfl (by kernel_rfl) (by kernel_rfl) (by kernel_rfl) (fun _ _ _ h => h) (Or.inl ⟨by kernel_rfl, ?_⟩) (by assumption) ?_
                        · intro w' hSw
                          (try dsimp only at hSw)
                          go_simp
                        (try simp only [Act.put, List.getElem_toArray, List.getElem_cons_zero, List.getElem_cons_succ, List.setIfInBounds_toArray, List.set_cons_zero, List.set_cons_succ])
                        refine wpAnyH_take (i := 3) (v := (.int .i64 (i : Int))) rfl (by kernel_rfl) (by kernel_rfl) (by kernel_rfl) (fun _ _ _ h => h) (Or.inl ⟨by kernel_rfl, ?_⟩) (by assumption) ?_
                        · intro w' hSw
                          (try dsimp only at hSw)
                          go_simp
                        (try simp only [Act.put, List.getElem_toArray, List.getElem_cons_zero, List.getElem_cons_succ, List.setIfInBounds_toArray, List.set_cons_zero, List.set_cons_succ])
                        refine wpAnyH_take (i := 4) (v := (.pointer (some ⟨g, i * 5, none⟩))) rfl (by kernel_rfl) (by kernel_rfl) (by kernel_rfl) (fun _ _ _ h => h) (Or.inl ⟨by kernel_rfl, ?_⟩) (by assumption) ?_
                        · intro w' hSw
                          (try dsimp only at hSw)
                          go_simp
                        (try simp only [Act.put, List.getElem_toArray, List.getElem_cons_zero, List.getElem_cons_succ, List.setIfInBounds_toArray, List.set_cons_zero, List.set_cons_succ])
                        refine wpAnyH_take (i := 5) (v := (.pointer (some ⟨g, i * 5 + 4, none⟩))) rfl (by kernel_rfl) (by kernel_rfl) (by kernel_rfl) (fun _ _ _ h => h) (Or.inl ⟨by kernel_rfl, ?_⟩) (by assumption) ?_
                        · intro w' hSw
                          (try dsimp only at hSw)
                          go_simp
                        (try simp only [Act.put, List.getElem_toArray, List.getElem_cons_zero, List.getElem_cons_succ, List.setIfInBounds_toArray, List.set_cons_zero, List.set_cons_succ])
                        refine wpAnyH_take (i := 6) (v := (.string cdg)) rfl (by kernel_rfl) (by kernel_rfl) (by kernel_rfl) (fun _ _ _ h => h) (Or.inl ⟨by kernel_rfl, ?_⟩) (by assumption) ?_
                        · intro w' hSw
                          (try dsimp only at hSw)
                          (have y := hSw.1; go_simp)
                        (try simp only [Act.put, List.getElem_toArray, List.getElem_cons_zero, List.getElem_cons_succ, List.setIfInBounds_toArray, List.set_cons_zero, List.set_cons_succ])
                        refine wpAnyH_take (i := 7) (v := (.slice (some ⟨g, 0, none⟩) C.length oc)) rfl (by kernel_rfl) (by kernel_rfl) (by kernel_rfl) (fun _ _ _ h => h) (Or.inl ⟨by kernel_rfl, ?_⟩) (by assumption) ?_
                        · intro w' hSw
                          (try dsimp only at hSw)
                          go_simp
                        (try simp only [Act.put, List.getElem_toArray, List.getElem_cons_zero, List.getElem_cons_succ, List.setIfInBounds_toArray, List.set_cons_zero, List.set_cons_succ])
                        refine wpAnyH_take (i := 8) (v := (.int .i64 (kk : Int))) rfl (by kernel_rfl) (by kernel_rfl) (by kernel_rfl) (fun _ _ _ h => h) (Or.inl ⟨by kernel_rfl, ?_⟩) (by assumption) ?_
                        · intro w' hSw
                          (try dsimp only at hSw)
                          go_simp
                        (try simp only [Act.put, List.getElem_toArray, List.getElem_cons_zero, List.getElem_cons_succ, List.setIfInBounds_toArray, List.set_cons_zero, List.set_cons_succ])
                        refine wpAnyH_take (i := 9) (v := (.pointer (some ⟨g, kk * 5, none⟩))) rfl (by kernel_rfl) (by kernel_rfl) (by kernel_rfl) (fun _ _ _ h => h) (Or.inl ⟨by kernel_rfl, ?_⟩) (by assumption) ?_
                        · intro w' hSw
                          (try dsimp only at hSw)
                          go_simp
                        (try simp only [Act.put, List.getElem_toArray, List.getElem_cons_zero, List.getElem_cons_succ, List.setIfInBounds_toArray, List.set_cons_zero, List.set_cons_succ])
                        refine wpAnyH_take (i := 10) (v := (.pointer (some ⟨g, kk * 5 + 4, none⟩))) rfl (by kernel_rfl) (by kernel_rfl) (by kernel_rfl) (fun _ _ _ h => h) (Or.inl ⟨by kernel_rfl, ?_⟩) (by assumption) ?_
                        · intro w' hSw
                          (try dsimp only at hSw)
                          go_simp
                        (try simp only [Act.put, List.getElem_toArray, List.getElem_cons_zero, List.getElem_cons_succ, List.setIfInBounds_toArray, List.set_cons_zero, List.set_cons_succ])
                        refine wpAnyH_take (i := 11) (v := (.string kdg)) rfl (by kernel_rfl) (by kernel_rfl) (by kernel_rfl) (fun _ _ _ h => h) (Or.inl ⟨by kernel_rfl, ?_⟩) (by assumption) ?_
                        · intro w' hSw
                          (try dsimp only at hSw)
                          (have y := hSw.2.1; go_simp)
                        (try simp only [Act.put, List.getElem_toArray, List.getElem_cons_zero, List.getElem_cons_succ, List.setIfInBounds_toArray, List.set_cons_zero, List.set_cons_succ])
                        refine wpAnyH_take (i := 12) (v := (.bool true)) rfl (by kernel_rfl) (by kernel_rfl) (by kernel_rfl) (fun _ _ _ h => h) (Or.inl ⟨by kernel_rfl, ?_⟩) (by assumption) ?_
                        · intro w' hSw
                          (try dsimp only at hSw)
                          go_simp
                        (try simp only [Act.put, List.getElem_toArray, List.getElem_cons_zero, List.getElem_cons_succ, List.setIfInBounds_toArray, List.set_cons_zero, List.set_cons_succ])
                        refine wpAnyH_take (i := 13) (v := (.bool true)) rfl (by kernel_rfl) (by kernel_rfl) (by kernel_rfl) (fun _ _ _ h => h) (Or.inl ⟨by kernel_rfl, ?_⟩) (by assumption) ?_
                        · intro w' hSw
                          (try dsimp only at hSw)
                          go_simp
                        (try simp only [Act.put, List.getElem_toArray, List.getElem_cons_zero, List.getElem_cons_succ, List.setIfInBounds_toArray, List.set_cons_zero, List.set_cons_succ])
                        refine wpAnyH_take (i := 14) (v := (.bool true)) rfl (by kernel_rfl) (by kernel_rfl) (by kernel_rfl) (fun _ _ _ h => h) (Or.inl ⟨by kernel_rfl, ?_⟩) (by assumption) ?_
                        · intro w' hSw
                          (try dsimp only at hSw)
                          go_simp
                        (try simp only [Act.put, List.getElem_toArray, List.getElem_cons_zero, List.getElem_cons_succ, List.setIfInBounds_toArray, List.set_cons_zero, List.set_cons_succ])
                        refine wpAnyH_take (i := 15) (v := (.slice (some ⟨g, 0, none⟩) C.length oc)) rfl (by kernel_rfl) (by kernel_rfl) (by kernel_rfl) (fun _ _ _ h => h) (Or.inl ⟨by kernel_rfl, ?_⟩) (by assumption) ?_
                        · intro w' hSw
                          (try dsimp only at hSw)
                          go_simp
                        (try simp only [Act.put, List.getElem_toArray, List.getElem_cons_zero, List.getElem_cons_succ, List.setIfInBounds_toArray, List.set_cons_zero, List.set_cons_succ])
                        refine wpAnyH_take (i := 16) (v := (.int .i64 (i : Int))) rfl (by kernel_rfl) (by kernel_rfl) (by kernel_rfl) (fun _ _ _ h => h) (Or.inl ⟨by kernel_rfl, ?_⟩) (by assumption) ?_
                        · intro w' hSw
                          (try dsimp only at hSw)
                          go_simp
                        (try simp only [Act.put, List.getElem_toArray, List.getElem_cons_zero, List.getElem_cons_succ, List.setIfInBounds_toArray, List.set_cons_zero, List.set_cons_succ])
                        refine wpAnyH_take (i := 17) (v := (.pointer (some ⟨g, i * 5, none⟩))) rfl (by kernel_rfl) (by kernel_rfl) (by kernel_rfl) (fun _ _ _ h => h) (Or.inl ⟨by kernel_rfl, ?_⟩) (by assumption) ?_
                        · intro w' hSw
                          (try dsimp only at hSw)
                          go_simp
                        (try simp only [Act.put, List.getElem_toArray, List.getElem_cons_zero, List.getElem_cons_succ, List.setIfInBounds_toArray, List.set_cons_zero, List.set_cons_succ])
                        refine wpAnyH_take (i := 18) (v := (.pointer (some ⟨g, i * 5 + 2, none⟩))) rfl (by kernel_rfl) (by kernel_rfl) (by kernel_rfl) (fun _ _ _ h => h) (Or.inl ⟨by kernel_rfl, ?_⟩) (by assumption) ?_
                        · intro w' hSw
                          (try dsimp only at hSw)
                          go_simp
                        (try simp only [Act.put, List.getElem_toArray, List.getElem_cons_zero, List.getElem_cons_succ, List.setIfInBounds_toArray, List.set_cons_zero, List.set_cons_succ])
                        refine wpAnyH_take (i := 19) (v := (.int .i64 cen)) rfl (by kernel_rfl) (by kernel_rfl) (by kernel_rfl) (fun _ _ _ h => h) (Or.inl ⟨by kernel_rfl, ?_⟩) (by assumption) ?_
                        · intro w' hSw
                          (try dsimp only at hSw)
                          (have y := hSw.2.2.1; go_simp)
                        (try simp only [Act.put, List.getElem_toArray, List.getElem_cons_zero, List.getElem_cons_succ, List.setIfInBounds_toArray, List.set_cons_zero, List.set_cons_succ])
                        refine wpAnyH_take (i := 20) (v := (.slice (some ⟨g, 0, none⟩) C.length oc)) rfl (by kernel_rfl) (by kernel_rfl) (by kernel_rfl) (fun _ _ _ h => h) (Or.inl ⟨by kernel_rfl, ?_⟩) (by assumption) ?_
                        · intro w' hSw
                          (try dsimp only at hSw)
                          go_simp
                        (try simp only [Act.put, List.getElem_toArray, List.getElem_cons_zero, List.getElem_cons_succ, List.setIfInBounds_toArray, List.set_cons_zero, List.set_cons_succ])
                        refine wpAnyH_take (i := 21) (v := (.int .i64 (kk : Int))) rfl (by kernel_rfl) (by kernel_rfl) (by kernel_rfl) (fun _ _ _ h => h) (Or.inl ⟨by kernel_rfl, ?_⟩) (by assumption) ?_
                        · intro w' hSw
                          (try dsimp only at hSw)
                          go_simp
                        (try simp only [Act.put, List.getElem_toArray, List.getElem_cons_zero, List.getElem_cons_succ, List.setIfInBounds_toArray, List.set_cons_zero, List.set_cons_succ])
                        refine wpAnyH_take (i := 22) (v := (.pointer (some ⟨g, kk * 5, none⟩))) rfl (by kernel_rfl) (by kernel_rfl) (by kernel_rfl) (fun _ _ _ h => h) (Or.inl ⟨by kernel_rfl, ?_⟩) (by assumption) ?_
                        · intro w' hSw
                          (try dsimp only at hSw)
                          go_simp
                        (try simp only [Act.put, List.getElem_toArray, List.getElem_cons_zero, List.getElem_cons_succ, List.setIfInBounds_toArray, List.set_cons_zero, List.set_cons_succ])
                        refine wpAnyH_take (i := 23) (v := (.pointer (some ⟨g, kk * 5 + 2, none⟩))) rfl (by kernel_rfl) (by kernel_rfl) (by kernel_rfl) (fun _ _ _ h => h) (Or.inl ⟨by kernel_rfl, ?_⟩) (by assumption) ?_
                        · intro w' hSw
                          (try dsimp only at hSw)
                          go_simp
                        (try simp only [Act.put, List.getElem_toArray, List.getElem_cons_zero, List.getElem_cons_succ, List.setIfInBounds_toArray, List.set_cons_zero, List.set_cons_succ])
                        refine wpAnyH_take (i := 24) (v := (.int .i64 ken)) rfl (by kernel_rfl) (by kernel_rfl) (by kernel_rfl) (fun _ _ _ h => h) (Or.inl ⟨by kernel_rfl, ?_⟩) (by assumption) ?_
                        · intro w' hSw
                          (try dsimp only at hSw)
                          (have y := hSw.2.2.2; go_simp)
                        (try simp only [Act.put, List.getElem_toArray, List.getElem_cons_zero, List.getElem_cons_succ, List.setIfInBounds_toArray, List.set_cons_zero, List.set_cons_succ])
                        refine wpAnyH_take (i := 25) (v := (.bool false)) rfl (by kernel_rfl) (by kernel_rfl) (by kernel_rfl) (fun _ _ _ h => h) (Or.inl ⟨by kernel_rfl, ?_⟩) (by assumption) ?_
                        · intro w' hSw
                          (try dsimp only at hSw)
                          go_simp
                        (try simp only [Act.put, List.getElem_toArray, List.getElem_cons_zero, List.getElem_cons_succ, List.setIfInBounds_toArray, List.set_cons_zero, List.set_cons_succ])
                        refine wpAnyH_take (i := 26) (v := (.bool false)) rfl (by kernel_rfl) (by kernel_rfl) (by kernel_rfl) (fun _ _ _ h => h) (Or.inl ⟨by kernel_rfl, ?_⟩) (by assumption) ?_
                        · intro w' hSw
                          (try dsimp only at hSw)
                          go_simp
                        (try simp only [Act.put, List.getElem_toArray, List.getElem_cons_zero, List.getElem_cons_succ, List.setIfInBounds_toArray, List.set_cons_zero, List.set_cons_succ])
                        refine wpAnyH_ready (rs := [27]) (by kernel_rfl) (by simp) ?_
                        refine AllReadyH.cons rfl (fun K hK => ?_) AllReadyH.nil
                        go_simp
                        refine hK.out _ _ (C0.out) (fun hHeld => ?_)
                        clear hK
                        (try simp only [Act.put, List.setIfInBounds_toArray, List.set_cons_zero, List.set_cons_succ])
                        refine wpAnyH_done (by kernel_rfl) ?_ _
                        clear hHeld C0
                        go_wp2_with fail
                        go_roundw
                        case rel => exact ⟨i + 1, (kk : Int), false, by omega, by go_num, rfl, rfl, (by first | exact SF2.out | (have z := SF2.out; refine (?_ : Sf _ _ _ _ _); simpa using z)), HK.out.drew⟩
                        case measure => simp [intOf]; omega
                      case pos =>
                        have q3 : (cen == ken) = true := by simpa using ee
                        have q4 : decide (cen = ken) = true := by simpa using ee
                        rw [q4] at SF2
                        clear ee
                        refine wp_region_held_drew (S := fun X => X.cell? ⟨g, i * 5 + 4, none⟩ = some (.string cdg) ∧ X.cell? ⟨g, kk * 5 + 4, none⟩ = some (.string kdg) ∧ X.cell? ⟨g, i * 5 + 2, none⟩ = some (.int .i64 cen) ∧ X.cell? ⟨g, kk * 5 + 2, none⟩ = some (.int .i64 ken)) (by kernel_rfl) C0.out (fun hHeld => ?_)
                        refine wpAnyH_take (i := 0) (v := (.bool true)) rfl (by kernel_rfl) (by kernel_rfl) (by kernel_rfl) (fun _ _ _ h => h) (Or.inl ⟨by kernel_rfl, ?_⟩) (by assumption) ?_
                        · intro w' hSw
                          (try dsimp only at hSw)
                          go_simp
                        (try simp only [Act.put, List.getElem_toArray, List.getElem_cons_zero, List.getElem_cons_succ, List.setIfInBounds_toArray, List.set_cons_zero, List.set_cons_succ])
                        refine wpAnyH_take (i := 1) (v := (.bool true)) rfl (by kernel_rfl) (by kernel_rfl) (by kernel_rfl) (fun _ _ _ h => h) (Or.inl ⟨by kernel_rfl, ?_⟩) (by assumption) ?_
                        · intro w' hSw
                          (try dsimp only at hSw)
                          go_simp
                        (try simp only [Act.put, List.getElem_toArray, List.getElem_cons_zero, List.getElem_cons_succ, List.setIfInBounds_toArray, List.set_cons_zero, List.set_cons_succ])
                        refine wpAnyH_take (i := 2) (v := (.slice (some ⟨g, 0, none⟩) C.length oc)) rfl (by kernel_rfl) (by kernel_rfl) (by kernel_rfl) (fun _ _ _ h => h) (Or.inl ⟨by kernel_rfl, ?_⟩) (by assumption) ?_
                        · intro w' hSw
                          (try dsimp only at hSw)
                          go_simp
                        (try simp only [Act.put, List.getElem_toArray, List.getElem_cons_zero, List.getElem_cons_succ, List.setIfInBounds_toArray, List.set_cons_zero, List.set_cons_succ])
                        refine wpAnyH_take (i := 3) (v := (.int .i64 (i : Int))) rfl (by kernel_rfl) (by kernel_rfl) (by kernel_rfl) (fun _ _ _ h => h) (Or.inl ⟨by kernel_rfl, ?_⟩) (by assumption) ?_
                        · intro w' hSw
                          (try dsimp only at hSw)
                          go_simp
                        (try simp only [Act.put, List.getElem_toArray, List.getElem_cons_zero, List.getElem_cons_succ, List.setIfInBounds_toArray, List.set_cons_zero, List.set_cons_succ])
                        refine wpAnyH_take (i := 4) (v := (.pointer (some ⟨g, i * 5, none⟩))) rfl (by kernel_rfl) (by kernel_rfl) (by kernel_rfl) (fun _ _ _ h => h) (Or.inl ⟨by kernel_rfl, ?_⟩) (by assumption) ?_
                        · intro w' hSw
                          (try dsimp only at hSw)
                          go_simp
                        (try simp only [Act.put, List.getElem_toArray, List.getElem_cons_zero, List.getElem_cons_succ, List.setIfInBounds_toArray, List.set_cons_zero, List.set_cons_succ])
                        refine wpAnyH_take (i := 5) (v := (.pointer (some ⟨g, i * 5 + 4, none⟩))) rfl (by kernel_rfl) (by kernel_rfl) (by kernel_rfl) (fun _ _ _ h => h) (Or.inl ⟨by kernel_rfl, ?_⟩) (by assumption) ?_
                        · intro w' hSw
                          (try dsimp only at hSw)
                          go_simp
                        (try simp only [Act.put, List.getElem_toArray, List.getElem_cons_zero, List.getElem_cons_succ, List.setIfInBounds_toArray, List.set_cons_zero, List.set_cons_succ])
                        refine wpAnyH_take (i := 6) (v := (.string cdg)) rfl (by kernel_rfl) (by kernel_rfl) (by kernel_rfl) (fun _ _ _ h => h) (Or.inl ⟨by kernel_rfl, ?_⟩) (by assumption) ?_
                        · intro w' hSw
                          (try dsimp only at hSw)
                          (have y := hSw.1; go_simp)
                        (try simp only [Act.put, List.getElem_toArray, List.getElem_cons_zero, List.getElem_cons_succ, List.setIfInBounds_toArray, List.set_cons_zero, List.set_cons_succ])
                        refine wpAnyH_take (i := 7) (v := (.slice (some ⟨g, 0, none⟩) C.length oc)) rfl (by kernel_rfl) (by kernel_rfl) (by kernel_rfl) (fun _ _ _ h => h) (Or.inl ⟨by kernel_rfl, ?_⟩) (by assumption) ?_
                        · intro w' hSw
                          (try dsimp only at hSw)
                          go_simp
                        (try simp only [Act.put, List.getElem_toArray, List.getElem_cons_zero, List.getElem_cons_succ, List.setIfInBounds_toArray, List.set_cons_zero, List.set_cons_succ])
                        refine wpAnyH_take (i := 8) (v := (.int .i64 (kk : Int))) rfl (by kernel_rfl) (by kernel_rfl) (by kernel_rfl) (fun _ _ _ h => h) (Or.inl ⟨by kernel_rfl, ?_⟩) (by assumption) ?_
                        · intro w' hSw
                          (try dsimp only at hSw)
                          go_simp
                        (try simp only [Act.put, List.getElem_toArray, List.getElem_cons_zero, List.getElem_cons_succ, List.setIfInBounds_toArray, List.set_cons_zero, List.set_cons_succ])
                        refine wpAnyH_take (i := 9) (v := (.pointer (some ⟨g, kk * 5, none⟩))) rfl (by kernel_rfl) (by kernel_rfl) (by kernel_rfl) (fun _ _ _ h => h) (Or.inl ⟨by kernel_rfl, ?_⟩) (by assumption) ?_
                        · intro w' hSw
                          (try dsimp only at hSw)
                          go_simp
                        (try simp only [Act.put, List.getElem_toArray, List.getElem_cons_zero, List.getElem_cons_succ, List.setIfInBounds_toArray, List.set_cons_zero, List.set_cons_succ])
                        refine wpAnyH_take (i := 10) (v := (.pointer (some ⟨g, kk * 5 + 4, none⟩))) rfl (by kernel_rfl) (by kernel_rfl) (by kernel_rfl) (fun _ _ _ h => h) (Or.inl ⟨by kernel_rfl, ?_⟩) (by assumption) ?_
                        · intro w' hSw
                          (try dsimp only at hSw)
                          go_simp
                        (try simp only [Act.put, List.getElem_toArray, List.getElem_cons_zero, List.getElem_cons_succ, List.setIfInBounds_toArray, List.set_cons_zero, List.set_cons_succ])
                        refine wpAnyH_take (i := 11) (v := (.string kdg)) rfl (by kernel_rfl) (by kernel_rfl) (by kernel_rfl) (fun _ _ _ h => h) (Or.inl ⟨by kernel_rfl, ?_⟩) (by assumption) ?_
                        · intro w' hSw
                          (try dsimp only at hSw)
                          (have y := hSw.2.1; go_simp)
                        (try simp only [Act.put, List.getElem_toArray, List.getElem_cons_zero, List.getElem_cons_succ, List.setIfInBounds_toArray, List.set_cons_zero, List.set_cons_succ])
                        refine wpAnyH_take (i := 12) (v := (.bool true)) rfl (by kernel_rfl) (by kernel_rfl) (by kernel_rfl) (fun _ _ _ h => h) (Or.inl ⟨by kernel_rfl, ?_⟩) (by assumption) ?_
                        · intro w' hSw
                          (try dsimp only at hSw)
                          go_simp
                        (try simp only [Act.put, List.getElem_toArray, List.getElem_cons_zero, List.getElem_cons_succ, List.setIfInBounds_toArray, List.set_cons_zero, List.set_cons_succ])
                        refine wpAnyH_take (i := 13) (v := (.bool true)) rfl (by kernel_rfl) (by kernel_rfl) (by kernel_rfl) (fun _ _ _ h => h) (Or.inl ⟨by kernel_rfl, ?_⟩) (by assumption) ?_
                        · intro w' hSw
                          (try dsimp only at hSw)
                          go_simp
                        (try simp only [Act.put, List.getElem_toArray, List.getElem_cons_zero, List.getElem_cons_succ, List.setIfInBounds_toArray, List.set_cons_zero, List.set_cons_succ])
                        refine wpAnyH_take (i := 14) (v := (.bool true)) rfl (by kernel_rfl) (by kernel_rfl) (by kernel_rfl) (fun _ _ _ h => h) (Or.inl ⟨by kernel_rfl, ?_⟩) (by assumption) ?_
                        · intro w' hSw
                          (try dsimp only at hSw)
                          go_simp
                        (try simp only [Act.put, List.getElem_toArray, List.getElem_cons_zero, List.getElem_cons_succ, List.setIfInBounds_toArray, List.set_cons_zero, List.set_cons_succ])
                        refine wpAnyH_take (i := 15) (v := (.slice (some ⟨g, 0, none⟩) C.length oc)) rfl (by kernel_rfl) (by kernel_rfl) (by kernel_rfl) (fun _ _ _ h => h) (Or.inl ⟨by kernel_rfl, ?_⟩) (by assumption) ?_
                        · intro w' hSw
                          (try dsimp only at hSw)
                          go_simp
                        (try simp only [Act.put, List.getElem_toArray, List.getElem_cons_zero, List.getElem_cons_succ, List.setIfInBounds_toArray, List.set_cons_zero, List.set_cons_succ])
                        refine wpAnyH_take (i := 16) (v := (.int .i64 (i : Int))) rfl (by kernel_rfl) (by kernel_rfl) (by kernel_rfl) (fun _ _ _ h => h) (Or.inl ⟨by kernel_rfl, ?_⟩) (by assumption) ?_
                        · intro w' hSw
                          (try dsimp only at hSw)
                          go_simp
                        (try simp only [Act.put, List.getElem_toArray, List.getElem_cons_zero, List.getElem_cons_succ, List.setIfInBounds_toArray, List.set_cons_zero, List.set_cons_succ])
                        refine wpAnyH_take (i := 17) (v := (.pointer (some ⟨g, i * 5, none⟩))) rfl (by kernel_rfl) (by kernel_rfl) (by kernel_rfl) (fun _ _ _ h => h) (Or.inl ⟨by kernel_rfl, ?_⟩) (by assumption) ?_
                        · intro w' hSw
                          (try dsimp only at hSw)
                          go_simp
                        (try simp only [Act.put, List.getElem_toArray, List.getElem_cons_zero, List.getElem_cons_succ, List.setIfInBounds_toArray, List.set_cons_zero, List.set_cons_succ])
                        refine wpAnyH_take (i := 18) (v := (.pointer (some ⟨g, i * 5 + 2, none⟩))) rfl (by kernel_rfl) (by kernel_rfl) (by kernel_rfl) (fun _ _ _ h => h) (Or.inl ⟨by kernel_rfl, ?_⟩) (by assumption) ?_
                        · intro w' hSw
                          (try dsimp only at hSw)
                          go_simp
                        (try simp only [Act.put, List.getElem_toArray, List.getElem_cons_zero, List.getElem_cons_succ, List.setIfInBounds_toArray, List.set_cons_zero, List.set_cons_succ])
                        refine wpAnyH_take (i := 19) (v := (.int .i64 cen)) rfl (by kernel_rfl) (by kernel_rfl) (by kernel_rfl) (fun _ _ _ h => h) (Or.inl ⟨by kernel_rfl, ?_⟩) (by assumption) ?_
                        · intro w' hSw
                          (try dsimp only at hSw)
                          (have y := hSw.2.2.1; go_simp)
                        (try simp only [Act.put, List.getElem_toArray, List.getElem_cons_zero, List.getElem_cons_succ, List.setIfInBounds_toArray, List.set_cons_zero, List.set_cons_succ])
                        refine wpAnyH_take (i := 20) (v := (.slice (some ⟨g, 0, none⟩) C.length oc)) rfl (by kernel_rfl) (by kernel_rfl) (by kernel_rfl) (fun _ _ _ h => h) (Or.inl ⟨by kernel_rfl, ?_⟩) (by assumption) ?_
                        · intro w' hSw
                          (try dsimp only at hSw)
                          go_simp
                        (try simp only [Act.put, List.getElem_toArray, List.getElem_cons_zero, List.getElem_cons_succ, List.setIfInBounds_toArray, List.set_cons_zero, List.set_cons_succ])
                        refine wpAnyH_take (i := 21) (v := (.int .i64 (kk : Int))) rfl (by kernel_rfl) (by kernel_rfl) (by kernel_rfl) (fun _ _ _ h => h) (Or.inl ⟨by kernel_rfl, ?_⟩) (by assumption) ?_
                        · intro w' hSw
                          (try dsimp only at hSw)
                          go_simp
                        (try simp only [Act.put, List.getElem_toArray, List.getElem_cons_zero, List.getElem_cons_succ, List.setIfInBounds_toArray, List.set_cons_zero, List.set_cons_succ])
                        refine wpAnyH_take (i := 22) (v := (.pointer (some ⟨g, kk * 5, none⟩))) rfl (by kernel_rfl) (by kernel_rfl) (by kernel_rfl) (fun _ _ _ h => h) (Or.inl ⟨by kernel_rfl, ?_⟩) (by assumption) ?_
                        · intro w' hSw
                          (try dsimp only at hSw)
                          go_simp
                        (try simp only [Act.put, List.getElem_toArray, List.getElem_cons_zero, List.getElem_cons_succ, List.setIfInBounds_toArray, List.set_cons_zero, List.set_cons_succ])
                        refine wpAnyH_take (i := 23) (v := (.pointer (some ⟨g, kk * 5 + 2, none⟩))) rfl (by kernel_rfl) (by kernel_rfl) (by kernel_rfl) (fun _ _ _ h => h) (Or.inl ⟨by kernel_rfl, ?_⟩) (by assumption) ?_
                        · intro w' hSw
                          (try dsimp only at hSw)
                          go_simp
                        (try simp only [Act.put, List.getElem_toArray, List.getElem_cons_zero, List.getElem_cons_succ, List.setIfInBounds_toArray, List.set_cons_zero, List.set_cons_succ])
                        refine wpAnyH_take (i := 24) (v := (.int .i64 ken)) rfl (by kernel_rfl) (by kernel_rfl) (by kernel_rfl) (fun _ _ _ h => h) (Or.inl ⟨by kernel_rfl, ?_⟩) (by assumption) ?_
                        · intro w' hSw
                          (try dsimp only at hSw)
                          (have y := hSw.2.2.2; go_simp)
                        (try simp only [Act.put, List.getElem_toArray, List.getElem_cons_zero, List.getElem_cons_succ, List.setIfInBounds_toArray, List.set_cons_zero, List.set_cons_succ])
                        refine wpAnyH_take (i := 25) (v := (.bool true)) rfl (by kernel_rfl) (by kernel_rfl) (by kernel_rfl) (fun _ _ _ h => h) (Or.inl ⟨by kernel_rfl, ?_⟩) (by assumption) ?_
                        · intro w' hSw
                          (try dsimp only at hSw)
                          go_simp
                        (try simp only [Act.put, List.getElem_toArray, List.getElem_cons_zero, List.getElem_cons_succ, List.setIfInBounds_toArray, List.set_cons_zero, List.set_cons_succ])
                        refine wpAnyH_take (i := 26) (v := (.bool true)) rfl (by kernel_rfl) (by kernel_rfl) (by kernel_rfl) (fun _ _ _ h => h) (Or.inl ⟨by kernel_rfl, ?_⟩) (by assumption) ?_
                        · intro w' hSw
                          (try dsimp only at hSw)
                          go_simp
                        (try simp only [Act.put, List.getElem_toArray, List.getElem_cons_zero, List.getElem_cons_succ, List.setIfInBounds_toArray, List.set_cons_zero, List.set_cons_succ])
                        refine wpAnyH_ready (rs := [27]) (by kernel_rfl) (by simp) ?_
                        refine AllReadyH.cons rfl (fun K hK => ?_) AllReadyH.nil
                        go_simp
                        refine hK.out _ _ (C0.out) (fun hHeld => ?_)
                        clear hK
                        (try simp only [Act.put, List.setIfInBounds_toArray, List.set_cons_zero, List.set_cons_succ])
                        refine wpAnyH_done (by kernel_rfl) ?_ _
                        clear hHeld C0
                        go_wp2_with fail
                        go_roundw
                        case rel => exact ⟨i + 1, (kk : Int), true, by omega, by go_num, rfl, rfl, (by first | exact SF2.out | (have z := SF2.out; refine (?_ : Sf _ _ _ _ _); simpa using z)), HK.out.drew⟩
                        case measure => simp [intOf]; omega
end Go.Proofs.YteiiolilpemimaaDoor.Cn
