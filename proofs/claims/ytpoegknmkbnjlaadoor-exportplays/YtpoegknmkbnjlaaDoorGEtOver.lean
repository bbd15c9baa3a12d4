import Derived.Test.YtpoegknmkbnjlaaDoorGEtPl2
import Derived.Test.YtpoegknmkbnjlaaDoorGErNil
import Derived.Test.YtpoegknmkbnjlaaDoorGErTake
import Derived.Test.YtpoegknmkbnjlaaDoorGEtMv3
import Derived.Test.YtpoegknmkbnjlaaDoorRows
import Derived.Test.YtpoegknmkbnjlaaDoorGCaBase
import Derived.ProofKit
import Derived.OpenShut
import Derived.JoinedOf
import Derived.SizedLaws
import Derived.Lib.SmallJoins
import Derived.Deep.SlicePairs
import Derived.Deep.DeepHandedRow
namespace Go.Proofs.YtpoegknmkbnjlaaDoor.Cn
open Go.RowKit
/-- own lists, of ints of any value -/
def Lst (W : World) (b0 : Nat) (v : Value) (m : Nat) : Prop := ∃ L : List Int, L.length = m ∧ W.ownsRow b0 3 1 v m (ints L)
theorem ints_setT (L : List Int) (j : Nat) (z : Int) : (ints L).set j (.int .i64 z) = ints (L.set j z) := by
  unfold ints
  rw [List.map_set]
theorem Lst.set {W : World} {b0 g j m c : Nat} {v : Value} (h : Lst W b0 v m) (z : Int) (hg : ∃ cur fr, W.heap[g]? = some (.cells cur 3 fr)) (_ : c = c) : Lst (W.setCell ⟨g, j, none⟩ (.int .i64 z)) b0 v m := by
  obtain ⟨L, l1, l2⟩ := h
  obtain ⟨a, c', rfl⟩ := own_sl l2
  have k : Kp W (W.setCell ⟨g, j, none⟩ (.int .i64 z)) (fun b => b = g) := (Kp.refl W (fun b => b = g)).set (Or.inl rfl) _ _
  by_cases e : (Value.slice a m c').ownBlock = some g
  · have hm : 0 < m ∨ m = 0 := by omega
    rcases l2.2 with ⟨hv, hz⟩ | ⟨g', cap, cur, hv, _⟩
    · rw [hv] at e
      simp [Value.ownBlock] at e
    · injection hv with e1 e2 e3
      subst e1
      have hgg : g' = g := by simpa [Value.ownBlock] using e
      subst hgg
      refine ⟨L.set j z, by rw [List.length_set]; exact l1, ?_⟩
      rw [← ints_setT]
      exact own_setZ l2 j _
  · exact ⟨L, l1, own_kp l2 k (fun q hq he => e (by rw [hq, he]))⟩
theorem Lst.kp {W W' : World} {b0 m : Nat} {v : Value} {S : Nat → Prop} (h : Lst W b0 v m) (hk : Kp W W' S) (hS : ∀ k, v.ownBlock = some k → ¬ S k) : Lst W' b0 v m := by
  obtain ⟨L, l1, l2⟩ := h
  exact ⟨L, l1, own_kp l2 hk hS⟩
/-- the node behind writing -/
def ovz (zs : List (Int × Value)) (i : Nat) : List (Int × Value) := (zs.take i).map (fun _ => (0, .slice none 0 0)) ++ zs.drop i
theorem ovz_len (zs : List (Int × Value)) (i : Nat) (hi : i ≤ zs.length) : (ovz zs i).length = zs.length := by unfold ovz; simp; omega
theorem ovz_at (zs : List (Int × Value)) (i : Nat) (hi : i < zs.length) : ∃ h : i < (ovz zs i).length, (ovz zs i)[i] = zs[i] := by
  refine ⟨by rw [ovz_len zs i (by omega)]; exact hi, ?_⟩
  unfold ovz
  have hl : ((zs.take i).map (fun _ => ((0 : Int), Value.slice none 0 0))).length = i := by simp; omega
  rw [List.getElem_append_right (by omega), List.getElem_drop]
  congr 1
  omega
theorem ndc_two {zs : List (Int × Value)} {i : Nat} (h : i < zs.length) (u : Int) (v : Value) : ndc (zs.set i (u, v)) = ((ndc zs).set (i * 2) (.int .i64 u)).set (i * 2 + 1) v := by
  induction zs generalizing i with
  | nil => simp at h
  | cons a r ih =>
    have e : ∀ (a : Int × Value) r, ndc (a :: r) = [Value.int .i64 a.1, a.2] ++ ndc r := fun a r => by unfold ndc; rw [List.flatMap_cons]
    cases i with
    | zero => rw [List.set_cons_zero, e, e]; rfl
    | succ i =>
      have h' : i < r.length := by simpa using h
      rw [List.set_cons_succ, e, e, ih h', show (i + 1) * 2 = [Value.int .i64 a.1, a.2].length + i * 2 by simp; omega, List.set_append_right _ _ (by omega), Nat.add_sub_cancel_left, show [Value.int .i64 a.1, a.2].length + i * 2 + 1 = [Value.int .i64 a.1, a.2].length + (i * 2 + 1) by omega, List.set_append_right _ _ (by omega), Nat.add_sub_cancel_left]
theorem ovz_set (zs : List (Int × Value)) (i : Nat) (hi : i < zs.length) : (ovz zs i).set i (0, .slice none 0 0) = ovz zs (i + 1) := by
  have hl : ((zs.take i).map (fun _ => ((0 : Int), Value.slice none 0 0))).length = i := by simp; omega
  unfold ovz
  rw [List.set_append_right _ _ (by omega), hl, Nat.sub_self, List.drop_eq_getElem_cons hi, List.set_cons_zero, List.take_succ_eq_append_getElem hi, List.map_append, List.append_assoc]
  rfl
/-- the lists that are written over, behind i nodes -/
structure Ov (V : World) (b0 e0 D : Nat) (st : ByteArray) (x : Nat → Int) (ns : List ND) (vl : Value) (zs : List (Int × Value)) (i : Nat) (W : World) : Prop where
  cl : ClAt W D st x vl
  kp : Kp V W (fun k => b0 ≤ k ∧ k < e0)
  row : W.ownsRow b0 50 2 vl zs.length (ndc (ovz zs i))
  ls : ∀ (q : Nat) (hq : q < zs.length) (_ : q < ns.length), Lst W b0 zs[q].2 ns[q].ps.length
section
variable {V W : World} {b0 e0 D : Nat} {st : ByteArray} {x : Nat → Int} {ns : List ND} {vl : Value} {zs : List (Int × Value)} {i : Nat}
theorem Ov.kp0 {W' : World} (h : Ov V b0 e0 D st x ns vl zs i W) (hk : Kp W W' non) : Ov V b0 e0 D st x ns vl zs i W' :=
  ⟨(hk.block _ (blk_lt h.cl) (fun f => f)).trans h.cl, h.kp.trans hk (fun _ f => f.elim), own_kp h.row hk (fun _ _ f => f), fun q hq hq' => (h.ls q hq hq').kp hk (fun _ _ f => f)⟩
theorem Ov.list (h : Ov V b0 e0 D st x ns vl zs i W) {g : Nat} (hg : ∃ cur fr, W.heap[g]? = some (.cells cur 3 fr)) (h1 : b0 ≤ g) (h2 : g < e0) (j : Nat) (z : Int) : Ov V b0 e0 D st x ns vl zs i (W.setCell ⟨g, j, none⟩ (.int .i64 z)) := by
  obtain ⟨cur, fr, hc⟩ := hg
  have k : Kp W (W.setCell ⟨g, j, none⟩ (.int .i64 z)) (fun b => b = g) := (Kp.refl W (fun b => b = g)).set (Or.inl rfl) _ _
  refine ⟨(k.block _ (blk_lt h.cl) (fun e => ?_)).trans h.cl, h.kp.trans k (fun q e => Or.inl (by rw [e]; exact ⟨h1, h2⟩)), own_kp h.row k (fun q hq e => ?_), fun q hq hq' => (h.ls q hq hq').set (c := 0) z ⟨cur, fr, hc⟩ rfl⟩
  · have z1 := h.cl
    unfold ClAt at z1
    rw [e, hc] at z1
    simp at z1
  · obtain ⟨c2, hc2⟩ := own_typ h.row hq
    rw [e, hc] at hc2
    simp at hc2
theorem Ov.node (h : Ov V b0 e0 D st x ns vl zs i W) (hi : i < zs.length) {g c : Nat} (hg : vl = .slice (some ⟨g, 0, none⟩) zs.length c) (h2 : g < e0) : Ov V b0 e0 D st x ns vl zs (i + 1) ((W.setCell ⟨g, i * 2, none⟩ (.int .i64 0)).setCell ⟨g, i * 2 + 1, none⟩ (.slice none 0 0)) := by
  have ho : vl.ownBlock = some g := by rw [hg]; rfl
  obtain ⟨cur, ht⟩ := own_typ h.row ho
  have hbg := own_ge h.row ho
  have k : Kp W ((W.setCell ⟨g, i * 2, none⟩ (.int .i64 0)).setCell ⟨g, i * 2 + 1, none⟩ (.slice none 0 0)) (fun b => b = g) := ((Kp.refl W (fun b => b = g)).set (Or.inl rfl) _ _).set (Or.inl rfl) _ _
  refine ⟨(k.block _ (blk_lt h.cl) (fun e => ?_)).trans h.cl, h.kp.trans k (fun q e => Or.inl (by rw [e]; exact ⟨hbg, h2⟩)), ?_, fun q hq hq' => (h.ls q hq hq').kp k (fun q' hq2 e => ?_)⟩
  · have z1 := h.cl
    unfold ClAt at z1
    rw [e, ht] at z1
    simp at z1
  · rw [← ovz_set zs i hi, ndc_two (by rw [ovz_len zs i (by omega)]; exact hi)]
    have r := h.row
    rw [hg] at r ⊢
    exact own_setZ (own_setZ r _ _) _ _
  · obtain ⟨L, _, l2⟩ := h.ls q hq hq'
    obtain ⟨c2, hc2⟩ := own_typ l2 hq2
    rw [e, ht] at hc2
    simp at hc2
end
end Go.Proofs.YtpoegknmkbnjlaaDoor.Cn
namespace Go.Proofs.YtpoegknmkbnjlaaDoor.Cn
open Go.RowKit
/-- what begins leaves in the row of desks -/
structure Bg (w w' : World) (D od : Nat) (A A' : Array Value) (own ref : Value) (B : Nat → Prop) : Prop where
  blk : w'.heap[D]? = some (.cells A' 32)
  sz : A'.size = 8
  c0 : A'[od]? = some own
  c1 : A'[od + 1]? = some ref
  oth : ∀ j, j ≠ od → j ≠ od + 1 → A'[j]? = A[j]?
  pa : Pa w' own ref B 0
  ge : ∀ k, B k → w.heap.size ≤ k
  kp : Kp w w' (fun k => k = D)
theorem zero_nodes {W : World} {b0 : Nat} {vl : Value} {zs : List (Int × Value)} {n : Nat} (hn : zs.length = n) (hl : n ≤ 4398046510976) (h : W.ownsRow b0 50 2 vl zs.length (ndc (ovz zs n))) : ∃ ao b cap pv, vl = .slice ao (List.replicate n (⟨0, []⟩ : ND)).length cap ∧ NsAt W.heap.size W ao b 0 pv (List.replicate n (⟨0, []⟩ : ND)) := by
  have e : ovz zs n = zs.map (fun _ => ((0 : Int), Value.slice none 0 0)) := by unfold ovz; rw [← hn, List.take_length, List.drop_length, List.append_nil]
  have hz : (ovz zs n).length = zs.length := by rw [e, List.length_map]
  have tw : Tw b0 W (List.replicate n (⟨0, []⟩ : ND)) vl (ovz zs n) := by
    refine ⟨by rw [hz]; exact h, fun q hq hq' => ?_, fun q hq hq' => ?_⟩
    · simp [e]
    · simp only [e, List.getElem_map, List.getElem_replicate]
      exact World.ownsRow_nil _ _ _ _
  obtain ⟨a, b, c, h1, h2⟩ := tw.nodes (by rw [hz, List.length_replicate]; exact hn) (by rw [List.length_replicate]; exact hl) (fun q hq => by rw [List.getElem_replicate]; exact Nat.zero_le _)
  exact ⟨a, b, c, _, h1, h2⟩
set_option maxHeartbeats 16000000 in
set_option maxRecDepth 100000 in
set_option linter.unusedSimpArgs false in
set_option linter.unusedVariables false in
theorem begins_t (N : Nat) (w : World) (st : ByteArray) (x : Nat → Int) (ao : Option Addr) (b o cap : Nat) (pv : Nat → Value) (ns : List ND) (h : NsAt N w ao b o pv ns) (hN : N ≤ w.heap.size) (hs : st.size ≤ 9223372036854775807) (hT : YtpoegknmkbnjlaaDoor.TabG w) {D od : Nat} {A : Array Value} (hD : w.heap[D]? = some (.cells A 32)) (hA : A.size = 8) (hod : od = 0 ∨ od = 4) (hgd : D ≠ 0) :
    Calls Tryd.prog 7 #[.pointer (some ⟨D, od, none⟩), .agg (clA st x (.slice ao ns.length cap))] w fun e w' => e = .returned (.bool true) ∧ ∃ own ref B A', Bg w w' D od A A' own ref B := by
  have hps : ∀ (q : Nat) (hq : q < ns.length), ns[q].ps.length ≤ 17592186043904 := fun q hq => by
    obtain ⟨_, _, _, _, _, hp⟩ := h.ps q hq
    exact hp.len
  have hlen := h.len
  obtain ⟨W0, hW0, hX⟩ := boxed st x cap h hN
  have HX := hide (hX.stand hN)
  have B0 := hide hX.bel
  have T0 := hide (hT.below hX.bel)
  have D0 : Hid (W0.heap[D]? = some (.cells A 32)) := (hX.bel.block _ (blk_lt hD)).trans hD
  have DL : Hid (D < w.heap.size) := blk_lt hD
  clear hX h hT hD
  have TW := hide (cluster_any N W0 st x ao b o cap pv ns HX.out.nd HX.out.le)
  have NU := hide num21
  have NW : Hid (∀ B W1 vl zs, zs.length = ns.length → Tw B W1 ns vl zs → ∃ ao' b' cap' pv', vl = .slice ao' ns.length cap' ∧ NsAt W1.heap.size W1 ao' b' 0 pv' ns) := fun B W1 vl zs hz ht => by
    obtain ⟨a, b, c, e1, e2⟩ := ht.nodes hz hlen hps
    exact ⟨a, b, c, _, e1, e2⟩
  have HPS := hide hps
  have HLEN := hide hlen
  have HS := hide hs
  have HA := hide hA
  have HOD := hide hod
  have HGD := hide hgd
  have TL0 := hide T0.out.lt
  clear hps hlen hs hA hod hgd
  go_enter Tryd.func7, Tryd.ntmps7
  go_upto_region 1 with fail
  rw [← hW0]
  clear hW0
  go_wp2_with (refine wpList_loadCl rfl (.tmp 3) rfl w.heap.size st x _ rfl HX.out.cl ?_)
  refine Calls.mono TW.out ?_
  rintro e W1 ⟨vl, zs, rfl, hz, tw, b1⟩
  obtain ⟨ao1, -, cap1, -, rfl, -⟩ := NW.out _ W1 vl zs hz tw
  obtain ⟨W2, hW2⟩ : ∃ W2, W2 = ((W1.alloc (.cells #[.string ⟨#[]⟩, .int .i64 0, .int .i64 0, .int .i64 0, .int .i64 0, .int .i64 0, .int .i64 0, .int .i64 0, .int .i64 0, .int .i64 0, .int .i64 0, .int .i64 0, .int .i64 0, .int .i64 0, .int .i64 0, .int .i64 0, .int .i64 0, .int .i64 0, .int .i64 0, .int .i64 0, .int .i64 0, .int .i64 0, .slice none 0 0] 24)).setRow W1.heap.size (clA st x (.slice ao1 ns.length cap1))) := ⟨_, rfl⟩
  have R1 : Hid (ClAt (W1.alloc (.cells #[.string ⟨#[]⟩, .int .i64 0, .int .i64 0, .int .i64 0, .int .i64 0, .int .i64 0, .int .i64 0, .int .i64 0, .int .i64 0, .int .i64 0, .int .i64 0, .int .i64 0, .int .i64 0, .int .i64 0, .int .i64 0, .int .i64 0, .int .i64 0, .int .i64 0, .int .i64 0, .int .i64 0, .int .i64 0, .int .i64 0, .slice none 0 0] 24)) W1.heap.size ⟨#[]⟩ zx (.slice none 0 0)) := new_cl W1 ⟨#[]⟩ zx (.slice none 0 0)
  have b2 : Below W1.heap.size W1 W2 := by rw [hW2]; exact below_setRow ((Below.refl _ W1).alloc (Nat.le_refl _) _) (Nat.le_refl _) _
  have C2 : Hid (ClAt W2 W1.heap.size st x (.slice ao1 ns.length cap1)) := by rw [hW2]; exact setRow_heap _ W1.heap.size _ _ 24 _ R1.out
  have b02 : Hid (Below W0.heap.size W0 W2) := b1.trans (b2.mono b1.size)
  have B2 : Hid (Below w.heap.size w W2) := B0.out.trans (b02.out.mono B0.out.size)
  have TW2 : Hid (Tw (W0.heap.size + 2) W2 ns (.slice ao1 ns.length cap1) zs) := tw.keep b2
  have LTZ : Hid (∀ (k : Nat) (v : Value) (t sz n : Nat) (l : List Value), W1.ownsRow (W0.heap.size + 2) t sz v n l → v.ownBlock = some k → k < W1.heap.size) := fun k v t sz n l hv e => by
    obtain ⟨c, hc⟩ := own_typ hv e
    exact blk_lt hc
  have TW1 := hide tw
  have HZ := hide hz
  obtain ⟨ao1', b1', cap1', pv1, ev, n1⟩ := NW.out _ W2 _ zs hz TW2.out
  injection ev with ev1 ev2 ev3
  subst ev1
  subst ev3
  have N1 := hide n1
  have S12 : Hid (W1.heap.size ≤ W2.heap.size) := b2.size
  have HE0 : Hid (W0.heap.size ≤ W1.heap.size) := b1.size
  have X2 : Hid (Stand N w.heap.size W2 st x ao b o cap pv ns) := HX.out.below b02.out
  obtain ⟨er, nb⟩ := new_both W2.heap.size W2 st x ao1 ao b1' 0 cap1 b o cap N pv1 pv ns n1 (Nat.le_refl _) X2.out.nd X2.out.le HS.out (T0.out.below b02.out)
  have NB := hide nb
  clear hz tw b1 b2 ev2 n1 nb TW
  go_wp2_with (first | (refine wpList_store_row rfl 24 (.tmp 5) (.tmp 17) rfl W1.heap.size (clA st x (.slice ao1 ns.length cap1)) rfl rfl 24 _ R1.out infoCl rfl (clA_one st x rfl) ?_; rw [← hW2]; clear hW2) | (refine wpList_loadCl rfl (.tmp 5) rfl W1.heap.size st x _ rfl C2.out ?_))
  refine Calls.mono NB.out ?_
  rintro e W3 ⟨own1, rfl, b3, nb2⟩
  have NB2 := hide nb2
  have B3 : Hid (Below W2.heap.size W2 W3) := b3
  have X3 : Hid (Stand N w.heap.size W3 st x ao b o cap pv ns) := X2.out.below b3
  clear b3 nb2 NB
  go_wp2_with (refine wpList_loadCl rfl (.tmp 3) rfl w.heap.size st x _ rfl X3.out.cl ?_)
  refine Calls.mono NB2.out ?_
  rintro e W4 ⟨ref1, BB, rfl, b4, pa4, ge4, nn4⟩
  have PA4 := hide pa4
  have GE4 : Hid (∀ k, BB k → W2.heap.size ≤ k) := ge4
  obtain ⟨p1, q1, rfl, rfl⟩ : ∃ p q, own1 = .pointer p ∧ ref1 = .pointer q := by
    rcases nn4 with ⟨h1, h2⟩ | ⟨X1, Y1, h1, h2⟩
    · exact ⟨_, _, h1, h2⟩
    · exact ⟨_, _, h1, h2⟩
  have NN4 := hide nn4
  have B24 : Hid (Below W2.heap.size W2 W4) := B3.out.trans (b4.mono B3.out.size)
  have C4 : Hid (ClAt W4 W1.heap.size st x (.slice ao1 ns.length cap1)) := C2.out.below B24.out
  have K24 : Kp W2 W4 non := Kp.of_below B24.out non
  have D4 : Hid (W4.heap[D]? = some (.cells A 32)) := (B24.out.block _ (by have := B2.out.size; have := DL.out; omega)).trans ((b02.out.block _ (by have := B0.out.size; have := DL.out; omega)).trans D0.out)
  have T4 : Hid (YtpoegknmkbnjlaaDoor.TabG W4) := (T0.out.below b02.out).below B24.out
  have OV : Hid (Ov W4 (W0.heap.size + 2) W1.heap.size W1.heap.size st x ns (.slice ao1 ns.length cap1) zs 0 W4) := ⟨C4.out, Kp.refl _ _, by
    have e : ovz zs 0 = zs := by unfold ovz; simp
    rw [e]
    exact own_kp TW2.out.row K24 (fun _ _ f => f), fun q hq hq' => ⟨ns[q].ps, rfl, own_kp (TW2.out.p q hq hq') K24 (fun _ _ f => f)⟩⟩
  have LTV : Hid (∀ g c, (Value.slice ao1 ns.length cap1) = .slice (some ⟨g, 0, none⟩) zs.length c → g < W1.heap.size) := fun g c e => LTZ.out g _ _ _ _ _ TW1.out.row (by rw [e]; rfl)
  have LTL : Hid (∀ (q : Nat) (hq : q < zs.length) (_ : q < ns.length) (g : Nat), zs[q].2.ownBlock = some g → g < W1.heap.size) := fun q hq hq' g e => LTZ.out g _ _ _ _ _ (TW1.out.p q hq hq') e
  have S02 : Hid (w.heap.size ≤ W0.heap.size) := B0.out.size
  have K04 : Hid (Kp w W4 non) := (Kp.of_below B2.out non).trans K24 (fun _ f => f.elim)
  obtain ⟨n, hn⟩ : ∃ n, n = ns.length := ⟨_, rfl⟩
  have HN := hide hn
  rw [← hn] at OV LTV ⊢
  have hlen42 := HLEN.out
  rw [← hn] at hlen42
  clear b4 pa4 ge4 nn4 K24 hn NB2 B3 X3 X2 C4 C2 R1 B24 D0 T0 TW2 TW1 LTZ N1 B2 b02
  generalize W1.heap.size = E0 at *
  go_wp2_with fail
  go_loopw [10] (fun vi wr => ∃ i : Nat, i ≤ n ∧ vi = .int .i64 (i : Int) ∧ Hid (Ov W4 (W0.heap.size + 2) E0 E0 st x ns (.slice ao1 n cap1) zs i wr)) (fun vi _ => n - (intOf vi).toNat)
  case atStart => exact ⟨0, Nat.zero_le _, rfl, OV.out⟩
  case round =>
    clear OV
    obtain ⟨i, hi, rfl, HO⟩ := hrel
    have c22 : wr.cell? ⟨E0, 22, none⟩ = some (.slice ao1 n cap1) := HO.out.cl.nv
    by_cases hin : i < n
    case neg =>
      obtain rfl : i = n := by omega
      have hii : ¬ (i : Int) < (i : Int) := by omega
      have hz0 : zs.length = i := HZ.out.trans HN.out.symm
      obtain ⟨ao9, b9, cap9, pv9, e9, n9⟩ := zero_nodes hz0 hlen42 HO.out.row
      rw [List.length_replicate] at e9
      injection e9 with e91 e92 e93
      subst e91
      subst e93
      have hao : ao1 = ao1 := rfl
      obtain ⟨NZ, hNZ⟩ : ∃ NZ, NZ = List.replicate i (⟨0, []⟩ : ND) := ⟨_, rfl⟩
      have hNL : NZ.length = i := by rw [hNZ, List.length_replicate]
      rw [← hNZ] at n9
      have DK := HO.out.kp
      have D5 : wr.heap[D]? = some (.cells A 32) := (DK.block _ (blk_lt D4.out) (fun e => by have := DL.out; have := S02.out; omega)).trans D4.out
      have x0 : ∃ v0, wr.cell? ⟨D, od, none⟩ = some v0 := by rw [cell_row D5]; exact ⟨_, Array.getElem?_eq_getElem (by rw [HA.out]; rcases HOD.out with e | e <;> omega)⟩
      obtain ⟨v0, x0⟩ := x0
      have f0 := fz_row D5 od
      obtain ⟨W6, hW6⟩ : ∃ W6, W6 = wr.setCell ⟨D, od, none⟩ (.pointer p1) := ⟨_, rfl⟩
      have D6 : W6.heap[D]? = some (.cells (A.setIfInBounds od (.pointer p1)) 32) := by rw [hW6]; exact set_row D5 _ _
      have x1 : ∃ v1, W6.cell? ⟨D, od + 1, none⟩ = some v1 := by rw [cell_row D6]; exact ⟨_, Array.getElem?_eq_getElem (by rw [Array.size_setIfInBounds, HA.out]; rcases HOD.out with e | e <;> omega)⟩
      obtain ⟨v1, x1⟩ := x1
      have f1 := fz_row D6 (od + 1)
      obtain ⟨W7, hW7⟩ : ∃ W7, W7 = W6.setCell ⟨D, od + 1, none⟩ (.pointer q1) := ⟨_, rfl⟩
      obtain ⟨A7, hA7⟩ : ∃ A7, A7 = (A.setIfInBounds od (.pointer p1)).setIfInBounds (od + 1) (.pointer q1) := ⟨_, rfl⟩
      have D7 : Hid (W7.heap[D]? = some (.cells A7 32)) := by rw [hW7, hA7]; exact set_row D6 _ _
      have k57 : Kp wr W7 (fun k => k = D) := by rw [hW7, hW6]; exact ((Kp.refl wr (fun k => k = D)).set (Or.inl rfl) _ _).set (Or.inl rfl) _ _
      have nD : E0 ≠ D := by
        intro q
        have z1 := HO.out.cl
        unfold ClAt at z1
        rw [q, D5] at z1
        simp at z1
      have C7 : Hid (ClAt W7 E0 st x (.slice ao1 i cap1)) := (k57.block _ (blk_lt HO.out.cl) nD).trans HO.out.cl
      have O7 : W7.ownsRow (W0.heap.size + 2) 50 2 (.slice ao1 i cap1) zs.length (ndc (ovz zs i)) := own_kp HO.out.row k57 (fun k e q => by
        have := own_ge HO.out.row e
        have := DL.out
        have := S02.out
        omega)
      obtain ⟨ao8, b8, cap8, pv8, e8, n8⟩ := zero_nodes hz0 hlen42 O7
      rw [List.length_replicate] at e8
      injection e8 with e81 e82 e83
      subst e81
      subst e83
      rw [← hNZ] at n8
      have K47 : Kp W4 W7 (fun k => k = D ∨ (W0.heap.size + 2 ≤ k ∧ k < E0)) := (DK.mono (fun _ e => Or.inr e)).trans k57 (fun _ e => Or.inl (Or.inl e))
      have T7 : YtpoegknmkbnjlaaDoor.TabG W7 := fun j hj => (K47.cell T4.out.lt (fun e => by
        rcases e with e | e
        · exact HGD.out e.symm
        · have := TL0.out
          omega)).trans (T4.out j hj)
      have PA7 : Hid (Pa W7 (.pointer p1) (.pointer q1) BB 0) := PA4.out.kp K47 (fun k hb e => by
        have := GE4.out k hb
        have := S12.out
        rcases e with e | e
        · have := DL.out
          have := S02.out
          have := HE0.out
          omega
        · omega)
      have KW7 : Hid (Kp w W7 (fun k => k = D)) := (K04.out.mono (T := fun k => k = D) (fun _ f => f.elim)).trans K47 (fun k e => by
        rcases e with e | e
        · exact Or.inl e
        · have := S02.out
          exact Or.inr (by omega))
      obtain ⟨er2, nb⟩ := new_both W7.heap.size W7 st x ao1 ao1 b8 0 cap1 b8 0 cap1 W7.heap.size pv8 pv8 NZ n8 (Nat.le_refl _) n8 (Nat.le_refl _) HS.out T7
      rw [hNL] at nb
      have NB := hide nb
      have HA7 := hide hA7
      have HW6 := hide hW6
      have HW7 := hide hW7
      clear n9 DK D5 D6 k57 nD O7 n8 K47 T7 nb hNL hNZ hA7 hW6 hW7 PA4 D4 HO e92 e82 hao
      go_upto_region 12 with fail
      clear c22
      go_upto_region 13 with fail
      rw [← HW6.out]
      clear x0 f0 HW6
      go_upto_region 14 with fail
      rw [← HW7.out]
      clear x1 f1 HW7
      go_wp2_with (refine wpList_loadCl rfl (.tmp 5) rfl E0 st x _ rfl C7.out ?_)
      refine Calls.mono NB.out ?_
      rintro e W8 ⟨own2, rfl, b8', nb2⟩
      have NB2 := hide nb2
      have B8 : Hid (Below W7.heap.size W7 W8) := b8'
      have C8 : Hid (ClAt W8 E0 st x (.slice ao1 i cap1)) := C7.out.below b8'
      clear b8' nb2 NB
      go_wp2_with (refine wpList_loadCl rfl (.tmp 5) rfl E0 st x _ rfl C8.out ?_)
      refine Calls.mono NB2.out ?_
      rintro e W9 ⟨ref2, B9, rfl, b9', pa9, ge9, nn9⟩
      have K79 : Hid (Kp W7 W9 non) := Kp.of_below (B8.out.trans (b9'.mono B8.out.size)) non
      have qe : (er == er) = true := by simp
      have qe2 : (er2 == er2) = true := by simp
      have FIN : Hid (∃ own ref B A', Bg w W9 D od A A' own ref B) := by
        have hA7 := HA7.out
        have hodl := HOD.out
        have hsz := HA.out
        refine ⟨.pointer p1, .pointer q1, BB, A7, K79.out.blk0 D7.out, by rw [hA7]; simpa using hsz, ?_, ?_, fun j h1 h2 => ?_, PA7.out.kp K79.out (fun _ _ f => f), fun k hb => ?_, KW7.out.trans K79.out (fun _ f => f.elim)⟩
        · rw [hA7, Array.getElem?_setIfInBounds_ne (by omega), Array.getElem?_setIfInBounds_self_of_lt (by omega)]
        · rw [hA7, Array.getElem?_setIfInBounds_self_of_lt (by rw [Array.size_setIfInBounds]; omega)]
        · rw [hA7, Array.getElem?_setIfInBounds_ne (by omega), Array.getElem?_setIfInBounds_ne (by omega)]
        · have := GE4.out k hb
          have := S12.out
          have := HE0.out
          have := S02.out
          omega
      have nn4 := NN4.out
      clear b9' pa9 ge9 K79 PA7 KW7 D7 C8 B8 NB2 C7 NN4
      rcases nn4 with ⟨h1, h2⟩ | ⟨X1, Y1, h1, h2⟩
      · cases h1
        cases h2
        rcases nn9 with ⟨rfl, rfl⟩ | ⟨X2, Y2, rfl, rfl⟩
        · go_wp2_with (go_at_call 13; refine Calls.mono (NU.out _ _) ?_; rintro e w8 ⟨rfl, rfl⟩)
          go_ret
          exact ⟨rfl, FIN.out⟩
        · go_wp2_with (go_at_call 13; refine Calls.mono (NU.out _ _) ?_; rintro e w8 ⟨rfl, rfl⟩)
          go_ret
          exact ⟨rfl, FIN.out⟩
      · cases h1
        cases h2
        rcases nn9 with ⟨rfl, rfl⟩ | ⟨X2, Y2, rfl, rfl⟩
        · go_wp2_with (go_at_call 13; refine Calls.mono (NU.out _ _) ?_; rintro e w8 ⟨rfl, rfl⟩)
          go_ret
          exact ⟨rfl, FIN.out⟩
        · go_wp2_with (go_at_call 13; refine Calls.mono (NU.out _ _) ?_; rintro e w8 ⟨rfl, rfl⟩)
          go_ret
          exact ⟨rfl, FIN.out⟩
    case pos =>
      have hii : (i : Int) < (n : Int) := by omega
      have hiz : i < zs.length := by rw [HZ.out, ← HN.out]; exact hin
      have hiN : i < ns.length := by rw [← HN.out]; exact hin
      go_wp2_with fail
      clear c22
      generalize wr = wo at *
      go_loopw [11] (fun vj wr => ∃ j : Nat, j ≤ ns[i].ps.length ∧ vj = .int .i64 (j : Int) ∧ Hid (Ov W4 (W0.heap.size + 2) E0 E0 st x ns (.slice ao1 n cap1) zs i wr)) (fun vj _ => ns[i].ps.length - (intOf vj).toNat)
      case atStart => exact ⟨0, Nat.zero_le _, rfl, HO.out⟩
      case round =>
        clear HO
        obtain ⟨j, hj, rfl, HJ⟩ := hrel
        have c22 : wr.cell? ⟨E0, 22, none⟩ = some (.slice ao1 n cap1) := HJ.out.cl.nv
        have r2 := HJ.out.row
        obtain ⟨hz', hzz⟩ := ovz_at zs i hiz
        obtain ⟨g0, c0', eg, n2, f2⟩ := own_at r2 (ndc_at (ovz zs i) i hz').2
        obtain ⟨g0', c0'', eg', n1, f1⟩ := own_at r2 (ndc_at (ovz zs i) i hz').1
        have hg0e := LTV.out g0 c0' eg
        injection eg with eg eg2 eg3
        injection eg' with eg' eg2' eg3'
        rw [eg] at eg'
        simp only [Option.some.injEq, Addr.mk.injEq, and_true] at eg'
        subst eg'
        clear eg3 eg3' eg2' eg2
        subst eg
        rw [hzz] at n1 n2
        obtain ⟨L, hL, hown⟩ := HJ.out.ls i hiz hiN
        obtain ⟨pa, pc, hp⟩ := own_sl hown
        have hlt9 := LTL.out i hiz hiN
        rw [hp] at n2
        have HP := hide hp
        have hpl : ns[i].ps.length ≤ 17592186043904 := HPS.out i hiN
        obtain ⟨m, hm⟩ : ∃ m, m = ns[i].ps.length := ⟨_, rfl⟩
        have HM := hide hm
        rw [← hm] at hj n2 hpl hL hown hp ⊢
        by_cases hjm : j < m
        case pos =>
          have hjj : (j : Int) < (m : Int) := by omega
          have hjL : j < L.length := by omega
          obtain ⟨g, gc, e, q1, q2⟩ := own_at hown (ints_at2 L j hjL)
          have hgt := own_typ hown (g := g) (by rw [e]; rfl)
          have hgb := own_ge hown (g := g) (by rw [e]; rfl)
          have hge := hlt9 g (by rw [e]; rfl)
          rw [hp] at e
          injection e with e e2 e3
          clear e2 e3
          subst e
          have SET := hide (HJ.out.list (g := g) (by obtain ⟨cu, hc⟩ := hgt; exact ⟨cu, _, hc⟩) hgb hge j 0)
          clear hown hp hm n1 f1 f2 r2 hzz hgt hlt9
          go_wp2_with fail
          go_roundw
          case rel => exact ⟨j + 1, by omega, by go_num, SET.out⟩
          case measure => simp [intOf]; omega
        case neg =>
          obtain rfl : j = m := by omega
          have hjj : ¬ (j : Int) < (j : Int) := by omega
          have hln : n = zs.length := HN.out.trans HZ.out.symm
          have NOD := hide (HJ.out.node hiz (g := g0) (c := cap1) (by rw [hln]) hg0e)
          clear hown hp hm r2 hln hzz hlt9
          go_wp2_with (refine wpList_blR rfl 50 #[] rfl #[.int .i64 0, .slice none 0 0] (by kernel_rfl) ?_)
          go_roundw
          case rel => exact ⟨i + 1, by omega, by go_num, NOD.out⟩
          case measure => simp [intOf]; omega
end Go.Proofs.YtpoegknmkbnjlaaDoor.Cn
namespace Go.Proofs.YtpoegknmkbnjlaaDoor.Cn
open Go.RowKit
def zA : Array Value := #[.pointer none, .pointer none, .slice none 0 0, .slice none 0 0, .pointer none, .pointer none, .slice none 0 0, .slice none 0 0]
theorem exec_ldSm {ρ : Operand → Value} {o : Oper} {w : World} {b off : Nat} {s : Sp} (p : Operand) (ho : o.op = .load 38 p) (hx : ρ p = .pointer (some ⟨b, off, none⟩)) (hO : w.rangeAt b off (spV s).toList) : (execOp ρ o).run Tryd.prog w = .ok (.value (.agg (spV s))) w := by
  have hl := run_loadAt_mid (P := Tryd.prog) w b off 38 (spV s).toList _ hO Tryd.underlying38 rfl spt_info
  unfold execOp
  simp only [ho, hx, Sem.run_bind, hl, Result.andThen_ok, Sem.run_pure]
/-- both desks have begun -/
theorem de_start {w w1 w2 : World} {D N : Nat} {A1 A2 : Array Value} {p q p' q' : Value} {B B' : Nat → Prop} (h1 : Bg w w1 D 0 zA A1 p q B) (h2 : Bg w1 w2 D 4 A1 A2 p' q' B') (hN : N ≤ w.heap.size) (hD : N ≤ D) : De w2 D N 0 := by
  have s1 := h1.kp.size
  have nB : ¬ B D := h1.pa.not h1.blk td_not
  have c : ∀ j, j ≠ 0 → j ≠ 1 → A1[j]? = zA[j]? := fun j a b => h1.oth j a b
  have e2 : A2[(2 : Nat)]? = some (.slice none 0 0) := by rw [h2.oth 2 (by omega) (by omega), c 2 (by omega) (by omega)]; rfl
  have e6 : A2[(6 : Nat)]? = some (.slice none 0 0) := by rw [h2.oth 6 (by omega) (by omega), c 6 (by omega) (by omega)]; rfl
  refine ⟨A2, p, q, .slice none 0 0, [], B, p', q', .slice none 0 0, [], B', ⟨h2.blk, h2.sz, Or.inl rfl, by rw [h2.oth 0 (by omega) (by omega)]; exact h1.c0, by rw [h2.oth 1 (by omega) (by omega)]; exact h1.c1, e2, h1.pa.kp h2.kp (fun k hb e => nB (e ▸ hb)), World.ownsRow_nil _ _ _ _, Nat.le_refl _⟩, ⟨h2.blk, h2.sz, Or.inr rfl, h2.c0, h2.c1, e6, h2.pa, World.ownsRow_nil _ _ _ _, Nat.le_refl _⟩, fun k a b => ?_, fun k a => by simp [Value.ownBlock] at a, fun k e => ?_⟩
  · have := h1.pa.lt a
    have := h2.ge k b
    omega
  · rcases e with e | (e | e) | e | e
    · omega
    · have := h1.ge k e
      omega
    · simp [Value.ownBlock] at e
    · have := h2.ge k e
      omega
    · simp [Value.ownBlock] at e
end Go.Proofs.YtpoegknmkbnjlaaDoor.Cn
namespace Go.Proofs.YtpoegknmkbnjlaaDoor.Cn
open Go.RowKit
set_option maxHeartbeats 16000000 in
set_option maxRecDepth 100000 in
set_option linter.unusedSimpArgs false in
set_option linter.unusedVariables false in
theorem moves_any (N : Nat) (w : World) (st : ByteArray) (x : Nat → Int) (ao : Option Addr) (b o cap : Nat) (pv : Nat → Value) (ns : List ND) (h : NsAt N w ao b o pv ns) (hN : N ≤ w.heap.size) (hs : st.size ≤ 9223372036854775807) (hT : YtpoegknmkbnjlaaDoor.TabG w) (ao2 : Option Addr) (bb oo cap2 : Nat) (L : List Sp) (hL : RwAt 14 spV w.heap.size w ao2 bb oo L) (hfit : ∀ s ∈ L, MgFit s.m) (hLl : L.length ≤ 100000000000000) :
    Calls Tryd.prog 3 #[.agg (clA st x (.slice ao ns.length cap)), .slice ao2 L.length cap2] w fun e w' => e = .returned (.bool true) ∧ Below w.heap.size w w' := by
  obtain ⟨W0, hW0, hX⟩ := boxed st x cap h hN
  have HX := hide (hX.stand hN)
  have B0 := hide hX.bel
  have T0 := hide (hT.below hX.bel)
  have TLT := hide hT.lt
  clear hX h hT
  have HLL := hide hL
  have HFT := hide hfit
  have HS := hide hs
  obtain ⟨n, hn⟩ : ∃ n, n = L.length := ⟨_, rfl⟩
  have HN := hide hn
  have BY := hide (fun Y => beyond21 Y n (by omega))
  rw [← hn] at hLl ⊢
  have HNN : Hid (N ≤ w.heap.size) := hN
  have hat : 0 < n → ao2 = some ⟨bb, oo, none⟩ := fun z => hL.at0 (by omega)
  clear hL hfit hn hs
  go_enter Tryd.func3, Tryd.ntmps3
  go_upto_region 1 with fail
  rw [← hW0]
  clear hW0
  go_wp2_with fail
  refine Calls.mono (BY.out _) ?_
  rintro e w' ⟨rfl, rfl⟩
  clear BY
  by_cases hbe : 2147483647 < n
  case pos =>
    have qd : decide (2147483647 < n) = true := decide_eq_true hbe
    rw [qd]
    clear qd
    go_wp2_with fail
    go_ret
    exact ⟨rfl, B0.out⟩
  case neg =>
    have qd : decide (2147483647 < n) = false := decide_eq_false hbe
    rw [qd]
    clear qd
    have hnb : n ≤ 2147483647 := by omega
    obtain ⟨D, hD⟩ : ∃ D, D = W0.heap.size := ⟨_, rfl⟩
    obtain ⟨W1, hW1⟩ : ∃ W1, W1 = W0.alloc (.cells zA 32) := ⟨_, rfl⟩
    have b1 : Below W0.heap.size W0 W1 := by rw [hW1]; exact (Below.refl _ W0).alloc (Nat.le_refl _) _
    have D1 : Hid (W1.heap[D]? = some (.cells zA 32)) := by rw [hW1, hD]; exact heap_last _ _
    have X1 : Hid (Stand N w.heap.size W1 st x ao b o cap pv ns) := HX.out.below b1
    have T1 : Hid (YtpoegknmkbnjlaaDoor.TabG W1) := T0.out.below b1
    have GD : Hid (D ≠ 0) := by
      have h1 := TLT.out
      have h2 := B0.out.size
      show D ≠ _
      omega
    have BG := hide (begins_t N W1 st x ao b o cap pv ns X1.out.nd X1.out.le HS.out T1.out D1.out rfl (Or.inl rfl) GD.out)
    have B01 : Hid (Below w.heap.size w W1) := B0.out.trans (b1.mono B0.out.size)
    have DG : Hid (w.heap.size ≤ D ∧ w.heap.size ≤ W1.heap.size) := by
      have h1 := B0.out.size
      have h2 := b1.size
      exact ⟨by omega, by omega⟩
    have HW1 : Hid (W1 = W0.alloc (.cells #[.pointer none, .pointer none, .slice none 0 0, .slice none 0 0, .pointer none, .pointer none, .slice none 0 0, .slice none 0 0] 32)) := hW1
    have HD := hide hD
    have hDC : D ≠ w.heap.size := by
      have := blk_lt HX.out.cl
      omega
    have HDC := hide hDC
    clear hW1 hD b1 hbe HX T0 hDC B0
    go_upto_region 4 with fail
    rw [← HW1.out, ← HD.out]
    clear HW1 HD
    go_wp2_with (refine wpList_loadCl rfl (.tmp 2) rfl w.heap.size st x _ rfl X1.out.cl ?_)
    refine Calls.mono BG.out ?_
    rintro e W2 ⟨rfl, p, q, BB, A1, bg1⟩
    have BG1 := hide bg1
    have X2 : Hid (Stand N w.heap.size W2 st x ao b o cap pv ns) := ⟨(bg1.kp.block _ (blk_lt X1.out.cl) (fun e => HDC.out e.symm)).trans X1.out.cl, X1.out.nd.below (below_of (bg1.kp) (Nat.le_trans X1.out.le (Nat.le_refl _)) (fun k e => by have := DG.out; have := HNN.out; omega)), Nat.le_trans X1.out.le bg1.kp.size⟩
    have T2 : Hid (YtpoegknmkbnjlaaDoor.TabG W2) := fun j hj => (bg1.kp.cell T1.out.lt (fun e => GD.out e.symm)).trans (T1.out j hj)
    have BH := hide (begins_t N W2 st x ao b o cap pv ns X2.out.nd X2.out.le HS.out T2.out bg1.blk bg1.sz (Or.inr rfl) GD.out)
    clear bg1 BG T1 D1 X1
    go_wp2_with (refine wpList_loadCl rfl (.tmp 2) rfl w.heap.size st x _ rfl X2.out.cl ?_)
    refine Calls.mono BH.out ?_
    rintro e W3 ⟨rfl, p', q', BB', A2, bg2⟩
    have DE3 : Hid (De W3 D w.heap.size 0) := de_start BG1.out bg2 DG.out.2 DG.out.1
    have B3 : Hid (Below w.heap.size w W3) := (B01.out.trans (below_of BG1.out.kp DG.out.2 (fun k e => by have := DG.out; omega))).trans (below_of bg2.kp (Nat.le_trans DG.out.2 BG1.out.kp.size) (fun k e => by have := DG.out; omega))
    clear bg2 BG1 BH X2 T2 B01 GD TLT HS
    go_wp2_with fail
    go_loopw [8] (fun vi wr => ∃ i : Nat, i ≤ n ∧ vi = .int .i64 (i : Int) ∧ Hid (De wr D w.heap.size (3 * i)) ∧ Hid (Below w.heap.size w wr)) (fun vi _ => n - (intOf vi).toNat)
    case atStart => exact ⟨0, Nat.zero_le _, rfl, DE3.out, B3.out⟩
    case round =>
      clear DE3 B3
      obtain ⟨i, hi, rfl, DE, BW⟩ := hrel
      by_cases hin : i < n
      case pos =>
        have hii : (i : Int) < (n : Int) := by omega
        have hiL : i < L.length := by rw [← HN.out]; exact hin
        obtain rfl := hat (by omega)
        obtain ⟨s, hsi⟩ : ∃ s, s = L[i] := ⟨_, rfl⟩
        have MF : Hid (MgFit s.m) := by rw [hsi]; exact HFT.out _ (List.getElem_mem hiL)
        have RG : Hid (∀ X, Kp wr X (fun k => w.heap.size ≤ k) → X.rangeAt bb (oo + i * 14) (spV s).toList) := fun X hX j u hj => by
          have hw : RwAt 14 spV w.heap.size X (some ⟨bb, oo, none⟩) bb oo L := (HLL.out.below BW.out).below ⟨hX.os, hX.tape, hX.output, hX.size, fun k hk => hX.block k (Nat.lt_of_lt_of_le hk BW.out.size) (fun e => by omega)⟩
          rw [hsi] at hj
          exact hw.c i hiL j u (by simpa using hj)
        have RK : Hid (∀ X, Kp wr X (fun k => w.heap.size ≤ k) → X.cell? ⟨bb, oo + i * 14, none⟩ = some (.int .i64 s.k) ∧ X.cell? ⟨bb, oo + i * 14 + 1, none⟩ = some (.int .i64 s.n)) := fun X hX => by
          have z := RG.out X hX
          exact ⟨z 0 _ rfl, z 1 _ rfl⟩
        obtain ⟨pl, hpl, hpc⟩ := place_all s.n
        have PL : Hid (∀ X : World, Calls Tryd.prog 8 #[.int .i64 s.n] X fun e w' => e = .returned (.int .i64 (pl : Int)) ∧ X = w') := hpc
        have hpl2 : (pl : Int) < 2 := by omega
        have hnb2 : n ≤ 2147483647 := hnb
        have DPL := hide fun X (hX : De X D w.heap.size (3 * i)) => hX.plays (by omega) pl hpl s MF.out
        obtain ⟨sk, hsk⟩ : ∃ sk, sk = s.k := ⟨_, rfl⟩
        obtain ⟨sn, hsn⟩ : ∃ sn, sn = s.n := ⟨_, rfl⟩
        rw [← hsk, ← hsn] at RK
        rw [← hsn] at PL
        obtain ⟨r0, r1⟩ := RK.out wr (Kp.refl _ _)
        have ew := wrap_in (x := (i : Int) + 1) (by omega) (by omega)
        have HI := hide (And.intro hi hiL)
        clear hsi hpc hsk hsn hi hiL r1
        go_upto_region 12 with fail
        clear r0
        refine wp_region_held_drew (S := fun X => Kp wr X (fun k => w.heap.size ≤ k)) (by kernel_rfl) ((Kp.refl wr _).drew) (fun hHeld => ?_)
        refine wTk (i := 0) (v := (.slice (some ⟨bb, oo, none⟩) n cap2)) rfl ?_ ?_
        · intro w' hSw
          (try dsimp only at hSw)
          go_simp
        (try simp only [Act.put, List.getElem_toArray, List.getElem_cons_zero, List.getElem_cons_succ, List.setIfInBounds_toArray, List.set_cons_zero, List.set_cons_succ])
        refine wTk (i := 1) (v := (.int .i64 (i : Int))) rfl ?_ ?_
        · intro w' hSw
          (try dsimp only at hSw)
          go_simp
        (try simp only [Act.put, List.getElem_toArray, List.getElem_cons_zero, List.getElem_cons_succ, List.setIfInBounds_toArray, List.set_cons_zero, List.set_cons_succ])
        refine wTk (i := 2) (v := (.pointer (some ⟨bb, oo + i * 14, none⟩))) rfl ?_ ?_
        · intro w' hSw
          (try dsimp only at hSw)
          go_simp
        (try simp only [Act.put, List.getElem_toArray, List.getElem_cons_zero, List.getElem_cons_succ, List.setIfInBounds_toArray, List.set_cons_zero, List.set_cons_succ])
        refine wTk (i := 3) (v := (.pointer (some ⟨bb, oo + i * 14 + 1, none⟩))) rfl ?_ ?_
        · intro w' hSw
          (try dsimp only at hSw)
          go_simp
        (try simp only [Act.put, List.getElem_toArray, List.getElem_cons_zero, List.getElem_cons_succ, List.setIfInBounds_toArray, List.set_cons_zero, List.set_cons_succ])
        refine wTk (i := 4) (v := (.int .i64 sn)) rfl ?_ ?_
        · intro w' hSw
          (try dsimp only at hSw)
          (have z := (RK.out _ hSw).2; go_simp)
        (try simp only [Act.put, List.getElem_toArray, List.getElem_cons_zero, List.getElem_cons_succ, List.setIfInBounds_toArray, List.set_cons_zero, List.set_cons_succ])
        refine wpAnyH_callTake (i := 5) (v := (.int .i64 (pl : Int))) rfl (by kernel_rfl) (by kernel_rfl) (by kernel_rfl) (fun _ _ _ h => h) (by kernel_rfl) 8 #[.int .i64 sn] (fun w' => by kernel_rfl) (fun w' hSw => PL.out w') (by assumption) ?_
        (try simp only [Act.put, List.getElem_toArray, List.getElem_cons_zero, List.getElem_cons_succ, List.setIfInBounds_toArray, List.set_cons_zero, List.set_cons_succ])
        refine wTk (i := 6) (v := (.pointer (some ⟨D, pl * 4, none⟩))) rfl ?_ ?_
        · intro w' hSw
          (try dsimp only at hSw)
          go_simp
        (try simp only [Act.put, List.getElem_toArray, List.getElem_cons_zero, List.getElem_cons_succ, List.setIfInBounds_toArray, List.set_cons_zero, List.set_cons_succ])
        refine wTk (i := 7) (v := (.slice (some ⟨bb, oo, none⟩) n cap2)) rfl ?_ ?_
        · intro w' hSw
          (try dsimp only at hSw)
          go_simp
        (try simp only [Act.put, List.getElem_toArray, List.getElem_cons_zero, List.getElem_cons_succ, List.setIfInBounds_toArray, List.set_cons_zero, List.set_cons_succ])
        refine wTk (i := 8) (v := (.int .i64 (i : Int))) rfl ?_ ?_
        · intro w' hSw
          (try dsimp only at hSw)
          go_simp
        (try simp only [Act.put, List.getElem_toArray, List.getElem_cons_zero, List.getElem_cons_succ, List.setIfInBounds_toArray, List.set_cons_zero, List.set_cons_succ])
        refine wTk (i := 9) (v := (.pointer (some ⟨bb, oo + i * 14, none⟩))) rfl ?_ ?_
        · intro w' hSw
          (try dsimp only at hSw)
          go_simp
        (try simp only [Act.put, List.getElem_toArray, List.getElem_cons_zero, List.getElem_cons_succ, List.setIfInBounds_toArray, List.set_cons_zero, List.set_cons_succ])
        refine wTk (i := 10) (v := (.agg (spV s))) rfl ?_ ?_
        · intro w' hSw
          (try dsimp only at hSw)
          (exact exec_ldSm (.tmp 45) rfl rfl (RG.out _ hSw))
        (try simp only [Act.put, List.getElem_toArray, List.getElem_cons_zero, List.getElem_cons_succ, List.setIfInBounds_toArray, List.set_cons_zero, List.set_cons_succ])
        refine wpAnyH_ready (rs := [11]) (by kernel_rfl) (by simp) ?_
        refine AllReadyH.cons rfl (fun K hK => ?_) AllReadyH.nil
        go_simp
        refine Calls.mono (DPL.out wr.drew (DE.out.kp0 ((Kp.refl wr non).drew))) ?_
        rintro e W5 ⟨rfl, de5, b5⟩
        have DE5 := hide de5
        have K5 : Hid (Kp wr W5 (fun k => w.heap.size ≤ k)) := ⟨b5.os, b5.tape, b5.output, b5.size, fun k hk hq => b5.block k (Nat.lt_of_not_le hq)⟩
        have B5 : Hid (Below w.heap.size w W5) := BW.out.trans ⟨b5.os, b5.tape, b5.output, b5.size, b5.block⟩
        clear de5 b5 RG RK PL DPL DE BW
        refine hK.out _ _ (K5.out) (fun hHeld => ?_)
        clear hK
        (try simp only [Act.put, List.setIfInBounds_toArray, List.set_cons_zero, List.set_cons_succ])
        refine wpAnyH_ready (rs := [12]) (by kernel_rfl) (by simp) ?_
        refine AllReadyH.cons rfl (fun K hK => ?_) AllReadyH.nil
        go_simp
        refine hK.out _ _ (K5.out) (fun hHeld => ?_)
        clear hK
        (try simp only [Act.put, List.setIfInBounds_toArray, List.set_cons_zero, List.set_cons_succ])
        refine wpAnyH_done (by kernel_rfl) ?_ _
        clear hHeld K5
        go_wp2_with fail
        go_roundw
        case rel => exact ⟨i + 1, by omega, by go_num, DE5.out, B5.out⟩
        case measure => simp [intOf]; omega
      case neg =>
        obtain rfl : i = n := by omega
        clear hat HLL HFT hin hi
        have MV0 := hide (DE.out.plays (by omega) 0 (by omega) ⟨3, 0, 0, mg0⟩ ⟨by decide, by decide⟩)
        go_wp2_with (first | refine wpList_blR rfl 38 _ rfl (spV ⟨3, 0, 0, mg0⟩) (by kernel_rfl) ?_ | refine wpList_blRGt 38 _ rfl rfl (spV ⟨3, 0, 0, mg0⟩) (by kernel_rfl) ?_)
        refine Calls.mono MV0.out ?_
        rintro e V0 ⟨rfl, d0, bq0⟩
        have DE1a := hide d0
        have BW1a : Hid (Below w.heap.size w V0) := BW.out.trans bq0
        clear d0 bq0 MV0
        have MV1 := hide (DE1a.out.plays (by omega) 0 (by omega) ⟨1, 0, 3, mg0⟩ ⟨by decide, by decide⟩)
        go_wp2_with (first | refine wpList_blR rfl 38 _ rfl (spV ⟨1, 0, 3, mg0⟩) (by kernel_rfl) ?_ | refine wpList_blRGt 38 _ rfl rfl (spV ⟨1, 0, 3, mg0⟩) (by kernel_rfl) ?_)
        refine Calls.mono MV1.out ?_
        rintro e V1 ⟨rfl, d1, bq1⟩
        have DE2a := hide d1
        have BW2a : Hid (Below w.heap.size w V1) := BW1a.out.trans bq1
        clear d1 bq1 MV1
        go_wp2_with fail
        go_ret
        exact ⟨rfl, BW2a.out⟩
end Go.Proofs.YtpoegknmkbnjlaaDoor.Cn
namespace Go.Proofs.YtpoegknmkbnjlaaDoor.Cn
open Go.ChangeShapes Go.WideShapes Go.ChangeAt Go.RowKit Go.Deep
open Go.Joins (open_agg3 open_agg2)
theorem cellsI : Tryd.prog.cellsOf 3 = 1 := by kernel_rfl
theorem laidOutP : laidOutB Tryd.prog = true := by kernel_rfl
end Go.Proofs.YtpoegknmkbnjlaaDoor.Cn
