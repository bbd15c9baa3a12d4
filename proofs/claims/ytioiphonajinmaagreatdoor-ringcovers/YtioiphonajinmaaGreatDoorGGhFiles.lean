import Derived.Test.YtioiphonajinmaaGreatDoorGGhHold
import Derived.Test.YtioiphonajinmaaGreatDoorGGnProg
import Derived.Test.YtioiphonajinmaaGreatDoorGGhSort
import Derived.Test.YtioiphonajinmaaGreatDoorGGcSame
import Derived.Test.YtioiphonajinmaaGreatDoorGGmMod
namespace Go.Proofs.YtioiphonajinmaaGreatDoor
open Go.RowKit
/-- a file, as it lies there -/
def fiA (p r c : Nat) (d : Bool) : Array Value := #[.int .i64 (p : Int), .int .i64 (r : Int), .int .i64 (c : Int), .bool d]
def FiAt (w : World) (b : Nat) (p r c : Nat) (d : Bool) : Prop := w.heap[b]? = some (.cells (fiA p r c d) 45)
theorem infoFi : (Tryz.prog.info? 45).map (·.size) = some 4 := by kernel_rfl
theorem exec_loadFi {ρ : Operand → Value} {o : Oper} {w : World} {b : Nat} {p r c : Nat} {d : Bool} (x : Operand) (ho : o.op = .load 45 x) (hx : ρ x = .pointer (some ⟨b, 0, none⟩)) (hO : FiAt w b p r c d) : (execOp ρ o).run Tryz.prog w = .ok (.value (.agg (fiA p r c d))) w := by
  have h0 : w.cell? ⟨b, 0, none⟩ = some (.int .i64 (p : Int)) := by unfold World.cell?; rw [show w.heap[b]? = _ from hO]; rfl
  have h1 : w.cell? ⟨b, 1, none⟩ = some (.int .i64 (r : Int)) := by unfold World.cell?; rw [show w.heap[b]? = _ from hO]; rfl
  have h2 : w.cell? ⟨b, 2, none⟩ = some (.int .i64 (c : Int)) := by unfold World.cell?; rw [show w.heap[b]? = _ from hO]; rfl
  have h3 : w.cell? ⟨b, 3, none⟩ = some (.bool d) := by unfold World.cell?; rw [show w.heap[b]? = _ from hO]; rfl
  unfold execOp
  simp only [ho, hx]
  unfold fiA
  go_simp
theorem FiAt.keep {w w' : World} {b p r c : Nat} {d : Bool} (h : FiAt w b p r c d) (hb : Below w.heap.size w w') : FiAt w' b p r c d := (hb.block _ (blk_lt h)).trans h
theorem infoStr : (Tryz.prog.info? 9).map (fun i => (i.zero, i.size, i.bytes)) = some (some (.string ⟨#[]⟩), 1, 16) := by kernel_rfl
theorem two_cells (w : World) (a b : List UInt8) : ∀ j u, (nmc [a, b])[j]? = some u → (w.alloc (.cells #[.string (strOf a), .string (strOf b)] 9)).cell? ((⟨w.heap.size, 0, none⟩ : Addr).add j) = some u := by
  intro j u hj
  have e := heap_last w (.cells #[.string (strOf a), .string (strOf b)] 9)
  match j, hj with
  | 0, hj => simp [nmc] at hj; subst hj; rw [add_pl]; unfold World.cell?; rw [e]; rfl
  | 1, hj => simp [nmc] at hj; subst hj; rw [add_pl]; unfold World.cell?; rw [e]; rfl
  | (j + 2), hj => simp [nmc] at hj
theorem name_eq (p r c : Nat) (d : Bool) : strOf (dd p) ++ us ++ strOf (dd r) ++ us ++ strOf (dd c) ++ dot ++ strOf (endW d) = strOf (fnL (p, r, c, d)) := by
  apply ba_eq
  have e1 : us.data.toList = [95] := rfl
  have e2 : dot.data.toList = [46] := rfl
  unfold fnL
  simp only [ba_app, strOf_data, e1, e2, List.append_assoc, List.cons_append, List.nil_append]
theorem endW_size (d : Bool) : (strOf (endW d)).size ≤ 1000 := by
  rw [strOf_size]
  have := endW_len d
  omega
theorem dd_size {n : Nat} (h : n < 64) : (strOf (dd n)).size ≤ 1000 := by
  rw [strOf_size]
  have := dd_len h
  omega
def ttA (p r c : Nat) (d : Bool) : Array Value := #[.string (strOf (dd p)), .string (strOf (dd r)), .string (strOf (dd c)), .string (strOf (endW d))]
theorem title_any (p r c : Nat) (d : Bool) (hp : p < 64) (hr : r < 16) (hc : c < 16) (w : World) :
    Calls Tryz.prog 23 #[.agg (fiA p r c d)] w fun e w' => e = .returned (.agg (ttA p r c d)) ∧ Below w.heap.size w w' := titleOf_any p r c d (by omega) (by omega) (by omega) w
theorem fnamed_any (p r c : Nat) (d : Bool) (hp : p < 64) (hr : r < 16) (hc : c < 16) (w : World) :
    Calls Tryz.prog 24 #[.agg (ttA p r c d)] w fun x w' => x = .returned (.string (strOf (fnL (p, r, c, d)))) ∧ Below w.heap.size w w' := by
  have := name_any (strOf (dd p)) (strOf (dd r)) (strOf (dd c)) (strOf (endW d)) (dd_size hp) (dd_size (by omega)) (dd_size (by omega)) (endW_size d) w
  rw [name_eq] at this
  exact this
/-- what Files answers -/
noncomputable def flS (st : ByteArray) (x : Nat → Int) (ns : List ND) (node : Int) : List (List UInt8) := insA (flL (hdS st x ns node) (x 2).toNat)
theorem flS_bad {st : ByteArray} {x : Nat → Int} {ns : List ND} {node : Int} (h : hdE st x ns node ≠ 0) : flS st x ns node = [] := by
  unfold flS
  rw [hdS_bad h]
  rfl
set_option maxHeartbeats 8000000 in
set_option maxRecDepth 100000 in
set_option linter.unusedSimpArgs false in
set_option linter.unusedVariables false in
theorem files_any (N : Nat) (w : World) (st : ByteArray) (x : Nat → Int) (ao : Option Addr) (b o cap : Nat) (pv : Nat → Value) (ns : List ND) (node : Int) (h : NsAt N w ao b o pv ns) (hN : N ≤ w.heap.size) (hs : st.size ≤ 9223372036854775807) :
    Calls Tryz.prog 9 #[.agg (clA st x (.slice ao ns.length cap)), .int .i64 node] w fun e w' => ∃ v, e = .returned (.tuple #[v, .int .i64 (hdE st x ns node)]) ∧ w'.ownsRow w.heap.size 9 1 v (flS st x ns node).length (nmc (flS st x ns node)) ∧ Below w.heap.size w w' := by
  obtain ⟨W0, hW0, hX⟩ := boxed st x cap h hN
  have HX := hide (hX.stand hN)
  have B0 := hide hX.bel
  clear hX h
  have HO := holds_any N W0 st x ao b o cap pv ns node HX.out.nd HX.out.le hs
  obtain ⟨k0, hk0, hx0, hx1, hx2⟩ := info_parts infoStr
  obtain ⟨K, hK⟩ : ∃ K, K = hdE st x ns node := ⟨_, rfl⟩
  have HK := hide hK
  rw [← hK] at HO ⊢
  replace HO := hide HO
  clear hK
  go_enter Tryz.func9, Tryz.ntmps9
  go_upto_region 1 with fail
  rw [← hW0]
  clear hW0
  go_wp2_with (refine wpList_loadCl rfl (.tmp 2) rfl w.heap.size st x _ rfl HX.out.cl ?_)
  refine Calls.mono HO.out ?_
  rintro e W1 ⟨v, rfl, oo, hb⟩
  have X1 := hide (HX.out.below hb)
  have B1 := hide (B0.out.trans (hb.mono B0.out.size))
  obtain ⟨ba, cp, hv, _⟩ := own_sl oo
  subst hv
  have O1 := hide oo
  clear hb HX HO oo
  by_cases he : K = 0
  case neg =>
    have FN : Hid (W1.ownsRow w.heap.size 9 1 (.slice none 0 0) (flS st x ns node).length (nmc (flS st x ns node))) := by
      rw [flS_bad (by rw [← HK.out]; exact he)]
      exact World.ownsRow_nil _ _ _ _
    clear O1
    go_wp2_with fail
    go_ret2
    exact ⟨_, rfl, FN.out, B1.out⟩
  case pos =>
    subst he
    have hE := hdE_zero HK.out.symm
    have L2 : 1 ≤ x 2 ∧ x 2 ≤ 16 := sfP_lim (errP_ok hE).1 2 (by omega)
    have L0 : 1 ≤ x 0 ∧ x 0 ≤ 16 := sfP_lim (errP_ok hE).1 0 (by omega)
    have p64 : ptN ns ≤ 64 := (errP_all hE).2.2.2.1.p2
    obtain ⟨l, hl⟩ : ∃ l, l = hdS st x ns node := ⟨_, rfl⟩
    have hlm : ∀ s ∈ l, s.1 < 64 ∧ s.2 < 16 := fun s hs => by
      rw [hl, hdS_ok HK.out.symm] at hs
      have := hdL_mem (by omega) hs
      omega
    have hll : l.length ≤ 64 := by
      rw [hl, hdS_ok HK.out.symm]
      have := hdL_len x ns node (ptN ns)
      omega
    obtain ⟨ch, hch⟩ : ∃ ch : Nat, (ch : Int) = x 2 := ⟨(x 2).toNat, by omega⟩
    have hF : flS st x ns node = insA (flL l ch) := by
      unfold flS
      rw [← hl, show (x 2).toNat = ch by omega]
    rw [← hl] at O1 ⊢
    have HF := hide hF
    have HM := hide hlm
    have c16 : ch ≤ 16 := by omega
    have CX : Hid (∀ Y, Below W1.heap.size W1 Y → Y.cell? ⟨w.heap.size, 3, none⟩ = some (.int .i64 (ch : Int)) ∧ ∀ q (h : q < l.length), ∃ sg, ba = some ⟨sg, 0, none⟩ ∧ Y.cell? ⟨sg, q * 2, none⟩ = some (.int .i64 (l[q].1 : Int)) ∧ Y.cell? ⟨sg, q * 2 + 1, none⟩ = some (.int .i64 (l[q].2 : Int))) := fun Y hY => by
      refine ⟨by rw [hch]; exact (X1.out.cl.below hY).x2, fun q hq => ?_⟩
      obtain ⟨sg, cq, e⟩ := own_some O1.out (by omega)
      injection e with e1 e2 e3
      subst e1
      have ow := own_keep (X' := Y) O1.out fun g hg => hY.block g (own_lt O1.out hg).2
      refine ⟨sg, rfl, ?_, ?_⟩
      · rw [ow.cellAt (q * 2) (by omega)]
        exact (slc_at l q hq).1
      · rw [ow.cellAt (q * 2 + 1) (by omega)]
        exact (slc_at l q hq).2
    clear hE L2 L0 p64 hlm hF hch hl O1
    go_wp2_with fail
    go_loopw [8, 25] (fun vl vi wr => ∃ (q : Nat), q ≤ l.length ∧ vi = .int .i64 (q : Int) ∧ (∃ ba cp, vl = .slice ba (flL (l.take q) ch).length cp) ∧ Hid (wr.ownsRow W1.heap.size 9 1 vl (flL (l.take q) ch).length (nmc (flL (l.take q) ch))) ∧ Hid (Below W1.heap.size W1 wr)) (fun _ vi _ => l.length - (intOf vi).toNat)
    case atStart => exact ⟨0, Nat.zero_le _, rfl, ⟨none, 0, rfl⟩, World.ownsRow_nil _ _ _ _, Below.refl _ _⟩
    case round =>
      obtain ⟨q, hq, rfl, ⟨ba2, cp2, rfl⟩, HN, HB⟩ := hrel
      by_cases hql : q < l.length
      case neg =>
        obtain rfl : q = l.length := by omega
        rw [List.take_length] at HN ⊢
        have FB := hide (B1.out.trans (HB.out.mono B1.out.size))
        by_cases hz : (flL l ch).length = 0
        · rw [hz]
          have hzn : flL l ch = [] := List.length_eq_zero_iff.1 hz
          have FN : Hid (wr.ownsRow w.heap.size 9 1 (.slice ba2 0 cp2) (flS st x ns node).length (nmc (flS st x ns node))) := by
            rw [HF.out, hzn]
            have := HN.out
            rw [hzn] at this
            exact own_lower this B1.out.size
          clear HN hzn hz
          go_wp2_with fail
          refine Calls.mono (Tryz.slices_Sort_string_none ba2 cp2 _) ?_
          rintro e w' ⟨rfl, rfl⟩
          go_wp2_with fail
          go_ret2
          exact ⟨_, rfl, FN.out, FB.out⟩
        · obtain ⟨g, cg, hv⟩ := own_some HN.out (by omega)
          injection hv with e1 e2 e3
          subst e1
          subst e3
          have hfl : (flL l ch).length < 4611686018427387904 := by
            rw [flL_len]
            have := Nat.mul_le_mul hll (show 2 * ch ≤ 32 by omega)
            omega
          have SR := hide (sort_names wr W1.heap.size g cp2 (flL l ch) HN.out hfl)
          clear e2
          go_wp2_with fail
          refine Calls.mono SR.out ?_
          rintro e W9 ⟨rfl, o9, hb⟩
          have FN : Hid (W9.ownsRow w.heap.size 9 1 (.slice (some ⟨g, 0, none⟩) (flL l ch).length cp2) (flS st x ns node).length (nmc (flS st x ns node))) := by
            rw [HF.out, insA_len]
            exact own_lower o9 B1.out.size
          have FB9 := hide (B1.out.trans ((HB.out.trans hb).mono B1.out.size))
          clear o9 hb SR HN
          go_wp2_with fail
          go_ret2
          exact ⟨_, rfl, FN.out, FB9.out⟩
      case pos =>
        have hqi : (q : Int) < (l.length : Int) := by omega
        obtain ⟨c3, hc⟩ := CX.out _ HB.out
        obtain ⟨sg, hsg, s0, s1⟩ := hc q hql
        subst hsg
        have hm := HM.out l[q] (List.getElem_mem hql)
        have HT := hide (flL_take (k := ch) hql)
        have HFl := hide (flL_len (l.take q) ch)
        have hfl : (flL (l.take q) ch).length ≤ 2048 := by
          rw [flL_len, List.length_take]
          have := Nat.mul_le_mul (show min q l.length ≤ 64 by omega) (show 2 * ch ≤ 32 by omega)
          omega
        obtain ⟨W2, hW2⟩ : ∃ W2, W2 = wr.alloc (.cells #[.int .i64 (l[q].1 : Int), .int .i64 (l[q].2 : Int)] 60) := ⟨_, rfl⟩
        have HB2 : Hid (Below W1.heap.size W1 W2) := by rw [hW2]; exact HB.out.alloc HB.out.size _
        have HN2 : Hid (W2.ownsRow W1.heap.size 9 1 (.slice ba2 (flL (l.take q) ch).length cp2) (flL (l.take q) ch).length (nmc (flL (l.take q) ch))) := by rw [hW2]; exact HN.out.alloc _
        have Z0 : Hid (W2.heap[wr.heap.size]? = some (.cells #[.int .i64 (l[q].1 : Int), .int .i64 (l[q].2 : Int)] 60)) := by rw [hW2]; exact heap_last _ _
        have c4 := (CX.out _ HB2.out).1
        clear hc HN HB
        generalize l[q] = s at *
        obtain ⟨p, r⟩ := s
        dsimp only at s0 s1 hm hW2 Z0
        go_upto_region 8 with fail
        rw [← hW2]
        clear hW2 s0 s1 c3
        generalize wr.heap.size = sB at *
        generalize flL (l.take q) ch = A at *
        go_wp2_with fail
        clear c4
        go_loopw [8, 31] (fun vl vi wq => ∃ (k : Nat), k ≤ ch ∧ vi = .int .i64 (k : Int) ∧ (∃ ba cp, vl = .slice ba (A ++ fl1 (p, r) k).length cp) ∧ Hid (wq.ownsRow W1.heap.size 9 1 vl (A ++ fl1 (p, r) k).length (nmc (A ++ fl1 (p, r) k))) ∧ Hid (Below W1.heap.size W1 wq) ∧ Hid (wq.heap[sB]? = some (.cells #[.int .i64 (p : Int), .int .i64 (r : Int)] 60))) (fun _ vi _ => ch - (intOf vi).toNat)
        case atStart => exact ⟨0, Nat.zero_le _, rfl, ⟨ba2, cp2, by simp [fl1]⟩, by simpa [fl1] using HN2, HB2, Z0⟩
        case round =>
          obtain ⟨k, hk, rfl, ⟨ba3, cp3, rfl⟩, HN3, HB3, Z3⟩ := hrel
          by_cases hkl : k < ch
          case neg =>
            obtain rfl : k = ch := by omega
            go_wp2_with fail
            go_roundw
            case rel => exact ⟨q + 1, by omega, by go_num, ⟨ba3, cp3, by rw [HT.out]⟩, by rw [HT.out]; exact HN3, HB3⟩
            case measure => simp [intOf]; omega
          case pos =>
            have hki : (k : Int) < (ch : Int) := by omega
            have y0 : wr.cell? ⟨sB, 0, none⟩ = some (.int .i64 (p : Int)) := by unfold World.cell?; rw [Z3.out]; rfl
            have y1 : wr.cell? ⟨sB, 1, none⟩ = some (.int .i64 (r : Int)) := by unfold World.cell?; rw [Z3.out]; rfl
            obtain ⟨X0, hX0⟩ : ∃ X0, X0 = (wr.alloc (.cells (fiA p r k false) 45)).alloc (.cells (fiA p r k true) 45) := ⟨_, rfl⟩
            have F0 : Hid (FiAt X0 wr.heap.size p r k false ∧ FiAt X0 (wr.heap.size + 1) p r k true) := by
              rw [hX0]
              refine ⟨?_, ?_⟩
              · unfold FiAt
                rw [Below.heap_alloc _ _ _ (by simp)]
                exact heap_last _ _
              · have := heap_last (wr.alloc (.cells (fiA p r k false) 45)) (.cells (fiA p r k true) 45)
                simp only [World.size_alloc] at this
                exact this
            have b0 : Below wr.heap.size wr X0 := by rw [hX0]; exact ((Below.refl _ _).alloc (Nat.le_refl _) _).alloc (by simp) _
            have N0 : Hid (X0.ownsRow W1.heap.size 9 1 (.slice ba3 (A ++ fl1 (p, r) k).length cp3) (A ++ fl1 (p, r) k).length (nmc (A ++ fl1 (p, r) k))) := own_keep HN3.out fun i hi => b0.block i (own_lt HN3.out hi).2
            have S0 := hide (HB3.out.trans (b0.mono HB3.out.size))
            have Z0 : Hid (X0.heap[sB]? = some (.cells #[.int .i64 (p : Int), .int .i64 (r : Int)] 60)) := (b0.block _ (blk_lt Z3.out)).trans Z3.out
            have T1 := hide (fun Y => title_any p r k false hm.1 hm.2 (by omega) Y)
            have T2 := hide (fun Y => title_any p r k true hm.1 hm.2 (by omega) Y)
            have M1 := hide (fun Y => fnamed_any p r k false hm.1 hm.2 (by omega) Y)
            have M2 := hide (fun Y => fnamed_any p r k true hm.1 hm.2 (by omega) Y)
            have HS : Hid (A ++ fl1 (p, r) (k + 1) = (A ++ fl1 (p, r) k) ++ [fnL (p, r, k, false), fnL (p, r, k, true)]) := by
              show _ = _
              rw [fl1_succ, List.append_assoc]
            have hBl : (A ++ fl1 (p, r) k).length ≤ 4000 := by
              rw [List.length_append, fl1_len]
              omega
            go_upto_region 14 with fail
            rw [show (wr.alloc (.cells #[.int .i64 (p : Int), .int .i64 (r : Int), .int .i64 (k : Int), .bool false] 45)).alloc (.cells #[.int .i64 (p : Int), .int .i64 (r : Int), .int .i64 (k : Int), .bool true] 45) = X0 from hX0.symm]
            clear hX0 b0 y0 y1 HN3 HB3 Z3
            generalize fnL (p, r, k, false) = n1 at *
            generalize fnL (p, r, k, true) = n2 at *
            generalize A ++ fl1 (p, r) k = B at *
            generalize ttA p r k false = t1 at *
            generalize ttA p r k true = t2 at *
            generalize wr.heap.size = fB at *
            refine wp_region_held_drew (S := fun Y => FiAt Y fB p r k false ∧ FiAt Y (fB + 1) p r k true) (by kernel_rfl) F0.out (fun hHeld => ?_)
            refine wpAnyH_take (i := 0) (v := (.slice ba3 B.length cp3)) rfl (by kernel_rfl) (by kernel_rfl) (by kernel_rfl) (fun _ _ _ h => h) (Or.inl ⟨by rfl, ?_⟩) (by assumption) ?_
            · intro w' hSw
              (try dsimp only at hSw)
              exact exec_move (.tmp 8) rfl (by kernel_rfl)
            (try simp only [Act.put, List.getElem_toArray, List.getElem_cons_zero, List.getElem_cons_succ, List.setIfInBounds_toArray, List.set_cons_zero, List.set_cons_succ])
            refine wpAnyH_take (i := 1) (v := (.agg (fiA p r k false))) rfl (by kernel_rfl) (by kernel_rfl) (by kernel_rfl) (fun _ _ _ h => h) (Or.inl ⟨by rfl, ?_⟩) (by assumption) ?_
            · intro w' hSw
              (try dsimp only at hSw)
              exact exec_loadFi (.tmp 12) rfl (by kernel_rfl) hSw.1
            (try simp only [Act.put, List.getElem_toArray, List.getElem_cons_zero, List.getElem_cons_succ, List.setIfInBounds_toArray, List.set_cons_zero, List.set_cons_succ])
            refine wpAnyH_take (i := 4) (v := (.agg (fiA p r k true))) rfl (by kernel_rfl) (by kernel_rfl) (by kernel_rfl) (fun _ _ _ h => h) (Or.inl ⟨by rfl, ?_⟩) (by assumption) ?_
            · intro w' hSw
              (try dsimp only at hSw)
              exact exec_loadFi (.tmp 13) rfl (by kernel_rfl) hSw.2
            (try simp only [Act.put, List.getElem_toArray, List.getElem_cons_zero, List.getElem_cons_succ, List.setIfInBounds_toArray, List.set_cons_zero, List.set_cons_succ])
            refine wpAnyH_ready (rs := [2]) (by kernel_rfl) (by simp) ?_
            refine AllReadyH.cons rfl (fun K hK => ?_) AllReadyH.nil
            go_simp
            refine Calls.mono (T1.out _) ?_
            rintro e X1 ⟨rfl, hb⟩
            have b1 : Hid (Below X0.heap.size X0 X1) := (Below.refl _ X0).drew.trans hb
            clear hb
            refine hK.out _ _ (⟨F0.out.1.keep b1.out, F0.out.2.keep b1.out⟩) (fun hHeld => ?_)
            clear hK
            (try simp only [Act.put, List.setIfInBounds_toArray, List.set_cons_zero, List.set_cons_succ])
            refine wpAnyH_ready (rs := [3]) (by kernel_rfl) (by simp) ?_
            refine AllReadyH.cons rfl (fun K hK => ?_) AllReadyH.nil
            go_simp
            refine Calls.mono (M1.out _) ?_
            rintro e X2 ⟨rfl, hb⟩
            have b2 : Hid (Below X0.heap.size X0 X2) := b1.out.trans (hb.mono b1.out.size)
            clear hb b1
            refine hK.out _ _ (⟨F0.out.1.keep b2.out, F0.out.2.keep b2.out⟩) (fun hHeld => ?_)
            clear hK
            (try simp only [Act.put, List.setIfInBounds_toArray, List.set_cons_zero, List.set_cons_succ])
            refine wpAnyH_ready (rs := [5]) (by kernel_rfl) (by simp) ?_
            refine AllReadyH.cons rfl (fun K hK => ?_) AllReadyH.nil
            go_simp
            refine Calls.mono (T2.out _) ?_
            rintro e X3 ⟨rfl, hb⟩
            have b3 : Hid (Below X0.heap.size X0 X3) := b2.out.trans (hb.mono b2.out.size)
            clear hb b2
            refine hK.out _ _ (⟨F0.out.1.keep b3.out, F0.out.2.keep b3.out⟩) (fun hHeld => ?_)
            clear hK
            (try simp only [Act.put, List.setIfInBounds_toArray, List.set_cons_zero, List.set_cons_succ])
            refine wpAnyH_ready (rs := [6]) (by kernel_rfl) (by simp) ?_
            refine AllReadyH.cons rfl (fun K hK => ?_) AllReadyH.nil
            go_simp
            refine Calls.mono (M2.out _) ?_
            rintro e X4 ⟨rfl, hb⟩
            have b4 : Hid (Below X0.heap.size X0 X4) := b3.out.trans (hb.mono b3.out.size)
            clear hb b3
            refine hK.out _ _ (⟨F0.out.1.keep b4.out, F0.out.2.keep b4.out⟩) (fun hHeld => ?_)
            clear hK
            (try simp only [Act.put, List.setIfInBounds_toArray, List.set_cons_zero, List.set_cons_succ])
            refine wpAnyH_ready (rs := [7]) (by kernel_rfl) (by simp) ?_
            refine AllReadyH.cons rfl (fun K hK => ?_) AllReadyH.nil
            go_simp
            have b5 : Hid (Below X0.heap.size X0 (X4.alloc (.cells #[.string (strOf n1), .string (strOf n2)] 9))) := b4.out.alloc b4.out.size _
            refine hK.out _ _ (⟨F0.out.1.keep b5.out, F0.out.2.keep b5.out⟩) (fun hHeld => ?_)
            clear hK
            (try simp only [Act.put, List.setIfInBounds_toArray, List.set_cons_zero, List.set_cons_succ])
            refine wpAnyH_ready (rs := [8]) (by kernel_rfl) (by simp) ?_
            refine AllReadyH.cons rfl (fun K hK => ?_) AllReadyH.nil
            refine itY (by rfl) ?_
            have N5 : Hid ((X4.alloc (.cells #[.string (strOf n1), .string (strOf n2)] 9)).ownsRow W1.heap.size 9 1 (.slice ba3 B.length cp3) B.length (nmc B)) := own_keep N0.out fun i hi => b5.out.block i (own_lt N0.out hi).2
            refine wp_append_own (X4.alloc (.cells #[.string (strOf n1), .string (strOf n2)] 9)) (.tmp 42) (.tmp 49) 25 ?hAo W1.heap.size 9 k0 _ 1 16 Tryz.underlying25 hk0 hx0 hx1 hx2 ?hAz (by decide) (.slice ba3 B.length cp3) B.length (nmc B) ?hAs N5.out ⟨X4.heap.size, 0, none⟩ 2 2 (nmc [n1, n2]) ?hAx rfl (two_cells X4 n1 n2) (nmc_one _) (by unfold maxLen; omega) (by omega) (by have := S0.out.size; have := b4.out.size; simp; omega) ?hAk
            case hAo => rfl
            case hAz => rfl
            case hAs => kernel_rfl
            case hAx => kernel_rfl
            intro v6 X6 o6 g6 n6
            clear n6
            have N6 : Hid (X6.ownsRow W1.heap.size 9 1 v6 (A ++ fl1 (p, r) (k + 1)).length (nmc (A ++ fl1 (p, r) (k + 1)))) := by
              rw [HS.out, List.length_append, nmc_append]
              exact o6
            have S6 : Hid (Below W1.heap.size W1 X6) := (S0.out.trans (b5.out.mono S0.out.size)).grown g6 (by have := S0.out.size; have := b4.out.size; simp; omega) (fun j hj => (own_lt N5.out hj).1)
            have keepB : ∀ i, i < X0.heap.size → X0.heap[i]? ≠ none → (∀ cs z, X0.heap[i]? ≠ some (.cells cs 9 z)) → X6.heap[i]? = X0.heap[i]? := fun i hi hn hne => by
              have e5 := b5.out.block i hi
              refine (g6.block i (by have := b4.out.size; simp; omega) fun e => ?_).trans e5
              rcases N5.out.2 with ⟨e3, _⟩ | ⟨g3, cap3, cur3, e3, _, hg3, _⟩
              · rw [e3] at e; cases e
              · rw [e3] at e
                have : i = g3 := by simpa [Value.ownBlock] using e
                subst this
                exact hne cur3 (0, 0) (e5.symm.trans hg3)
            have F6 : Hid (FiAt X6 fB p r k false ∧ FiAt X6 (fB + 1) p r k true) := ⟨(keepB fB (blk_lt F0.out.1) (by rw [show X0.heap[fB]? = _ from F0.out.1]; simp) (fun cs z e => by have := F0.out.1.symm.trans e; injection this with this; injection this with _ h2; exact absurd h2 (by decide))).trans F0.out.1, (keepB (fB + 1) (blk_lt F0.out.2) (by rw [show X0.heap[fB + 1]? = _ from F0.out.2]; simp) (fun cs z e => by have := F0.out.2.symm.trans e; injection this with this; injection this with _ h2; exact absurd h2 (by decide))).trans F0.out.2⟩
            have Z6 : Hid (X6.heap[sB]? = some (.cells #[.int .i64 (p : Int), .int .i64 (r : Int)] 60)) := (keepB sB (blk_lt Z0.out) (by rw [Z0.out]; simp) (fun cs z e => by have := Z0.out.symm.trans e; injection this with this; injection this with _ h2; exact absurd h2 (by decide))).trans Z0.out
            obtain ⟨ba6, cp6, hv6, _⟩ := own_sl N6.out
            subst hv6
            clear o6 g6 keepB N5 N0 S0 b5 b4 F0 Z0
            refine hK.out _ _ (F6.out) (fun hHeld => ?_)
            clear hK
            (try simp only [Act.put, List.setIfInBounds_toArray, List.set_cons_zero, List.set_cons_succ])
            refine wpAnyH_ready (rs := [9]) (by kernel_rfl) (by simp) ?_
            refine AllReadyH.cons rfl (fun K hK => ?_) AllReadyH.nil
            go_simp
            refine hK.out _ _ (F6.out) (fun hHeld => ?_)
            clear hK
            (try simp only [Act.put, List.setIfInBounds_toArray, List.set_cons_zero, List.set_cons_succ])
            refine wpAnyH_done (by kernel_rfl) ?_ _
            clear hHeld
            go_wp2_with fail
            go_roundw
            case rel => exact ⟨k + 1, by omega, by go_num, ⟨ba6, cp6, by rw [List.length_append]⟩, by rw [← List.length_append]; exact N6, S6, Z6⟩
            case measure => simp [intOf]; omega
end Go.Proofs.YtioiphonajinmaaGreatDoor
namespace Go.Proofs.YtioiphonajinmaaGreatDoor
open Go.RowKit
set_option maxHeartbeats 8000000 in
set_option maxRecDepth 100000 in
set_option linter.unusedSimpArgs false in
set_option linter.unusedVariables false in
theorem has_any (w : World) (base : Nat) (v : Value) (l : List (Nat × Nat)) (p k : Nat) (h : w.ownsRow base 60 2 v l.length (slc l)) (hl : l.length ≤ 1000000) :
    Calls Tryz.prog 13 #[v, .int .i64 (p : Int), .int .i64 (k : Int)] w fun e w' => e = .returned (.bool (decide ((p, k) ∈ l))) ∧ w' = w := by
  obtain ⟨a1, c1, rfl, _⟩ := own_sl h
  have H1 := hide h
  clear h
  obtain ⟨D, hD⟩ : ∃ D, D = decide ((p, k) ∈ l) := ⟨_, rfl⟩
  rw [← hD]
  have HD := hide hD
  clear hD
  go_enter Tryz.func13, Tryz.ntmps13
  go_wp2_with fail
  go_loopw [7] (fun vi wr => ∃ (q : Nat), q ≤ l.length ∧ vi = .int .i64 (q : Int) ∧ Hid (∀ j (h : j < l.length), j < q → l[j] ≠ (p, k)) ∧ wr = w) (fun vi _ => l.length - (intOf vi).toNat)
  case atStart => exact ⟨0, Nat.zero_le _, rfl, (fun j _ h => absurd h (Nat.not_lt_zero _)), rfl⟩
  case round =>
    obtain ⟨q, hq, rfl, HN, rfl⟩ := hrel
    by_cases hql : q < l.length
    case neg =>
      obtain rfl : q = l.length := by omega
      have hD2 : D = false := by
        rw [HD.out]
        refine decide_eq_false fun hm => ?_
        obtain ⟨j, hj, e⟩ := List.getElem_of_mem hm
        exact HN.out j hj hj e
      subst hD2
      go_wp2_with fail
      go_ret
      exact ⟨rfl, rfl⟩
    case pos =>
      obtain ⟨g1, k1, e1⟩ := own_some H1.out (by omega)
      injection e1 with e1 _ e3
      subst e1
      subst e3
      have hqi : (q : Int) < (l.length : Int) := by omega
      have p0 : wr.cell? ⟨g1, q * 2, none⟩ = some (.int .i64 (l[q].1 : Int)) := by
        rw [H1.out.cellAt (q * 2) (by omega)]
        exact (slc_at l q hql).1
      have p1 : wr.cell? ⟨g1, q * 2 + 1, none⟩ = some (.int .i64 (l[q].2 : Int)) := by
        rw [H1.out.cellAt (q * 2 + 1) (by omega)]
        exact (slc_at l q hql).2
      have hmem : l[q] ∈ l := List.getElem_mem hql
      have HSt : Hid (l[q] ≠ (p, k) → ∀ j (h : j < l.length), j < q + 1 → l[j] ≠ (p, k)) := fun hne j hj hjq => by
        by_cases e : j = q
        · subst e; exact hne
        · exact HN.out j hj (by omega)
      generalize l[q] = s at *
      obtain ⟨s1, s2⟩ := s
      dsimp only at p0 p1
      by_cases e1 : s1 = p
      · subst e1
        by_cases e2 : s2 = k
        · subst e2
          have hD2 : D = true := by rw [HD.out]; exact decide_eq_true hmem
          subst hD2
          go_wp2_with fail
          go_ret
          exact ⟨rfl, rfl⟩
        · have e2' : ¬ (s2 : Int) = (k : Int) := by omega
          have HS2 := hide (HSt.out (fun e => e2 (by injection e)))
          clear HSt hmem
          go_wp2_with fail
          go_roundw
          case rel => exact ⟨q + 1, by omega, by go_num, HS2, by first | rfl | trivial⟩
          case measure => simp [intOf]; omega
      · have e1' : ¬ (s1 : Int) = (p : Int) := by omega
        have HS2 := hide (HSt.out (fun e => e1 (by injection e)))
        clear HSt hmem
        go_wp2_with fail
        go_roundw
        case rel => exact ⟨q + 1, by omega, by go_num, HS2, by first | rfl | trivial⟩
        case measure => simp [intOf]; omega
set_option maxHeartbeats 8000000 in
set_option maxRecDepth 100000 in
set_option linter.unusedSimpArgs false in
set_option linter.unusedVariables false in
theorem lies_any (w : World) (base : Nat) (v : Value) (l : List (List UInt8)) (a : List UInt8) (h : w.ownsRow base 9 1 v l.length (nmc l)) (hl : l.length ≤ 1000000) :
    Calls Tryz.prog 33 #[v, .string (strOf a)] w fun e w' => e = .returned (.bool (decide (a ∈ l))) ∧ w' = w := by
  obtain ⟨a1, c1, rfl, _⟩ := own_sl h
  have H1 := hide h
  clear h
  obtain ⟨D, hD⟩ : ∃ D, D = decide (a ∈ l) := ⟨_, rfl⟩
  rw [← hD]
  have HD := hide hD
  clear hD
  go_enter Tryz.func33, Tryz.ntmps33
  go_wp2_with fail
  go_loopw [5] (fun vi wr => ∃ (q : Nat), q ≤ l.length ∧ vi = .int .i64 (q : Int) ∧ Hid (∀ j (h : j < l.length), j < q → l[j] ≠ a) ∧ wr = w) (fun vi _ => l.length - (intOf vi).toNat)
  case atStart => exact ⟨0, Nat.zero_le _, rfl, (fun j _ h => absurd h (Nat.not_lt_zero _)), rfl⟩
  case round =>
    obtain ⟨q, hq, rfl, HN, rfl⟩ := hrel
    by_cases hql : q < l.length
    case neg =>
      obtain rfl : q = l.length := by omega
      have hD2 : D = false := by
        rw [HD.out]
        refine decide_eq_false fun hm => ?_
        obtain ⟨j, hj, e⟩ := List.getElem_of_mem hm
        exact HN.out j hj hj e
      subst hD2
      go_wp2_with fail
      go_ret
      exact ⟨rfl, rfl⟩
    case pos =>
      obtain ⟨g1, k1, e1⟩ := own_some H1.out (by omega)
      injection e1 with e1 _ e3
      subst e1
      subst e3
      have hqi : (q : Int) < (l.length : Int) := by omega
      have p0 : wr.cell? ⟨g1, q, none⟩ = some (.string (strOf l[q])) := by
        rw [H1.out.cellAt q (by omega), nmc_at l q hql]
      have hmem : l[q] ∈ l := List.getElem_mem hql
      have HSt : Hid (l[q] ≠ a → ∀ j (h : j < l.length), j < q + 1 → l[j] ≠ a) := fun hne j hj hjq => by
        by_cases e : j = q
        · subst e; exact hne
        · exact HN.out j hj (by omega)
      generalize l[q] = s at *
      by_cases e1 : s = a
      · subst e1
        have hD2 : D = true := by rw [HD.out]; exact decide_eq_true hmem
        subst hD2
        go_wp2_with fail
        go_ret
        exact ⟨rfl, rfl⟩
      · have HS2 := hide (HSt.out e1)
        have e1' : ¬ strOf s = strOf a := fun e => e1 (strOf_inj e)
        have e3' : ((strOf s).toList == (strOf a).toList) = false := by
          rw [toList_data, toList_data, strOf_data, strOf_data]
          simpa using e1
        generalize strOf s = ss at *
        generalize strOf a = sa at *
        clear HSt hmem
        go_wp2_with fail
        go_roundw
        case rel => exact ⟨q + 1, by omega, by go_num, HS2, by first | rfl | trivial⟩
        case measure => simp [intOf]; omega
end Go.Proofs.YtioiphonajinmaaGreatDoor
namespace Go.Proofs.YtioiphonajinmaaGreatDoor
open Go.RowKit
theorem exec_eqlF {ρ : Operand → Value} {op : Oper} {w : World} {a b : Int} {t2 : TypeId} (x y : Operand) (ho : op.op = .binOp .neq 3 x y t2) (hx : ρ x = .int .i64 a) (hy : ρ y = .int .i64 b) (h : a = b) : (execOp ρ op).run Tryz.prog w = .ok (.value (.bool false)) w := by
  subst h
  exact exec_neqi x y ho hx hy
set_option maxHeartbeats 8000000 in
set_option maxRecDepth 100000 in
set_option linter.unusedSimpArgs false in
set_option linter.unusedVariables false in
theorem owned_any (N : Nat) (w : World) (st : ByteArray) (x : Nat → Int) (ao : Option Addr) (b o cap : Nat) (pv : Nat → Value) (ns : List ND) (p : Nat) (base : Nat) (v : Value) (O : List Int) (h : NsAt N w ao b o pv ns) (hN : N ≤ w.heap.size) (hr : w.ownsRow base 3 1 v O.length (ints O)) (hl : (O.length : Int) = x 0) (h1 : 1 ≤ O.length) (h16 : O.length ≤ 16) (hf : O[0] = hm ns p) (hd : O.Pairwise (· ≠ ·)) (hO : ∀ i (h : i < O.length), ∃ j, ∃ hj : j < ns.length, O[i] = (j : Int) ∧ 0 < ns[j].ps.length) :
    Calls Tryz.prog 12 #[.agg (clA st x (.slice ao ns.length cap)), .int .i64 (p : Int), v] w fun e w' => e = .returned (.bool true) ∧ Below w.heap.size w w' := by
  obtain ⟨W0, hW0, hX⟩ := boxed st x cap h hN
  have HX := hide (hX.stand hN)
  have B0 := hide hX.bel
  obtain ⟨g, c, hv⟩ := own_some hr (by omega)
  subst hv
  have hlen := h.len
  have HR : Hid (∀ Y, Below W0.heap.size W0 Y → ∀ i (h : i < O.length), Y.cell? ⟨g, i, none⟩ = some (.int .i64 O[i])) := fun Y hY i hi => by
    have hb := hX.bel.trans (hY.mono hX.bel.size)
    rw [hb.cell (p := ⟨g, i, none⟩) (own_lt hr rfl).2, own_cell hr rfl hi]
  have HD := hide hd
  have HO := hide hO
  have HF := hide hf
  have HM : Hid (∀ Y, Below W0.heap.size W0 Y → Calls Tryz.prog 27 #[.agg (clA st x (.slice ao ns.length cap)), .int .i64 (p : Int)] Y fun e w' => e = .returned (.int .i64 (hm ns p)) ∧ Below Y.heap.size Y w') := fun Y hY => lhome_any N Y st x ao b o cap pv ns _ (HX.out.nd.below (hY.mono HX.out.le)) (Nat.le_trans HX.out.le hY.size)
  clear hX h hr hd hO hf
  go_enter Tryz.func12, Tryz.ntmps12
  go_upto_region 1 with fail
  rw [← hW0]
  clear hW0
  have BB := hide ((Below.refl W0.heap.size W0).drew)
  have CL : Hid (∀ Y, Below W0.heap.size W0 Y → ClAt Y w.heap.size st x (.slice ao ns.length cap)) := fun Y hY => HX.out.cl.below hY
  have HL := hide hl
  generalize hhm : hm ns p = hp at *
  clear hhm
  refine wp_region_held_drew (S := fun Y => Below W0.heap.size W0 Y) (by kernel_rfl) BB.out (fun hHeld => ?_)
  refine wpAnyH_take (i := 0) (v := (.slice (some ⟨g, 0, none⟩) O.length c)) rfl (by kernel_rfl) (by kernel_rfl) (by kernel_rfl) (fun _ _ _ h => h) (Or.inl ⟨by kernel_rfl, ?_⟩) (by assumption) ?_
  · intro w' hSw
    (try dsimp only at hSw)
    exact exec_move (.tmp 2) rfl (by kernel_rfl)
  (try simp only [Act.put, List.getElem_toArray, List.getElem_cons_zero, List.getElem_cons_succ, List.setIfInBounds_toArray, List.set_cons_zero, List.set_cons_succ])
  refine wpAnyH_take (i := 1) (v := (.int .i64 (O.length : Int))) rfl (by kernel_rfl) (by kernel_rfl) (by kernel_rfl) (fun _ _ _ h => h) (Or.inl ⟨by kernel_rfl, ?_⟩) (by assumption) ?_
  · intro w' hSw
    (try dsimp only at hSw)
    exact exec_len (ba := some ⟨g, 0, none⟩) (n := O.length) (c := c) (.tmp 9) rfl (Or.inr rfl) (by kernel_rfl)
  (try simp only [Act.put, List.getElem_toArray, List.getElem_cons_zero, List.getElem_cons_succ, List.setIfInBounds_toArray, List.set_cons_zero, List.set_cons_succ])
  refine wpAnyH_take (i := 2) (v := (.pointer (some ⟨w.heap.size, 1, none⟩))) rfl (by kernel_rfl) (by kernel_rfl) (by kernel_rfl) (fun _ _ _ h => h) (Or.inl ⟨by kernel_rfl, ?_⟩) (by assumption) ?_
  · intro w' hSw
    (try dsimp only at hSw)
    go_simp
  (try simp only [Act.put, List.getElem_toArray, List.getElem_cons_zero, List.getElem_cons_succ, List.setIfInBounds_toArray, List.set_cons_zero, List.set_cons_succ])
  refine wpAnyH_take (i := 3) (v := (.int .i64 (x 0))) rfl (by kernel_rfl) (by kernel_rfl) (by kernel_rfl) (fun _ _ _ h => h) (Or.inl ⟨by kernel_rfl, ?_⟩) (by assumption) ?_
  · intro w' hSw
    (try dsimp only at hSw)
    exact exec_ld (.tmp 11) rfl (Or.inl rfl) (by kernel_rfl) (CL.out _ hSw).x0
  (try simp only [Act.put, List.getElem_toArray, List.getElem_cons_zero, List.getElem_cons_succ, List.setIfInBounds_toArray, List.set_cons_zero, List.set_cons_succ])
  refine wpAnyH_take (i := 4) (v := (.bool false)) rfl (by kernel_rfl) (by kernel_rfl) (by kernel_rfl) (fun _ _ _ h => h) (Or.inl ⟨by kernel_rfl, ?_⟩) (by assumption) ?_
  · intro w' hSw
    (try dsimp only at hSw)
    exact exec_eqlF (a := (O.length : Int)) (b := x 0) (.tmp 10) (.tmp 12) rfl (by kernel_rfl) (by kernel_rfl) HL.out
  (try simp only [Act.put, List.getElem_toArray, List.getElem_cons_zero, List.getElem_cons_succ, List.setIfInBounds_toArray, List.set_cons_zero, List.set_cons_succ])
  refine wpAnyH_take (i := 5) (v := (.bool false)) rfl (by kernel_rfl) (by kernel_rfl) (by kernel_rfl) (fun _ _ _ h => h) (Or.inl ⟨by kernel_rfl, ?_⟩) (by assumption) ?_
  · intro w' hSw
    (try dsimp only at hSw)
    exact exec_move (.tmp 13) rfl (by kernel_rfl)
  (try simp only [Act.put, List.getElem_toArray, List.getElem_cons_zero, List.getElem_cons_succ, List.setIfInBounds_toArray, List.set_cons_zero, List.set_cons_succ])
  refine wpAnyH_take (i := 6) (v := (.slice (some ⟨g, 0, none⟩) O.length c)) rfl (by kernel_rfl) (by kernel_rfl) (by kernel_rfl) (fun _ _ _ h => h) (Or.inl ⟨by kernel_rfl, ?_⟩) (by assumption) ?_
  · intro w' hSw
    (try dsimp only at hSw)
    exact exec_move (.tmp 2) rfl (by kernel_rfl)
  (try simp only [Act.put, List.getElem_toArray, List.getElem_cons_zero, List.getElem_cons_succ, List.setIfInBounds_toArray, List.set_cons_zero, List.set_cons_succ])
  refine wpAnyH_take (i := 7) (v := (.pointer (some ⟨g, 0 + 0, none⟩))) rfl (by kernel_rfl) (by kernel_rfl) (by kernel_rfl) (fun _ _ _ h => h) (Or.inl ⟨by kernel_rfl, ?_⟩) (by assumption) ?_
  · intro w' hSw
    (try dsimp only at hSw)
    exact exec_ixI (n := O.length) (c := c) (q := 0) (.tmp 15) (.const (.int .i64 0)) rfl (by kernel_rfl) (by kernel_rfl) (by omega)
  (try simp only [Act.put, List.getElem_toArray, List.getElem_cons_zero, List.getElem_cons_succ, List.setIfInBounds_toArray, List.set_cons_zero, List.set_cons_succ])
  refine wpAnyH_take (i := 8) (v := (.int .i64 hp)) rfl (by kernel_rfl) (by kernel_rfl) (by kernel_rfl) (fun _ _ _ h => h) (Or.inl ⟨by kernel_rfl, ?_⟩) (by assumption) ?_
  · intro w' hSw
    (try dsimp only at hSw)
    (have q := HR.out _ hSw 0 (by omega); rw [HF.out] at q; exact exec_ld (b := g) (o := 0) (.tmp 16) rfl (Or.inl rfl) (by kernel_rfl) q)
  (try simp only [Act.put, List.getElem_toArray, List.getElem_cons_zero, List.getElem_cons_succ, List.setIfInBounds_toArray, List.set_cons_zero, List.set_cons_succ])
  refine wpAnyH_take (i := 9) (v := (.agg (clA st x (.slice ao ns.length cap)))) rfl (by kernel_rfl) (by kernel_rfl) (by kernel_rfl) (fun _ _ _ h => h) (Or.inl ⟨by kernel_rfl, ?_⟩) (by assumption) ?_
  · intro w' hSw
    (try dsimp only at hSw)
    exact exec_loadCl (.tmp 3) rfl (by kernel_rfl) (CL.out _ hSw)
  (try simp only [Act.put, List.getElem_toArray, List.getElem_cons_zero, List.getElem_cons_succ, List.setIfInBounds_toArray, List.set_cons_zero, List.set_cons_succ])
  refine wpAnyH_take (i := 10) (v := (.int .i64 (p : Int))) rfl (by kernel_rfl) (by kernel_rfl) (by kernel_rfl) (fun _ _ _ h => h) (Or.inl ⟨by kernel_rfl, ?_⟩) (by assumption) ?_
  · intro w' hSw
    (try dsimp only at hSw)
    exact exec_move (.tmp 1) rfl (by kernel_rfl)
  (try simp only [Act.put, List.getElem_toArray, List.getElem_cons_zero, List.getElem_cons_succ, List.setIfInBounds_toArray, List.set_cons_zero, List.set_cons_succ])
  refine wpAnyH_ready (rs := [11]) (by kernel_rfl) (by simp) ?_
  refine AllReadyH.cons rfl (fun K hK => ?_) AllReadyH.nil
  go_simp
  refine Calls.mono (HM.out _ BB.out) ?_
  rintro e W1 ⟨rfl, hb⟩
  have B1 : Hid (Below W0.heap.size W0 W1) := BB.out.trans (hb.mono BB.out.size)
  clear hb BB
  refine hK.out _ _ (B1.out) (fun hHeld => ?_)
  clear hK
  (try simp only [Act.put, List.setIfInBounds_toArray, List.set_cons_zero, List.set_cons_succ])
  refine wpAnyH_take (i := 12) (v := (.bool false)) rfl (by kernel_rfl) (by kernel_rfl) (by kernel_rfl) (fun _ _ _ h => h) (Or.inl ⟨by kernel_rfl, ?_⟩) (by assumption) ?_
  · intro w' hSw
    (try dsimp only at hSw)
    exact exec_neqi (n := hp) (.tmp 17) (.tmp 20) rfl (by kernel_rfl) (by kernel_rfl)
  (try simp only [Act.put, List.getElem_toArray, List.getElem_cons_zero, List.getElem_cons_succ, List.setIfInBounds_toArray, List.set_cons_zero, List.set_cons_succ])
  refine wpAnyH_take (i := 13) (v := (.bool false)) rfl (by kernel_rfl) (by kernel_rfl) (by kernel_rfl) (fun _ _ _ h => h) (Or.inl ⟨by kernel_rfl, ?_⟩) (by assumption) ?_
  · intro w' hSw
    (try dsimp only at hSw)
    exact exec_pickf (.tmp 14) (.const (.bool true)) (.tmp 21) rfl (by kernel_rfl) (by kernel_rfl)
  (try simp only [Act.put, List.getElem_toArray, List.getElem_cons_zero, List.getElem_cons_succ, List.setIfInBounds_toArray, List.set_cons_zero, List.set_cons_succ])
  refine wpAnyH_done (by kernel_rfl) ?_ _
  clear hHeld hl
  go_wp2_with fail
  go_loopw [7] (fun vi wr => ∃ (i : Nat), i ≤ O.length ∧ vi = .int .i64 (i : Int) ∧ Hid (Below W0.heap.size W0 wr)) (fun vi _ => O.length - (intOf vi).toNat)
  case atStart => exact ⟨0, Nat.zero_le _, rfl, B1⟩
  case round =>
    clear B1
    obtain ⟨i, hi, rfl, HB⟩ := hrel
    by_cases hil : i < O.length
    case neg =>
      obtain rfl : i = O.length := by omega
      go_wp2_with fail
      go_ret
      exact ⟨rfl, B0.out.trans (HB.out.mono B0.out.size)⟩
    case pos =>
      have hii : (i : Int) < (O.length : Int) := by omega
      obtain ⟨j, hj, e1, e2⟩ := HO.out i hil
      have hao := HX.out.nd.at0 (by omega)
      subst hao
      have nw := HX.out.nd.below (HB.out.mono HX.out.le)
      obtain ⟨pa, pb, po, pc, hpv, _⟩ := nw.ps j hj
      have c2 := nw.cp j hj
      rw [hpv] at c2
      have c1 := HR.out _ HB.out i hil
      rw [e1] at c1
      have nvw := (CL.out _ HB.out).nv
      have hjn : (j : Int) < (ns.length : Int) := by omega
      have hj0 : ¬ (ns.length : Int) ≤ (j : Int) := by omega
      have hj1 : ¬ (j : Int) < 0 := by omega
      have hpp : ¬ ((ns[j].ps.length : Int) = 0) := by omega
      generalize ns[j].ps.length = pl at *
      clear nw hpv e2
      go_upto_region 6 with fail
      go_quiet (fail)
      have HB2 := hide (HB.out.trans (c := wr.drewN nq) ⟨rfl, rfl, rfl, Nat.le_refl _, fun _ _ => rfl⟩)
      generalize wr.drewN nq = W3 at *
      clear c1 c2 nvw HB
      have HE1 := hide e1
      go_wp2_with fail
      go_loopw [8] (fun vj wq => ∃ (k : Nat), k ≤ i ∧ vj = .int .i64 (k : Int) ∧ Hid (Below W0.heap.size W0 wq)) (fun vj _ => i - (intOf vj).toNat)
      case atStart => exact ⟨0, Nat.zero_le _, rfl, HB2⟩
      case round =>
        clear HB2
        obtain ⟨k, hk, rfl, HB⟩ := hrel
        by_cases hkl : k < i
        case neg =>
          obtain rfl : k = i := by omega
          go_wp2_with fail
          go_roundw
          case rel => exact ⟨k + 1, by omega, by go_num, HB⟩
          case measure => simp [intOf]; omega
        case pos =>
          have hki : (k : Int) < (i : Int) := by omega
          have hkn : (k : Int) < (O.length : Int) := by omega
          have c1 := HR.out _ HB.out i hil
          have c2 := HR.out _ HB.out k (by omega)
          have hne : ¬ O[i] = O[k] := fun e => (List.pairwise_iff_getElem.1 HD.out k i (by omega) hil hkl) e.symm
          generalize O[i] = vi at *
          generalize O[k] = vk at *
          go_upto_region 11 with fail
          go_quiet (fail)
          have HB2 := hide (HB.out.trans (c := wr.drewN nq) ⟨rfl, rfl, rfl, Nat.le_refl _, fun _ _ => rfl⟩)
          generalize wr.drewN nq = W4 at *
          clear c1 c2 HB
          go_wp2_with fail
          go_roundw
          case rel => exact ⟨k + 1, by omega, by go_num, HB2⟩
          case measure => simp [intOf]; omega
end Go.Proofs.YtioiphonajinmaaGreatDoor
