import Derived.Test.YteiiolilpemimaaDoorGAeKeep
import Derived.Test.YteiiolilpemimaaDoorGGkDoc
import Derived.Test.YteiiolilpemimaaDoorGGmTake
import Derived.Test.YteiiolilpemimaaDoorGCaBase
namespace Go.Proofs.YteiiolilpemimaaDoor.Cn
open Go.RowKit
theorem ss_infos : (Tryd.prog.info? 26).map (fun i => (i.zero, i.size, i.bytes)) = some (some (.slice none 0 0), 1, 24) := by kernel_rfl
/-- append(lists, list) -/
theorem wpList_apSS {w : World} {ops : Array Oper} {rest : List Oper} {o : Oper} {a : Act} {Q : Exit → Act → World → Prop} (hgd : o.guard = none) (x y : Operand) (ho : o.op = .call { callee := .builtin .append, args := #[x, y], argTypes := #[37, 37] }) (base : Nat) (v : Value) (n : Nat) (L : List Value) (hx : a.eval x = v) (hv : w.ownsRow base 26 1 v n L) (g : Nat) (m : Value) (h1 : m.oneCell' = true) (hy : a.eval y = .slice (some ⟨g, 0, none⟩) 1 1) (hg : w.heap[g]? = some (.cells #[m] 26)) (hl : n ≤ 1000) (hb : base ≤ w.heap.size)
    (h : ∀ v' w', w'.ownsRow base 26 1 v' (n + 1) (L ++ [m]) → w.grownBy w' v.ownBlock → wpList Tryd.prog ops Q rest (a.put o.dst v') w') : wpList Tryd.prog ops Q (o :: rest) a w := by
  obtain ⟨i0, hi, hz0, hz1, hz2⟩ := info_parts ss_infos
  refine wpList_append_own_at _ hgd _ _ 37 ho base 26 i0 _ 1 24 Tryd.underlying37 hi hz0 hz1 hz2 rfl (by decide) _ _ _ hx hv ⟨g, 0, none⟩ 1 1 [m] hy rfl ?_ (by intro u hu; rw [List.mem_singleton.1 hu]; exact h1) (by unfold maxLen; omega) (by omega) hb ?_
  · intro j u hj
    rw [Addr.add_mid, Nat.zero_add, cell_row hg]
    simpa using hj
  · intro v' w' a1 a2 _ _
    exact h v' w' a1 a2
def ptsL (l : List (Nat × Nat)) : List Int := l.map fun s => (s.1 : Int)
def LsAt (W : World) (st : ByteArray) (x : Nat → Int) (ns : List ND) (vs : List Value) : Prop := ∀ (j : Nat) (u : Value), vs[j]? = some u → W.ownsRow 0 3 1 u (ptsL (hdS st x ns (j : Int))).length (ints (ptsL (hdS st x ns (j : Int))))
theorem LsAt.kp {W W' : World} {st : ByteArray} {x : Nat → Int} {ns : List ND} {vs : List Value} {S : Nat → Prop} (h : LsAt W st x ns vs) (hk : Kp W W' S) (hS : ∀ k cur, W.heap[k]? = some (.cells cur 3 (0, 0)) → ¬ S k) : LsAt W' st x ns vs := fun j u hj => own_kp (h j u hj) hk (fun k e => by
  obtain ⟨cur, hc⟩ := own_typ (h j u hj) e
  exact hS k cur hc)
set_option maxHeartbeats 16000000 in
set_option maxRecDepth 100000 in
set_option linter.unusedSimpArgs false in
set_option linter.unusedVariables false in
theorem lists_a (N : Nat) (w : World) (st : ByteArray) (x : Nat → Int) (ao : Option Addr) (b o cap : Nat) (pv : Nat → Value) (ns : List ND) (h : NsAt N w ao b o pv ns) (hN : N ≤ w.heap.size) (hs : st.size ≤ 9223372036854775807) (he : errP st x ns = 0) (hT : TabG w) :
    Calls Tryd.prog 11 #[.agg (clA st x (.slice ao ns.length cap))] w fun e w' => ∃ u vs, e = .returned u ∧ w'.ownsRow w.heap.size 26 1 u ns.length vs ∧ LsAt w' st x ns vs ∧ Below w.heap.size w w' := by
  have zn := nfP_len (errP_ok he).2
  have hln : Hid (∀ j : Nat, (hdS st x ns (j : Int)).length ≤ 64) := fun j => by
    unfold hdS
    split
    · exact Nat.le_trans (hdL_len _ _ _ _) (errP_all he).2.2.2.1.p2
    · simp
  obtain ⟨W0, hW0, hX⟩ := boxed st x cap h hN
  have HX := hide (hX.stand hN)
  have B0 := hide hX.bel
  have T0 := hide (hT.below hX.bel)
  obtain ⟨cn, hcn⟩ : ∃ cn, cn = ns.length := ⟨_, rfl⟩
  have HCN := hide hcn
  have nv := HX.out.cl.nv
  rw [← hcn] at zn
  have GR : Hid (∀ W, Stand N w.heap.size W st x ao b o cap pv ns → W.cell? ⟨w.heap.size, 22, none⟩ = some (.slice ao cn cap)) := fun W hW => by rw [hcn]; exact hW.cl.nv
  rw [← hcn]
  have TGL : Hid (0 < w.heap.size) := hT.lt
  clear hX h hcn nv hT
  go_enter Tryd.func11, Tryd.ntmps11
  rw [HCN.out]
  go_upto_region 1 with fail
  rw [← hW0, ← HCN.out]
  clear hW0
  go_wp2_with fail
  go_loopw [3, 4] (fun v3 vi wr => ∃ i : Nat, i ≤ cn ∧ vi = .int .i64 (i : Int) ∧ ∃ vs, Hid (wr.ownsRow w.heap.size 26 1 v3 i vs) ∧ Hid (LsAt wr st x ns vs ∧ vs.length = i) ∧ Hid (Stand N w.heap.size wr st x ao b o cap pv ns) ∧ Hid (Below w.heap.size w wr) ∧ Hid (TabG wr)) (fun _ vi _ => cn - (intOf vi).toNat)
  case atStart => exact ⟨0, Nat.zero_le _, rfl, [], World.ownsRow_nil _ _ _ _, ⟨fun j u hj => by simp at hj, rfl⟩, HX.out, B0.out, T0.out⟩
  case round =>
    obtain ⟨i, hi, rfl, vs, HO, HV, HX, HB, HT⟩ := hrel
    have nv := GR.out wr HX.out
    by_cases hin : i < cn
    case neg =>
      obtain rfl : i = cn := by omega
      go_wp2_with fail
      go_ret
      exact ⟨_, vs, rfl, by rw [← HCN.out]; exact HO.out, HV.out.1, HB.out⟩
    case pos =>
      have hii : (i : Int) < (cn : Int) := by omega
      have HD := hide (rholds_any N wr st x ao b o cap pv ns (i : Int) HX.out.nd HX.out.le hs HT.out)
      have e0 : hdE st x ns (i : Int) = 0 := hdE_ok he (by have := HCN.out; omega)
      rw [e0] at HD
      have hl64 := hln.out i
      obtain ⟨hd, hhd⟩ : ∃ hd, hd = hdS st x ns (i : Int) := ⟨_, rfl⟩
      rw [← hhd] at HD hl64
      have HHD := hide hhd
      clear e0 hhd
      go_upto_region 5 with fail
      clear nv
      go_wp2_with (refine YteiiolilpemimaaDoor.wpList_loadCl rfl (.tmp 1) rfl w.heap.size st x _ rfl HX.out.cl ?_)
      refine Calls.mono HD.out ?_
      rintro e W3 ⟨sv, rfl, so, b3⟩
      obtain ⟨sa, sc, rfl⟩ := own_sl so
      have SO := hide so
      have X3 := hide (HX.out.below b3)
      have B3 := hide (HB.out.trans (b3.mono HB.out.size))
      have T3 := hide (HT.out.below b3)
      have k3 : Kp wr W3 non := Kp.of_below b3 non
      have O3 : Hid (W3.ownsRow w.heap.size 26 1 u3 i vs) := own_kp HO.out k3 (fun _ _ f => f)
      have V3 : Hid (LsAt W3 st x ns vs) := HV.out.1.kp k3 (fun _ _ _ f => f)
      obtain ⟨sn, hsn⟩ : ∃ sn, sn = hd.length := ⟨_, rfl⟩
      rw [← hsn] at SO hl64 ⊢
      have HSN := hide hsn
      clear so b3 k3 HD hsn
      go_wp2_with fail
      go_loopw [7, 8] (fun v7 vj wx => ∃ j : Nat, j ≤ sn ∧ vj = .int .i64 (j : Int) ∧ Hid (wx.ownsRow W3.heap.size 3 1 v7 j (ints (ptsL (hd.take j)))) ∧ Hid (Below W3.heap.size W3 wx)) (fun _ vj _ => sn - (intOf vj).toNat)
      case atStart => exact ⟨0, Nat.zero_le _, rfl, World.ownsRow_nil _ _ _ _, Below.refl _ _⟩
      case round =>
        obtain ⟨j, hj, rfl, HP, HBJ⟩ := hrel
        by_cases hjn : j < sn
        case neg =>
          obtain rfl : j = sn := by omega
          obtain ⟨pa, pc, hp7⟩ := own_sl HP.out
          subst hp7
          have BJ := hide (B3.out.trans (HBJ.out.mono B3.out.size))
          have kj : Kp W3 wr non := Kp.of_below HBJ.out non
          have OJ : Hid (wr.ownsRow w.heap.size 26 1 u3 i vs) := own_kp O3.out kj (fun _ _ f => f)
          have VJ : Hid (LsAt wr st x ns vs) := V3.out.kp kj (fun _ _ _ f => f)
          have PJ : Hid (wr.ownsRow 0 3 1 (.slice pa j pc) (ptsL hd).length (ints (ptsL hd))) := by
            have z := HP.out
            rw [List.take_of_length_le (by rw [HSN.out]; exact Nat.le_refl _)] at z
            have e : (ptsL hd).length = j := by unfold ptsL; rw [List.length_map, HSN.out]
            rw [e]
            exact own_base z (Nat.zero_le _)
          have XJ := hide (X3.out.below HBJ.out)
          have TJ := hide (T3.out.below HBJ.out)
          have ONE : Hid ((Value.slice pa j pc).oneCell' = true) := rfl
          clear kj
          obtain ⟨WA, hWA⟩ : ∃ WA, WA = wr.alloc (.cells #[(.slice pa j pc)] 26) := ⟨_, rfl⟩
          have ka : Kp wr WA non := by rw [hWA]; exact (Kp.refl wr non).alloc _
          have GA : Hid (WA.heap[wr.heap.size]? = some (.cells #[(.slice pa j pc)] 26)) := by rw [hWA]; exact heap_last _ _
          have OA : Hid (WA.ownsRow w.heap.size 26 1 u3 i vs) := own_kp OJ.out ka (fun _ _ f => f)
          have SZ : Hid (w.heap.size ≤ WA.heap.size) := Nat.le_trans BJ.out.size ka.size
          have KA := hide ka
          clear ka
          go_wp2_with (at_builtin; rw [← hWA]; refine wpList_apSS rfl (.tmp 36) (.tmp 38) rfl w.heap.size _ i vs rfl OA.out wr.heap.size (.slice pa j pc) ONE.out rfl GA.out (by omega) SZ.out ?_; intro v' w3 o2 g2)
          have k9 : Kp wr w3 (fun b => some b = u3.ownBlock) := (KA.out.mono (T := fun b => some b = u3.ownBlock) (fun _ f => f.elim)).trans (Kp.of_grown g2) (fun _ e => Or.inl e)
          have off3 : ∀ k cur, wr.heap[k]? = some (.cells cur 3 (0, 0)) → ¬ some k = u3.ownBlock := fun k cur hc e => by
            obtain ⟨cur', hc'⟩ := own_typ OJ.out e.symm
            rw [hc] at hc'
            simp at hc'
          have V9 : Hid (LsAt w3 st x ns (vs ++ [Value.slice pa j pc]) ∧ (vs ++ [Value.slice pa j pc]).length = i + 1) := by
            refine ⟨fun m u hm => ?_, by rw [List.length_append, HV.out.2]; rfl⟩
            by_cases hml : m < vs.length
            · rw [List.getElem?_append_left hml] at hm
              exact (VJ.out.kp k9 off3) m u hm
            · rw [List.getElem?_append_right (by omega)] at hm
              have hm2 : m = i := by
                have := (List.getElem?_eq_some_iff.1 hm).1
                simp at this
                have := HV.out.2
                omega
              subst hm2
              rw [HV.out.2, Nat.sub_self] at hm
              obtain rfl : (Value.slice pa j pc) = u := by simpa using hm
              rw [← HHD.out]
              exact own_kp PJ.out k9 (fun k hk e => by
                obtain ⟨cur, hc⟩ := own_typ PJ.out hk
                exact off3 k cur hc e)
          have L9 : ∀ k, some k = u3.ownBlock → w.heap.size ≤ k := fun k e => own_ge OJ.out e.symm
          have B9 : Hid (Below w.heap.size w w3) := BJ.out.trans ⟨k9.os, k9.tape, k9.output, k9.size, fun k hk => k9.block k (Nat.lt_of_lt_of_le hk BJ.out.size) (fun e => by have := L9 k e; omega)⟩
          have X9 : Hid (Stand N w.heap.size w3 st x ao b o cap pv ns) := by
            refine ⟨(k9.block _ (blk_lt XJ.out.cl) (fun e => ?_)).trans XJ.out.cl, XJ.out.nd.below ⟨k9.os, k9.tape, k9.output, k9.size, fun k hk => k9.block k (Nat.lt_of_lt_of_le hk XJ.out.le) (fun e => by have := L9 k e; omega)⟩, Nat.le_trans XJ.out.le k9.size⟩
            obtain ⟨cur', hc'⟩ := own_typ OJ.out e.symm
            have z : wr.heap[w.heap.size]? = _ := XJ.out.cl
            rw [z] at hc'
            simp at hc'
          have T9 : Hid (TabG w3) := fun m hm => (k9.cell TJ.out.lt (fun e => by have := L9 _ e; have := TGL.out; omega)).trans (TJ.out m hm)
          have O9 := hide o2
          clear o2 g2 k9 off3 L9 hWA
          go_roundw
          case rel => exact ⟨i + 1, by omega, by go_num, vs ++ [Value.slice pa j pc], O9.out, V9.out, X9.out, B9.out, T9.out⟩
          case measure => simp [intOf]; omega
        case pos =>
          have hjj : (j : Int) < (sn : Int) := by omega
          have hjl : j < hd.length := by rw [← HSN.out]; exact hjn
          have kj : Kp W3 wr non := Kp.of_below HBJ.out non
          obtain ⟨g, c9, e9, q9, -⟩ := own_at (own_kp SO.out kj (fun _ _ f => f)) (slc_at hd j hjl).1
          injection e9 with e9 _ _
          subst e9
          have TK : Hid (ptsL (hd.take (j + 1)) = ptsL (hd.take j) ++ [(hd[j].1 : Int)]) := by
            unfold Hid ptsL
            rw [List.take_succ_eq_append_getElem hjl, List.map_append]
            rfl
          obtain ⟨z, hz⟩ : ∃ z : Int, z = (hd[j].1 : Int) := ⟨_, rfl⟩
          rw [← hz] at q9 TK
          obtain ⟨WA, hWA⟩ : ∃ WA, WA = wr.alloc (.cells #[.int .i64 z] 3) := ⟨_, rfl⟩
          have ka : Kp wr WA non := by rw [hWA]; exact (Kp.refl wr non).alloc _
          have GA : Hid (WA.heap[wr.heap.size]? = some (.cells #[.int .i64 z] 3)) := by rw [hWA]; exact heap_last _ _
          have OA : Hid (WA.ownsRow W3.heap.size 3 1 u7 j (ints (ptsL (hd.take j)))) := own_kp HP.out ka (fun _ _ f => f)
          have SZ : Hid (W3.heap.size ≤ WA.heap.size) := Nat.le_trans HBJ.out.size ka.size
          have KA := hide ka
          clear ka kj hz
          go_wp2_with (at_builtin; rw [← hWA]; refine wpList_apIB rfl (.tmp 28) (.tmp 34) rfl W3.heap.size _ j (ptsL (hd.take j)) rfl OA.out wr.heap.size z rfl GA.out (by omega) SZ.out ?_; intro v' w3 o2 g2 _)
          have B9 : Hid (Below W3.heap.size W3 w3) := by
            have k9 : Kp wr w3 (fun b => some b = u7.ownBlock) := (KA.out.mono (T := fun b => some b = u7.ownBlock) (fun _ f => f.elim)).trans (Kp.of_grown g2) (fun _ e => Or.inl e)
            exact HBJ.out.trans ⟨k9.os, k9.tape, k9.output, k9.size, fun k hk => k9.block k (Nat.lt_of_lt_of_le hk HBJ.out.size) (fun e => by have := own_ge HP.out e.symm; omega)⟩
          have O9 : Hid (w3.ownsRow W3.heap.size 3 1 v' (j + 1) (ints (ptsL (hd.take (j + 1))))) := by rw [TK.out]; exact o2
          clear o2 g2 hWA
          go_roundw
          case rel => exact ⟨j + 1, by omega, by go_num, O9.out, B9.out⟩
          case measure => simp [intOf]; omega
end Go.Proofs.YteiiolilpemimaaDoor.Cn
namespace Go.Proofs.YteiiolilpemimaaDoor
theorem wkL_first {ns : List ND} {P f : Nat} (hf : f < P) : ∃ t, wkL ns P f P = f :: t := by
  obtain ⟨r, hr⟩ := wkL_pre ns P f 1 (P - 1)
  rw [show 1 + (P - 1) = P by omega] at hr
  have h1 : wkL ns P f 1 = [f] := by
    rw [show (1 : Nat) = 0 + 1 from rfl, wkL_yes (by simp [frsh])]
    simp [wkL, plc, Nat.mod_eq_of_lt hf]
  exact ⟨r, by rw [hr, h1]; rfl⟩
theorem wk_first {x : Nat → Int} {ns : List ND} {p : Nat} (hp : p < ptN ns) (h0 : 1 ≤ x 0) : ∃ t, wk x ns (p : Int) = p :: t := by
  obtain ⟨t, ht⟩ := wkL_first (ns := ns) hp
  obtain ⟨m, hm⟩ : ∃ m, (x 0).toNat = m + 1 := ⟨(x 0).toNat - 1, by omega⟩
  exact ⟨t.take m, by unfold wk wkR; rw [show ((p : Nat) : Int).toNat = p from rfl, ht, hm]; rfl⟩
theorem hm_in {ns : List ND} (hd : Dealt ns) {k : Nat} (hk : k < ptN ns) : ∃ i, ∃ h : i < ns.length, hm ns k = (i : Int) ∧ (k : Int) ∈ ns[i].ps := by
  have h1 := hd.once k hk
  have h2 : (k : Int) ∈ flat ns := cntI_mem.1 (by omega)
  unfold flat at h2
  obtain ⟨n, hn, hkn⟩ := List.mem_flatMap.1 h2
  obtain ⟨i, hi, rfl⟩ := List.getElem_of_mem hn
  exact ⟨i, hi, ownF_mem hd hi hkn, hkn⟩
end Go.Proofs.YteiiolilpemimaaDoor
namespace Go.Proofs.YteiiolilpemimaaDoor.Cn
open Go.RowKit
/-- the nodes among the first i that hold something -/
noncomputable def hldL (st : ByteArray) (x : Nat → Int) (ns : List ND) : Nat → List Int
  | 0 => []
  | i + 1 => if (hdS st x ns (i : Int)).length = 0 then hldL st x ns i else hldL st x ns i ++ [(i : Int)]
theorem hldL_len (st : ByteArray) (x : Nat → Int) (ns : List ND) (i : Nat) : (hldL st x ns i).length ≤ i := by
  induction i with
  | zero => simp [hldL]
  | succ i ih =>
    unfold hldL
    split
    · omega
    · rw [List.length_append]; simp; omega
set_option maxHeartbeats 16000000 in
set_option maxRecDepth 100000 in
set_option linter.unusedSimpArgs false in
set_option linter.unusedVariables false in
theorem holders_a (N : Nat) (w : World) (st : ByteArray) (x : Nat → Int) (ao : Option Addr) (b o cap : Nat) (pv : Nat → Value) (ns : List ND) (h : NsAt N w ao b o pv ns) (hN : N ≤ w.heap.size) (hs : st.size ≤ 9223372036854775807) (he : errP st x ns = 0) (hT : TabG w) :
    Calls Tryd.prog 22 #[.agg (clA st x (.slice ao ns.length cap))] w fun e w' => ∃ u, e = .returned u ∧ w'.ownsRow w.heap.size 3 1 u (hldL st x ns ns.length).length (ints (hldL st x ns ns.length)) ∧ Below w.heap.size w w' := by
  have zn := nfP_len (errP_ok he).2
  obtain ⟨W0, hW0, hX⟩ := boxed st x cap h hN
  have HX := hide (hX.stand hN)
  have B0 := hide hX.bel
  have LS := hide (lists_a N W0 st x ao b o cap pv ns HX.out.nd HX.out.le hs he (hT.below hX.bel))
  clear hX h hT
  obtain ⟨cn, hcn⟩ : ∃ cn, cn = ns.length := ⟨_, rfl⟩
  have HCN := hide hcn
  rw [← hcn] at zn
  go_enter Tryd.func22, Tryd.ntmps22
  go_upto_region 1 with fail
  rw [← hW0]
  clear hW0
  go_wp2_with (refine YteiiolilpemimaaDoor.wpList_loadCl rfl (.tmp 1) rfl w.heap.size st x _ rfl HX.out.cl ?_)
  refine Calls.mono LS.out ?_
  rintro e W1 ⟨u1, vs, rfl, o1, l1, b1⟩
  obtain ⟨la, lc, rfl⟩ := own_sl o1
  have O1 : Hid (W1.ownsRow 0 26 1 (.slice la cn lc) cn vs) := by rw [hcn]; exact own_base o1 (Nat.zero_le _)
  have L1 := hide l1
  have B1 := hide (B0.out.trans (b1.mono B0.out.size))
  rw [← hcn]
  clear o1 l1 b1 LS B0 HX hcn
  go_wp2_with fail
  go_loopw [3, 5] (fun v3 vi wr => ∃ i : Nat, i ≤ cn ∧ vi = .int .i64 (i : Int) ∧ Hid (wr.ownsRow W1.heap.size 3 1 v3 (hldL st x ns i).length (ints (hldL st x ns i))) ∧ Hid (Below W1.heap.size W1 wr)) (fun _ vi _ => cn - (intOf vi).toNat)
  case atStart => exact ⟨0, Nat.zero_le _, rfl, World.ownsRow_nil _ _ _ _, Below.refl _ _⟩
  case round =>
    obtain ⟨i, hi, rfl, HO, HB⟩ := hrel
    by_cases hin : i < cn
    case neg =>
      obtain rfl : i = cn := by omega
      go_wp2_with fail
      go_ret
      exact ⟨_, rfl, by rw [← HCN.out]; exact own_base HO.out B1.out.size, B1.out.trans (HB.out.mono B1.out.size)⟩
    case pos =>
      have hii : (i : Int) < (cn : Int) := by omega
      have hiv : i < vs.length := by have := O1.out.1; omega
      have kb : Kp W1 wr non := Kp.of_below HB.out non
      obtain ⟨g, c9, e9, q9, -⟩ := own_at (own_kp O1.out kb (fun _ _ f => f)) (List.getElem?_eq_getElem hiv)
      injection e9 with e9 _ _
      subst e9
      have ov := L1.out i vs[i] (List.getElem?_eq_getElem hiv)
      obtain ⟨pa, pc, hpv⟩ := own_sl ov
      rw [hpv] at q9
      have el : (ptsL (hdS st x ns (i : Int))).length = (hdS st x ns (i : Int)).length := by unfold ptsL; rw [List.length_map]
      rw [el] at q9
      have HS : Hid (hldL st x ns (i + 1) = if (hdS st x ns (i : Int)).length = 0 then hldL st x ns i else hldL st x ns i ++ [(i : Int)]) := rfl
      have hlen := hldL_len st x ns i
      clear ov hpv el kb
      obtain ⟨dn, hdn⟩ : ∃ dn, dn = (hdS st x ns (i : Int)).length := ⟨_, rfl⟩
      rw [← hdn] at q9 HS
      clear hdn
      by_cases hd : dn = 0
      case pos =>
        subst hd
        go_wp2_with fail
        go_roundw
        case rel => exact ⟨i + 1, by omega, by go_num, by rw [HS.out, if_pos rfl]; exact HO.out, HB.out⟩
        case measure => simp [intOf]; omega
      case neg =>
        have hdi : (0 : Int) < (dn : Int) := by omega
        have HS2 : Hid (hldL st x ns (i + 1) = hldL st x ns i ++ [(i : Int)]) := by show _ = _; rw [HS.out, if_neg hd]
        obtain ⟨ln, hln⟩ : ∃ ln, ln = hldL st x ns i := ⟨_, rfl⟩
        rw [← hln] at HO HS2 hlen
        clear hln HS
        have G1 : Hid ((wr.alloc (.cells #[.int .i64 (i : Int)] 3)).heap[wr.heap.size]? = some (.cells #[.int .i64 (i : Int)] 3)) := heap_last _ _
        have OA : Hid ((wr.alloc (.cells #[.int .i64 (i : Int)] 3)).ownsRow W1.heap.size 3 1 u3 ln.length (ints ln)) := own_kp HO.out ((Kp.refl wr non).alloc _) (fun _ _ f => f)
        have SZ : Hid (W1.heap.size ≤ wr.heap.size) := HB.out.size
        go_wp2_with (at_builtin; refine wpList_apI rfl (.tmp 20) (.tmp 22) rfl W1.heap.size _ ln rfl OA.out wr.heap.size (i : Int) rfl G1.out (by omega) (by have := SZ.out; rw [World.size_alloc]; omega) ?_; intro v' w3 o2 g2)
        have B9 : Hid (Below W1.heap.size W1 w3) := by
          have k9 : Kp wr w3 (fun b => some b = u3.ownBlock) := ((Kp.refl wr (fun b => some b = u3.ownBlock)).alloc _).trans (Kp.of_grown g2) (fun _ e => Or.inl e)
          exact HB.out.trans ⟨k9.os, k9.tape, k9.output, k9.size, fun k hk => k9.block k (Nat.lt_of_lt_of_le hk HB.out.size) (fun e => by have := own_ge HO.out e.symm; omega)⟩
        have O9 := hide o2
        clear o2 g2
        go_roundw
        case rel => exact ⟨i + 1, by omega, by go_num, by rw [HS2.out, List.length_append]; exact O9.out, B9.out⟩
        case measure => simp [intOf]; omega
/-- some node holds something -/
theorem some_holds {st : ByteArray} {x : Nat → Int} {ns : List ND} (he : errP st x ns = 0) : ∃ j, j < ns.length ∧ hdS st x ns (j : Int) ≠ [] := by
  obtain ⟨a1, a2, a3, a4, a5, a6⟩ := errP_all he
  have l0 : 1 ≤ x 0 ∧ x 0 ≤ 16 := sfP_lim a2 0 (by omega)
  have p1 : 0 < ptN ns := a4.p1
  obtain ⟨t, ht⟩ := wk_first (x := x) (ns := ns) (p := 0) p1 l0.1
  obtain ⟨i, hi, e, _⟩ := hm_in a4 (k := 0) p1
  refine ⟨i, hi, fun hn => ?_⟩
  rw [hdS_ok (hdE_ok he (by omega))] at hn
  unfold hdL at hn
  rw [List.flatMap_eq_nil_iff] at hn
  have z := hn 0 (List.mem_range.2 p1)
  rw [show ((0 : Nat) : Int) = 0 from rfl] at ht
  rw [show ((0 : Nat) : Int) = 0 from rfl, ht] at z
  unfold owL at z
  rw [List.map_cons] at z
  unfold hdF at z
  rw [if_pos e] at z
  simp at z
end Go.Proofs.YteiiolilpemimaaDoor.Cn
namespace Go.Proofs.YteiiolilpemimaaDoor.Cn
open Go.RowKit
theorem df_none {n : Nat} {DL : List Int} (h : DfL [] n DL) : DL = [] := by
  obtain ⟨D, _, h2, rfl⟩ := h.ex
  have : D = [] := List.eq_nil_iff_forall_not_mem.2 (fun p hp => by
    obtain ⟨a, ha, _⟩ := (h2 p).1 hp
    simp at ha)
  rw [this]
  simp [srtI]
theorem pick_hold {st : ByteArray} {x : Nat → Int} {ns : List ND} {v : Au} (hsl : ∀ (j : Nat) (k : Ho), v.hs[j]? = some k → k.sl = hdS st x ns (j : Int)) (ha : ∀ k ∈ v.hs, (k.sl = [] → k.stt = 0) ∧ (k.sl ≠ [] → k.stt = 2)) : ∀ i, i ≤ v.hs.length → pickL (fun h => h.stt == 2) v.hs i = hldL st x ns i
  | 0, _ => rfl
  | i + 1, hi => by
    have hk := List.getElem?_eq_getElem (l := v.hs) (i := i) (by omega)
    have e := hsl i _ hk
    obtain ⟨a1, a2⟩ := ha _ (List.mem_of_getElem? hk)
    rw [pickL_succ _ _ _ (by omega)]
    unfold hldL
    rw [pick_hold hsl ha i (by omega), ← e]
    by_cases h0 : v.hs[i].sl = []
    · rw [if_neg (by rw [a1 h0]; decide), if_pos (by rw [h0]; rfl)]
    · rw [if_pos (by rw [a2 h0]; decide), if_neg (fun q => h0 (List.length_eq_zero_iff.1 q))]
theorem hld_pos {st : ByteArray} {x : Nat → Int} {ns : List ND} {i j : Nat} (hj : j < i) (h : hdS st x ns (j : Int) ≠ []) : 0 < (hldL st x ns i).length := by
  induction i with
  | zero => omega
  | succ i ih =>
    unfold hldL
    by_cases e : j = i
    · subst e
      rw [if_neg (fun q => h (List.length_eq_zero_iff.1 q)), List.length_append]
      simp
    · have := ih (by omega)
      split
      · exact this
      · rw [List.length_append]; omega
/-- what the report of an audit that nobody answered says -/
theorem end_rep {st : ByteArray} {x : Nat → Int} {ns : List ND} {n i : Nat} {v : Au} {num : Int} (kd : Kd st x ns n i v) (he : Endd n num [] v) (ha : ∀ k ∈ v.hs, (k.sl = [] → k.stt = 0) ∧ (k.sl ≠ [] → k.stt = 2)) (hj : ∃ j, j < ns.length ∧ hdS st x ns (j : Int) ≠ []) : v.dl = [] ∧ v.ml = hldL st x ns ns.length ∧ v.jo = 3 := by
  obtain ⟨DL, hd, e1, e2⟩ := he.df
  have e3 := df_none hd
  have em : misL v = hldL st x ns ns.length := by
    unfold misL
    rw [pick_hold kd.sl ha _ (Nat.le_refl _), kd.len]
  obtain ⟨j, hj1, hj2⟩ := hj
  have hp := hld_pos hj1 hj2
  refine ⟨by rw [e1, e3], by rw [he.ml, em], ?_⟩
  rw [e2, e3, em]
  unfold outO
  rw [if_neg (by simp), if_pos hp]
/-- the last loop of the law -/
def F3 (n mm : Nat) (num : Int) (k : Nat) (v : Au) : Prop := (k < mm → Un v ((mm : Int) - (k : Int)) ∧ v.told = [] ∧ v.num = num) ∧ (k = mm → Endd n num [] v ∧ ∀ k' ∈ v.hs, (k'.sl = [] → k'.stt = 0) ∧ (k'.sl ≠ [] → k'.stt = 2))
theorem un_at {st : ByteArray} {x : Nat → Int} {ns : List ND} {n i : Nat} {v : Au} {M : Int} (kd : Kd st x ns n i v) (hu : Un v M) (hj : ∃ j, j < ns.length ∧ hdS st x ns (j : Int) ≠ []) : busyL v.hs = true := by
  obtain ⟨j, h1, h2⟩ := hj
  have hk := List.getElem?_eq_getElem (l := v.hs) (i := j) (by rw [kd.len]; exact h1)
  exact un_busy hu hk (by rw [kd.sl j _ hk]; exact h2)
theorem f3_step {st : ByteArray} {x : Nat → Int} {ns : List ND} {n i mm k : Nat} {v v' : Au} {num : Int} {L : List Mg} (kd : Kd st x ns n i v) (hj : ∃ j, j < ns.length ∧ hdS st x ns (j : Int) ≠ []) (hf : F3 n mm num k v) (hk : k < mm) (ht : TickR n v L v') : F3 n mm num (k + 1) v' := by
  obtain ⟨hu, h0, hn⟩ := hf.1 hk
  have kd' := kd.tick ht
  have hb := un_at kd hu hj
  have hn' := (tick_keep ht).2.2.2
  refine ⟨fun h => ?_, fun h => ?_⟩
  · have hu' := tick_un ht kd.ok kd.fr hu (by omega)
    rw [show (mm : Int) - (k : Int) - 1 = (mm : Int) - ((k + 1 : Nat) : Int) by omega] at hu'
    have hb' := un_at kd' hu' hj
    rcases tick_ends ht hb with ⟨_, q⟩ | q
    · exact ⟨hu', by rw [q, h0], by rw [hn', hn]⟩
    · rw [q.idle] at hb'
      exact absurd hb' (by decide)
  · rw [show (mm : Int) - (k : Int) = 1 by omega] at hu
    have hl := tick_last ht kd.ok kd.fr hu
    refine ⟨?_, hl⟩
    rcases tick_ends ht hb with ⟨q, _⟩ | q
    · exfalso
      unfold busyL at q
      rw [List.any_eq_true] at q
      obtain ⟨y, hy, h1⟩ := q
      have h1 : y.stt = 1 := by simpa using h1
      obtain ⟨a, b⟩ := hl y hy
      by_cases e : y.sl = []
      · have := a e
        omega
      · have := b e
        omega
    · rw [h0, hn] at q
      exact q
end Go.Proofs.YteiiolilpemimaaDoor.Cn
namespace Go.Proofs.YteiiolilpemimaaDoor.Cn
open Go.RowKit
/-- a step of a script -/
structure Sp where
  k : Int
  n : Int
  v : Int
  m : Mg
def spV (s : Sp) : Array Value := #[.int .i64 s.k, .int .i64 s.n, .int .i64 s.v, .int .i64 s.m.kind, .int .i64 s.m.fr, .int .i64 s.m.td, .int .i64 s.m.id, .int .i64 s.m.ep, .int .i64 s.m.sq, .int .i64 s.m.ver, .int .i64 s.m.prev, .int .i64 s.m.code, .string s.m.key, .string s.m.val]
/-- rows of k cells that are handed in -/
structure RwAt {α : Type} (k : Nat) (V : α → Array Value) (N : Nat) (w : World) (ao : Option Addr) (b o : Nat) (L : List α) : Prop where
  at0 : 0 < L.length → ao = some ⟨b, o, none⟩
  lt : 0 < L.length → b < N
  c : ∀ (q : Nat) (h : q < L.length) (j : Nat) (u : Value), (V L[q])[j]? = some u → w.cell? ⟨b, o + q * k + j, none⟩ = some u
  len : L.length ≤ 9223372036854775807
theorem RwAt.below {α : Type} {k : Nat} {V : α → Array Value} {N : Nat} {w w' : World} {ao : Option Addr} {b o : Nat} {L : List α} (h : RwAt k V N w ao b o L) (hb : Below N w w') : RwAt k V N w' ao b o L :=
  ⟨h.at0, h.lt, fun q hq j u hj => (hb.cell (h.lt (by omega))).trans (h.c q hq j u hj), h.len⟩
theorem sp_info : (Tryd.prog.info? 57).map (·.size) = some 14 := by kernel_rfl
theorem sp_one (s : Sp) : (spV s).all (·.oneCell') = true := by simp [spV, Value.oneCell']
end Go.Proofs.YteiiolilpemimaaDoor.Cn
