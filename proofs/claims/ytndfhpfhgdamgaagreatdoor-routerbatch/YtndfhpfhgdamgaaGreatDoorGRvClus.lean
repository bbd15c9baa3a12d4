import Derived.Test.YtndfhpfhgdamgaaGreatDoorGRvOpened
namespace Go.Proofs.YtndfhpfhgdamgaaGreatDoor.Cn
open Go.RowKit
set_option maxHeartbeats 16000000 in
set_option maxRecDepth 100000 in
set_option linter.unusedSimpArgs false in
set_option linter.unusedVariables false in
theorem cluster_any (N : Nat) (w : World) (st : ByteArray) (x : Nat → Int) (ao : Option Addr) (b o cap : Nat) (pv : Nat → Value) (ns : List ND) (h : NsAt N w ao b o pv ns) (hN : N ≤ w.heap.size) (hps : ∀ (q : Nat) (hq : q < ns.length), ns[q].ps.length ≤ 1000000) (hns : ns.length ≤ 1000000) :
    Calls Tryz.prog 12 #[.agg (clA st x (.slice ao ns.length cap))] w fun e w' => ∃ vl zs, e = .returned (.agg (clA st x vl)) ∧ zs.length = ns.length ∧ Tw (w.heap.size + 2) w' ns vl zs ∧ Below w.heap.size w w' := by
  obtain ⟨W0, hW0⟩ : ∃ W0, W0 = (w.alloc (.cells (clA st x (.slice ao ns.length cap)) 24)).alloc (.cells (clA ⟨#[]⟩ zx (.slice none 0 0)) 24) := ⟨_, rfl⟩
  have B0 : Hid (Below w.heap.size w W0) := by rw [hW0]; exact ((Below.refl _ _).alloc (Nat.le_refl _) _).alloc (by simp) _
  have C0 : Hid (ClAt W0 w.heap.size st x (.slice ao ns.length cap)) := by rw [hW0]; exact (new_cl _ _ _ _).below ((Below.refl _ _).alloc (Nat.le_refl _) _)
  have R0 : Hid (ClAt W0 (w.heap.size + 1) ⟨#[]⟩ zx (.slice none 0 0)) := by
    rw [hW0]
    have := new_cl (w.alloc (.cells (clA st x (.slice ao ns.length cap)) 24)) ⟨#[]⟩ zx (.slice none 0 0)
    simp only [World.size_alloc] at this
    exact this
  have s0 : Hid (W0.heap.size = w.heap.size + 2) := by rw [hW0]; show _ = _; simp
  have HN := hide h
  have hlen := h.len
  clear h
  obtain ⟨i0, hi0, hz0, hz1, hz2⟩ := YtndfhpfhgdamgaaGreatDoor.info_parts infoNd
  have HI : Hid (Tryz.prog.info? 87 = some i0 ∧ i0.zero = some (.agg #[.int .i64 0, .slice none 0 0]) ∧ i0.size = 2 ∧ i0.bytes = 32) := ⟨hi0, hz0, hz1, hz2⟩
  clear hi0 hz0 hz1 hz2
  go_enter Tryz.func12, Tryz.ntmps12
  go_upto_region 1 with fail
  rw [show (w.alloc (.cells (clA st x (.slice ao ns.length cap)) 24)).alloc (.cells #[.string ⟨#[]⟩, .int .i64 0, .int .i64 0, .int .i64 0, .int .i64 0, .int .i64 0, .int .i64 0, .int .i64 0, .int .i64 0, .int .i64 0, .int .i64 0, .int .i64 0, .int .i64 0, .int .i64 0, .int .i64 0, .int .i64 0, .int .i64 0, .int .i64 0, .int .i64 0, .int .i64 0, .int .i64 0, .int .i64 0, .slice none 0 0] 24) = W0 from hW0.symm]
  clear hW0
  go_wp2_with fail
  go_loopw [3, 4, 5, 6] (fun vl vi _ _ wr => ∃ (zs : List (Int × Value)), zs.length ≤ ns.length ∧ vi = .int .i64 (zs.length : Int) ∧ Tw W0.heap.size wr ns vl zs ∧ Below W0.heap.size W0 wr) (fun _ vi _ _ _ => ns.length - (intOf vi).toNat)
  case atStart => exact ⟨[], Nat.zero_le _, rfl, ⟨World.ownsRow_nil _ _ _ _, fun q hq => absurd hq (Nat.not_lt_zero _), fun q hq => absurd hq (Nat.not_lt_zero _)⟩, Below.refl _ _⟩
  case round =>
    obtain ⟨zs, hq, rfl, hT, hB⟩ := hrel
    have HT := hide hT
    have HB := hide hB
    clear hT hB
    obtain ⟨ba, cp, hv⟩ := own_sl HT.out.row
    subst hv
    by_cases hql : zs.length < ns.length
    case pos =>
      have hao := HN.out.at0 (by omega)
      subst hao
      have hqi : (zs.length : Int) < (ns.length : Int) := by omega
      obtain ⟨pa, pb, po, pc, hpv, hp⟩ := HN.out.ps zs.length hql
      have P0 := hide hp
      have hpl := hps zs.length hql
      have CC : Hid (∀ Y, Below W0.heap.size W0 Y → Y.cell? ⟨w.heap.size, 22, none⟩ = some (.slice (some ⟨b, o, none⟩) ns.length cap) ∧ Y.cell? ⟨b, o + zs.length * 2, none⟩ = some (.int .i64 ns[zs.length].z) ∧ Y.cell? ⟨b, o + zs.length * 2 + 1, none⟩ = some (.slice pa ns[zs.length].ps.length pc)) := fun Y hY => by
        have hN0 := HN.out.below ((B0.out.trans (hY.mono B0.out.size)).mono hN)
        refine ⟨(C0.out.below hY).nv, hN0.cz _ hql, ?_⟩
        rw [← hpv]
        exact hN0.cp _ hql
      have PP : Hid (∀ Y, Below W0.heap.size W0 Y → PsAt N Y pa pb po ns[zs.length].ps) := fun Y hY => P0.out.below ((B0.out.trans (hY.mono B0.out.size)).mono hN)
      clear hpv hp P0
      have TS := hide (fun X1 X3 vl' v1 => HT.out.step (X1 := X1) (X3 := X3) (vl' := vl') (v1 := v1) hql)
      have nvw := (CC.out _ HB.out).1
      have hnn : ns.length ≤ 4398046510976 := hlen
      generalize hzz : ns[zs.length].z = z at *
      generalize hpp : ns[zs.length].ps = ps at *
      clear hzz hpp
      go_wp2_with fail
      clear nvw
      generalize wr = wo at *
      go_loopw [5, 6] (fun v5 vk wr => ∃ (j : Nat) (a5 : Option Addr) (c5 : Nat) (QQ : List Int), j ≤ ps.length ∧ vk = .int .i64 (j : Int) ∧ QQ = ps.take j ∧ v5 = .slice a5 QQ.length c5 ∧ wr.ownsRow W0.heap.size 3 1 (.slice a5 QQ.length c5) QQ.length (ints QQ) ∧ (∀ k, (Value.slice a5 QQ.length c5).ownBlock = some k → wo.heap.size ≤ k) ∧ Kp wo wr non) (fun _ vk _ => ps.length - (intOf vk).toNat)
      case atStart => exact ⟨0, none, 0, [], Nat.zero_le _, rfl, rfl, rfl, World.ownsRow_nil _ _ _ _, fun k e => by simp [Value.ownBlock] at e, Kp.refl _ _⟩
      case round =>
        obtain ⟨j, a5, c5, QQ, hj, rfl, hQ, rfl, ho, hge, hk⟩ := hrel
        have HQ := hide hQ
        have HO := hide ho
        have HGE := hide hge
        have HK := hide hk
        have bq : Below W0.heap.size W0 wr := HB.out.trans (hk.below.mono HB.out.size)
        obtain ⟨y1, y2, y3⟩ := CC.out wr bq
        have PQ := PP.out wr bq
        have BQ := hide bq
        clear hQ ho hge hk bq
        by_cases hjl : j < ps.length
        case pos =>
          have hji : (j : Int) < (ps.length : Int) := by omega
          obtain rfl := PQ.at0 (by omega)
          have cj := PQ.c j hjl
          have hQl : QQ.length ≤ 1000000000000 := by
            rw [HQ.out, List.length_take]
            omega
          have HQ1 : Hid (QQ ++ [ps[j]] = ps.take (j + 1)) := by show _ = _; rw [HQ.out, List.take_succ_eq_append_getElem hjl]
          generalize ps[j] = pj at *
          obtain ⟨W4, hW4⟩ : ∃ W4, W4 = wr.alloc (.cells #[.int .i64 pj] 3) := ⟨_, rfl⟩
          have k4 : Kp wr W4 non := by rw [hW4]; exact (Kp.refl wr non).alloc _
          have GG : Hid (W4.heap[wr.heap.size]? = some (.cells #[.int .i64 pj] 3)) := by rw [hW4]; exact heap_last _ _
          have O4 := hide (own_kp HO.out k4 (fun _ _ f => f))
          have K4 : Hid (Kp wo W4 non) := HK.out.trans k4 (fun _ f => f.elim)
          have hz4 : Hid (W0.heap.size ≤ W4.heap.size ∧ wo.heap.size ≤ W4.heap.size) := ⟨Nat.le_trans BQ.out.size k4.size, K4.out.size⟩
          clear k4 PQ
          go_wp2_with (at_builtin; rw [← hW4]; refine wpList_apI rfl (.tmp 25) (.tmp 35) rfl W0.heap.size _ QQ.length QQ rfl O4.out wr.heap.size pj rfl GG.out hQl hz4.out.1 ?_; intro v' w' o2 g2 n2; have O5 := hide o2; have KG := hide (Kp.of_grown g2); have N5 := hide n2; clear o2 g2 n2)
          obtain ⟨a6, c6, rfl⟩ := own_sl O5.out
          have K5 : Hid (Kp wo w' non) := K4.out.trans KG.out (fun k e => Or.inr (HGE.out k e.symm))
          have GE5 : Hid (∀ k, (Value.slice a6 (QQ.length + 1) c6).ownBlock = some k → wo.heap.size ≤ k) := fun k e => by
            rcases N5.out with r | r
            · exact HGE.out k (r.symm.trans e)
            · rw [e] at r
              simp at r
              have := hz4.out.2
              omega
          go_roundw
          case rel => exact ⟨j + 1, a6, c6, QQ ++ [pj], by omega, by go_num, HQ1.out, by rw [List.length_append]; rfl, by rw [List.length_append]; exact O5.out, by rw [List.length_append]; exact GE5.out, K5.out⟩
          case measure => simp [intOf]; omega
        case neg =>
          obtain rfl : j = ps.length := by omega
          have hQe := HQ.out
          rw [List.take_length] at hQe
          subst hQe
          have G1 : Below wo.heap.size wo wr := HK.out.below
          obtain ⟨W5, hW5⟩ : ∃ W5, W5 = wr.alloc (.cells #[.int .i64 z, .slice a5 QQ.length c5] 87) := ⟨_, rfl⟩
          have T1 : Hid (Tw W0.heap.size W5 ns (.slice ba zs.length cp) zs) := by rw [hW5]; exact (HT.out.keep G1).keep ((Below.refl _ _).alloc (Nat.le_refl _) _)
          have NC := hide (nd_cells wr z (.slice a5 QQ.length c5))
          rw [← hW5] at NC
          have hb5 : Hid (W0.heap.size ≤ W5.heap.size) := by rw [hW5]; exact Nat.le_trans BQ.out.size (by simp)
          have BB5 : Hid (Below W0.heap.size W0 W5) := by rw [hW5]; exact BQ.out.alloc BQ.out.size _
          have GN : Hid (wo.grownBy wr none) := ⟨G1.os, G1.tape, G1.output, G1.size, fun i hi _ => G1.block i hi⟩
          have HW5 : Hid (W5 = wr.alloc (.cells #[.int .i64 z, .slice a5 QQ.length c5] 87)) := hW5
          have hzl2 : zs.length ≤ 1000000 := by omega
          clear PQ G1
          go_wp2_with (first
            | refine wpList_blR rfl 87 #[(0, .tmp 43), (1, .tmp 44)] rfl #[.int .i64 z, .slice a5 QQ.length c5] (built_nd _ _ _ _) ?_
            | refine wpList_plain rfl fun _ hK => wp_bsNd (.tmp 45) rfl rfl (hK _ _ ?_)
            | (at_builtin; rw [← hW5]; refine wpList_append_own_at _ rfl (.tmp 37) (.tmp 46) 22 rfl W0.heap.size 87 i0 _ 2 32 Tryz.underlying22 HI.out.1 HI.out.2.1 HI.out.2.2.1 HI.out.2.2.2 rfl (by decide) (.slice ba zs.length cp) zs.length (ndc zs) rfl T1.out.row ⟨wr.heap.size, 0, none⟩ 1 1 (ndc [(z, .slice a5 QQ.length c5)]) rfl rfl NC.out (nd_one rfl) (by unfold maxLen; omega) (by omega) hb5.out ?_; intro vl' X3 o3 g3 _ _; have O3 := hide o3; have G3 := hide g3; clear o3 g3))
          have g3' := G3.out
          rw [HW5.out] at g3'
          have T3 := hide (TS.out wr X3 vl' _ HO.out GN.out O3.out g3')
          have S3 : Hid (Below W0.heap.size W0 X3) := BB5.out.grown G3.out hb5.out (fun j hj => (YtndfhpfhgdamgaaGreatDoor.own_lt T1.out.row hj).1)
          clear g3' hW5
          obtain ⟨ba', cp', hvl'⟩ := own_sl O3.out
          subst hvl'
          go_roundw
          case rel => exact ⟨zs ++ [(z, .slice a5 QQ.length c5)], by simp; omega, by simp, T3.out, S3.out⟩
          case measure => simp [intOf]; omega
    case neg =>
      have hqe : zs.length = ns.length := by omega
      rw [hqe] at HT ⊢
      have hqi : ¬ (ns.length : Int) < (ns.length : Int) := by omega
      have CW := C0.out.below HB.out
      have nvw := CW.nv
      have fvw : wr.frozen? ⟨w.heap.size, 22, none⟩ = false := fz_row CW 22
      obtain ⟨X6, hX6⟩ : ∃ X6, X6 = wr.setCell ⟨w.heap.size, 22, none⟩ (.slice ba ns.length cp) := ⟨_, rfl⟩
      have C6 : Hid (ClAt X6 w.heap.size st x (.slice ba ns.length cp)) := by rw [hX6]; exact CW.set _
      have B6 : Hid (Below w.heap.size w X6) := by rw [hX6]; exact set_below (B0.out.trans (HB.out.mono B0.out.size)) (Nat.le_refl _)
      have k6 : Kp wr X6 (fun k => k = w.heap.size) := by rw [hX6]; exact (Kp.refl wr (fun k => k = w.heap.size)).set (Or.inl rfl) _ _
      have R5 : ClAt wr (w.heap.size + 1) ⟨#[]⟩ zx (.slice none 0 0) := (HB.out.block _ (by have := s0.out; omega)).trans R0.out
      have R6 : Hid (ClAt X6 (w.heap.size + 1) ⟨#[]⟩ zx (.slice none 0 0)) := (k6.block _ (blk_lt R5) (by omega)).trans R5
      have T6 : Hid (Tw W0.heap.size X6 ns (.slice ba ns.length cp) zs) := ⟨own_keep HT.out.row fun g hg => k6.block g (YtndfhpfhgdamgaaGreatDoor.own_lt HT.out.row hg).2 (by have := (YtndfhpfhgdamgaaGreatDoor.own_lt HT.out.row hg).1; have := s0.out; omega), HT.out.z, fun q hq hq' => own_keep (HT.out.p q hq hq') fun g hg => k6.block g (YtndfhpfhgdamgaaGreatDoor.own_lt (HT.out.p q hq hq') hg).2 (by have := (YtndfhpfhgdamgaaGreatDoor.own_lt (HT.out.p q hq hq') hg).1; have := s0.out; omega)⟩
      clear CW k6 R5 HN hqi
      go_upto_region 12 with fail
      rw [← hX6]
      clear hX6 nvw fvw
      go_wp2_with (first | (refine wpList_loadCl rfl (.tmp 1) rfl w.heap.size st x _ rfl C6.out ?_) | (refine wpList_store_row rfl 24 (.tmp 2) (.tmp 50) rfl (w.heap.size + 1) (clA st x (.slice ba ns.length cp)) rfl rfl 24 _ R6.out infoCl rfl (clA_one st x rfl) ?_))
      have E6 : ClAt (X6.setRow (w.heap.size + 1) (clA st x (.slice ba ns.length cp))) (w.heap.size + 1) st x (.slice ba ns.length cp) := setRow_heap X6 (w.heap.size + 1) _ _ 24 _ R6.out
      have oth : ∀ i, i ≠ w.heap.size + 1 → (X6.setRow (w.heap.size + 1) (clA st x (.slice ba ns.length cp))).heap[i]? = X6.heap[i]? := fun i hi => setRow_other X6 (w.heap.size + 1) i _ (fun e => hi (by first | exact e | exact e.symm))
      have T7 : Tw W0.heap.size (X6.setRow (w.heap.size + 1) (clA st x (.slice ba ns.length cp))) ns (.slice ba ns.length cp) zs := ⟨own_keep T6.out.row fun g hg => oth g (by have := (YtndfhpfhgdamgaaGreatDoor.own_lt T6.out.row hg).1; have := s0.out; omega), T6.out.z, fun q hq hq' => own_keep (T6.out.p q hq hq') fun g hg => oth g (by have := (YtndfhpfhgdamgaaGreatDoor.own_lt (T6.out.p q hq hq') hg).1; have := s0.out; omega)⟩
      rw [s0.out] at T7
      have B7 : Below w.heap.size w (X6.setRow (w.heap.size + 1) (clA st x (.slice ba ns.length cp))) := below_setRow B6.out (by omega) _
      refine bodyPost_ret (v := .agg (clA st x (.slice ba ns.length cp))) (res_cl Tryz.results12 _ st x _ _ (w.heap.size + 1) rfl E6) rfl (by first | exact ⟨_, rfl, zs, hqe, T7, B7⟩ | exact ⟨_, zs, rfl, hqe, T7, B7⟩)
end Go.Proofs.YtndfhpfhgdamgaaGreatDoor.Cn
namespace Go.Proofs.YtndfhpfhgdamgaaGreatDoor.Cn
open Go.RowKit
/-- what a step leaves: the router, the desk -/
def Desk (w w' : World) (S T : Nat → Prop) (R base B : Nat) (c : Cl) (gs : List Gt) (v : Rv) (k : Dk) : Prop := ∃ S' T' P, RtAt w' S' R c P v ∧ P.map (·.g) = gs ∧ DkAt w' base T' B R k ∧ Kp w w' (fun j => S j ∨ T j) ∧ (∀ j, S' j → S j ∨ w.heap.size ≤ j) ∧ ∀ j, T' j → T j ∨ w.heap.size ≤ j
def lost (o : Oc) : Prop := o.code = 171 ∧ o.node = -1 ∧ o.ver = 0 ∧ o.val = ⟨#[]⟩
set_option linter.unusedVariables false in
theorem okEnds_wnt {k : Dk} {L : List Mg} : ∀ {E : List Oc}, okEnds k E → okEnds (k.wnt L) E
  | [], _ => trivial
  | o :: r, h => ⟨h.1, okEnds_wnt (k := k.mark (o.tk - 1).toNat) h.2⟩
set_option maxHeartbeats 16000000 in
set_option maxRecDepth 100000 in
set_option linter.unusedSimpArgs false in
set_option linter.unusedVariables false in
theorem dtick_any {w : World} {S T : Nat → Prop} {R base B : Nat} {c : Cl} {P : List Gp} {v v' : Rv} {gs' : List Gt} {k : Dk} {L : List Mg} {E : List Oc} (h : RtAt w S R c P v) (hd : DkAt w base T B R k) (hb : base ≤ w.heap.size)
    (TK : Calls Tryz.prog 27 #[.pointer (some ⟨R, 0, none⟩)] w fun e w' => ∃ S' P' vo ve, e = .returned (.tuple #[vo, ve, .int .i64 0]) ∧ RtAt w' S' R c P' v' ∧ P'.map (·.g) = gs' ∧ w'.ownsRow w.heap.size 58 11 vo L.length (mgs L) ∧ w'.ownsRow w.heap.size 96 6 ve E.length (ocs E) ∧ Kp w w' S ∧ ∀ k, S' k → S k)
    (hE : ∀ o ∈ E, lost o) (hk : okEnds k E) (hdl : k.done.length = k.keys.length) (hkl : k.keys.length ≤ 400000000000) (hwl : k.went.length ≤ 400000000000) (hLl : L.length ≤ 1000000) (hEl : E.length ≤ 1000000) :
    Calls Tryz.prog 21 #[.pointer (some ⟨B, 0, none⟩)] w fun e w' => e = .returned (.bool true) ∧ Desk w w' S T R base B c gs' v' ((k.wnt L).ends E) := by
  have AP := hd.apart h
  have b0 : w.cell? ⟨B, 0, none⟩ = some (.pointer (some ⟨R, 0, none⟩)) := by
    obtain ⟨vw, vk, vd, hx, hT⟩ := hd
    rw [cell_row hx.blk]
    rfl
  have HD := hide hd
  have TKH := hide TK
  have HAP := hide AP
  have HE := hide hE
  have HK := hide hk
  have NU := hide fun w n => num_r w n
  have Tlt : Hid (∀ j, T j → j < w.heap.size) := fun j q => by
    obtain ⟨_, A, t, e, _⟩ := hd.kind q
    exact blk_lt e
  clear h hd TK AP hE hk
  go_enter Tryz.func21, Tryz.ntmps21
  go_wp2_with fail
  refine Calls.mono TKH.out ?_
  rintro e W1 ⟨S', P', vo, ve, rfl, r1, g1, o1, e1, k1, s1⟩
  obtain ⟨oa, oc, hvo⟩ := own_sl o1
  obtain ⟨ea, ec, hve⟩ := own_sl e1
  subst hvo
  subst hve
  have R1 := hide r1
  have GS1 := hide g1
  have O1 := hide o1
  have E1 := hide e1
  have K1 := hide k1
  have S1 := hide s1
  have D1 := hide (HD.out.kp k1 (fun j q => HAP.out j q))
  clear r1 g1 o1 e1 k1 s1 TKH b0
  go_wp2_with (go_at_call 8; refine Calls.mono (NU.out _ _) ?_; rintro e w' ⟨rfl, rfl⟩)
  go_loopw [6] (fun vi wr => W1 = wr ∧ ∃ (i : Nat), i ≤ E.length ∧ vi = .int .i64 (i : Int)) (fun vi _ => E.length - (intOf vi).toNat)
  case atStart => exact ⟨rfl, 0, Nat.zero_le _, rfl⟩
  case round =>
    obtain ⟨rfl, i, hi, rfl⟩ := hrel
    by_cases hin : i < E.length
    case pos =>
      have hii : (i : Int) < (E.length : Int) := by omega
      obtain ⟨g, gc, hg⟩ := own_g E1.out (by omega)
      injection hg with hg _ hgc
      subst hg
      subst hgc
      have RG := oc_range E1.out hin rfl
      obtain ⟨l1, l2, l3, l4⟩ := HE.out E[i] (List.getElem_mem hin)
      have c2 := RG 2 _ rfl
      have c3 := RG 3 _ rfl
      have c4 := RG 4 _ rfl
      have c5 := RG 5 _ rfl
      rw [l1] at c2
      rw [l2] at c3
      rw [l3] at c4
      rw [l4] at c5
      clear RG l1 l2 l3 l4
      go_wp2_with (go_at_call 8; refine Calls.mono (NU.out _ _) ?_; rintro e w' ⟨rfl, rfl⟩)
      go_roundw
      case rel => exact ⟨by first | trivial | rfl, i + 1, by omega, by go_num⟩
      case measure => simp [intOf]; omega
    case neg =>
      obtain rfl : i = E.length := by omega
      obtain ⟨vw, vk, vd, hx, hT⟩ := D1.out
      obtain ⟨wa, wc, hvw⟩ := own_sl hx.fw
      subst hvw
      have b1 : W1.cell? ⟨B, 1, none⟩ = some (.slice wa k.went.length wc) := by rw [cell_row hx.blk]; rfl
      have JO := hide (joined_any hx.fw O1.out (by omega))
      have HX := hide hx
      have HT := hide hT
      have TG : Hid (∀ j, (Value.slice ea E.length ec).ownBlock = some j → ¬ T j) := fun j q s => by
        have := own_ge E1.out q
        have := Tlt.out j s
        omega
      clear hx hT
      go_upto_region 9 with fail
      go_wp2_with fail
      refine Calls.mono JO.out ?_
      rintro e W5 ⟨u, rfl, o5, b5⟩
      obtain ⟨ua, uc, hu⟩ := own_sl o5
      subst hu
      have k5 := Kp.of_below b5 non
      have gb : base ≤ W1.heap.size := Nat.le_trans hb K1.out.size
      obtain ⟨e6, x6, k6, s6⟩ := HX.out.putw (L := k.went ++ L) (own_base o5 gb) (k5.mono (fun _ f => f.elim)) (fun j e => Or.inr (own_ge o5 e))
      have c6 : W5.cell? ⟨B, 1, none⟩ = some (.slice wa k.went.length wc) := by rw [cell_row (e6.trans HX.out.blk)]; rfl
      have f6 : W5.frozen? ⟨B, 1, none⟩ = false := fz_row (e6.trans HX.out.blk) 1
      obtain ⟨W6, hW6⟩ : ∃ W6, W6 = W5.setCell ⟨B, 1, none⟩ (.slice ua (k.went ++ L).length uc) := ⟨_, rfl⟩
      rw [← hW6] at x6 k6
      have kT : Kp W1 W6 T := k6.mono (fun j q => (HT.out j).2 q)
      have D6 : DkAt W6 base (DkS B (.slice ua (k.went ++ L).length uc) vk vd) B R (k.wnt L) := ⟨_, _, _, x6, fun _ => Iff.rfl⟩
      have E6 := own_kp E1.out kT TG.out
      have EN := hide (ended_any D6 E6 (okEnds_wnt HK.out) (by exact hdl) (by show k.keys.length ≤ _; omega) hEl)
      have R6 := hide (R1.out.kp kT (fun j q s => HAP.out j s (S1.out j q)))
      have K6 : Hid (Kp w W6 (fun j => S j ∨ T j)) := (K1.out.mono (fun j q => Or.inl q)).trans kT (fun j q => Or.inl (Or.inr q))
      have S6 : Hid (∀ j, DkS B (.slice ua (k.went ++ L).length uc) vk vd j → T j ∨ w.heap.size ≤ j) := fun j q => by
        have := K1.out.size
        rcases s6 j q with q | q
        · exact Or.inl ((HT.out j).2 q)
        · exact Or.inr (by omega)
      have AP6 : Hid (∀ j, DkS B (.slice ua (k.went ++ L).length uc) vk vd j → ¬ S' j) := D6.apart R6.out
      generalize hwl' : (k.went ++ L).length = wl at *
      clear o5 b5 k5 e6 x6 k6 s6 JO b1 kT D6 E6
      go_upto_region 10 with fail
      rw [← hW6]
      clear hW6 c6 f6
      go_wp2_with fail
      refine Calls.mono EN.out ?_
      rintro e W7 ⟨rfl, d7, k7⟩
      go_wp2_with fail
      go_ret
      refine ⟨rfl, S', _, P', R6.out.kp k7 (fun j q s => AP6.out j s q), GS1.out, d7, K6.out.trans k7 (fun j q => ?_), fun j q => Or.inl (S1.out j q), S6.out⟩
      rcases S6.out j q with r | r
      · exact Or.inl (Or.inr r)
      · exact Or.inr r
end Go.Proofs.YtndfhpfhgdamgaaGreatDoor.Cn
namespace Go.Proofs.YtndfhpfhgdamgaaGreatDoor.Cn
open Go.RowKit
/-- a step of the script -/
structure Op2 where
  kd : Int
  n : Int
  s : ByteArray
  l : Value
  m : Mg
def opV (o : Op2) : Array Value := #[.int .i64 o.kd, .int .i64 o.n, .string o.s, o.l, .int .i64 o.m.kind, .int .i64 o.m.fr, .int .i64 o.m.td, .int .i64 o.m.id, .int .i64 o.m.ep, .int .i64 o.m.sq, .int .i64 o.m.ver, .int .i64 o.m.prev, .int .i64 o.m.code, .string o.m.key, .string o.m.val]
def ansM (m om : Mg) : Mg := if m.kind = 11 then ⟨12, m.td, m.fr, m.id, 0, 0, om.ver, 0, om.code, m.key, om.val⟩ else ⟨2, m.td, m.fr, m.id, 0, 0, 0, 0, 0, ⟨#[]⟩, ⟨#[]⟩⟩
set_option maxHeartbeats 16000000 in
set_option maxRecDepth 100000 in
set_option linter.unusedSimpArgs false in
set_option linter.unusedVariables false in
theorem answer_none {w : World} (o : Op2) (a : Option Addr) (cp : Nat) : Calls Tryz.prog 29 #[.slice a 0 cp, .agg (opV o)] w fun e w' => e = .returned (.tuple #[.agg (mgV mg0), .bool false]) ∧ Kp w w' non := by
  obtain ⟨W0, hW0⟩ : ∃ W0, W0 = (w.alloc (.cells (opV o) 60)).alloc (.cells (mgV mg0) 58) := ⟨_, rfl⟩
  have k0 : Kp w W0 non := by rw [hW0]; exact ((Kp.refl w non).alloc _).alloc _
  obtain ⟨B1, hB1⟩ : ∃ B1, B1 = w.heap.size + 1 := ⟨_, rfl⟩
  have m0 : Hid (W0.heap[B1]? = some (.cells (mgV mg0) 58)) := by
    rw [hW0, hB1]
    have := heap_last (w.alloc (.cells (opV o) 60)) (.cells (mgV mg0) 58)
    rw [World.size_alloc] at this
    exact this
  have K0 := hide k0
  have HB1 := hide hB1
  clear k0 hB1
  go_enter Tryz.func29, Tryz.ntmps29
  go_upto_region 1 with fail
  rw [show (w.alloc (.cells (opV o) 60)).alloc (.cells #[.int .i64 0, .int .i64 0, .int .i64 0, .int .i64 0, .int .i64 0, .int .i64 0, .int .i64 0, .int .i64 0, .int .i64 0, .string ⟨#[]⟩, .string ⟨#[]⟩] 58) = W0 from hW0.symm, ← HB1.out]
  clear hW0
  go_wp2_with (first | refine wpList_blR rfl 58 #[] rfl (mgV mg0) (by kernel_rfl) ?_ | refine wpList_stR rfl 58 (.tmp 4) (.tmp 11) rfl B1 rfl (mgV mg0) (mgV mg0) rfl _ m0.out mg_info rfl (mg_one _) ?_)
  have kr : Kp W0 (W0.setRow B1 (mgV mg0)) (fun j => j = B1) := ⟨rfl, rfl, rfl, by simp [World.setRow], fun j _ hj => by simp only [World.setRow, Array.getElem?_modify]; rw [if_neg (fun e => hj e.symm)]⟩
  refine bodyPost_ret (v := .tuple #[.agg (mgV mg0), .bool false]) (res_row2 Tryz.results29 _ _ _ B1 rfl _ rfl _ (setRow_heap _ _ _ _ _ _ m0.out) Tryz.underlying58 mg_info) rfl ⟨rfl, K0.out.trans kr (fun j e => Or.inr (by rw [e, HB1.out]; omega))⟩
set_option maxHeartbeats 16000000 in
set_option maxRecDepth 100000 in
set_option linter.unusedSimpArgs false in
set_option linter.unusedVariables false in
theorem answer_any {w : World} {base g cp : Nat} {WW : List Mg} (o : Op2) (h : w.ownsRow base 58 11 (.slice (some ⟨g, 0, none⟩) WW.length cp) WW.length (mgs WW)) (h0 : 0 < WW.length) (hl : WW.length ≤ 1000000000000) (hn : tkOk o.n) :
    ∃ (j : Nat) (hj : j < WW.length), Calls Tryz.prog 29 #[.slice (some ⟨g, 0, none⟩) WW.length cp, .agg (opV o)] w fun e w' => e = .returned (.tuple #[.agg (mgV (ansM WW[j] o.m)), .bool true]) ∧ Kp w w' non := by
  obtain ⟨n, hnn⟩ : ∃ n, n = o.n := ⟨_, rfl⟩
  have r1 : (n.tmod (WW.length : Int)) < (WW.length : Int) := Int.tmod_lt_of_pos n (by omega)
  have r2 : -(WW.length : Int) < n.tmod (WW.length : Int) := by
    exact Int.lt_tmod_of_pos n (by omega)
  obtain ⟨r, hr⟩ : ∃ r, n.tmod (WW.length : Int) = r := ⟨_, rfl⟩
  rw [hr] at r1 r2
  obtain ⟨j, hj⟩ : ∃ j : Nat, (r + (WW.length : Int)) % (WW.length : Int) = (j : Int) := ⟨((r + (WW.length : Int)) % (WW.length : Int)).toNat, by have := Int.emod_nonneg (r + (WW.length : Int)) (b := (WW.length : Int)) (by omega); omega⟩
  have hjl : j < WW.length := by
    have h1 := Int.emod_lt_of_pos (r + (WW.length : Int)) (b := (WW.length : Int)) (by omega)
    rw [hj] at h1
    omega
  have hq : (r + (WW.length : Int)).tmod (WW.length : Int) = (j : Int) := by rw [Int.tmod_eq_emod_of_nonneg (by omega), hj]
  refine ⟨j, hjl, ?_⟩
  obtain ⟨W0, hW0⟩ : ∃ W0, W0 = (w.alloc (.cells (opV o) 60)).alloc (.cells (mgV mg0) 58) := ⟨_, rfl⟩
  obtain ⟨B, hB⟩ : ∃ B, B = w.heap.size := ⟨_, rfl⟩
  have k0 : Kp w W0 non := by rw [hW0]; exact ((Kp.refl w non).alloc _).alloc _
  have ob0 : W0.heap[B]? = some (.cells (opV o) 60) := by
    rw [hW0, hB]
    exact ((Kp.refl _ non).alloc _).block _ (by rw [World.size_alloc]; omega) (fun f => f) |>.trans (heap_last w _)
  have m0 : W0.heap[B + 1]? = some (.cells (mgV mg0) 58) := by
    rw [hW0, hB]
    have := heap_last (w.alloc (.cells (opV o) 60)) (.cells (mgV mg0) 58)
    rw [World.size_alloc] at this
    exact this
  have s0 : W0.heap.size = B + 2 := by rw [hW0, hB]; simp
  have n1 : W0.cell? ⟨B, 1, none⟩ = some (.int .i64 n) := by rw [cell_row ob0, hnn]; rfl
  have RG := hide (mg_range (own_kp h k0 (fun _ _ f => f)) hjl rfl)
  have w2 := wrap_in (x := r + (WW.length : Int)) (by omega) (by omega)
  have hne : ¬ (WW.length : Int) = 0 := by omega
  have hneb : ((WW.length : Int) == 0) = false := by rw [beq_eq_false_iff_ne]; omega
  have hneb2 : (WW.length == 0) = false := by rw [beq_eq_false_iff_ne]; omega
  have hneb3 : ¬ WW.length = 0 := by omega
  have hjI : (j : Int) < (WW.length : Int) := by omega
  have K0 := hide k0
  have OB0 := hide ob0
  have HM0 := hide m0
  have HS0 := hide s0
  have HB := hide hB
  generalize hmi : WW[j] = mi at *
  clear h k0 ob0 m0 s0 hB hmi hnn hj hn
  go_enter Tryz.func29, Tryz.ntmps29
  go_upto_region 1 with fail
  rw [show (w.alloc (.cells (opV o) 60)).alloc (.cells #[.int .i64 0, .int .i64 0, .int .i64 0, .int .i64 0, .int .i64 0, .int .i64 0, .int .i64 0, .int .i64 0, .int .i64 0, .string ⟨#[]⟩, .string ⟨#[]⟩] 58) = W0 from hW0.symm, ← HB.out]
  clear hW0
  go_upto_region 4 with (first | refine wpList_load_mid rfl 58 (.tmp 24) rfl g (j * 11) rfl (mgV mi).toList _ RG.out Tryz.underlying58 rfl mg_info ?_ | refine wpList_stR rfl 58 (.tmp 6) (.tmp 25) rfl W0.heap.size rfl (mgV mi) (mgV mg0) rfl _ (heap_last W0 _) mg_info rfl (mg_one _) ?_)
  obtain ⟨MI, hMI⟩ : ∃ MI, MI = W0.heap.size := ⟨_, rfl⟩
  obtain ⟨W1, hW1⟩ : ∃ W1, W1 = W0.alloc (.cells (mgV mi) 58) := ⟨_, rfl⟩
  have k1 : Kp W0 W1 non := by rw [hW1]; exact (Kp.refl W0 non).alloc _
  have m1 : MgAt W1 MI mi := by rw [hW1, hMI]; exact MgAt.new W0 mi
  obtain ⟨c0, c1, c2, c3, _, _, _, _, _, c9, _⟩ := m1.cells
  obtain ⟨a0, ha0⟩ : ∃ a0 : Mg, a0 = ⟨2, mi.td, mi.fr, mi.id, 0, 0, 0, 0, 0, ⟨#[]⟩, ⟨#[]⟩⟩ := ⟨_, rfl⟩
  obtain ⟨A, hA⟩ : ∃ A, A = W1.heap.size := ⟨_, rfl⟩
  obtain ⟨W2, hW2⟩ : ∃ W2, W2 = W1.alloc (.cells (mgV a0) 58) := ⟨_, rfl⟩
  have k2 : Kp W1 W2 non := by rw [hW2]; exact (Kp.refl W1 non).alloc _
  have m2 : MgAt W2 A a0 := by rw [hW2, hA]; exact MgAt.new W1 a0
  have HA0 := hide ha0
  have hAM : A ≠ MI := by
    have := blk_lt m1
    omega
  have hAB : A ≠ B := by
    have := blk_lt OB0.out
    have := k1.size
    omega
  have hAB1 : A ≠ B + 1 := by
    have := blk_lt HM0.out
    have := k1.size
    omega
  have mi2 : MgAt W2 MI mi := m1.keep k2 (fun f => f)
  have ob2 : W2.heap[B]? = some (.cells (opV o) 60) := (k2.block _ (Nat.lt_of_lt_of_le (blk_lt OB0.out) k1.size) (fun f => f)).trans ((k1.block _ (blk_lt OB0.out) (fun f => f)).trans OB0.out)
  have hm2 : W2.heap[B + 1]? = some (.cells (mgV mg0) 58) := (k2.block _ (Nat.lt_of_lt_of_le (blk_lt HM0.out) k1.size) (fun f => f)).trans ((k1.block _ (blk_lt HM0.out) (fun f => f)).trans HM0.out)
  have K2 : Hid (Kp w W2 non) := (K0.out.trans k1 (fun _ f => f.elim)).trans k2 (fun _ f => f.elim)
  have FIN : Hid (∀ (X : World) (a : Mg), Kp W2 X (fun q => q = A) → MgAt X A a → X.heap[B + 1]? = some (.cells (mgV mg0) 58)) := fun X a hk _ => (hk.block _ (blk_lt hm2) (fun e => hAB1 e.symm)).trans hm2
  have hAw : Hid (w.heap.size ≤ A) := by
    have z0 := K0.out.size
    have z1 := k1.size
    rw [hA]
    exact Nat.le_trans z0 z1
  have HM2 := hide m2
  have HMI2 := hide mi2
  have HOB2 := hide ob2
  have HHM2 := hide hm2
  clear k1 k2 m1 m2 mi2 ob2 hm2 ha0
  simp only [Act.put]
  rw [World.setRow_alloc_new, ← hW1, ← hMI]
  clear hW1 hMI RG n1 hr w2 hq
  go_upto_region 5 with (first | refine wpList_blR rfl 58 #[(0, .const (.int .i64 2)), (1, .tmp 27), (2, .tmp 29), (3, .tmp 31)] rfl (mgV a0) (by rw [HA0.out]; kernel_rfl) ?_ | refine wpList_stR rfl 58 (.tmp 7) (.tmp 32) rfl W1.heap.size rfl (mgV a0) (mgV mg0) rfl _ (heap_last W1 _) mg_info rfl (mg_one _) ?_)
  rw [World.setRow_alloc_new, ← hW2, ← hA]
  clear hW2 hA c0 c1 c2 c3 c9
  obtain ⟨d0, _, _, _, _, _, _, _, _, d9, _⟩ := HMI2.out.cells
  have hMA : ¬ MI = A := fun e => hAM e.symm
  have hBA : ¬ B = A := fun e => hAB e.symm
  by_cases hk : mi.kind = 11
  · have g0 : W2.cell? ⟨A, 0, none⟩ = some (.int .i64 a0.kind) := HM2.out.cells.1
    have g6 : W2.cell? ⟨A, 6, none⟩ = some (.int .i64 a0.ver) := HM2.out.cells.2.2.2.2.2.2.1
    have g8 : W2.cell? ⟨A, 8, none⟩ = some (.int .i64 a0.code) := HM2.out.cells.2.2.2.2.2.2.2.2.1
    have g9 : W2.cell? ⟨A, 9, none⟩ = some (.string a0.key) := HM2.out.cells.2.2.2.2.2.2.2.2.2.1
    have g10 : W2.cell? ⟨A, 10, none⟩ = some (.string a0.val) := HM2.out.cells.2.2.2.2.2.2.2.2.2.2
    have fz : ∀ i, W2.frozen? ⟨A, i, none⟩ = false := fun i => fz_row HM2.out i
    have z0 := fz 0
    have z6 := fz 6
    have z8 := fz 8
    have z9 := fz 9
    have z10 := fz 10
    have v6 : W2.cell? ⟨B, 10, none⟩ = some (.int .i64 o.m.ver) := by rw [cell_row HOB2.out]; rfl
    have v8 : W2.cell? ⟨B, 12, none⟩ = some (.int .i64 o.m.code) := by rw [cell_row HOB2.out]; rfl
    have v10 : W2.cell? ⟨B, 14, none⟩ = some (.string o.m.val) := by rw [cell_row HOB2.out]; rfl
    obtain ⟨X, hX⟩ : ∃ X, X = ((((W2.setCell ⟨A, 0, none⟩ (.int .i64 12)).setCell ⟨A, 9, none⟩ (.string mi.key)).setCell ⟨A, 8, none⟩ (.int .i64 o.m.code)).setCell ⟨A, 6, none⟩ (.int .i64 o.m.ver)).setCell ⟨A, 10, none⟩ (.string o.m.val) := ⟨_, rfl⟩
    have kX : Kp W2 X (fun q => q = A) := by
      rw [hX]
      exact ((((((Kp.refl W2 (fun q => q = A)).set (Or.inl rfl) _ _).set (Or.inl rfl) _ _).set (Or.inl rfl) _ _).set (Or.inl rfl) _ _).set (Or.inl rfl) _ _)
    have mX : Hid (MgAt X A (ansM mi o.m)) := by
      have e1 := heap_setCell W2 A 0 (.int .i64 12) _ _ _ HM2.out
      have e2 := heap_setCell _ A 9 (.string mi.key) _ _ _ e1
      have e3 := heap_setCell _ A 8 (.int .i64 o.m.code) _ _ _ e2
      have e4 := heap_setCell _ A 6 (.int .i64 o.m.ver) _ _ _ e3
      have e5 := heap_setCell _ A 10 (.string o.m.val) _ _ _ e4
      rw [hX]
      refine e5.trans ?_
      unfold ansM
      rw [if_pos hk, HA0.out]
      rfl
    have bX := hide (FIN.out X _ kX mX.out)
    have KX : Hid (Kp w X non) := K2.out.trans kX (fun q e => Or.inr (by rw [e]; exact hAw.out))
    clear fz kX FIN
    go_upto_region 11 with fail
    rw [← hX]
    clear hX g0 g6 g8 g9 g10 z0 z6 z8 z9 z10 v6 v8 v10 d0 d9
    go_wp2_with (first | refine wpList_ldM rfl (.tmp 7) rfl (ansM mi o.m) A rfl mX.out ?_ | refine wpList_stR rfl 58 (.tmp 4) (.tmp 52) rfl (B + 1) rfl (mgV (ansM mi o.m)) (mgV mg0) rfl _ bX.out mg_info rfl (mg_one _) ?_)
    have kr : Kp X (X.setRow (B + 1) (mgV (ansM mi o.m))) (fun j => j = B + 1) := ⟨rfl, rfl, rfl, by simp [World.setRow], fun j _ hj => by simp only [World.setRow, Array.getElem?_modify]; rw [if_neg (fun e => hj e.symm)]⟩
    refine bodyPost_ret (v := .tuple #[.agg (mgV (ansM mi o.m)), .bool true]) (res_row2 Tryz.results29 _ _ _ (B + 1) rfl _ rfl _ (setRow_heap _ _ _ _ _ _ bX.out) Tryz.underlying58 mg_info) rfl ⟨rfl, KX.out.trans kr (fun j e => Or.inr (by rw [e, HB.out]; omega))⟩
  · have q11 : (mi.kind == 11) = false := by simp [hk]
    have hans : a0 = ansM mi o.m := by rw [HA0.out]; unfold ansM; rw [if_neg hk]
    have HAN := hide hans
    clear hans
    clear d9
    go_upto_region 11 with fail
    go_wp2_with (first | refine wpList_ldM rfl (.tmp 7) rfl a0 A rfl HM2.out ?_ | refine wpList_stR rfl 58 (.tmp 4) (.tmp 52) rfl (B + 1) rfl (mgV a0) (mgV mg0) rfl _ HHM2.out mg_info rfl (mg_one _) ?_)
    have kr : Kp W2 (W2.setRow (B + 1) (mgV a0)) (fun j => j = B + 1) := ⟨rfl, rfl, rfl, by simp [World.setRow], fun j _ hj => by simp only [World.setRow, Array.getElem?_modify]; rw [if_neg (fun e => hj e.symm)]⟩
    rw [← HAN.out]
    refine bodyPost_ret (v := .tuple #[.agg (mgV a0), .bool true]) (res_row2 Tryz.results29 _ _ _ (B + 1) rfl _ rfl _ (setRow_heap _ _ _ _ _ _ HHM2.out) Tryz.underlying58 mg_info) rfl ⟨by rw [HAN.out], K2.out.trans kr (fun j e => Or.inr (by rw [e, HB.out]; omega))⟩
end Go.Proofs.YtndfhpfhgdamgaaGreatDoor.Cn
namespace Go.Proofs.YtndfhpfhgdamgaaGreatDoor.Cn
open Go.RowKit
theorem Desk.ahead {w X w' : World} {S T : Nat → Prop} {R base B : Nat} {c : Cl} {gs : List Gt} {v : Rv} {k : Dk} (k0 : Kp w X non) (h : Desk X w' S T R base B c gs v k) : Desk w w' S T R base B c gs v k := by
  obtain ⟨S', T', P, a1, a2, a3, a4, a5, a6⟩ := h
  have hz := k0.size
  refine ⟨S', T', P, a1, a2, a3, (k0.mono (T := fun j => S j ∨ T j) (fun _ f => f.elim)).trans a4 (fun _ e => Or.inl e), fun j q => ?_, fun j q => ?_⟩
  · rcases a5 j q with q | q
    · exact Or.inl q
    · exact Or.inr (by omega)
  · rcases a6 j q with q | q
    · exact Or.inl q
    · exact Or.inr (by omega)
theorem op_cells {w : World} {b : Nat} {o : Op2} (h : w.heap[b]? = some (.cells (opV o) 60)) : w.cell? ⟨b, 0, none⟩ = some (.int .i64 o.kd) ∧ w.cell? ⟨b, 2, none⟩ = some (.string o.s) ∧ w.cell? ⟨b, 3, none⟩ = some o.l ∧ w.rangeAt b 4 (mgV o.m).toList := by
  refine ⟨by rw [cell_row h]; rfl, by rw [cell_row h]; rfl, by rw [cell_row h]; rfl, fun j u hj => ?_⟩
  have hj' := (List.getElem?_eq_some_iff.1 hj).1
  have h11 : (mgV o.m).toList.length = 11 := rfl
  rw [h11] at hj'
  rw [cell_row h]
  have e : opV o = #[.int .i64 o.kd, .int .i64 o.n, .string o.s, o.l] ++ mgV o.m := rfl
  rw [e, Array.getElem?_append_right (by simp)]
  have : 4 + j - (#[Value.int .i64 o.kd, .int .i64 o.n, .string o.s, o.l]).size = j := by simp
  rw [this]
  simpa using hj
set_option maxHeartbeats 16000000 in
set_option maxRecDepth 100000 in
set_option linter.unusedSimpArgs false in
set_option linter.unusedVariables false in
/-- another kind: nothing is done -/
theorem step_else {w : World} {B : Nat} {o : Op2} (h1 : o.kd ≠ 1) (h2 : o.kd ≠ 2) (h3 : o.kd ≠ 3) (h4 : o.kd ≠ 4) (h6 : o.kd ≠ 6) : Calls Tryz.prog 19 #[.pointer (some ⟨B, 0, none⟩), .agg (opV o)] w fun e w' => e = .returned (.bool true) ∧ Kp w w' non := by
  obtain ⟨OB, hOB⟩ : ∃ OB, OB = w.heap.size := ⟨_, rfl⟩
  obtain ⟨W0, hW0⟩ : ∃ W0, W0 = w.alloc (.cells (opV o) 60) := ⟨_, rfl⟩
  have k0 : Kp w W0 non := by rw [hW0]; exact (Kp.refl w non).alloc _
  have o0 := (op_cells (show W0.heap[OB]? = _ by rw [hW0, hOB]; exact heap_last _ _)).1
  have K0 := hide k0
  have HOB := hide hOB
  have q1 : (o.kd == 1) = false := by simp [h1]
  have q2 : (o.kd == 2) = false := by simp [h2]
  have q3 : (o.kd == 3) = false := by simp [h3]
  have q4 : (o.kd == 4) = false := by simp [h4]
  have q6 : (o.kd == 6) = false := by simp [h6]
  generalize o.kd = kd at *
  clear k0 hOB
  go_enter Tryz.func19, Tryz.ntmps19
  go_upto_region 1 with fail
  rw [← hW0, ← HOB.out]
  clear hW0
  go_wp2_with fail
  go_ret
  exact ⟨rfl, K0.out⟩
set_option maxHeartbeats 16000000 in
set_option maxRecDepth 100000 in
set_option linter.unusedSimpArgs false in
set_option linter.unusedVariables false in
theorem step_tick {w : World} {S T : Nat → Prop} {R base B : Nat} {c : Cl} {gs : List Gt} {v : Rv} {k : Dk} {o : Op2} (h4 : o.kd = 4) (TI : ∀ X, Kp w X non → Calls Tryz.prog 21 #[.pointer (some ⟨B, 0, none⟩)] X fun e w' => e = .returned (.bool true) ∧ Desk X w' S T R base B c gs v k) : Calls Tryz.prog 19 #[.pointer (some ⟨B, 0, none⟩), .agg (opV o)] w fun e w' => e = .returned (.bool true) ∧ Desk w w' S T R base B c gs v k := by
  obtain ⟨OB, hOB⟩ : ∃ OB, OB = w.heap.size := ⟨_, rfl⟩
  obtain ⟨W0, hW0⟩ : ∃ W0, W0 = w.alloc (.cells (opV o) 60) := ⟨_, rfl⟩
  have k0 : Kp w W0 non := by rw [hW0]; exact (Kp.refl w non).alloc _
  have o0 := (op_cells (show W0.heap[OB]? = _ by rw [hW0, hOB]; exact heap_last _ _)).1
  rw [h4] at o0
  have TI0 := hide (TI W0 k0)
  have K0 := hide k0
  have HOB := hide hOB
  clear k0 hOB TI h4
  go_enter Tryz.func19, Tryz.ntmps19
  go_upto_region 1 with fail
  rw [← hW0, ← HOB.out]
  clear hW0
  go_wp2_with fail
  refine Calls.mono TI0.out ?_
  rintro e W1 ⟨rfl, d1⟩
  have D1 := hide (Desk.ahead K0.out d1)
  clear d1
  go_wp2_with fail
  go_ret
  exact ⟨rfl, D1.out⟩
set_option maxHeartbeats 16000000 in
set_option maxRecDepth 100000 in
set_option linter.unusedSimpArgs false in
set_option linter.unusedVariables false in
theorem step_take {w : World} {S T : Nat → Prop} {R base B : Nat} {c : Cl} {gs : List Gt} {v : Rv} {k : Dk} {o : Op2} (h3 : o.kd = 3) (TI : ∀ X, Kp w X non → Calls Tryz.prog 44 #[.pointer (some ⟨B, 0, none⟩), .agg (mgV o.m)] X fun e w' => e = .returned (.bool true) ∧ Desk X w' S T R base B c gs v k) : Calls Tryz.prog 19 #[.pointer (some ⟨B, 0, none⟩), .agg (opV o)] w fun e w' => e = .returned (.bool true) ∧ Desk w w' S T R base B c gs v k := by
  obtain ⟨OB, hOB⟩ : ∃ OB, OB = w.heap.size := ⟨_, rfl⟩
  obtain ⟨W0, hW0⟩ : ∃ W0, W0 = w.alloc (.cells (opV o) 60) := ⟨_, rfl⟩
  have k0 : Kp w W0 non := by rw [hW0]; exact (Kp.refl w non).alloc _
  obtain ⟨o0, _, _, om⟩ := op_cells (show W0.heap[OB]? = some (.cells (opV o) 60) by rw [hW0, hOB]; exact heap_last _ _)
  rw [h3] at o0
  have OM := hide om
  have TI0 := hide (TI W0 k0)
  have K0 := hide k0
  have HOB := hide hOB
  clear k0 hOB TI h3 om
  go_enter Tryz.func19, Tryz.ntmps19
  go_upto_region 1 with fail
  rw [← hW0, ← HOB.out]
  clear hW0
  go_wp2_with (refine wpList_load_mid rfl 58 (.tmp 90) rfl OB 4 rfl (mgV o.m).toList _ OM.out Tryz.underlying58 rfl mg_info ?_)
  refine Calls.mono TI0.out ?_
  rintro e W1 ⟨rfl, d1⟩
  have D1 := hide (Desk.ahead K0.out d1)
  clear d1
  go_wp2_with fail
  go_ret
  exact ⟨rfl, D1.out⟩
end Go.Proofs.YtndfhpfhgdamgaaGreatDoor.Cn
