import Derived.Test.YtndfhpfhgdamgaaGreatDoorGRvOpened
namespace Go.Proofs.YtndfhpfhgdamgaaGreatDoor.Cn
open Go.RowKit
set_option maxHeartbeats 16000000 in
set_option maxRecDepth 100000 in
set_option linter.unusedSimpArgs false in
set_option linter.unusedVariables false in
theorem cluster_any (N : Nat) (w : World) (st : ByteArray) (x : Nat → Int) (ao : Option Addr) (b o cap : Nat) (pv : Nat → Value) (ns : List ND) (h : NsAt N w ao b o pv ns) (hN : N ≤ w.heap.size) (hps : ∀ (q : Nat) (hq : q < ns.length), ns[q].ps.length ≤ 1000000) (hns : ns.length ≤ 1000000) :
    Calls Tryz.prog 12 #[.agg (clA st x (.slice ao ns.length cap))] w fun e w' => ∃ vl zs, e = .returned (.agg (clA st x vl)) ∧ zs.length = ns.length ∧ Tw (w.heap.size + 2) w' ns vl zs ∧ Below w.heap.size w w' := by
  obtain ⟨W0, hW0⟩ : ∃ W0, W0 = (w.alloc (.cells (clA st x (.slice ao ns.length cap)) 24)).alloc (.cells (clA ⟨#[]⟩ zx (.slice none 0 0)) 24) := ⟨_, rfl⟩
  have B0 : Hid (Below w.heap.size w W0) := by rw [hW0]; exact ((Below.refl _ _).alloc (Nat.le_refl _) _).alloc (by simp) _
  have C0 : Hid (ClAt W0 w.heap.size st x (.slice ao ns.length cap)) := by rw [hW0]; exact (new_cl _ _ _ _).below ((Below.refl _ _).alloc (Nat.le_refl _) _)
  have R0 : Hid (ClAt W0 (w.heap.size + 1) ⟨#[]⟩ zx (.slice none 0 0)) := by
    rw [hW0]
    have := new_cl (w.alloc (.cells (clA st x (.slice ao ns.length cap)) 24)) ⟨#[]⟩ zx (.slice none 0 0)
    simp only [World.size_alloc] at this
    exact this
  have s0 : Hid (W0.heap.size = w.heap.size + 2) := by rw [hW0]; show _ = _; simp
  have HN := hide h
  have hlen := h.len
  clear h
  obtain ⟨i0, hi0, hz0, hz1, hz2⟩ := YtndfhpfhgdamgaaGreatDoor.info_parts infoNd
  have HI : Hid (Tryz.prog.info? 87 = some i0 ∧ i0.zero = some (.agg #[.int .i64 0, .slice none 0 0]) ∧ i0.size = 2 ∧ i0.bytes = 32) := ⟨hi0, hz0, hz1, hz2⟩
  clear hi0 hz0 hz1 hz2
  go_enter Tryz.func12, Tryz.ntmps12
  go_upto_region 1 with fail
  rw [show (w.alloc (.cells (clA st x (.slice ao ns.length cap)) 24)).alloc (.cells #[.string ⟨#[]⟩, .int .i64 0, .int .i64 0, .int .i64 0, .int .i64 0, .int .i64 0, .int .i64 0, .int .i64 0, .int .i64 0, .int .i64 0, .int .i64 0, .int .i64 0, .int .i64 0, .int .i64 0, .int .i64 0, .int .i64 0, .int .i64 0, .int .i64 0, .int .i64 0, .int .i64 0, .int .i64 0, .int .i64 0, .slice none 0 0] 24) = W0 from hW0.symm]
  clear hW0
  go_wp2_with fail
  go_loopw [3, 4, 5, 6] (fun vl vi _ _ wr => ∃ (zs : List (Int × Value)), zs.length ≤ ns.length ∧ vi = .int .i64 (zs.length : Int) ∧ Tw W0.heap.size wr ns vl zs ∧ Below W0.heap.size W0 wr) (fun _ vi _ _ _ => ns.length - (intOf vi).toNat)
  case atStart => exact ⟨[], Nat.zero_le _, rfl, ⟨World.ownsRow_nil _ _ _ _, fun q hq => absurd hq (Nat.not_lt_zero _), fun q hq => absurd hq (Nat.not_lt_zero _)⟩, Below.refl _ _⟩
  case round =>
    obtain ⟨zs, hq, rfl, hT, hB⟩ := hrel
    have HT := hide hT
    have HB := hide hB
    clear hT hB
    obtain ⟨ba, cp, hv⟩ := own_sl HT.out.row
    subst hv
    by_cases hql : zs.length < ns.length
    case pos =>
      have hao := HN.out.at0 (by omega)
      subst hao
      have hqi : (zs.length : Int) < (ns.length : Int) := by omega
      obtain ⟨pa, pb, po, pc, hpv, hp⟩ := HN.out.ps zs.length hql
      have P0 := hide hp
      have hpl := hps zs.length hql
      have CC : Hid (∀ Y, Below W0.heap.size W0 Y → Y.cell? ⟨w.heap.size, 22, none⟩ = some (.slice (some ⟨b, o, none⟩) ns.length cap) ∧ Y.cell? ⟨b, o + zs.length * 2, none⟩ = some (.int .i64 ns[zs.length].z) ∧ Y.cell? ⟨b, o + zs.length * 2 + 1, none⟩ = some (.slice pa ns[zs.length].ps.length pc)) := fun Y hY => by
        have hN0 := HN.out.below ((B0.out.trans (hY.mono B0.out.size)).mono hN)
        refine ⟨(C0.out.below hY).nv, hN0.cz _ hql, ?_⟩
        rw [← hpv]
        exact hN0.cp _ hql
      have PP : Hid (∀ Y, Below W0.heap.size W0 Y → PsAt N Y pa pb po ns[zs.length].ps) := fun Y hY => P0.out.below ((B0.out.trans (hY.mono B0.out.size)).mono hN)
      clear hpv hp P0
      have TS := hide (fun X1 X3 vl' v1 => HT.out.step (X1 := X1) (X3 := X3) (vl' := vl') (v1 := v1) hql)
      have nvw := (CC.out _ HB.out).1
      have hnn : ns.length ≤ 4398046510976 := hlen
      generalize hzz : ns[zs.length].z = z at *
      generalize hpp : ns[zs.length].ps = ps at *
      clear hzz hpp
      go_wp2_with fail
      clear nvw
      generalize wr = wo at *
      go_loopw [5, 6] (fun v5 vk wr => ∃ (j : Nat) (a5 : Option Addr) (c5 : Nat) (QQ : List Int), j ≤ ps.length ∧ vk = .int .i64 (j : Int) ∧ QQ = ps.take j ∧ v5 = .slice a5 QQ.length c5 ∧ wr.ownsRow W0.heap.size 3 1 (.slice a5 QQ.length c5) QQ.length (ints QQ) ∧ (∀ k, (Value.slice a5 QQ.length c5).ownBlock = some k → wo.heap.size ≤ k) ∧ Kp wo wr non) (fun _ vk _ => ps.length - (intOf vk).toNat)
      case atStart => exact ⟨0, none, 0, [], Nat.zero_le _, rfl, rfl, rfl, World.ownsRow_nil _ _ _ _, fun k e => by simp [Value.ownBlock] at e, Kp.refl _ _⟩
      case round =>
        obtain ⟨j, a5, c5, QQ, hj, rfl, hQ, rfl, ho, hge, hk⟩ := hrel
        have HQ := hide hQ
        have HO := hide ho
        have HGE := hide hge
        have HK := hide hk
        have bq : Below W0.heap.size W0 wr := HB.out.trans (hk.below.mono HB.out.size)
        obtain ⟨y1, y2, y3⟩ := CC.out wr bq
        have PQ := PP.out wr bq
        have BQ := hide bq
        clear hQ ho hge hk bq
        by_cases hjl : j < ps.length
        case pos =>
          have hji : (j : Int) < (ps.length : Int) := by omega
          obtain rfl := PQ.at0 (by omega)
          have cj := PQ.c j hjl
          have hQl : QQ.length ≤ 1000000000000 := by
            rw [HQ.out, List.length_take]
            omega
          have HQ1 : Hid (QQ ++ [ps[j]] = ps.take (j + 1)) := by show _ = _; rw [HQ.out, List.take_succ_eq_append_getElem hjl]
          generalize ps[j] = pj at *
          obtain ⟨W4, hW4⟩ : ∃ W4, W4 = wr.alloc (.cells #[.int .i64 pj] 3) := ⟨_, rfl⟩
          have k4 : Kp wr W4 non := by rw [hW4]; exact (Kp.refl wr non).alloc _
          have GG : Hid (W4.heap[wr.heap.size]? = some (.cells #[.int .i64 pj] 3)) := by rw [hW4]; exact heap_last _ _
          have O4 := hide (own_kp HO.out k4 (fun _ _ f => f))
          have K4 : Hid (Kp wo W4 non) := HK.out.trans k4 (fun _ f => f.elim)
          have hz4 : Hid (W0.heap.size ≤ W4.heap.size ∧ wo.heap.size ≤ W4.heap.size) := ⟨Nat.le_trans BQ.out.size k4.size, K4.out.size⟩
          clear k4 PQ
          go_wp2_with (at_builtin; rw [← hW4]; refine wpList_apI rfl (.tmp 25) (.tmp 35) rfl W0.heap.size _ QQ.length QQ rfl O4.out wr.heap.size pj rfl GG.out hQl hz4.out.1 ?_; intro v' w' o2 g2 n2; have O5 := hide o2; have KG := hide (Kp.of_grown g2); have N5 := hide n2; clear o2 g2 n2)
          obtain ⟨a6, c6, rfl⟩ := own_sl O5.out
          have K5 : Hid (Kp wo w' non) := K4.out.trans KG.out (fun k e => Or.inr (HGE.out k e.symm))
          have GE5 : Hid (∀ k, (Value.slice a6 (QQ.length + 1) c6).ownBlock = some k → wo.heap.size ≤ k) := fun k e => by
            rcases N5.out with r | r
            · exact HGE.out k (r.symm.trans e)
            · rw [e] at r
              simp at r
              have := hz4.out.2
              omega
          go_roundw
          case rel => exact ⟨j + 1, a6, c6, QQ ++ [pj], by omega, by go_num, HQ1.out, by rw [List.length_append]; rfl, by rw [List.length_append]; exact O5.out, by rw [List.length_append]; exact GE5.out, K5.out⟩
          case measure => simp [intOf]; omega
        case neg =>
          obtain rfl : j = ps.length := by omega
          have hQe := HQ.out
          rw [List.take_length] at hQe
          subst hQe
          have G1 : Below wo.heap.size wo wr := HK.out.below
          obtain ⟨W5, hW5⟩ : ∃ W5, W5 = wr.alloc (.cells #[.int .i64 z, .slice a5 QQ.length c5] 87) := ⟨_, rfl⟩
          have T1 : Hid (Tw W0.heap.size W5 ns (.slice ba zs.length cp) zs) := by rw [hW5]; exact (HT.out.keep G1).keep ((Below.refl _ _).alloc (Nat.le_refl _) _)
          have NC := hide (nd_cells wr z (.slice a5 QQ.length c5))
          rw [← hW5] at NC
          have hb5 : Hid (W0.heap.size ≤ W5.heap.size) := by rw [hW5]; exact Nat.le_trans BQ.out.size (by simp)
          have BB5 : Hid (Below W0.heap.size W0 W5) := by rw [hW5]; exact BQ.out.alloc BQ.out.size _
          have GN : Hid (wo.grownBy wr none) := ⟨G1.os, G1.tape, G1.output, G1.size, fun i hi _ => G1.block i hi⟩
          have HW5 : Hid (W5 = wr.alloc (.cells #[.int .i64 z, .slice a5 QQ.length c5] 87)) := hW5
          have hzl2 : zs.length ≤ 1000000 := by omega
          clear PQ G1
          go_wp2_with (first
            | refine wpList_blR rfl 87 #[(0, .tmp 43), (1, .tmp 44)] rfl #[.int .i64 z, .slice a5 QQ.length c5] (built_nd _ _ _ _) ?_
            | refine wpList_plain rfl fun _ hK => wp_bsNd (.tmp 45) rfl rfl (hK _ _ ?_)
            | (at_builtin; rw [← hW5]; refine wpList_append_own_at _ rfl (.tmp 37) (.tmp 46) 22 rfl W0.heap.size 87 i0 _ 2 32 Tryz.underlying22 HI.out.1 HI.out.2.1 HI.out.2.2.1 HI.out.2.2.2 rfl (by decide) (.slice ba zs.length cp) zs.length (ndc zs) rfl T1.out.row ⟨wr.heap.size, 0, none⟩ 1 1 (ndc [(z, .slice a5 QQ.length c5)]) rfl rfl NC.out (nd_one rfl) (by unfold maxLen; omega) (by omega) hb5.out ?_; intro vl' X3 o3 g3 _ _; have O3 := hide o3; have G3 := hide g3; clear o3 g3))
          have g3' := G3.out
          rw [HW5.out] at g3'
          have T3 := hide (TS.out wr X3 vl' _ HO.out GN.out O3.out g3')
          have S3 : Hid (Below W0.heap.size W0 X3) := BB5.out.grown G3.out hb5.out (fun j hj => (YtndfhpfhgdamgaaGreatDoor.own_lt T1.out.row hj).1)
          clear g3' hW5
          obtain ⟨ba', cp', hvl'⟩ := own_sl O3.out
          subst hvl'
          go_roundw
          case rel => exact ⟨zs ++ [(z, .slice a5 QQ.length c5)], by simp; omega, by simp, T3.out, S3.out⟩
          case measure => simp [intOf]; omega
    case neg =>
      have hqe : zs.length = ns.length := by omega
      rw [hqe] at HT ⊢
      have hqi : ¬ (ns.length : Int) < (ns.length : Int) := by omega
      have CW := C0.out.below HB.out
      have nvw := CW.nv
      have fvw : wr.frozen? ⟨w.heap.size, 22, none⟩ = false := fz_row CW 22
      obtain ⟨X6, hX6⟩ : ∃ X6, X6 = wr.setCell ⟨w.heap.size, 22, none⟩ (.slice ba ns.length cp) := ⟨_, rfl⟩
      have C6 : Hid (ClAt X6 w.heap.size st x (.slice ba ns.length cp)) := by rw [hX6]; exact CW.set _
      have B6 : Hid (Below w.heap.size w X6) := by rw [hX6]; exact set_below (B0.out.trans (HB.out.mono B0.out.size)) (Nat.le_refl _)
      have k6 : Kp wr X6 (fun k => k = w.heap.size) := by rw [hX6]; exact (Kp.refl wr (fun k => k = w.heap.size)).set (Or.inl rfl) _ _
      have R5 : ClAt wr (w.heap.size + 1) ⟨#[]⟩ zx (.slice none 0 0) := (HB.out.block _ (by have := s0.out; omega)).trans R0.out
      have R6 : Hid (ClAt X6 (w.heap.size + 1) ⟨#[]⟩ zx (.slice none 0 0)) := (k6.block _ (blk_lt R5) (by omega)).trans R5
      have T6 : Hid (Tw W0.heap.size X6 ns (.slice ba ns.length cp) zs) := ⟨own_keep HT.out.row fun g hg => k6.block g (YtndfhpfhgdamgaaGreatDoor.own_lt HT.out.row hg).2 (by have := (YtndfhpfhgdamgaaGreatDoor.own_lt HT.out.row hg).1; have := s0.out; omega), HT.out.z, fun q hq hq' => own_keep (HT.out.p q hq hq') fun g hg => k6.block g (YtndfhpfhgdamgaaGreatDoor.own_lt (HT.out.p q hq hq') hg).2 (by have := (YtndfhpfhgdamgaaGreatDoor.own_lt (HT.out.p q hq hq') hg).1; have := s0.out; omega)⟩
      clear CW k6 R5 HN hqi
      go_upto_region 12 with fail
      rw [← hX6]
      clear hX6 nvw fvw
      go_wp2_with (first | (refine wpList_loadCl rfl (.tmp 1) rfl w.heap.size st x _ rfl C6.out ?_) | (refine wpList_store_row rfl 24 (.tmp 2) (.tmp 50) rfl (w.heap.size + 1) (clA st x (.slice ba ns.length cp)) rfl rfl 24 _ R6.out infoCl rfl (clA_one st x rfl) ?_))
      have E6 : ClAt (X6.setRow (w.heap.size + 1) (clA st x (.slice ba ns.length cp))) (w.heap.size + 1) st x (.slice ba ns.length cp) := setRow_heap X6 (w.heap.size + 1) _ _ 24 _ R6.out
      have oth : ∀ i, i ≠ w.heap.size + 1 → (X6.setRow (w.heap.size + 1) (clA st x (.slice ba ns.length cp))).heap[i]? = X6.heap[i]? := fun i hi => setRow_other X6 (w.heap.size + 1) i _ (fun e => hi (by first | exact e | exact e.symm))
      have T7 : Tw W0.heap.size (X6.setRow (w.heap.size + 1) (clA st x (.slice ba ns.length cp))) ns (.slice ba ns.length cp) zs := ⟨own_keep T6.out.row fun g hg => oth g (by have := (YtndfhpfhgdamgaaGreatDoor.own_lt T6.out.row hg).1; have := s0.out; omega), T6.out.z, fun q hq hq' => own_keep (T6.out.p q hq hq') fun g hg => oth g (by have := (YtndfhpfhgdamgaaGreatDoor.own_lt (T6.out.p q hq hq') hg).1; have := s0.out; omega)⟩
      rw [s0.out] at T7
      have B7 : Below w.heap.size w (X6.setRow (w.heap.size + 1) (clA st x (.slice ba ns.length cp))) := below_setRow B6.out (by omega) _
      refine bodyPost_ret (v := .agg (clA st x (.slice ba ns.length cp))) (res_cl Tryz.results12 _ st x _ _ (w.heap.size + 1) rfl E6) rfl (by first | exact ⟨_, rfl, zs, hqe, T7, B7⟩ | exact ⟨_, zs, rfl, hqe, T7, B7⟩)
end Go.Proofs.YtndfhpfhgdamgaaGreatDoor.Cn
namespace Go.Proofs.YtndfhpfhgdamgaaGreatDoor.Cn
open Go.RowKit
/-- what a step leaves: the router, the desk -/
def Desk (w w' : World) (S T : Nat → Prop) (R base B : Nat) (c : Cl) (gs : List Gt) (v : Rv) (k : Dk) : Prop := ∃ S' T' P, RtAt w' S' R c P v ∧ P.map (·.g) = gs ∧ DkAt w' base T' B R k ∧ Kp w w' (fun j => S j ∨ T j) ∧ (∀ j, S' j → S j ∨ w.heap.size ≤ j) ∧ ∀ j, T' j → T j ∨ w.heap.size ≤ j
def lost (o : Oc) : Prop := o.code = 171 ∧ o.node = -1 ∧ o.ver = 0 ∧ o.val = ⟨#[]⟩
set_option linter.unusedVariables false in
theorem okEnds_wnt {k : Dk} {L : List Mg} : ∀ {E : List Oc}, okEnds k E → okEnds (k.wnt L) E
  | [], _ => trivial
  | o :: r, h => ⟨h.1, okEnds_wnt (k := k.mark (o.tk - 1).toNat) h.2⟩
set_option maxHeartbeats 16000000 in
set_option maxRecDepth 100000 in
set_option linter.unusedSimpArgs false in
set_option linter.unusedVariables false in
theorem dtick_any {w : World} {S T : Nat → Prop} {R base B : Nat} {c : Cl} {P : List Gp} {v v' : Rv} {gs' : List Gt} {k : Dk} {L : List Mg} {E : List Oc} (h : RtAt w S R c P v) (hd : DkAt w base T B R k) (hb : base ≤ w.heap.size)
    (TK : Calls Tryz.prog 27 #[.pointer (some ⟨R, 0, none⟩)] w fun e w' => ∃ S' P' vo ve, e = .returned (.tuple #[vo, ve, .int .i64 0]) ∧ RtAt w' S' R c P' v' ∧ P'.map (·.g) = gs' ∧ w'.ownsRow w.heap.size 58 11 vo L.length (mgs L) ∧ w'.ownsRow w.heap.size 96 6 ve E.length (ocs E) ∧ Kp w w' S ∧ ∀ k, S' k → S k)
    (hE : ∀ o ∈ E, lost o) (hk : okEnds k E) (hdl : k.done.length = k.keys.length) (hkl : k.keys.length ≤ 400000000000) (hwl : k.went.length ≤ 400000000000) (hLl : L.length ≤ 1000000) (hEl : E.length ≤ 1000000) :
    Calls Tryz.prog 21 #[.pointer (some ⟨B, 0, none⟩)] w fun e w' => e = .returned (.bool true) ∧ Desk w w' S T R base B c gs' v' ((k.wnt L).ends E) := by
  have AP := hd.apart h
  have b0 : w.cell? ⟨B, 0, none⟩ = some (.pointer (some ⟨R, 0, none⟩)) := by
    obtain ⟨vw, vk, vd, hx, hT⟩ := hd
    rw [cell_row hx.blk]
    rfl
  have HD := hide hd
  have TKH := hide TK
  have HAP := hide AP
  have HE := hide hE
  have HK := hide hk
  have NU := hide fun w n => num_r w n
  have Tlt : Hid (∀ j, T j → j < w.heap.size) := fun j q => by
    obtain ⟨_, A, t, e, _⟩ := hd.kind q
    exact blk_lt e
  clear h hd TK AP hE hk
  go_enter Tryz.func21, Tryz.ntmps21
  go_wp2_with fail
  refine Calls.mono TKH.out ?_
  rintro e W1 ⟨S', P', vo, ve, rfl, r1, g1, o1, e1, k1, s1⟩
  obtain ⟨oa, oc, hvo⟩ := own_sl o1
  obtain ⟨ea, ec, hve⟩ := own_sl e1
  subst hvo
  subst hve
  have R1 := hide r1
  have GS1 := hide g1
  have O1 := hide o1
  have E1 := hide e1
  have K1 := hide k1
  have S1 := hide s1
  have D1 := hide (HD.out.kp k1 (fun j q => HAP.out j q))
  clear r1 g1 o1 e1 k1 s1 TKH b0
  go_wp2_with (go_at_call 8; refine Calls.mono (NU.out _ _) ?_; rintro e w' ⟨rfl, rfl⟩)
  go_loopw [6] (fun vi wr => W1 = wr ∧ ∃ (i : Nat), i ≤ E.length ∧ vi = .int .i64 (i : Int)) (fun vi _ => E.length - (intOf vi).toNat)
  case atStart => exact ⟨rfl, 0, Nat.zero_le _, rfl⟩
  case round =>
    obtain ⟨rfl, i, hi, rfl⟩ := hrel
    by_cases hin : i < E.length
    case pos =>
      have hii : (i : Int) < (E.length : Int) := by omega
      obtain ⟨g, gc, hg⟩ := own_g E1.out (by omega)
      injection hg with hg _ hgc
      subst hg
      subst hgc
      have RG := oc_range E1.out hin rfl
      obtain ⟨l1, l2, l3, l4⟩ := HE.out E[i] (List.getElem_mem hin)
      have c2 := RG 2 _ rfl
      have c3 := RG 3 _ rfl
      have c4 := RG 4 _ rfl
      have c5 := RG 5 _ rfl
      rw [l1] at c2
      rw [l2] at c3
      rw [l3] at c4
      rw [l4] at c5
      clear RG l1 l2 l3 l4
      go_wp2_with (go_at_call 8; refine Calls.mono (NU.out _ _) ?_; rintro e w' ⟨rfl, rfl⟩)
      go_roundw
      case rel => exact ⟨by first | trivial | rfl, i + 1, by omega, by go_num⟩
      case measure => simp [intOf]; omega
    case neg =>
      obtain rfl : i = E.length := by omega
      obtain ⟨vw, vk, vd, hx, hT⟩ := D1.out
      obtain ⟨wa, wc, hvw⟩ := own_sl hx.fw
      subst hvw
      have b1 : W1.cell? ⟨B, 1, none⟩ = some (.slice wa k.went.length wc) := by rw [cell_row hx.blk]; rfl
      have JO := hide (joined_any hx.fw O1.out (by omega))
      have HX := hide hx
      have HT := hide hT
      have TG : Hid (∀ j, (Value.slice ea E.length ec).ownBlock = some j → ¬ T j) := fun j q s => by
        have := own_ge E1.out q
        have := Tlt.out j s
        omega
      clear hx hT
      go_upto_region 9 with fail
      go_wp2_with fail
      refine Calls.mono JO.out ?_
      rintro e W5 ⟨u, rfl, o5, b5⟩
      obtain ⟨ua, uc, hu⟩ := own_sl o5
      subst hu
      have k5 := Kp.of_below b5 non
      have gb : base ≤ W1.heap.size := Nat.le_trans hb K1.out.size
      obtain ⟨e6, x6, k6, s6⟩ := HX.out.putw (L := k.went ++ L) (own_base o5 gb) (k5.mono (fun _ f => f.elim)) (fun j e => Or.inr (own_ge o5 e))
      have c6 : W5.cell? ⟨B, 1, none⟩ = some (.slice wa k.went.length wc) := by rw [cell_row (e6.trans HX.out.blk)]; rfl
      have f6 : W5.frozen? ⟨B, 1, none⟩ = false := fz_row (e6.trans HX.out.blk) 1
      obtain ⟨W6, hW6⟩ : ∃ W6, W6 = W5.setCell ⟨B, 1, none⟩ (.slice ua (k.went ++ L).length uc) := ⟨_, rfl⟩
      rw [← hW6] at x6 k6
      have kT : Kp W1 W6 T := k6.mono (fun j q => (HT.out j).2 q)
      have D6 : DkAt W6 base (DkS B (.slice ua (k.went ++ L).length uc) vk vd) B R (k.wnt L) := ⟨_, _, _, x6, fun _ => Iff.rfl⟩
      have E6 := own_kp E1.out kT TG.out
      have EN := hide (ended_any D6 E6 (okEnds_wnt HK.out) (by exact hdl) (by show k.keys.length ≤ _; omega) hEl)
      have R6 := hide (R1.out.kp kT (fun j q s => HAP.out j s (S1.out j q)))
      have K6 : Hid (Kp w W6 (fun j => S j ∨ T j)) := (K1.out.mono (fun j q => Or.inl q)).trans kT (fun j q => Or.inl (Or.inr q))
      have S6 : Hid (∀ j, DkS B (.slice ua (k.went ++ L).length uc) vk vd j → T j ∨ w.heap.size ≤ j) := fun j q => by
        have := K1.out.size
        rcases s6 j q with q | q
        · exact Or.inl ((HT.out j).2 q)
        · exact Or.inr (by omega)
      have AP6 : Hid (∀ j, DkS B (.slice ua (k.went ++ L).length uc) vk vd j → ¬ S' j) := D6.apart R6.out
      generalize hwl' : (k.went ++ L).length = wl at *
      clear o5 b5 k5 e6 x6 k6 s6 JO b1 kT D6 E6
      go_upto_region 10 with fail
      rw [← hW6]
      clear hW6 c6 f6
      go_wp2_with fail
      refine Calls.mono EN.out ?_
      rintro e W7 ⟨rfl, d7, k7⟩
      go_wp2_with fail
      go_ret
      refine ⟨rfl, S', _, P', R6.out.kp k7 (fun j q s => AP6.out j s q), GS1.out, d7, K6.out.trans k7 (fun j q => ?_), fun j q => Or.inl (S1.out j q), S6.out⟩
      rcases S6.out j q with r | r
      · exact Or.inl (Or.inr r)
      · exact Or.inr r
end Go.Proofs.YtndfhpfhgdamgaaGreatDoor.Cn
namespace Go.Proofs.YtndfhpfhgdamgaaGreatDoor.Cn
open Go.RowKit
/-- an outcome that says what a message says, which answers what went out -/
def says (k : Dk) (m : Mg) (o : Oc) : Prop := o.tk = m.id ∧ o.key = m.key ∧ o.code = m.code ∧ o.node = m.fr ∧ o.ver = m.ver ∧ ((m.code = 0 ∧ o.val = m.val) ∨ (m.code = 144 ∧ o.val = ⟨#[]⟩)) ∧ ∃ x ∈ k.went, x.kind = 11 ∧ x.id = o.tk ∧ x.td = o.node ∧ x.key = o.key
def tookOk (k : Dk) (m : Mg) (E : List Oc) : Prop := E = [] ∨ ∃ o, E = [o] ∧ (o.code = 171 ∨ says k m o)
set_option maxHeartbeats 16000000 in
set_option maxRecDepth 100000 in
set_option linter.unusedSimpArgs false in
set_option linter.unusedVariables false in
theorem took_none {w : World} {B : Nat} {m : Mg} : Calls Tryz.prog 69 #[.pointer (some ⟨B, 0, none⟩), .agg (mgV m), .slice none 0 0] w fun e w' => e = .returned (.bool true) ∧ Kp w w' non := by
  have K0 := hide ((Kp.refl w non).alloc (.cells (mgV m) 58))
  go_enter Tryz.func69, Tryz.ntmps69
  go_wp2_with fail
  go_ret
  exact ⟨rfl, K0.out⟩
set_option maxHeartbeats 16000000 in
set_option maxRecDepth 100000 in
set_option linter.unusedSimpArgs false in
set_option linter.unusedVariables false in
theorem took_zero {w : World} {B : Nat} {m : Mg} (ea : Option Addr) (ec : Nat) : Calls Tryz.prog 69 #[.pointer (some ⟨B, 0, none⟩), .agg (mgV m), .slice ea 0 ec] w fun e w' => e = .returned (.bool true) ∧ Kp w w' non := by
  have K0 := hide ((Kp.refl w non).alloc (.cells (mgV m) 58))
  go_enter Tryz.func69, Tryz.ntmps69
  go_wp2_with fail
  go_ret
  exact ⟨rfl, K0.out⟩
set_option maxHeartbeats 16000000 in
set_option maxRecDepth 100000 in
set_option linter.unusedSimpArgs false in
set_option linter.unusedVariables false in
theorem took_lost {w : World} {B be eg ec : Nat} {m : Mg} {o : Oc} (he : w.ownsRow be 96 6 (.slice (some ⟨eg, 0, none⟩) 1 ec) 1 (ocs [o])) (ho : o.code = 171) : Calls Tryz.prog 69 #[.pointer (some ⟨B, 0, none⟩), .agg (mgV m), .slice (some ⟨eg, 0, none⟩) 1 ec] w fun e w' => e = .returned (.bool true) ∧ Kp w w' non := by
  obtain ⟨W0, hW0⟩ : ∃ W0, W0 = w.alloc (.cells (mgV m) 58) := ⟨_, rfl⟩
  have k0 : Kp w W0 non := by rw [hW0]; exact (Kp.refl w non).alloc _
  have RG := oc_range (own_kp he k0 (fun _ _ f => f)) (i := 0) (by simp) rfl
  have c2 : W0.cell? ⟨eg, 2, none⟩ = some (.int .i64 171) := by
    have := RG 2 _ rfl
    rw [Nat.zero_mul, Nat.zero_add] at this
    rw [this]
    show some (Value.int .i64 o.code) = _
    rw [ho]
  have NU := hide fun w n => num_r w n
  have K0 := hide k0
  clear RG k0 he ho
  go_enter Tryz.func69, Tryz.ntmps69
  go_upto_region 1 with fail
  rw [← hW0]
  clear hW0
  go_wp2_with (go_at_call 8; refine Calls.mono (NU.out _ _) ?_; rintro e w' ⟨rfl, rfl⟩)
  go_ret
  exact ⟨rfl, K0.out⟩
def hits (id fr : Int) (key : ByteArray) (x : Mg) : Bool := decide (x.kind = 11) && decide (x.id = id) && decide (x.td = fr) && decide (x.key = key)
set_option maxHeartbeats 16000000 in
set_option maxRecDepth 100000 in
set_option linter.unusedSimpArgs false in
set_option linter.unusedVariables false in
theorem took_says {w : World} {base B R be eg ec : Nat} {T : Nat → Prop} {k : Dk} {m : Mg} {o : Oc} (hd : DkAt w base T B R k) (he : w.ownsRow be 96 6 (.slice (some ⟨eg, 0, none⟩) 1 ec) 1 (ocs [o])) (ho : says k m o) (hwl : k.went.length ≤ 1000000000000) : Calls Tryz.prog 69 #[.pointer (some ⟨B, 0, none⟩), .agg (mgV m), .slice (some ⟨eg, 0, none⟩) 1 ec] w fun e w' => e = .returned (.bool true) ∧ Kp w w' non := by
  obtain ⟨h1, h2, h3, h4, h5, h6, x, hxw, x1, x2, x3, x4⟩ := ho
  obtain ⟨MB, hMB⟩ : ∃ MB, MB = w.heap.size := ⟨_, rfl⟩
  obtain ⟨W0, hW0⟩ : ∃ W0, W0 = w.alloc (.cells (mgV m) 58) := ⟨_, rfl⟩
  have k0 : Kp w W0 non := by rw [hW0]; exact (Kp.refl w non).alloc _
  have m0 : MgAt W0 MB m := by rw [hW0, hMB]; exact MgAt.new w m
  have RG := oc_range (own_kp he k0 (fun _ _ f => f)) (i := 0) (by simp) rfl
  rw [Nat.zero_mul] at RG
  have RGo : Hid (W0.rangeAt eg 0 (ocV o).toList) := RG
  obtain ⟨OB, hOB⟩ : ∃ OB, OB = W0.heap.size := ⟨_, rfl⟩
  obtain ⟨W1, hW1⟩ : ∃ W1, W1 = W0.alloc (.cells (ocV o) 96) := ⟨_, rfl⟩
  have k1 : Kp W0 W1 non := by rw [hW1]; exact (Kp.refl W0 non).alloc _
  have O1 : W1.heap[OB]? = some (.cells (ocV o) 96) := by rw [hW1, hOB]; exact heap_last _ _
  obtain ⟨_, m1, _, m3, _, _, m6, _, m8, m9, m10⟩ := (m0.keep k1 (fun f => f)).cells
  have p0 : W1.cell? ⟨OB, 0, none⟩ = some (.int .i64 m.id) := by rw [cell_row O1, ← h1]; rfl
  have p1 : W1.cell? ⟨OB, 1, none⟩ = some (.string m.key) := by rw [cell_row O1, ← h2]; rfl
  have p2 : W1.cell? ⟨OB, 2, none⟩ = some (.int .i64 m.code) := by rw [cell_row O1, ← h3]; rfl
  have p3 : W1.cell? ⟨OB, 3, none⟩ = some (.int .i64 m.fr) := by rw [cell_row O1, ← h4]; rfl
  have p4 : W1.cell? ⟨OB, 4, none⟩ = some (.int .i64 m.ver) := by rw [cell_row O1, ← h5]; rfl
  have p5 : W1.cell? ⟨OB, 5, none⟩ = some (.string o.val) := by rw [cell_row O1]; rfl
  have c2 : W0.cell? ⟨eg, 2, none⟩ = some (.int .i64 m.code) := by
    have := RG 2 _ rfl
    rw [Nat.zero_add] at this
    rw [this]
    show some (Value.int .i64 o.code) = _
    rw [h3]
  have c171 : ¬ m.code = 171 := by omega
  have q171 : (m.code == 171) = false := by simp [c171]
  have K1 : Hid (Kp w W1 non) := k0.trans k1 (fun _ f => f.elim)
  have HIT : Hid (∃ (i : Nat) (h : i < k.went.length), hits m.id m.fr m.key k.went[i] = true) := by
    obtain ⟨i, hi, e⟩ := List.getElem_of_mem hxw
    refine ⟨i, hi, ?_⟩
    rw [e]
    unfold hits
    simp [x1, x2, x3, x4, h1, h2, h4]
  have D1 := hd.kp K1.out (fun _ _ f => f)
  obtain ⟨vw, vk, vd, hx, hT⟩ := D1
  obtain ⟨wa, wc, hvw⟩ := own_sl hx.fw
  subst hvw
  have b1 : W1.cell? ⟨B, 1, none⟩ = some (.slice wa k.went.length wc) := by rw [cell_row hx.blk]; rfl
  have HW := hide hx.fw
  have NU := hide fun w n => num_r w n
  have HMB := hide hMB
  have HOB := hide hOB
  generalize k.went = WW at *
  generalize m.id = id at *
  generalize m.key = key at *
  generalize hcd : m.code = cd at *
  generalize m.fr = fr at *
  generalize m.ver = ver at *
  generalize m.val = mv at *
  generalize hov : o.val = ov at *
  clear hx hT hd he k0 k1 m0 RG O1 hMB hOB hxw x1 x2 x3 x4 h1 h2 h3 h4 h5 hcd hov
  have PART : Hid ((cd = 0 ∧ ov = mv) ∨ (cd = 144 ∧ ov = ⟨#[]⟩)) := h6
  clear h6
  rcases PART.out with ⟨rfl, rfl⟩ | ⟨rfl, rfl⟩
  all_goals
    clear PART c171 q171
    go_enter Tryz.func69, Tryz.ntmps69
    go_upto_region 1 with fail
    rw [← hW0, ← HMB.out]
    clear hW0
    go_upto_region 5 with (go_at_call 8; refine Calls.mono (NU.out _ _) ?_; rintro e w' ⟨rfl, rfl⟩)
    clear c2
    go_upto_region 6 with (first
      | refine wpList_load_mid rfl 96 (.tmp 24) rfl eg 0 rfl (ocV o).toList _ RGo.out Tryz.underlying96 rfl oc_info ?_
      | refine wpList_stR rfl 96 (.tmp 7) (.tmp 25) rfl W0.heap.size rfl (ocV o) (ocV oc0) rfl _ (heap_last W0 _) oc_info rfl (oc_one _) ?_)
    rw [World.setRow_alloc_new, ← hW1, ← HOB.out]
    clear hW1 RGo
    go_upto_region 10 with (go_at_call 8; refine Calls.mono (NU.out _ _) ?_; rintro e w' ⟨rfl, rfl⟩)
    go_wp2_with fail
    go_loopw [8] (fun vi wr => ∃ (i : Nat), i ≤ WW.length ∧ vi = .int .i64 (i : Int) ∧ (∀ (j : Nat) (h : j < WW.length), j < i → hits id fr key WW[j] = false) ∧ ∃ n, wr = W1.drewN n) (fun vi _ => WW.length - (intOf vi).toNat)
    case atStart => exact ⟨0, Nat.zero_le _, rfl, fun j _ q => absurd q (Nat.not_lt_zero _), 0, rfl⟩
    case round =>
      obtain ⟨i, hi, rfl, hno, n, rfl⟩ := hrel
      have HNO := hide hno
      clear hno
      by_cases hin : i < WW.length
      case pos =>
        have hii : (i : Int) < (WW.length : Int) := by omega
        have HW' := HW.out
        obtain ⟨wg, wgc, hwg⟩ := own_g HW' (by omega)
        injection hwg with hwg _ hwgc
        subst hwg
        subst hwgc
        have RGm := mg_range HW' hin rfl
        have e0 := RGm 0 _ rfl
        have e2 := RGm 2 _ rfl
        have e3 := RGm 3 _ rfl
        have e9 := RGm 9 _ rfl
        rw [Nat.add_zero] at e0
        have HH : Hid (hits id fr key WW[i] = (decide (WW[i].kind = 11) && decide (WW[i].id = id) && decide (WW[i].td = fr) && decide (WW[i].key = key))) := rfl
        have NX : Hid (hits id fr key WW[i] = false → ∀ (j : Nat) (h : j < WW.length), j < i + 1 → hits id fr key WW[j] = false) := fun q j h hj => by
          by_cases e : j = i
          · subst e
            exact q
          · exact HNO.out j h (by omega)
        generalize hhb : hits id fr key WW[i] = hb at *
        generalize WW[i].kind = xk at *
        generalize WW[i].id = xi at *
        generalize WW[i].td = xt at *
        generalize WW[i].key = xy at *
        clear RGm HW' hhb
        by_cases z1 : xk = 11
        · subst z1
          by_cases z2 : xi = id
          · subst z2
            by_cases z3 : xt = fr
            · subst z3
              by_cases z4 : xy = key
              · subst z4
                go_wp2_with fail
                go_quiet (fail)
                go_wp2_with fail
                go_ret
                exact ⟨rfl, (K1.out.drewN _).drewN _⟩
              · have y4 : (xy.toList == key.toList) = false := by rw [eq_beq]; exact decide_eq_false z4
                have HF : Hid (hb = false) := by show _ = _; rw [HH.out, decide_eq_false z4, Bool.and_false]
                go_wp2_with fail
                go_quiet (fail)
                go_wp2_with fail
                go_roundw
                case rel => exact ⟨i + 1, by omega, by go_num, NX.out HF.out, n + nq, by first | rfl | rw [World.drewN_drewN]⟩
                case measure => simp [intOf]; omega
            · have y3 : (xt == fr) = false := by simp [z3]
              have HF : Hid (hb = false) := by show _ = _; rw [HH.out, decide_eq_false z3, Bool.and_false, Bool.false_and]
              go_wp2_with fail
              go_quiet (fail)
              go_wp2_with fail
              go_roundw
              case rel => exact ⟨i + 1, by omega, by go_num, NX.out HF.out, n + nq, by first | rfl | rw [World.drewN_drewN]⟩
              case measure => simp [intOf]; omega
          · have y2 : (xi == id) = false := by simp [z2]
            have HF : Hid (hb = false) := by show _ = _; rw [HH.out, decide_eq_false z2, Bool.and_false, Bool.false_and, Bool.false_and]
            go_wp2_with fail
            go_quiet (fail)
            go_wp2_with fail
            go_roundw
            case rel => exact ⟨i + 1, by omega, by go_num, NX.out HF.out, n + nq, by first | rfl | rw [World.drewN_drewN]⟩
            case measure => simp [intOf]; omega
        · have y1 : (xk == 11) = false := by simp [z1]
          have HF : Hid (hb = false) := by show _ = _; rw [HH.out, decide_eq_false z1, Bool.false_and, Bool.false_and, Bool.false_and]
          go_wp2_with fail
          go_quiet (fail)
          go_wp2_with fail
          go_roundw
          case rel => exact ⟨i + 1, by omega, by go_num, NX.out HF.out, n + nq, by first | rfl | rw [World.drewN_drewN]⟩
          case measure => simp [intOf]; omega
      case neg =>
        obtain ⟨j, hj, hjt⟩ := HIT.out
        have := HNO.out j hj (by omega)
        rw [this] at hjt
        exact absurd hjt (by decide)
end Go.Proofs.YtndfhpfhgdamgaaGreatDoor.Cn
