import Derived.Test.YtcmffbhfdlenkaaGreatDoorGRuAsk
namespace Go.Proofs.YtcmffbhfdlenkaaGreatDoor.Cn
open Go.RowKit
theorem filt_take {f : Int → Bool} {os : List Int} {i : Nat} (h : i < os.length) : (os.take (i + 1)).filter f = (os.take i).filter f ++ if f os[i] then [os[i]] else [] := by
  rw [List.take_succ_eq_append_getElem h, List.filter_append]
  congr 1
  by_cases e : f os[i] = true
  · simp [e]
  · simp [e]
set_option maxHeartbeats 16000000 in
set_option maxRecDepth 100000 in
set_option linter.unusedSimpArgs false in
set_option linter.unusedVariables false in
theorem owners_any {w : World} {S : Nat → Prop} {R : Nat} {c : Cl} {P : List Gp} {v : Rv} (h : RtAt w S R c P v) (hT : TabD w) (he : errP c.st c.x c.ns = 0) (hs : c.st.size ≤ 9223372036854775807) (key : ByteArray) (hk : ¬ (key.size = 0 ∨ 255 < key.size)) (hf : v.d.fits) (hen : v.d.enb) (hdn : v.d.n = c.ns.length) :
    Calls Tryz.prog 71 #[.pointer (some ⟨R, 0, none⟩), .string key] w fun e w' => ∃ g, e = .returned (.slice (some ⟨g, 0, none⟩) (ordL v.d (baseOf c key)).length (ordL v.d (baseOf c key)).length) ∧ Rw w' g (ordL v.d (baseOf c key)) ∧ (ordL v.d (baseOf c key)).length = (baseOf c key).length ∧ w.heap.size ≤ g ∧ Below w.heap.size w w' := by
  obtain ⟨D, M, S1, Kb, ao, nb, no, ncap, pv, hx, hS⟩ := h
  obtain ⟨o1, o2, o3, o4, o5, o6⟩ := owns_ok he key
  obtain ⟨p1, p2, p3⟩ := base_ok he key
  have LO := locate_any w.heap.size w c.st c.x ao nb no ncap pv c.ns key hx.nod.at (Nat.le_refl _) hs (by omega) hT
  have le0 := lcE_ok he hk
  rw [le0, lcV_ok le0] at LO
  have LOC := hide LO
  have HX := hide hx
  have hrb : Hid (w.heap[R]? = some (.cells (rtA c (.slice ao c.ns.length ncap) D M v) 85)) := hx.blk
  obtain ⟨os, hos⟩ : ∃ os, os = ownsOf c key := ⟨_, rfl⟩
  have OW : Hid (∀ X : World, RtX X R c P v D M S1 Kb ao nb no ncap pv → Calls Tryz.prog 15 #[.agg (clA c.st c.x (.slice ao c.ns.length ncap)), .int .i64 (lcP c.ns key)] X fun e w' => ∃ u, e = .returned (.tuple #[u, .int .i64 0]) ∧ w'.ownsRow X.heap.size 3 1 u os.length (ints os) ∧ Below X.heap.size X w') := fun X hX => by
    have := Owners_any X.heap.size X c.st c.x ao nb no ncap pv c.ns (lcP c.ns key) hX.nod.at (Nat.le_refl _) hs
    rw [o6] at this
    have hl : os.length = (wkE c.st c.x c.ns (lcP c.ns key)).length := by rw [hos]; unfold ownsOf; rw [owL_len]
    rw [hl, hos]
    exact this
  have hle : Hid ((rowOf c os).length ≤ 300) := by
    have : rowOf c os = baseOf c key := by rw [hos]; rfl
    show _ ≤ _
    rw [this]
    omega
  have OR : Hid (∀ (X : World) (ao' : Option Addr) (b' o' cap' : Nat), DtAt X S1 D v.d → IsAt X ao' b' o' (rowOf c os) → Calls Tryz.prog 85 #[.pointer (some ⟨D, 0, none⟩), .slice ao' (rowOf c os).length cap'] X fun e w' => ∃ g, e = .returned (.tuple #[.slice (some ⟨g, 0, none⟩) (rowOf c os).length (rowOf c os).length, .int .i64 0]) ∧ Rw w' g (ordL v.d (rowOf c os)) ∧ (ordL v.d (rowOf c os)).length = (rowOf c os).length ∧ X.heap.size ≤ g ∧ Below X.heap.size X w') := fun X ao' b' o' cap' hd hi => Order_any hd hf hen ao' b' o' cap' (rowOf c os) hi (fun k hk' => by rw [hdn]; exact p2 k (by unfold baseOf; rw [← hos]; exact hk')) (hle.out)
  have hbase : Hid (baseOf c key = rowOf c os) := by rw [hos]; rfl
  rw [hbase.out]
  rw [← hos] at o1 o2
  have hlen : os.length ≤ 16 := by omega
  have HO2 := hide o2
  have RS : Hid (rowOf c os = os.filter (homeF c) ++ os.filter (fun k => !homeF c k)) := rfl
  have RL : Hid ((rowOf c os).length = os.length) := (rowOf_perm c os).length_eq
  generalize lcP c.ns key = pt at *
  generalize lcC c.x key = pc at *
  generalize lcH c.x key = ph at *
  clear hx o1 o2 o3 o4 o5 o6 p1 p2 p3 LO hos hS hk le0
  go_enter Tryz.func71, Tryz.ntmps71
  go_wp2_with (refine wpList_ldCl rfl (.tmp 18) rfl rfl hrb.out ?_)
  refine Calls.mono LOC.out ?_
  rintro e W1 ⟨rfl, b1⟩
  have x1 := HX.out.kp (Kp.of_below b1 non) (fun _ _ f => f)
  obtain ⟨PB, hPB⟩ : ∃ PB, PB = W1.heap.size := ⟨_, rfl⟩
  obtain ⟨W2, hW2⟩ : ∃ W2, W2 = W1.alloc (.cells (plA pt pc ph) 39) := ⟨_, rfl⟩
  go_upto_region 2 with (refine wpList_stR rfl 39 (.tmp 5) (.tmp 22) rfl W1.heap.size rfl (plA pt pc ph) (plA 0 0 ⟨#[]⟩) rfl _ (heap_last _ _) infoPl3 rfl (plA_one _ _ _) ?_)
  rw [World.setRow_alloc_new, ← hW2, ← hPB]
  have k2 : Kp W1 W2 non := by rw [hW2]; exact (Kp.refl W1 non).alloc _
  have m2 : W2.heap[PB]? = some (.cells (plA pt pc ph) 39) := by rw [hW2, hPB]; exact heap_last _ _
  have x2 := x1.kp k2 (fun _ _ f => f)
  have K2 : Hid (Kp w W2 non) := (Kp.of_below b1 non).trans k2 (fun _ f => f.elim)
  have C2 : Hid (W2.heap[R]? = some (.cells (rtA c (.slice ao c.ns.length ncap) D M v) 85) ∧ W2.cell? ⟨PB, 0, none⟩ = some (.int .i64 pt)) := ⟨x2.blk, by rw [cell_row m2]; rfl⟩
  have X2 := hide x2
  have OWN := hide (OW.out W2.drew (x2.kp ((Kp.refl W2 non).drew) (fun _ _ f => f)))
  have M2 := hide m2
  clear hW2 hPB k2 m2 x2 x1 b1 LOC HX hrb OW
  refine wp_region_held_drew (S := fun X => X.heap[R]? = some (.cells (rtA c (.slice ao c.ns.length ncap) D M v) 85) ∧ X.cell? ⟨PB, 0, none⟩ = some (.int .i64 pt)) (by kernel_rfl) C2.out (fun hHeld => ?_)
  refine wpAnyH_take (i := 0) (v := (.pointer (some ⟨R, 0, none⟩))) rfl (by kernel_rfl) (by kernel_rfl) (by kernel_rfl) (fun _ _ _ h => h) (Or.inl ⟨by rfl, ?_⟩) (by assumption) ?_
  · intro w' hSw
    (try dsimp only at hSw)
    go_simp
  (try simp only [Act.put, List.getElem_toArray, List.getElem_cons_zero, List.getElem_cons_succ, List.setIfInBounds_toArray, List.set_cons_zero, List.set_cons_succ])
  refine wpAnyH_take (i := 1) (v := (.pointer (some ⟨R, 0, none⟩))) rfl (by kernel_rfl) (by kernel_rfl) (by kernel_rfl) (fun _ _ _ h => h) (Or.inl ⟨by rfl, ?_⟩) (by assumption) ?_
  · intro w' hSw
    (try dsimp only at hSw)
    go_simp
  (try simp only [Act.put, List.getElem_toArray, List.getElem_cons_zero, List.getElem_cons_succ, List.setIfInBounds_toArray, List.set_cons_zero, List.set_cons_succ])
  refine wpAnyH_take (i := 2) (v := (.pointer (some ⟨R, 0, none⟩))) rfl (by kernel_rfl) (by kernel_rfl) (by kernel_rfl) (fun _ _ _ h => h) (Or.inl ⟨by rfl, ?_⟩) (by assumption) ?_
  · intro w' hSw
    (try dsimp only at hSw)
    go_simp
  (try simp only [Act.put, List.getElem_toArray, List.getElem_cons_zero, List.getElem_cons_succ, List.setIfInBounds_toArray, List.set_cons_zero, List.set_cons_succ])
  refine wpAnyH_take (i := 3) (v := (.agg (clA c.st c.x (.slice ao c.ns.length ncap)))) rfl (by kernel_rfl) (by kernel_rfl) (by kernel_rfl) (fun _ _ _ h => h) (Or.inl ⟨by rfl, ?_⟩) (by assumption) ?_
  · intro w' hSw
    (try dsimp only at hSw)
    (exact exec_ldCl (.tmp 27) rfl rfl hSw.1)
  (try simp only [Act.put, List.getElem_toArray, List.getElem_cons_zero, List.getElem_cons_succ, List.setIfInBounds_toArray, List.set_cons_zero, List.set_cons_succ])
  refine wpAnyH_take (i := 4) (v := (.pointer (some ⟨PB, 0, none⟩))) rfl (by kernel_rfl) (by kernel_rfl) (by kernel_rfl) (fun _ _ _ h => h) (Or.inl ⟨by rfl, ?_⟩) (by assumption) ?_
  · intro w' hSw
    (try dsimp only at hSw)
    go_simp
  (try simp only [Act.put, List.getElem_toArray, List.getElem_cons_zero, List.getElem_cons_succ, List.setIfInBounds_toArray, List.set_cons_zero, List.set_cons_succ])
  refine wpAnyH_take (i := 5) (v := (.int .i64 pt)) rfl (by kernel_rfl) (by kernel_rfl) (by kernel_rfl) (fun _ _ _ h => h) (Or.inl ⟨by rfl, ?_⟩) (by assumption) ?_
  · intro w' hSw
    (try dsimp only at hSw)
    (have hs2 := hSw.2; go_simp)
  (try simp only [Act.put, List.getElem_toArray, List.getElem_cons_zero, List.getElem_cons_succ, List.setIfInBounds_toArray, List.set_cons_zero, List.set_cons_succ])
  refine wpAnyH_ready (rs := [6]) (by kernel_rfl) (by simp) ?_
  refine AllReadyH.cons rfl (fun K hK => ?_) AllReadyH.nil
  go_simp
  refine Calls.mono OWN.out ?_
  rintro e W3 ⟨u, rfl, ou, b3⟩
  have k3 : Kp W2 W3 non := ((Kp.refl W2 non).drew).trans (Kp.of_below b3 non) (fun _ f => f.elim)
  obtain ⟨ua, uc, hu⟩ := own_sl ou
  subst hu
  have C3 : Hid (W3.heap[R]? = some (.cells (rtA c (.slice ao c.ns.length ncap) D M v) 85) ∧ W3.cell? ⟨PB, 0, none⟩ = some (.int .i64 pt)) := ⟨(k3.block _ (blk_lt C2.out.1) (fun f => f)).trans C2.out.1, (k3.cell (blk_lt M2.out) (fun f => f)).trans C2.out.2⟩
  have X3 := hide (X2.out.kp k3 (fun _ _ f => f))
  have K3 : Hid (Kp w W3 non) := K2.out.trans k3 (fun _ f => f.elim)
  have OU := hide ou
  clear b3 k3 ou OWN X2 K2 M2
  refine hK.out _ _ (C3.out) (fun hHeld => ?_)
  clear hK
  (try simp only [Act.put, List.setIfInBounds_toArray, List.set_cons_zero, List.set_cons_succ])
  refine wpAnyH_take (i := 7) (v := (.tuple #[.slice ua os.length uc, .int .i64 0])) rfl (by kernel_rfl) (by kernel_rfl) (by kernel_rfl) (fun _ _ _ h => h) (Or.inl ⟨by rfl, ?_⟩) (by assumption) ?_
  · intro w' hSw
    (try dsimp only at hSw)
    go_simp
  (try simp only [Act.put, List.getElem_toArray, List.getElem_cons_zero, List.getElem_cons_succ, List.setIfInBounds_toArray, List.set_cons_zero, List.set_cons_succ])
  refine wpAnyH_take (i := 8) (v := (.slice ua os.length uc)) rfl (by kernel_rfl) (by kernel_rfl) (by kernel_rfl) (fun _ _ _ h => h) (Or.inl ⟨by rfl, ?_⟩) (by assumption) ?_
  · intro w' hSw
    (try dsimp only at hSw)
    go_simp
  (try simp only [Act.put, List.getElem_toArray, List.getElem_cons_zero, List.getElem_cons_succ, List.setIfInBounds_toArray, List.set_cons_zero, List.set_cons_succ])
  refine wpAnyH_take (i := 9) (v := (.int .i64 0)) rfl (by kernel_rfl) (by kernel_rfl) (by kernel_rfl) (fun _ _ _ h => h) (Or.inl ⟨by rfl, ?_⟩) (by assumption) ?_
  · intro w' hSw
    (try dsimp only at hSw)
    go_simp
  (try simp only [Act.put, List.getElem_toArray, List.getElem_cons_zero, List.getElem_cons_succ, List.setIfInBounds_toArray, List.set_cons_zero, List.set_cons_succ])
  refine wpAnyH_ready (rs := [10]) (by kernel_rfl) (by simp) ?_
  refine AllReadyH.cons rfl (fun K hK => ?_) AllReadyH.nil
  go_simp
  refine hK.out _ _ (C3.out) (fun hHeld => ?_)
  clear hK
  (try simp only [Act.put, List.setIfInBounds_toArray, List.set_cons_zero, List.set_cons_succ])
  refine wpAnyH_ready (rs := [11]) (by kernel_rfl) (by simp) ?_
  refine AllReadyH.cons rfl (fun K hK => ?_) AllReadyH.nil
  go_simp
  refine hK.out _ _ (C3.out) (fun hHeld => ?_)
  clear hK
  (try simp only [Act.put, List.setIfInBounds_toArray, List.set_cons_zero, List.set_cons_succ])
  refine wpAnyH_done (by kernel_rfl) ?_ _
  obtain ⟨B3, hB3⟩ : ∃ B3, B3 = W3.heap.size := ⟨_, rfl⟩
  have HB3 := hide hB3
  have UB : Hid (∀ k, (Value.slice ua os.length uc).ownBlock = some k → k < B3) := fun k hk' => by
    obtain ⟨cur, hc⟩ := own_typ OU.out hk'
    rw [hB3]
    exact blk_lt hc
  clear C2 C3 hB3
  go_wp2_with fail
  go_loopw [9, 10, 12, 36] (fun v9 v10 _ vi wr => ∃ (i : Nat), i ≤ os.length ∧ vi = .int .i64 (i : Int) ∧ ∃ (a9 : Option Addr) (c9 : Nat) (a10 : Option Addr) (c10 : Nat) (HH AA : List Int), v9 = .slice a9 HH.length c9 ∧ v10 = .slice a10 AA.length c10 ∧ HH = (os.take i).filter (homeF c) ∧ AA = (os.take i).filter (fun k => !homeF c k) ∧ wr.ownsRow B3 3 1 (.slice a9 HH.length c9) HH.length (ints HH) ∧ wr.ownsRow B3 3 1 (.slice a10 AA.length c10) AA.length (ints AA) ∧ (∀ k, (Value.slice a9 HH.length c9).ownBlock = some k → (Value.slice a10 AA.length c10).ownBlock ≠ some k) ∧ Kp W3 wr non) (fun _ _ _ vi _ => os.length - (intOf vi).toNat)
  case atStart => exact ⟨0, Nat.zero_le _, rfl, none, 0, none, 0, [], [], rfl, rfl, rfl, rfl, World.ownsRow_nil _ _ _ _, World.ownsRow_nil _ _ _ _, fun k e => by simp [Value.ownBlock] at e, Kp.refl _ _⟩
  case round =>
    obtain ⟨i, hi, rfl, a9, c9, a10, c10, HH, AA, rfl, rfl, hHH, hAA, oh, oa, hne, kw⟩ := hrel
    have OH := hide oh
    have OA := hide oa
    have NE := hide hne
    have KW := hide kw
    have HHl : Hid (HH.length ≤ 16) := by
      rw [hHH]
      show _ ≤ _
      have := List.length_filter_le (homeF c) (os.take i)
      rw [List.length_take] at this
      omega
    have HAl : Hid (AA.length ≤ 16) := by
      rw [hAA]
      show _ ≤ _
      have := List.length_filter_le (fun k => !homeF c k) (os.take i)
      rw [List.length_take] at this
      omega
    have H0 := hide hHH
    have A0 := hide hAA
    clear oh oa hne kw hHH hAA
    by_cases hin : i < os.length
    case pos =>
      have hii : (i : Int) < (os.length : Int) := by omega
      have xr := X3.out.kp KW.out (fun _ _ f => f)
      obtain ⟨ug, uc', hug⟩ := own_g OU.out (by omega)
      injection hug with hug _ huc
      subst hug
      subst huc
      have our := own_kp OU.out KW.out (fun _ _ f => f)
      have cu := our.cellAt i (by omega)
      rw [ints_at2 os i hin] at cu
      obtain ⟨z0, z1⟩ := HO2.out os[i] (List.getElem_mem hin)
      have hfF := filt_take (f := homeF c) hin
      have hfA := filt_take (f := fun k => !homeF c k) hin
      obtain ⟨q, hq⟩ : ∃ q : Nat, os[i] = (q : Int) := ⟨os[i].toNat, by omega⟩
      rw [hq] at cu z0 z1 hfF hfA
      have hqn : q < c.ns.length := by omega
      have hz : homeF c (q : Int) = decide (c.ns[q].z = c.x 20) := by
        unfold homeF znF
        simp [hqn]
      have nat' := xr.nod.at
      have hao := nat'.at0 (by omega)
      subst hao
      have zc := nat'.cz q hqn
      have d21 := xr.cells.2.1
      have d22 := xr.cells.2.2.1
      have hqi : (q : Int) < (c.ns.length : Int) := by omega
      have hqb : c.ns.length ≤ 9223372036854775807 := by have := nat'.len; omega
      generalize c.ns[q].z = zz at *
      generalize hnl : c.ns.length = nl at *
      generalize hx20 : c.x 20 = x20 at *
      clear xr our nat' z0 hq
      by_cases hzz : zz = x20
      · have hz2 : homeF c (q : Int) = true := by rw [hz]; exact decide_eq_true hzz
        have HF : Hid (HH ++ [(q : Int)] = (os.take (i + 1)).filter (homeF c)) := by show _ = _; rw [hfF, hz2, if_pos rfl, H0.out]
        have HA : Hid (AA = (os.take (i + 1)).filter (fun k => !homeF c k)) := by show _ = _; rw [hfA, hz2, A0.out]; simp
        have hze : (zz == x20) = true := by simp [hzz]
        clear hfF hfA hz hz2
        go_wp2_with fail
        go_quiet (fail)
        have kq := (Kp.refl wr non).drewN nq
        have Hq := own_kp OH.out kq (fun _ _ f => f)
        have Aq := own_kp OA.out kq (fun _ _ f => f)
        have Kq : Kp W3 (wr.drewN nq) non := KW.out.trans kq (fun _ f => f.elim)
        clear kq d21 d22 zc cu
        obtain ⟨wq, hwq⟩ : ∃ wq, wq = wr.drewN nq := ⟨_, rfl⟩
        rw [← hwq] at Hq Aq Kq ⊢
        clear hwq
        obtain ⟨W4, hW4⟩ : ∃ W4, W4 = wq.alloc (.cells #[.int .i64 (q : Int)] 3) := ⟨_, rfl⟩
        have hb4 : Below wq.heap.size wq W4 := by rw [hW4]; exact (Below.refl _ _).alloc (Nat.le_refl _) _
        have HGG : Hid (W4.heap[wq.heap.size]? = some (.cells #[.int .i64 (q : Int)] 3)) := by rw [hW4]; exact heap_last _ _
        have H4 := hide (own_kp Hq (Kp.of_below hb4 non) (fun _ _ f => f))
        have A4 := hide (own_kp Aq (Kp.of_below hb4 non) (fun _ _ f => f))
        have K4 : Hid (Kp W3 W4 non) := Kq.trans (Kp.of_below hb4 non) (fun _ f => f.elim)
        have hsz : Hid (B3 ≤ W4.heap.size) := by rw [HB3.out]; exact K4.out.size
        have AQL : ∀ k, (Value.slice a10 AA.length c10).ownBlock = some k → k < wq.heap.size := fun k e => by
          obtain ⟨cur, hc⟩ := own_typ Aq e
          exact blk_lt hc
        have W4s : wq.heap.size ≤ W4.heap.size := hb4.size
        clear hb4 Hq Aq Kq
        go_wp2_with (at_builtin; rw [← hW4]; refine wpList_apI rfl (.tmp 55) (.tmp 57) rfl B3 _ HH.length HH rfl H4.out wq.heap.size (q : Int) rfl HGG.out (by have := HHl.out; omega) hsz.out ?_; intro v' w' o2 g2 hn2; have HO5 := hide o2; have KG := hide (Kp.of_grown g2); have N5 := hide hn2; clear o2 g2 hn2)
        obtain ⟨a5, c5, rfl⟩ := own_sl HO5.out
        have A5 : Hid (w'.ownsRow B3 3 1 (.slice a10 AA.length c10) AA.length (ints AA)) := own_kp A4.out KG.out (fun k e f => NE.out k f.symm e)
        have K5 : Hid (Kp W3 w' non) := K4.out.trans KG.out (fun k e => Or.inr (by have := own_ge H4.out e.symm; have := HB3.out; omega))
        go_roundw
        case rel =>
          refine ⟨i + 1, by omega, by go_num, a5, c5, a10, c10, HH ++ [(q : Int)], AA, by rw [List.length_append]; rfl, rfl, by rw [HF.out], HA.out, by rw [List.length_append]; exact HO5.out, A5.out, fun k e f => ?_, K5.out⟩
          rw [show (HH ++ [(q : Int)]).length = HH.length + 1 by simp] at e
          rcases N5.out with r | r
          · exact NE.out k (r.symm.trans e) f
          · rw [e] at r
            simp at r
            have h9 : k < wq.heap.size := AQL k f
            have h8 := W4s
            omega
        case measure => simp [intOf]; omega
      · have hz2 : homeF c (q : Int) = false := by rw [hz]; exact decide_eq_false hzz
        have HF : Hid (HH = (os.take (i + 1)).filter (homeF c)) := by show _ = _; rw [hfF, hz2, H0.out]; simp
        have HA : Hid (AA ++ [(q : Int)] = (os.take (i + 1)).filter (fun k => !homeF c k)) := by show _ = _; rw [hfA, hz2, A0.out]; simp
        have hze : (zz == x20) = false := by simp [hzz]
        clear hfF hfA hz hz2
        go_wp2_with fail
        go_quiet (fail)
        have kq := (Kp.refl wr non).drewN nq
        have Hq := own_kp OH.out kq (fun _ _ f => f)
        have Aq := own_kp OA.out kq (fun _ _ f => f)
        have Kq : Kp W3 (wr.drewN nq) non := KW.out.trans kq (fun _ f => f.elim)
        clear kq d21 d22 zc cu
        obtain ⟨wq, hwq⟩ : ∃ wq, wq = wr.drewN nq := ⟨_, rfl⟩
        rw [← hwq] at Hq Aq Kq ⊢
        clear hwq
        obtain ⟨W4, hW4⟩ : ∃ W4, W4 = wq.alloc (.cells #[.int .i64 (q : Int)] 3) := ⟨_, rfl⟩
        have hb4 : Below wq.heap.size wq W4 := by rw [hW4]; exact (Below.refl _ _).alloc (Nat.le_refl _) _
        have HGG : Hid (W4.heap[wq.heap.size]? = some (.cells #[.int .i64 (q : Int)] 3)) := by rw [hW4]; exact heap_last _ _
        have H4 := hide (own_kp Hq (Kp.of_below hb4 non) (fun _ _ f => f))
        have A4 := hide (own_kp Aq (Kp.of_below hb4 non) (fun _ _ f => f))
        have K4 : Hid (Kp W3 W4 non) := Kq.trans (Kp.of_below hb4 non) (fun _ f => f.elim)
        have hsz : Hid (B3 ≤ W4.heap.size) := by rw [HB3.out]; exact K4.out.size
        have AQL : ∀ k, (Value.slice a9 HH.length c9).ownBlock = some k → k < wq.heap.size := fun k e => by
          obtain ⟨cur, hc⟩ := own_typ Hq e
          exact blk_lt hc
        have W4s : wq.heap.size ≤ W4.heap.size := hb4.size
        clear hb4 Hq Aq Kq
        go_wp2_with (at_builtin; rw [← hW4]; refine wpList_apI rfl (.tmp 59) (.tmp 61) rfl B3 _ AA.length AA rfl A4.out wq.heap.size (q : Int) rfl HGG.out (by have := HAl.out; omega) hsz.out ?_; intro v' w' o2 g2 hn2; have HO5 := hide o2; have KG := hide (Kp.of_grown g2); have N5 := hide hn2; clear o2 g2 hn2)
        obtain ⟨a5, c5, rfl⟩ := own_sl HO5.out
        have H5 : Hid (w'.ownsRow B3 3 1 (.slice a9 HH.length c9) HH.length (ints HH)) := own_kp H4.out KG.out (fun k e f => NE.out k e f.symm)
        have K5 : Hid (Kp W3 w' non) := K4.out.trans KG.out (fun k e => Or.inr (by have := own_ge A4.out e.symm; have := HB3.out; omega))
        go_roundw
        case rel =>
          refine ⟨i + 1, by omega, by go_num, a9, c9, a5, c5, HH, AA ++ [(q : Int)], rfl, by rw [List.length_append]; rfl, HF.out, by rw [HA.out], H5.out, by rw [List.length_append]; exact HO5.out, fun k e f => ?_, K5.out⟩
          rw [show (AA ++ [(q : Int)]).length = AA.length + 1 by simp] at f
          rcases N5.out with r | r
          · exact NE.out k e (r.symm.trans f)
          · rw [f] at r
            simp at r
            have h9 : k < wq.heap.size := AQL k e
            have h8 := W4s
            omega
        case measure => simp [intOf]; omega
    case neg =>
      obtain rfl : i = os.length := by omega
      have hrow : HH ++ AA = rowOf c os := by rw [RS.out, H0.out, A0.out, List.take_length]
      have xr := X3.out.kp KW.out (fun _ _ f => f)
      have C4 : Hid (wr.cell? ⟨R, 23, none⟩ = some (.pointer (some ⟨D, 0, none⟩))) := xr.cells.2.2.2.1
      have XR := hide xr
      have OHd := hide (own_kp OH.out ((Kp.refl wr non).drew) (fun _ _ f => f))
      have OAd := hide (own_kp OA.out ((Kp.refl wr non).drew) (fun _ _ f => f))
      have hRW := hide hrow
      have ndb : Hid (¬ S1 R) := xr.det.not xr.blk (by decide)
      clear xr hrow
      go_upto_region 11 with fail
      refine wp_region_held_drew (S := fun X => X.cell? ⟨R, 23, none⟩ = some (.pointer (some ⟨D, 0, none⟩))) (by kernel_rfl) C4.out (fun hHeld => ?_)
      refine wpAnyH_take (i := 0) (v := (.pointer (some ⟨R, 0, none⟩))) rfl (by kernel_rfl) (by kernel_rfl) (by kernel_rfl) (fun _ _ _ h => h) (Or.inl ⟨by rfl, ?_⟩) (by assumption) ?_
      · intro w' hSw
        (try dsimp only at hSw)
        go_simp
      (try simp only [Act.put, List.getElem_toArray, List.getElem_cons_zero, List.getElem_cons_succ, List.setIfInBounds_toArray, List.set_cons_zero, List.set_cons_succ])
      refine wpAnyH_take (i := 1) (v := (.pointer (some ⟨R, 0, none⟩))) rfl (by kernel_rfl) (by kernel_rfl) (by kernel_rfl) (fun _ _ _ h => h) (Or.inl ⟨by rfl, ?_⟩) (by assumption) ?_
      · intro w' hSw
        (try dsimp only at hSw)
        go_simp
      (try simp only [Act.put, List.getElem_toArray, List.getElem_cons_zero, List.getElem_cons_succ, List.setIfInBounds_toArray, List.set_cons_zero, List.set_cons_succ])
      refine wpAnyH_take (i := 2) (v := (.pointer (some ⟨R, 23, none⟩))) rfl (by kernel_rfl) (by kernel_rfl) (by kernel_rfl) (fun _ _ _ h => h) (Or.inl ⟨by rfl, ?_⟩) (by assumption) ?_
      · intro w' hSw
        (try dsimp only at hSw)
        go_simp
      (try simp only [Act.put, List.getElem_toArray, List.getElem_cons_zero, List.getElem_cons_succ, List.setIfInBounds_toArray, List.set_cons_zero, List.set_cons_succ])
      refine wpAnyH_take (i := 3) (v := (.pointer (some ⟨D, 0, none⟩))) rfl (by kernel_rfl) (by kernel_rfl) (by kernel_rfl) (fun _ _ _ h => h) (Or.inl ⟨by rfl, ?_⟩) (by assumption) ?_
      · intro w' hSw
        (try dsimp only at hSw)
        go_simp
      (try simp only [Act.put, List.getElem_toArray, List.getElem_cons_zero, List.getElem_cons_succ, List.setIfInBounds_toArray, List.set_cons_zero, List.set_cons_succ])
      refine wpAnyH_take (i := 4) (v := (.slice a9 HH.length c9)) rfl (by kernel_rfl) (by kernel_rfl) (by kernel_rfl) (fun _ _ _ h => h) (Or.inl ⟨by rfl, ?_⟩) (by assumption) ?_
      · intro w' hSw
        (try dsimp only at hSw)
        go_simp
      (try simp only [Act.put, List.getElem_toArray, List.getElem_cons_zero, List.getElem_cons_succ, List.setIfInBounds_toArray, List.set_cons_zero, List.set_cons_succ])
      refine wpAnyH_take (i := 5) (v := (.slice a10 AA.length c10)) rfl (by kernel_rfl) (by kernel_rfl) (by kernel_rfl) (fun _ _ _ h => h) (Or.inl ⟨by rfl, ?_⟩) (by assumption) ?_
      · intro w' hSw
        (try dsimp only at hSw)
        go_simp
      (try simp only [Act.put, List.getElem_toArray, List.getElem_cons_zero, List.getElem_cons_succ, List.setIfInBounds_toArray, List.set_cons_zero, List.set_cons_succ])
      refine wpAnyH_ready (rs := [6]) (by kernel_rfl) (by simp) ?_
      refine AllReadyH.cons rfl (fun K hK => ?_) AllReadyH.nil
      refine wp_apLL (.tmp 69) (.tmp 70) rfl B3 (.slice a9 HH.length c9) HH.length HH rfl OHd.out B3 (.slice a10 AA.length c10) AA.length AA rfl OAd.out (by have := HHl.out; have := HAl.out; omega) (by rw [HB3.out]; exact KW.out.size) ?_
      intro v5 W5 o5 g5
      have kg := Kp.of_grown g5
      have K5 : Hid (Kp W3 W5 non) := (KW.out.drew).trans kg (fun k e => Or.inr (by have := own_ge OH.out e.symm; have := HB3.out; omega))
      have X5 := hide (X3.out.kp K5.out (fun _ _ f => f))
      have C5 : Hid (W5.cell? ⟨R, 23, none⟩ = some (.pointer (some ⟨D, 0, none⟩))) := X5.out.cells.2.2.2.1
      rw [hRW.out] at o5
      have e5 : HH.length + AA.length = (rowOf c os).length := by rw [← hRW.out, List.length_append]
      rw [e5] at o5
      obtain ⟨_, ia, ib, ic, hv5, his, _⟩ := own_is o5 (by have := hle.out; omega)
      subst hv5
      have ORD := hide (OR.out W5 ia ib 0 ic X5.out.det his)
      clear o5 g5 kg his e5 OHd OAd XR
      refine hK.out _ _ (C5.out) (fun hHeld => ?_)
      clear hK
      (try simp only [Act.put, List.setIfInBounds_toArray, List.set_cons_zero, List.set_cons_succ])
      refine wpAnyH_ready (rs := [7]) (by kernel_rfl) (by simp) ?_
      refine AllReadyH.cons rfl (fun K hK => ?_) AllReadyH.nil
      go_simp
      refine Calls.mono ORD.out ?_
      rintro e W6 ⟨gg, rfl, r6, l6, ge6, b6⟩
      have C6 : Hid (W6.cell? ⟨R, 23, none⟩ = some (.pointer (some ⟨D, 0, none⟩))) := ((Kp.of_below b6 non).cell (blk_lt X5.out.blk) (fun f => f)).trans C5.out
      have R6 := hide r6
      have L6 := hide l6
      have G6 : Hid (w.heap.size ≤ gg) := Nat.le_trans (Nat.le_trans K3.out.size K5.out.size) ge6
      have B6 : Hid (Below w.heap.size w W6) := ((K3.out.trans K5.out (fun _ f => f.elim)).trans (Kp.of_below b6 non) (fun _ f => f.elim)).below
      clear r6 l6 ge6 b6 ORD X5 K5
      refine hK.out _ _ (C6.out) (fun hHeld => ?_)
      clear hK
      (try simp only [Act.put, List.setIfInBounds_toArray, List.set_cons_zero, List.set_cons_succ])
      refine wpAnyH_take (i := 8) (v := (.tuple #[.slice (some ⟨gg, 0, none⟩) (rowOf c os).length (rowOf c os).length, .int .i64 0])) rfl (by kernel_rfl) (by kernel_rfl) (by kernel_rfl) (fun _ _ _ h => h) (Or.inl ⟨by rfl, ?_⟩) (by assumption) ?_
      · intro w' hSw
        (try dsimp only at hSw)
        go_simp
      (try simp only [Act.put, List.getElem_toArray, List.getElem_cons_zero, List.getElem_cons_succ, List.setIfInBounds_toArray, List.set_cons_zero, List.set_cons_succ])
      refine wpAnyH_take (i := 9) (v := (.slice (some ⟨gg, 0, none⟩) (rowOf c os).length (rowOf c os).length)) rfl (by kernel_rfl) (by kernel_rfl) (by kernel_rfl) (fun _ _ _ h => h) (Or.inl ⟨by rfl, ?_⟩) (by assumption) ?_
      · intro w' hSw
        (try dsimp only at hSw)
        go_simp
      (try simp only [Act.put, List.getElem_toArray, List.getElem_cons_zero, List.getElem_cons_succ, List.setIfInBounds_toArray, List.set_cons_zero, List.set_cons_succ])
      refine wpAnyH_take (i := 10) (v := (.int .i64 0)) rfl (by kernel_rfl) (by kernel_rfl) (by kernel_rfl) (fun _ _ _ h => h) (Or.inl ⟨by rfl, ?_⟩) (by assumption) ?_
      · intro w' hSw
        (try dsimp only at hSw)
        go_simp
      (try simp only [Act.put, List.getElem_toArray, List.getElem_cons_zero, List.getElem_cons_succ, List.setIfInBounds_toArray, List.set_cons_zero, List.set_cons_succ])
      refine wpAnyH_ready (rs := [11]) (by kernel_rfl) (by simp) ?_
      refine AllReadyH.cons rfl (fun K hK => ?_) AllReadyH.nil
      go_simp
      refine hK.out _ _ (C6.out) (fun hHeld => ?_)
      clear hK
      (try simp only [Act.put, List.setIfInBounds_toArray, List.set_cons_zero, List.set_cons_succ])
      refine wpAnyH_ready (rs := [12]) (by kernel_rfl) (by simp) ?_
      refine AllReadyH.cons rfl (fun K hK => ?_) AllReadyH.nil
      go_simp
      refine hK.out _ _ (C6.out) (fun hHeld => ?_)
      clear hK
      (try simp only [Act.put, List.setIfInBounds_toArray, List.set_cons_zero, List.set_cons_succ])
      refine wpAnyH_done (by kernel_rfl) ?_ _
      go_wp2_with fail
      go_ret
      exact ⟨gg, by rw [L6.out]; rfl, R6.out, L6.out, G6.out, B6.out⟩
end Go.Proofs.YtcmffbhfdlenkaaGreatDoor.Cn
