import Derived.Test.YtgdjfocnaapooaaDoorGFuClose
namespace Go.Proofs.YtgdjfocnaapooaaDoor
open Go.RowKit
def cuM : MM := ⟨7, 64, 0, 3, 4, 2, 0, 0, 0, ⟨#[]⟩, ⟨#[]⟩⟩
theorem cuM_fit : fitM cuM = true := by decide +kernel
theorem cu_size : 24 ≤ (encS cuM).size ∧ (encS cuM).size ≤ 4407 := by
  have hF : FitAll cuM 7 := ⟨rfl, fitM_all cuM_fit⟩
  exact enc_size cuM 7 (by omega) (by omega) hF
/-- what the loop over the parts keeps -/
def CuInv (R : Nat) (E : ByteArray) (xs : List ByteArray) (w : World) (q : Nat) (T : ByteArray) (L : List MM) (k : Nat) (H : ByteArray) (vg : Value) (wr : World) : Prop :=
  q ≤ xs.length ∧ T.size = E.size + (cat (xs.take q)).length ∧ (∃ X, T = E ++ X) ∧ Fed T L k H ∧ H.size + k + L.length ≤ T.size ∧ RdAt wr R H (k : Int) ∧ wr.ownsRow w.heap.size 27 11 vg L.length (mcs L) ∧ Below w.heap.size w wr
theorem cat_take_le (xs : List ByteArray) (q : Nat) : (cat (xs.take q)).length ≤ (cat xs).length := by
  have e : cat xs = cat (xs.take q) ++ cat (xs.drop q) := by
    unfold cat
    rw [← List.flatten_append, ← List.map_append, List.take_append_drop]
  rw [e, List.length_append]
  omega
/-- what Feed leaves, beside a list of one's own -/
theorem CuInv.fed {R : Nat} {E : ByteArray} {xs : List ByteArray} {w : World} {q : Nat} {T : ByteArray} {L : List MM} {k : Nat} {H : ByteArray} {vg : Value} {wr : World} (h : CuInv R E xs w q T L k H vg wr) (hq : q < xs.length) (hRw : w.heap.size ≤ R) {w2 : World} {L2 : List MM} {j : Nat} {r : ByteArray} (hF : Fed (H ++ xs[q]) L2 j r) (hl : r.size + j + L2.length ≤ H.size + xs[q].size) (hR : RdAt w2 R r ((k + j : Nat) : Int)) (hg : wr.grownBy w2 (some R)) :
    w2.ownsRow w.heap.size 27 11 vg L.length (mcs L) ∧ Below w.heap.size w w2 ∧ (∀ v3 w3, w3.ownsRow w.heap.size 27 11 v3 (L ++ L2).length (mcs (L ++ L2)) → w2.grownBy w3 vg.ownBlock → CuInv R E xs w (q + 1) (T ++ xs[q]) (L ++ L2) (k + j) r v3 w3) := by
  obtain ⟨h1, h2, ⟨X, h3⟩, h4, h5, h6, h7, h8⟩ := h
  have o2 : w2.ownsRow w.heap.size 27 11 vg L.length (mcs L) := h7.kept hg (.inr (fun e => h6.not_row h7 e.symm))
  have b2 : Below w.heap.size w w2 := h8.grown hg h8.size (fun i e => by cases e; exact hRw)
  refine ⟨o2, b2, fun v3 w3 o3 g3 => ?_⟩
  have hR3 : RdAt w3 R r ((k + j : Nat) : Int) := (g3.block R (blk_lt hR) (hR.not_row o2)).trans hR
  have b3 : Below w.heap.size w w3 := b2.grown g3 b2.size (fun i e => (o2.lt i e).1)
  refine ⟨by omega, ?_, ⟨X ++ xs[q], by rw [h3, ByteArray.append_assoc]⟩, h4.join hF, ?_, hR3, o3, b3⟩
  · rw [ByteArray.size_append, h2, cat_snoc xs q hq, List.length_append, size_data]
    omega
  · rw [ByteArray.size_append, List.length_append]
    omega
set_option maxHeartbeats 8000000 in
set_option maxRecDepth 100000 in
set_option linter.unusedSimpArgs false in
/-- FrameCuts, of parts that a machine may hold -/
theorem frameCuts_any (ao : Option Addr) (b off cap : Nat) (xs : List ByteArray) (w : World) (hao : 0 < xs.length → ao = some ⟨b, off, none⟩) (hb : 0 < xs.length → b < w.heap.size) (hl : Lies b off w xs) (hlen : xs.length ≤ 1048576) (hs : (cat xs).length ≤ 1048576) (hT : TabF w) (h6 : 6 ≤ w.heap.size) (hT4 : Tab4 5 w) :
    Calls Tryd.prog 3 #[.slice ao xs.length cap] w fun e w' => e = .returned (.bool true) ∧ Below w.heap.size w w' := by
  have KT : Hid (∀ w', Below w.heap.size w w' → TabF w' ∧ Tab4 5 w') := fun w' hb => ⟨hT.below hb, fun j hj => (hb.cell (World.block_lt_of_cell? w _ (hT4 j hj))).trans (hT4 j hj)⟩
  have EN := encode_any cuM w hT h6 hT4
  rw [encE_ok (by decide) cuM_fit] at EN
  have EN := hide EN
  have hz := cu_size
  have FE : Hid (∀ X, firstP (encS cuM ++ X) = some ((encS cuM).size, cuM)) := fun X => first_enc cuM 7 (by omega) (by omega) rfl cuM_fit X
  have HL := hide hl
  clear hT hT4 hl
  generalize encS cuM = E at *
  obtain ⟨z1, z2⟩ := hz
  have z1i : ¬ (E.size : Int) < 24 := by omega
  go_enter Tryd.func3, Tryd.ntmps3
  go_wp2_with (refine wpList_buildMsgH rfl _ rfl cuM (by kernel_rfl) ?_)
  refine Calls.mono EN.out ?_
  rintro e w1 ⟨rfl, b1⟩
  have B1 := hide b1
  clear b1 EN
  go_wp2_with fail
  refine Calls.mono (newReader_any w1) ?_
  rintro e w2 ⟨rfl, hR, b2⟩
  have hRw : w.heap.size ≤ w1.heap.size := B1.out.size
  have hRl := blk_lt hR
  have B2 := hide (B1.out.trans (b2.mono B1.out.size))
  clear b2 B1
  generalize w1.heap.size = R at *
  have FD := feed_any R w.heap.size ⟨#[]⟩ E 0 (by have : (⟨#[]⟩ : ByteArray).size = 0 := rfl; omega) (by omega) w2 hR hRw (fun W' h => KT.out _ (B2.out.trans h))
  have FD := hide FD
  clear hR
  go_wp2_with (go_at_call 10; refine Calls.mono (num5_any _ _) ?_; rintro e wn ⟨rfl, rfl⟩)
  refine Calls.mono FD.out ?_
  rintro e w3 ⟨vg, L, j, r, rfl, hF, _, hle, hR, hown, hg⟩
  have e0 : (⟨#[]⟩ : ByteArray) ++ E = E := ByteArray.empty_append
  rw [e0] at hF
  rw [show (⟨#[]⟩ : ByteArray).size + E.size = E.size by have : (⟨#[]⟩ : ByteArray).size = 0 := rfl; omega] at hle
  have o3 : w3.ownsRow w.heap.size 27 11 vg L.length (mcs L) := ⟨hown.1, by
    rcases hown.2 with hx | ⟨g, cap', cur, hv, hbg, hrest⟩
    · exact .inl hx
    · exact .inr ⟨g, cap', cur, hv, Nat.le_trans B2.out.size hbg, hrest⟩⟩
  have I0 : Hid (CuInv R E xs w 0 E L j r vg w3) := ⟨Nat.zero_le _, by simp [cat], ⟨⟨#[]⟩, (ByteArray.append_empty).symm⟩, hF, hle, by rw [Nat.zero_add] at hR; exact hR, o3, B2.out.grown hg B2.out.size (fun i e => by cases e; exact hRw)⟩
  obtain ⟨vb, vc, rfl⟩ := own_sl o3
  clear FD hF hR hown hg o3 hle e0 B2 hRl
  go_wp2_with (go_at_call 10; refine Calls.mono (num5_any _ _) ?_; rintro e wn ⟨rfl, rfl⟩)
  have HLB : Hid (∀ W' q x, Below w.heap.size w W' → xs[q]? = some x → W'.cell? ⟨b, off + q, none⟩ = some (.string x)) := fun W' q x hbw hq => by
    have hlt := (List.getElem?_eq_some_iff.1 hq).1
    exact (hbw.cell (p := ⟨b, off + q, none⟩) (hb (by omega))).trans (HL.out q x hq)
  have HAO := hide hao
  clear HL hb hao
  go_loopw [6, 7, 9, 10, 11] (fun vw vg vi _ _ wr => ∃ (q : Nat) (T : ByteArray) (L : List MM) (k : Nat) (H : ByteArray), vi = .int .i64 (q : Int) ∧ vw = .string T ∧ CuInv R E xs w q T L k H vg wr) (fun _ _ vi _ _ _ => xs.length - (intOf vi).toNat)
  case atStart => exact ⟨0, E, L, j, r, rfl, rfl, I0.out⟩
  case round =>
    clear I0
    obtain ⟨q, T, L, k, H, rfl, rfl, hI⟩ := hrel
    have hT : T.size ≤ 2000000 := by have := hI.2.1; have := cat_take_le xs q; omega
    have hle := hI.2.2.2.2.1
    have hqx := hI.1
    by_cases hq : q < xs.length
    case pos =>
      obtain rfl := HAO.out (by omega)
      have cx := HLB.out wr q xs[q] hI.2.2.2.2.2.2.2 (List.getElem?_eq_getElem hq)
      have hzx : xs[q].size ≤ 1048576 := by
        have e := cat_snoc xs q hq
        have := cat_take_le xs (q + 1)
        rw [e, List.length_append, size_data] at this
        omega
      have FD := hide (feed_any R w.heap.size H xs[q] k (by omega) (by omega) wr hI.2.2.2.2.2.1 hRw (fun W' h => KT.out _ (hI.2.2.2.2.2.2.2.trans h)))
      have HI := hide hI
      have CX : Hid (∀ W', Below w.heap.size w W' → W'.cell? ⟨b, off + q, none⟩ = some (.string xs[q])) := fun W' hw => HLB.out W' q xs[q] hw (List.getElem?_eq_getElem hq)
      have CF : Hid (∀ {w2 : World} {L2 : List MM} {j : Nat} {r : ByteArray}, Fed (H ++ xs[q]) L2 j r → r.size + j + L2.length ≤ H.size + xs[q].size → RdAt w2 R r ((k + j : Nat) : Int) → wr.grownBy w2 (some R) → _) := fun a1 a2 a3 a4 => hI.fed hq hRw a1 a2 a3 a4
      obtain ⟨gb, gc, rfl⟩ := own_sl hI.2.2.2.2.2.2.1
      have hqi : (q : Int) < (xs.length : Int) := by omega
      clear hI
      generalize xs[q] = X at *
      go_wp2_with fail
      refine Calls.mono FD.out ?_
      rintro e w4 ⟨vl, L2, j2, r2, rfl, hF, _, hl2, hR2, ho2, hg2⟩
      obtain ⟨oG, bG, NX⟩ := CF.out hF hl2 hR2 hg2
      have cx2 := CX.out _ bG
      have sw := bG.size
      have NXT := hide NX
      clear NX hF hR2 hg2 FD CF HI bG CX
      obtain ⟨lb, lc, rfl⟩ := own_sl ho2
      go_wp2_with (first | (go_at_call 10; refine Calls.mono (num5_any _ _) ?_; rintro e wn ⟨rfl, rfl⟩) | (refine wpList_appMsgs rfl (.tmp 67) (.tmp 68) rfl w.heap.size wr.heap.size _ _ L L2 rfl rfl oG ho2 (by omega) sw ?_; intro v5 w5 o5 g5))
      go_roundw
      case rel => exact ⟨q + 1, T ++ X, L ++ L2, k + j2, r2, by go_num, rfl, NXT.out _ _ o5 g5⟩
      case measure => simp [intOf]; omega
    case neg =>
      obtain rfl : q = xs.length := by omega
      have hqi : ¬ (xs.length : Int) < (xs.length : Int) := by omega
      have HI := hide hI
      have CLO := hide (close_any R w.heap.size H k (by omega) (by omega) wr hI.2.2.2.2.2.1 hRw (fun W' h => KT.out _ (hI.2.2.2.2.2.2.2.trans h)))
      obtain ⟨gb, gc, rfl⟩ := own_sl hI.2.2.2.2.2.2.1
      obtain ⟨X, hX⟩ := hI.2.2.1
      have FT : Hid (firstP T = some (E.size, cuM)) := by show _ = _; rw [hX]; exact FE.out X
      clear hI hX
      go_wp2_with fail
      refine Calls.mono CLO.out ?_
      rintro e w4 ⟨vl, rfl, hR2, ho2, hg2⟩
      obtain ⟨h1, h2, h3, h4, h5, h6', h7, h8⟩ := HI.out
      obtain ⟨m1, m2⟩ := h4 ⟨#[]⟩
      rw [app_none, app_none] at m1 m2
      have oG : w4.ownsRow w.heap.size 27 11 (.slice gb L.length gc) L.length (mcs L) := h7.kept hg2 (.inr (fun e => h6'.not_row h7 e.symm))
      have bG : Below w.heap.size w w4 := h8.grown hg2 h8.size (fun i e => by cases e; exact hRw)
      have sw := bG.size
      have hml : (msgT H).length ≤ T.size := by
        have e1 : msgT H = (splitP H 0).map (·.2.2) := by unfold msgT; rw [← split_all H, List.map_map]; rfl
        rw [e1, List.length_map]
        have := splitP_len H
        omega
      have NXT : Hid (∀ v5 w5, w5.ownsRow w.heap.size 27 11 v5 (L ++ msgT H).length (mcs (L ++ msgT H)) → w4.grownBy w5 (.slice gb L.length gc : Value).ownBlock → RdAt w5 R ⟨#[]⟩ (skT T) ∧ w5.ownsRow w.heap.size 27 11 v5 (msgT T).length (mcs (msgT T)) ∧ Below w.heap.size w w5) := fun v5 w5 o5 g5 => by
        rw [← m1] at o5
        rw [← m2] at hR2
        exact ⟨(g5.block R (blk_lt hR2) (hR2.not_row oG)).trans hR2, o5, bG.grown g5 bG.size (fun i e => (oG.lt i e).1)⟩
      obtain ⟨lb, lc, rfl⟩ := own_sl ho2
      clear h1 h2 h3 h4 h5 h6' h7 h8 m1 m2 HI CLO hR2 hg2 bG
      go_wp2_with (refine wpList_appMsgs rfl (.tmp 70) (.tmp 72) rfl w.heap.size wr.heap.size _ _ L (msgT H) rfl rfl oG ho2 (by omega) sw ?_; intro v5 w5 o5 g5)
      obtain ⟨hR5, o5', b5⟩ := NXT.out _ _ o5 g5
      have eM : msgT T = (splitP T 0).map (·.2.2) := by unfold msgT; rw [← split_all T, List.map_map]; rfl
      have eK : skT T = ((T.size - zP (splitP T 0) (splitP T 0).length : Nat) : Int) := by
        have := zP_le (h := T) (splitP T 0).length
        unfold skT zP at *
        rw [List.take_length, split_all] at this ⊢
        omega
      rw [eM, List.length_map] at o5'
      rw [eK] at hR5
      have hP0 : 0 < (splitP T 0).length := by
        have e1 := split_all T
        rw [splT_some FT.out] at e1
        have e2 := congrArg List.length e1
        rw [List.length_map, List.length_cons] at e2
        omega
      have hPl := splitP_len T
      obtain ⟨gb5, gc5, rfl⟩ := own_sl o5'
      have SPL := hide (split_any T (by omega) w5 (KT.out _ b5).1 (KT.out _ b5).2)
      have B5 := hide b5
      have R5 := hide hR5
      have O5 := hide o5'
      have HZ : Hid (∀ q, zP (splitP T 0) q ≤ T.size) := fun q => zP_le q
      clear o5 g5 o5' b5 hR5 NXT oG ho2 eM eK FT FE HAO HLB hml hle
      refine Calls.mono SPL.out ?_
      clear SPL
      rintro e w6 ⟨vp, rfl, op, bp⟩
      have R6 := hide (R5.out.below bp)
      have O6 := own_belowS O5.out bp
      have B6 := hide (B5.out.trans (bp.mono B5.out.size))
      obtain ⟨pb, pc, rfl, kp⟩ := own_pie op
      obtain ⟨pg, rfl, _, pcl⟩ := kp hP0
      have eL : (splitP T 0).length = ((splitP T 0).map (·.2.2)).length := (List.length_map ..).symm
      rw [eL] at O6
      obtain ⟨ga, gc', e1, km⟩ := own_msg O6
      obtain ⟨gg, hgg, _, _, gcl⟩ := km (by rw [← eL]; exact hP0)
      rw [← eL] at e1
      simp only [Value.slice.injEq] at e1
      obtain ⟨rfl, _, rfl⟩ := e1
      subst hgg
      have M6 : Hid (∀ wr, Below w6.heap.size w6 wr → ∀ q (hq : q < (splitP T 0).length), wr.rangeAt gg (q * 11) (msgV (splitP T 0)[q].2.2).toList ∧ wr.rangeAt pg (q * 13) (pieL (splitP T 0)[q])) := fun wr hb q hq => by
        have r1 := mcs_range gcl q (by rw [← eL]; exact hq)
        have r2 := pcs_range pcl q hq
        rw [List.getElem_map] at r1
        exact ⟨fun j v hv => (hb.cell (World.block_lt_of_cell? w6 _ (r1 j v hv))).trans (r1 j v hv), fun j v hv => (hb.cell (World.block_lt_of_cell? w6 _ (r2 j v hv))).trans (r2 j v hv)⟩
      have hp0 : (((splitP T 0).length : Int) == 0) = false := beq_eq_false_iff_ne.2 (by omega)
      clear op bp R5 O5 B5 kp pcl O6 km gcl eL
      generalize splitP T 0 = P at *
      go_wp2_with fail
      go_loopw [13, 14] (fun vr vi wr => ∃ q : Nat, q ≤ P.length ∧ vi = .int .i64 (q : Int) ∧ vr = .int .i64 ((T.size - zP P q : Nat) : Int) ∧ Below w6.heap.size w6 wr) (fun _ vi _ => P.length - (intOf vi).toNat)
      case atStart => exact ⟨0, Nat.zero_le _, rfl, by show _ = Value.int .i64 ((T.size - 0 : Nat) : Int); simp, Below.refl _ _⟩
      case round =>
        obtain ⟨q, hq, rfl, rfl, hB⟩ := hrel
        have HB := hide hB
        clear hB
        by_cases hql : q < P.length
        case neg =>
          obtain rfl : q = P.length := by omega
          have SK := hide (skipped_any wr R _ _ (R6.out.below HB.out))
          generalize T.size - zP P P.length = Z at *
          go_wp2_with fail
          refine Calls.mono SK.out ?_
          rintro e wx ⟨rfl, rfl⟩
          go_wp2_with fail
          go_ret
          exact ⟨by simp, B6.out.trans (HB.out.mono B6.out.size)⟩
        case pos =>
          obtain ⟨r1, r2⟩ := M6.out _ HB.out q hql
          have EZ : Hid (zP P (q + 1) = zP P q + P[q].2.1) := zP_succ hql
          have z1 := HZ.out q
          have z2 := HZ.out (q + 1)
          rw [EZ.out] at z2
          obtain ⟨⟨pi, pn, pm⟩, hpe⟩ : ∃ p, p = P[q] := ⟨_, rfl⟩
          rw [← hpe] at r1 r2 EZ z2
          have hqi : (q : Int) < (P.length : Int) := by omega
          have BD := hide HB.out.drew
          have R1 : Hid (∀ w', Below w6.heap.size w6 w' → w'.rangeAt gg (q * 11) (msgV pm).toList) := fun w' hb => by have := (M6.out w' hb q hql).1; rw [← hpe] at this; exact this
          have R2 : Hid (∀ w', Below w6.heap.size w6 w' → w'.rangeAt pg (q * 13) (pieL (pi, pn, pm))) := fun w' hb => by have := (M6.out w' hb q hql).2; rw [← hpe] at this; exact this
          have R3 : Hid (∀ w', Below w6.heap.size w6 w' → w'.rangeAt pg (q * 13 + 2) (msgV pm).toList) := fun w' hb j u hj => by
            have := R2.out w' hb (2 + j) u (by rw [show pieL (pi, pn, pm) = .int .i64 (pi : Int) :: .int .i64 (pn : Int) :: (msgV pm).toList from rfl, Nat.add_comm 2 j]; exact hj)
            rw [show q * 13 + 2 + j = q * 13 + (2 + j) by omega]; exact this
          have R4 : Hid (∀ w', Below w6.heap.size w6 w' → w'.cell? ⟨pg, q * 13 + 1, none⟩ = some (.int .i64 (pn : Int))) := fun w' hb => R2.out w' hb 1 _ rfl
          clear r1 r2 hpe
          obtain ⟨A, hA⟩ : ∃ A, T.size - zP P q = A := ⟨_, rfl⟩
          have NA : Hid (T.size - zP P (q + 1) = A - pn) := by show _ = _; rw [EZ.out]; dsimp only; omega
          have hAp : pn ≤ A := by dsimp only at z2; omega
          have hAl : A ≤ 2000000 := by omega
          rw [hA]
          clear hA z1 z2 EZ
          go_upto_region 25 with fail
          refine wp_region_held_drew (S := fun x => Below w6.heap.size w6 x) (by kernel_rfl) BD.out (fun hHeld => ?_)
          refine wpAnyH_take (i := 0) (v := (.slice (some ⟨gg, 0, none⟩) P.length gc5)) rfl (by kernel_rfl) (by kernel_rfl) (by kernel_rfl) (fun _ _ _ h => h) (Or.inl ⟨by rfl, ?_⟩) (by assumption) ?_
          · intro w' hSw
            (try dsimp only at hSw)
            go_simp <;> first | exact i64_in (by omega) (by omega) | exact u32_in (by omega) (by omega) | exact u32_add _ _ | (rw [Int.tmod_eq_emod_of_nonneg (by omega)]; omega) | (rw [Int.tdiv_eq_ediv_of_nonneg (by omega)]; omega) | omega
          (try simp only [Act.put, List.setIfInBounds_toArray, List.set_cons_zero, List.set_cons_succ])
          refine wpAnyH_take (i := 1) (v := (.int .i64 (q : Int))) rfl (by kernel_rfl) (by kernel_rfl) (by kernel_rfl) (fun _ _ _ h => h) (Or.inl ⟨by rfl, ?_⟩) (by assumption) ?_
          · intro w' hSw
            (try dsimp only at hSw)
            go_simp <;> first | exact i64_in (by omega) (by omega) | exact u32_in (by omega) (by omega) | exact u32_add _ _ | (rw [Int.tmod_eq_emod_of_nonneg (by omega)]; omega) | (rw [Int.tdiv_eq_ediv_of_nonneg (by omega)]; omega) | omega
          (try simp only [Act.put, List.setIfInBounds_toArray, List.set_cons_zero, List.set_cons_succ])
          refine wpAnyH_take (i := 2) (v := (.pointer (some ⟨gg, q * 11, none⟩))) rfl (by kernel_rfl) (by kernel_rfl) (by kernel_rfl) (fun _ _ _ h => h) (Or.inl ⟨by rfl, ?_⟩) (by assumption) ?_
          · intro w' hSw
            (try dsimp only at hSw)
            go_simp <;> first | exact i64_in (by omega) (by omega) | exact u32_in (by omega) (by omega) | exact u32_add _ _ | (rw [Int.tmod_eq_emod_of_nonneg (by omega)]; omega) | (rw [Int.tdiv_eq_ediv_of_nonneg (by omega)]; omega) | omega
          (try simp only [Act.put, List.setIfInBounds_toArray, List.set_cons_zero, List.set_cons_succ])
          refine wpAnyH_take (i := 3) (v := .agg (msgV pm)) rfl (by kernel_rfl) (by kernel_rfl) (by kernel_rfl) (fun _ _ _ h => h) (yieldsIf_load_mid rfl 27 (.tmp 96) rfl gg (q * 11) rfl (msgV pm).toList _ (fun w' h => R1.out w' h) Tryd.underlying27 rfl infoMs11) (by assumption) ?_
          (try simp only [Act.put, List.getElem_toArray, List.getElem_cons_zero, List.getElem_cons_succ, List.setIfInBounds_toArray, List.set_cons_zero, List.set_cons_succ])
          refine wpAnyH_take (i := 4) (v := (.slice (some ⟨pg, 0, none⟩) P.length pc)) rfl (by kernel_rfl) (by kernel_rfl) (by kernel_rfl) (fun _ _ _ h => h) (Or.inl ⟨by rfl, ?_⟩) (by assumption) ?_
          · intro w' hSw
            (try dsimp only at hSw)
            go_simp
          (try simp only [Act.put, List.getElem_toArray, List.getElem_cons_zero, List.getElem_cons_succ, List.setIfInBounds_toArray, List.set_cons_zero, List.set_cons_succ])
          refine wpAnyH_take (i := 5) (v := (.int .i64 (q : Int))) rfl (by kernel_rfl) (by kernel_rfl) (by kernel_rfl) (fun _ _ _ h => h) (Or.inl ⟨by rfl, ?_⟩) (by assumption) ?_
          · intro w' hSw
            (try dsimp only at hSw)
            go_simp
          (try simp only [Act.put, List.getElem_toArray, List.getElem_cons_zero, List.getElem_cons_succ, List.setIfInBounds_toArray, List.set_cons_zero, List.set_cons_succ])
          refine wpAnyH_take (i := 6) (v := (.pointer (some ⟨pg, q * 13, none⟩))) rfl (by kernel_rfl) (by kernel_rfl) (by kernel_rfl) (fun _ _ _ h => h) (Or.inl ⟨by rfl, ?_⟩) (by assumption) ?_
          · intro w' hSw
            (try dsimp only at hSw)
            go_simp
          (try simp only [Act.put, List.getElem_toArray, List.getElem_cons_zero, List.getElem_cons_succ, List.setIfInBounds_toArray, List.set_cons_zero, List.set_cons_succ])
          refine wpAnyH_take (i := 7) (v := (.pointer (some ⟨pg, q * 13 + 2, none⟩))) rfl (by kernel_rfl) (by kernel_rfl) (by kernel_rfl) (fun _ _ _ h => h) (Or.inl ⟨by rfl, ?_⟩) (by assumption) ?_
          · intro w' hSw
            (try dsimp only at hSw)
            go_simp
          (try simp only [Act.put, List.getElem_toArray, List.getElem_cons_zero, List.getElem_cons_succ, List.setIfInBounds_toArray, List.set_cons_zero, List.set_cons_succ])
          refine wpAnyH_take (i := 8) (v := .agg (msgV pm)) rfl (by kernel_rfl) (by kernel_rfl) (by kernel_rfl) (fun _ _ _ h => h) (yieldsIf_load_mid rfl 27 (.tmp 101) rfl pg (q * 13 + 2) rfl (msgV pm).toList _ (fun w' h => R3.out w' h) Tryd.underlying27 rfl infoMs11) (by assumption) ?_
          (try simp only [Act.put, List.getElem_toArray, List.getElem_cons_zero, List.getElem_cons_succ, List.setIfInBounds_toArray, List.set_cons_zero, List.set_cons_succ])
          refine wpAnyH_ready (rs := [9]) (by kernel_rfl) (by simp) ?_
          refine AllReadyH.cons rfl (fun K hK => ?_) AllReadyH.nil
          rw [if_pos (by kernel_rfl)]
          refine wp_neqMsg (.tmp 97) (.tmp 102) _ rfl pm pm rfl rfl ?_
          rw [sameM_self]
          refine hK.out _ _ (BD.out) (fun hHeld => ?_)
          clear hK
          (try simp only [Act.put, List.setIfInBounds_toArray, List.set_cons_zero, List.set_cons_succ])
          refine wpAnyH_done (by kernel_rfl) ?_ _
          clear hHeld
          (try simp only [Act.put, List.getElem_toArray, List.getElem_cons_zero, List.getElem_cons_succ])
          have c4 := R4.out _ BD.out
          go_wp2_with fail
          go_roundw
          case rel => exact ⟨q + 1, by omega, by go_num, by rw [NA.out]; go_num, BD.out⟩
          case measure => simp [intOf]; omega
end Go.Proofs.YtgdjfocnaapooaaDoor
