import Derived.Test.YtgdjfocnaapooaaDoorGFvPure
import Derived.Test.YtgdjfocnaapooaaDoorFxRest
namespace Go.Proofs.YtgdjfocnaapooaaDoor
open Go.RowKit
/-- a list of ints, as cells -/
def ics (E : List Nat) : List Value := E.map fun n : Nat => Value.int .i64 (n : Int)
theorem own_ints {w : World} {base : Nat} {v : Value} {E : List Nat} (h : w.ownsRow base 3 1 v E.length (ics E)) : ∃ ba cap, v = .slice ba E.length cap ∧ (0 < E.length → ∃ g, ba = some ⟨g, 0, none⟩ ∧ g < w.heap.size ∧ ∀ (j : Nat) (hj : j < E.length), w.cell? ⟨g, j, none⟩ = some (.int .i64 (E[j] : Int))) := by
  rcases h.2 with ⟨hv, h0⟩ | ⟨g, cap, cur, hv, _, _, _, _, _, _⟩
  · exact ⟨none, 0, by rw [hv, h0], fun x => by omega⟩
  · subst hv
    refine ⟨_, _, rfl, fun _ => ⟨g, rfl, (h.lt g rfl).2, fun j hj => ?_⟩⟩
    have := h.cells (g := g) rfl j (.int .i64 (E[j] : Int)) (by unfold ics; rw [List.getElem?_map, List.getElem?_eq_getElem hj]; rfl)
    rw [Addr.add_mid, Nat.zero_add] at this
    exact this
set_option maxHeartbeats 16000000 in
set_option maxRecDepth 100000 in
set_option linter.unusedSimpArgs false in
/-- comes -/
theorem comes_any (S : ByteArray) (L : List MM) (E : List Nat) (kw : Nat) (hW : Stw S L E kw) (hL0 : 0 < L.length) (hSz : S.size ≤ 100000000000) (ao : Option Addr) (b off cap : Nat) (cs : List Int) (hao : 0 < cs.length → ao = some ⟨b, off, none⟩) (hcl : cs.length ≤ 1048576) (w : World) (_hlt : 0 < cs.length → b < w.heap.size) (hl : ∀ (j : Nat) c, cs[j]? = some c → w.cell? ⟨b, off + j, none⟩ = some (.int .i64 c))
    (b1 b2 : Nat) (vw ve : Value) (hvw : w.ownsRow b1 27 11 vw L.length (mcs L)) (hve : w.ownsRow b2 3 1 ve E.length (ics E)) (hT : TabF w) (hT4 : Tab4 5 w) :
    Calls Tryd.prog 20 #[.string S, vw, ve, .slice ao cs.length cap, .int .i64 (kw : Int)] w fun e w' => e = .returned (.bool true) ∧ Below w.heap.size w w' := by
  have KT : Hid (∀ w', Below w.heap.size w w' → TabF w' ∧ Tab4 5 w') := fun w' hb => ⟨hT.below hb, fun j hj => (hb.cell (World.block_lt_of_cell? w _ (hT4 j hj))).trans (hT4 j hj)⟩
  have CU : Hid (∀ w', Below w.heap.size w w' → ∀ (j : Nat) c, cs[j]? = some c → w'.cell? ⟨b, off + j, none⟩ = some (.int .i64 c)) := fun w' hb j c hj => (hb.cell (World.block_lt_of_cell? w _ (hl j c hj))).trans (hl j c hj)
  obtain ⟨s1, s2, s3, s4⟩ := hW.split
  obtain ⟨wb, wc, rfl, kw1⟩ := own_msg hvw
  obtain ⟨wg, rfl, _, wgl, wcl⟩ := kw1 hL0
  obtain ⟨eb, ec, rfl, ke1⟩ := own_ints hve
  obtain ⟨eg, rfl, egl, ecl⟩ := ke1 (by omega)
  have WM : Hid (∀ W', Below w.heap.size w W' → ∀ q (hq : q < L.length), W'.rangeAt wg (q * 11) (msgV L[q]).toList) := fun W' hb q hq j v hv => (hb.cell (World.block_lt_of_cell? w _ (mcs_range wcl q hq j v hv))).trans (mcs_range wcl q hq j v hv)
  have EM : Hid (∀ W', Below w.heap.size w W' → ∀ q (hq : q < E.length), W'.cell? ⟨eg, q, none⟩ = some (.int .i64 (E[q] : Int))) := fun W' hb q hq => (hb.cell (by exact egl)).trans (ecl q hq)
  rw [s4] at hve
  have hEL : E.length = L.length := s4
  have HAO := hide hao
  have SW := hide hW
  have hPlen : (splitP S 0).length = L.length := by rw [← s1, List.length_map]
  have hLl : L.length ≤ S.size := by rw [← hPlen]; exact splitP_len S
  have S1 := hide s1
  have S2 := hide s2
  clear hT hT4 hl _hlt hao hvw hve kw1 ke1 wcl ecl s1 s2 s3 s4 hW
  go_enter Tryd.func20, Tryd.ntmps20
  go_wp2_with fail
  refine Calls.mono (newReader_any w) ?_
  rintro e w1 ⟨rfl, hR, b1'⟩
  generalize hRe : w.heap.size = R at *
  have B0 : Hid (Below R w w1) := b1'
  clear b1'
  go_wp2_with fail
  go_loopw [12, 13, 14, 15, 16, 17, 18] (fun v12 v13 v14 _ _ _ _ wr => ∃ (i c : Nat) (P : List (Nat × Nat × MM)) (p k : Nat) (H : ByteArray), v12 = .int .i64 (P.length : Int) ∧ v13 = .int .i64 (c : Int) ∧ v14 = .int .i64 (i : Int) ∧ CmS S c P p k H ∧ RdAt wr R H (k : Int) ∧ Below R w wr ∧ (c < S.size → i ≤ 2 * cs.length) ∧ i ≤ 2 * cs.length + 1 ∧ k + H.size + P.length ≤ c) (fun _ _ v14 _ _ _ _ _ => 2 * cs.length + 2 - (intOf v14).toNat)
  case atStart => exact ⟨0, 0, [], 0, 0, ⟨#[]⟩, rfl, rfl, rfl, CmS.start S, hR, B0.out, fun _ => Nat.zero_le _, Nat.zero_le _, Nat.le_refl _⟩
  case round =>
    clear hR B0
    obtain ⟨i, c, P, p, k, H, rfl, rfl, rfl, hC, hRr, hB, hic, hi1, hkH⟩ := hrel
    have hcS := hC.hc
    have hpc := hC.hp
    have HC := hide hC
    have HR := hide hRr
    have HB := hide hB
    have hHz : H.size ≤ S.size := by rw [hC.hH, ByteArray.size_extract]; omega
    have hPz : P.length ≤ L.length := by rw [← hPlen, hC.spl, List.length_append]; omega
    clear hC hRr hB
    by_cases hlt : c < S.size
    case neg =>
      obtain rfl : c = S.size := by omega
      obtain ⟨d1, d2, d3⟩ := HC.out.done SW.out
      subst d2 d3
      have hPL : P.length = L.length := by rw [← d1]; exact hPlen
      have CLO := hide (close_any R R ⟨#[]⟩ k (by show 0 ≤ _; omega) (by omega) wr HR.out (Nat.le_refl _) (fun W' h => KT.out _ (HB.out.trans h)))
      have z0 : msgT (⟨#[]⟩ : ByteArray) = [] := by unfold msgT; rw [splT_zero rfl]; rfl
      have z1 : skT (⟨#[]⟩ : ByteArray) = 0 := by unfold skT; rw [splT_zero rfl]; rfl
      rw [hPL]
      clear HC hPz hPL d1 hic
      go_wp2_with fail
      refine Calls.mono CLO.out ?_
      rintro e w2 ⟨v, rfl, hR2, ho2, hg2⟩
      rw [z0] at ho2
      rw [z1, Int.add_zero] at hR2
      have SK := hide (skipped_any w2 R _ _ hR2)
      have B2 : Hid (Below R w w2) := HB.out.grown hg2 (by have := HB.out.size; omega) (fun j e => by cases e; exact Nat.le_refl _)
      obtain ⟨vb, vc, rfl⟩ := own_sl ho2
      clear CLO hR2 ho2 hg2 z0 z1
      go_wp2_with fail
      refine Calls.mono SK.out ?_
      rintro e wx ⟨rfl, rfl⟩
      go_wp2_with fail
      go_ret
      exact ⟨by simp, by rw [hRe]; exact B2.out⟩
    case pos =>
      have CA := cutAt_any ao b off cap cs HAO.out i (S.size - c) (by omega) (by omega) wr (CU.out _ HB.out)
      rw [show ((S.size - c : Nat) : Int) = (S.size : Int) - (c : Int) by omega] at CA
      have CA := hide CA
      have hli : (c : Int) < (S.size : Int) := by omega
      go_wp2_with fail
      refine Calls.mono CA.out ?_
      rintro e wx ⟨m, rfl, hm, rfl⟩
      clear CA
      by_cases hbig : i < 2 * cs.length
      case pos =>
        have hbi : ¬ (2 * (cs.length : Int)) ≤ (i : Int) := by omega
        have hcm : c + m ≤ S.size := by omega
        have hnx : c + m < S.size → i + 1 ≤ 2 * cs.length := fun _ => by omega
        go_upto_region 12 with fail
        have FD0 := feed2_any R R H (S.extract c (c + m)) k (by rw [ByteArray.size_extract]; omega) (by omega) wr HR.out (Nat.le_refl _) (fun W' h => KT.out _ (HB.out.trans h))
        have FD := hide FD0
        clear FD0
        have hX : Hid ((S.extract c (c + m)).size = m) := by show _ = _; rw [ByteArray.size_extract]; omega
        have ci : (c : Int) + (m : Int) ≤ (S.size : Int) := by omega
        have ci2 : ((c : Int) + (m : Int)).toNat = c + m := by omega
        go_upto_region 13 with fail
        refine Calls.mono FD.out ?_
        rintro e w2 ⟨vl, L2, j, r, rfl, hPo, hF, hmy, hl2, hR2, ho2, hg2⟩
        rw [hX.out] at hl2
        obtain ⟨P2, p2, hL2, hC2⟩ := HC.out.step hcm hPo hF hmy
        have B2 : Below R w w2 := HB.out.grown hg2 (by have := HB.out.size; omega) (fun j e => by cases e; exact Nat.le_refl _)
        have hP2 : P2.length = L2.length := by rw [← hL2, List.length_map]
        have hP3 : (P ++ P2.map (sh p)).length = P.length + L2.length := by rw [List.length_append, List.length_map, hP2]
        have hPz2 : P.length + L2.length ≤ L.length := by
          have := congrArg List.length hC2.spl
          rw [List.length_append, hPlen, hP3] at this
          omega
        have EQ : Hid (∀ q (hq : q < L2.length), L[P.length + q]? = some L2[q]) := fun q hq => by
          have e1 : L = (P ++ P2.map (sh p)).map (·.2.2) ++ (splitP S (p + p2)).map (·.2.2) := by rw [← List.map_append, ← hC2.spl]; exact S1.out.symm
          rw [e1, List.map_append, sh_msg, hL2, List.append_assoc, List.getElem?_append_right (by rw [List.length_map]; omega), List.length_map, Nat.add_sub_cancel_left, List.getElem?_append_left hq, List.getElem?_eq_getElem hq]
        have N1 : Hid (P.length + L2.length < L.length → ∃ h : P.length + L2.length < E.length, c + m < E[P.length + L2.length]) := fun h => by
          refine ⟨by omega, ?_⟩
          cases hs : splitP S (p + p2) with
          | nil =>
            exfalso
            have := hC2.spl
            rw [hs, List.append_nil] at this
            have := congrArg List.length this
            omega
          | cons e rest =>
            have hf := hC2.front SW.out hs
            have e1 : E = (P ++ P2.map (sh p)).map (fun e => e.1 + e.2.1) ++ (splitP S (p + p2)).map (fun e => e.1 + e.2.1) := by rw [← List.map_append, ← hC2.spl]; exact S2.out.symm
            have e2 : E[P.length + L2.length]? = some (e.1 + e.2.1) := by
              rw [e1, List.getElem?_append_right (by rw [List.length_map]; omega), List.length_map, hP3, Nat.sub_self, hs]
              rfl
            rw [List.getElem?_eq_getElem (by omega)] at e2
            rw [Option.some.inj e2]
            exact hf
        have N2 : Hid (∀ t, t + 1 = P.length + L2.length → ∃ h : t < E.length, E[t] ≤ c + m) := fun t ht => by
          refine ⟨by omega, ?_⟩
          have e1 : E = (P ++ P2.map (sh p)).map (fun e => e.1 + e.2.1) ++ (splitP S (p + p2)).map (fun e => e.1 + e.2.1) := by rw [← List.map_append, ← hC2.spl]; exact S2.out.symm
          have ht2 : t < (P ++ P2.map (sh p)).length := by omega
          have e2 : E[t]? = some ((P ++ P2.map (sh p))[t].1 + (P ++ P2.map (sh p))[t].2.1) := by
            rw [e1, List.getElem?_append_left (by rw [List.length_map]; omega), List.getElem?_map, List.getElem?_eq_getElem ht2]
            rfl
          rw [List.getElem?_eq_getElem (by omega)] at e2
          rw [Option.some.inj e2]
          have h1 := hC2.ends _ (List.getElem_mem ht2)
          have h2 := hC2.hp
          omega
        have C2 := hide hC2
        have HR2 := hide hR2
        have HB2 := hide B2
        have HO2 := hide ho2
        have hkH2 : k + j + r.size + (P ++ P2.map (sh p)).length ≤ c + m := by rw [hP3]; omega
        obtain ⟨lb, lc, rfl, kl⟩ := own_msg ho2
        have KL := hide kl
        clear FD hPo hF hmy hR2 ho2 hg2 hC2 B2 kl HC HR HB hX ci2
        generalize hPP : P ++ P2.map (sh p) = PP at *
        clear hPP
        go_wp2_with (go_at_call 10; refine Calls.mono (num5_any _ _) ?_; rintro e wn ⟨rfl, rfl⟩)
        have ciE : (c : Int) + (m : Int) = ((c + m : Nat) : Int) := by omega
        rw [ciE]
        clear ciE ci
        obtain ⟨cm, hcmE⟩ : ∃ cm, c + m = cm := ⟨_, rfl⟩
        rw [hcmE] at hnx C2 hkH2 hcm N1 N2 ⊢
        have hi2 := hic hlt
        clear hcmE hlt hli hm hcS hpc hic hkH hl2 hHz
        go_loopw [12, 18] (fun v12 v18 wq => ∃ q : Nat, q ≤ L2.length ∧ v18 = .int .i64 (q : Int) ∧ v12 = .int .i64 ((P.length + q : Nat) : Int) ∧ Below w2.heap.size w2 wq) (fun _ v18 _ => L2.length - (intOf v18).toNat)
        case atStart => exact ⟨0, Nat.zero_le _, rfl, rfl, Below.refl _ _⟩
        case round =>
          obtain ⟨q, hq, rfl, rfl, hBq⟩ := hrel
          have BQ := hide hBq
          clear hBq
          by_cases hql : q < L2.length
          case pos =>
            obtain ⟨lg, hlg, _, _, lcl⟩ := KL.out (by omega)
            subst hlg
            have hw1 := EQ.out q hql
            have hlT : P.length + q < L.length := by omega
            rw [List.getElem?_eq_getElem hlT] at hw1
            have hw1 := Option.some.inj hw1
            have R1 : Hid (∀ X, Below w2.heap.size w2 X → X.rangeAt lg (q * 11) (msgV L2[q]).toList) := fun X hb j v hv => (hb.cell (World.block_lt_of_cell? w2 _ (mcs_range lcl q hql j v hv))).trans (mcs_range lcl q hql j v hv)
            have hs2 : R ≤ w2.heap.size := by have := HB2.out.size; omega
            have R2 : Hid (∀ X, Below w2.heap.size w2 X → X.rangeAt wg ((P.length + q) * 11) (msgV L2[q]).toList) := fun X hb => by
              have := WM.out X (HB2.out.trans (hb.mono hs2)) (P.length + q) hlT
              rw [hw1] at this
              exact this
            clear lcl hw1
            generalize L2[q] = mq at *
            obtain ⟨tq, htq⟩ : ∃ tq, P.length + q = tq := ⟨_, rfl⟩
            rw [htq] at R2 hlT ⊢
            have htq1 : Hid (P.length + (q + 1) = tq + 1) := by show _ = _; omega
            have hge : decide ((L.length : Int) ≤ (tq : Int)) = false := decide_eq_false (by omega)
            have hqi : (q : Int) < (L2.length : Int) := by omega
            have hti : (tq : Int) < (L.length : Int) := by omega
            have BD := hide BQ.out.drew
            clear htq
            go_upto_region 19 with fail
            refine wp_region_held_drew (S := fun X => Below w2.heap.size w2 X) (by kernel_rfl) BD.out (fun hHeld => ?_)
            refine wpAnyH_take (i := 0) (v := (.int .i64 (tq : Int))) rfl (by kernel_rfl) (by kernel_rfl) (by kernel_rfl) (fun _ _ _ h => h) (Or.inl ⟨by rfl, ?_⟩) (by assumption) ?_
            · intro w' hSw
              (try dsimp only at hSw)
              go_simp <;> first | exact i64_in (by omega) (by omega) | exact u32_in (by omega) (by omega) | exact u32_add _ _ | (rw [Int.tmod_eq_emod_of_nonneg (by omega)]; omega) | (rw [Int.tdiv_eq_ediv_of_nonneg (by omega)]; omega) | omega
            (try simp only [Act.put, List.setIfInBounds_toArray, List.set_cons_zero, List.set_cons_succ])
            refine wpAnyH_take (i := 1) (v := (.slice (some ⟨wg, 0, none⟩) L.length wc)) rfl (by kernel_rfl) (by kernel_rfl) (by kernel_rfl) (fun _ _ _ h => h) (Or.inl ⟨by rfl, ?_⟩) (by assumption) ?_
            · intro w' hSw
              (try dsimp only at hSw)
              go_simp <;> first | exact i64_in (by omega) (by omega) | exact u32_in (by omega) (by omega) | exact u32_add _ _ | (rw [Int.tmod_eq_emod_of_nonneg (by omega)]; omega) | (rw [Int.tdiv_eq_ediv_of_nonneg (by omega)]; omega) | omega
            (try simp only [Act.put, List.setIfInBounds_toArray, List.set_cons_zero, List.set_cons_succ])
            refine wpAnyH_take (i := 2) (v := (.int .i64 (L.length : Int))) rfl (by kernel_rfl) (by kernel_rfl) (by kernel_rfl) (fun _ _ _ h => h) (Or.inl ⟨by rfl, ?_⟩) (by assumption) ?_
            · intro w' hSw
              (try dsimp only at hSw)
              go_simp <;> first | exact i64_in (by omega) (by omega) | exact u32_in (by omega) (by omega) | exact u32_add _ _ | (rw [Int.tmod_eq_emod_of_nonneg (by omega)]; omega) | (rw [Int.tdiv_eq_ediv_of_nonneg (by omega)]; omega) | omega
            (try simp only [Act.put, List.setIfInBounds_toArray, List.set_cons_zero, List.set_cons_succ])
            refine wpAnyH_take (i := 3) (v := (.bool false)) rfl (by kernel_rfl) (by kernel_rfl) (by kernel_rfl) (fun _ _ _ h => h) (Or.inl ⟨by rfl, ?_⟩) (by assumption) ?_
            · intro w' hSw
              (try dsimp only at hSw)
              (go_simp <;> first | omega | simp [hge])
            (try simp only [Act.put, List.setIfInBounds_toArray, List.set_cons_zero, List.set_cons_succ])
            refine wpAnyH_take (i := 4) (v := (.bool false)) rfl (by kernel_rfl) (by kernel_rfl) (by kernel_rfl) (fun _ _ _ h => h) (Or.inl ⟨by rfl, ?_⟩) (by assumption) ?_
            · intro w' hSw
              (try dsimp only at hSw)
              go_simp <;> first | exact i64_in (by omega) (by omega) | exact u32_in (by omega) (by omega) | exact u32_add _ _ | (rw [Int.tmod_eq_emod_of_nonneg (by omega)]; omega) | (rw [Int.tdiv_eq_ediv_of_nonneg (by omega)]; omega) | omega
            (try simp only [Act.put, List.setIfInBounds_toArray, List.set_cons_zero, List.set_cons_succ])
            refine wpAnyH_take (i := 5) (v := (.slice (some ⟨lg, 0, none⟩) L2.length lc)) rfl (by kernel_rfl) (by kernel_rfl) (by kernel_rfl) (fun _ _ _ h => h) (Or.inl ⟨by kernel_rfl, ?_⟩) (by assumption) ?_
            · intro w' hSw
              (try dsimp only at hSw)
              go_simp
            (try simp only [Act.put, List.setIfInBounds_toArray, List.set_cons_zero, List.set_cons_succ])
            refine wpAnyH_take (i := 6) (v := (.int .i64 (q : Int))) rfl (by kernel_rfl) (by kernel_rfl) (by kernel_rfl) (fun _ _ _ h => h) (Or.inl ⟨by kernel_rfl, ?_⟩) (by assumption) ?_
            · intro w' hSw
              (try dsimp only at hSw)
              go_simp
            (try simp only [Act.put, List.setIfInBounds_toArray, List.set_cons_zero, List.set_cons_succ])
            refine wpAnyH_take (i := 7) (v := (.pointer (some ⟨lg, q * 11, none⟩))) rfl (by kernel_rfl) (by kernel_rfl) (by kernel_rfl) (fun _ _ _ h => h) (Or.inl ⟨by kernel_rfl, ?_⟩) (by assumption) ?_
            · intro w' hSw
              (try dsimp only at hSw)
              (go_simp <;> omega)
            (try simp only [Act.put, List.setIfInBounds_toArray, List.set_cons_zero, List.set_cons_succ])
            refine wpAnyH_take (i := 8) (v := .agg (msgV mq)) rfl (by kernel_rfl) (by kernel_rfl) (by kernel_rfl) (fun _ _ _ h => h) (yieldsIf_load_mid ?hw8 27 (.tmp 74) ?ho8 lg (q * 11) ?hx8 (msgV mq).toList _ (fun w' h => R1.out w' h) Tryd.underlying27 rfl infoMs11) (by assumption) ?_
            case hw8 => kernel_rfl
            case ho8 => rfl
            case hx8 => kernel_rfl
            (try simp only [Act.put, List.getElem_toArray, List.getElem_cons_zero, List.getElem_cons_succ, List.setIfInBounds_toArray, List.set_cons_zero, List.set_cons_succ])
            refine wpAnyH_take (i := 9) (v := (.slice (some ⟨wg, 0, none⟩) L.length wc)) rfl (by kernel_rfl) (by kernel_rfl) (by kernel_rfl) (fun _ _ _ h => h) (Or.inl ⟨by kernel_rfl, ?_⟩) (by assumption) ?_
            · intro w' hSw
              (try dsimp only at hSw)
              go_simp
            (try simp only [Act.put, List.setIfInBounds_toArray, List.set_cons_zero, List.set_cons_succ])
            refine wpAnyH_take (i := 10) (v := (.int .i64 (tq : Int))) rfl (by kernel_rfl) (by kernel_rfl) (by kernel_rfl) (fun _ _ _ h => h) (Or.inl ⟨by kernel_rfl, ?_⟩) (by assumption) ?_
            · intro w' hSw
              (try dsimp only at hSw)
              go_simp
            (try simp only [Act.put, List.setIfInBounds_toArray, List.set_cons_zero, List.set_cons_succ])
            refine wpAnyH_take (i := 11) (v := (.pointer (some ⟨wg, tq * 11, none⟩))) rfl (by kernel_rfl) (by kernel_rfl) (by kernel_rfl) (fun _ _ _ h => h) (Or.inl ⟨by kernel_rfl, ?_⟩) (by assumption) ?_
            · intro w' hSw
              (try dsimp only at hSw)
              (go_simp <;> omega)
            (try simp only [Act.put, List.setIfInBounds_toArray, List.set_cons_zero, List.set_cons_succ])
            refine wpAnyH_take (i := 12) (v := .agg (msgV mq)) rfl (by kernel_rfl) (by kernel_rfl) (by kernel_rfl) (fun _ _ _ h => h) (yieldsIf_load_mid ?hw12 27 (.tmp 78) ?ho12 wg (tq * 11) ?hx12 (msgV mq).toList _ (fun w' h => R2.out w' h) Tryd.underlying27 rfl infoMs11) (by assumption) ?_
            case hw12 => kernel_rfl
            case ho12 => rfl
            case hx12 => kernel_rfl
            (try simp only [Act.put, List.getElem_toArray, List.getElem_cons_zero, List.getElem_cons_succ, List.setIfInBounds_toArray, List.set_cons_zero, List.set_cons_succ])
            refine wpAnyH_take (i := 13) (v := (.bool (!sameM mq mq))) rfl (by kernel_rfl) (by kernel_rfl) (by kernel_rfl) (fun _ _ _ h => h) (Or.inl ⟨by kernel_rfl, ?_⟩) (by assumption) ?_
            · intro w' hSw
              (try dsimp only at hSw)
              exact run_neqM _ _ _ _ _ _ _ _ mq mq (by kernel_rfl) (by kernel_rfl)
            (try simp only [Act.put, List.setIfInBounds_toArray, List.set_cons_zero, List.set_cons_succ])
            refine wpAnyH_ready (rs := [14]) (by kernel_rfl) (by simp) ?_
            refine AllReadyH.cons rfl (fun K hK => ?_) AllReadyH.nil
            go_simp
            refine hK.out _ _ (BD.out) (fun hHeld => ?_)
            clear hK
            (try simp only [Act.put, List.setIfInBounds_toArray, List.set_cons_zero, List.set_cons_succ])
            refine wpAnyH_done (by kernel_rfl) ?_ _
            clear hHeld
            rw [sameM_self]
            go_wp2_with fail
            go_roundw
            case rel => exact ⟨q + 1, by omega, by go_num, by rw [htq1.out]; go_num, BD.out⟩
            case measure => simp [intOf]; omega
          case neg =>
            obtain rfl : q = L2.length := by omega
            have hqi : ¬ (L2.length : Int) < (L2.length : Int) := by omega
            have hs2 : R ≤ w2.heap.size := by have := HB2.out.size; omega
            have BT := hide (HB2.out.trans (BQ.out.mono hs2))
            have RT := hide (HR2.out.below BQ.out)
            obtain ⟨tq, htq⟩ : ∃ tq, P.length + L2.length = tq := ⟨_, rfl⟩
            have hPP : PP.length = tq := by omega
            rw [htq] at N1 N2 hPz2 ⊢
            have FINI : Hid (∃ (i' c' : Nat) (P' : List (Nat × Nat × MM)) (p' k' : Nat) (H' : ByteArray), (Value.int .i64 (tq : Int)) = .int .i64 (P'.length : Int) ∧ (Value.int .i64 (cm : Int)) = .int .i64 (c' : Int) ∧ (Value.int .i64 ((i : Int) + 1)) = .int .i64 (i' : Int) ∧ CmS S c' P' p' k' H' ∧ RdAt wr R H' (k' : Int) ∧ Below R w wr ∧ (c' < S.size → i' ≤ 2 * cs.length) ∧ i' ≤ 2 * cs.length + 1 ∧ k' + H'.size + P'.length ≤ c') := ⟨i + 1, cm, PP, p + p2, k + j, r, by rw [hPP], rfl, by rw [Int.natCast_add]; rfl, C2.out, RT.out, BT.out, hnx, by omega, hkH2⟩
            clear htq hP3 hkH2 HR2 HB2 HO2 KL C2 EQ
            by_cases hA : tq < L.length
            case pos =>
              obtain ⟨hE1, hE2⟩ := N1.out hA
              have cA := EM.out _ BT.out tq hE1
              have hAi : (tq : Int) < (L.length : Int) := by omega
              have hA2 : ¬ (E[tq] : Int) ≤ (cm : Int) := by omega
              generalize E[tq] = eA at *
              clear N1
              by_cases h0 : tq = 0
              case pos =>
                have h0i : ¬ (0 : Int) < (tq : Int) := by omega
                clear h0 N2
                go_wp2_with fail
                exact ⟨FINI.out, by simp [intOf]; omega⟩
              case neg =>
                obtain ⟨t, ht⟩ : ∃ t, t + 1 = tq := ⟨tq - 1, by omega⟩
                obtain ⟨hE3, hE4⟩ := N2.out t ht
                have cB := EM.out _ BT.out t hE3
                have hB2 : ¬ (cm : Int) < (E[t] : Int) := by omega
                have h0i : (0 : Int) < (tq : Int) := by omega
                have hti : (tq : Int) - 1 = (t : Int) := by omega
                have htl : (t : Int) < (L.length : Int) := by omega
                generalize E[t] = eT at *
                clear ht h0 N2
                go_wp2_with fail
                exact ⟨FINI.out, by simp [intOf]; omega⟩
            case neg =>
              have hAi : ¬ (tq : Int) < (L.length : Int) := by omega
              clear N1
              by_cases h0 : tq = 0
              case pos => exfalso; omega
              case neg =>
                obtain ⟨t, ht⟩ : ∃ t, t + 1 = tq := ⟨tq - 1, by omega⟩
                obtain ⟨hE3, hE4⟩ := N2.out t ht
                have cB := EM.out _ BT.out t hE3
                have hB2 : ¬ (cm : Int) < (E[t] : Int) := by omega
                have h0i : (0 : Int) < (tq : Int) := by omega
                have hti : (tq : Int) - 1 = (t : Int) := by omega
                have htl : (t : Int) < (L.length : Int) := by omega
                generalize E[t] = eT at *
                clear ht h0 N2
                go_wp2_with fail
                exact ⟨FINI.out, by simp [intOf]; omega⟩
      case neg =>
        have hbi : (2 * (cs.length : Int)) ≤ (i : Int) := by omega
        go_upto_region 12 with fail
        clear hm
        obtain ⟨m, hm⟩ : ∃ m, S.size - c = m := ⟨_, rfl⟩
        have hcm : c + m ≤ S.size := by omega
        have hnx : c + m < S.size → i + 1 ≤ 2 * cs.length := fun _ => by omega
        rw [show (S.size : Int) - (c : Int) = (m : Int) by omega]
        have FD0 := feed2_any R R H (S.extract c (c + m)) k (by rw [ByteArray.size_extract]; omega) (by omega) wr HR.out (Nat.le_refl _) (fun W' h => KT.out _ (HB.out.trans h))
        have FD := hide FD0
        clear FD0
        have hX : Hid ((S.extract c (c + m)).size = m) := by show _ = _; rw [ByteArray.size_extract]; omega
        have ci : (c : Int) + (m : Int) ≤ (S.size : Int) := by omega
        have ci2 : ((c : Int) + (m : Int)).toNat = c + m := by omega
        go_upto_region 13 with fail
        refine Calls.mono FD.out ?_
        rintro e w2 ⟨vl, L2, j, r, rfl, hPo, hF, hmy, hl2, hR2, ho2, hg2⟩
        rw [hX.out] at hl2
        obtain ⟨P2, p2, hL2, hC2⟩ := HC.out.step hcm hPo hF hmy
        have B2 : Below R w w2 := HB.out.grown hg2 (by have := HB.out.size; omega) (fun j e => by cases e; exact Nat.le_refl _)
        have hP2 : P2.length = L2.length := by rw [← hL2, List.length_map]
        have hP3 : (P ++ P2.map (sh p)).length = P.length + L2.length := by rw [List.length_append, List.length_map, hP2]
        have hPz2 : P.length + L2.length ≤ L.length := by
          have := congrArg List.length hC2.spl
          rw [List.length_append, hPlen, hP3] at this
          omega
        have EQ : Hid (∀ q (hq : q < L2.length), L[P.length + q]? = some L2[q]) := fun q hq => by
          have e1 : L = (P ++ P2.map (sh p)).map (·.2.2) ++ (splitP S (p + p2)).map (·.2.2) := by rw [← List.map_append, ← hC2.spl]; exact S1.out.symm
          rw [e1, List.map_append, sh_msg, hL2, List.append_assoc, List.getElem?_append_right (by rw [List.length_map]; omega), List.length_map, Nat.add_sub_cancel_left, List.getElem?_append_left hq, List.getElem?_eq_getElem hq]
        have N1 : Hid (P.length + L2.length < L.length → ∃ h : P.length + L2.length < E.length, c + m < E[P.length + L2.length]) := fun h => by
          refine ⟨by omega, ?_⟩
          cases hs : splitP S (p + p2) with
          | nil =>
            exfalso
            have := hC2.spl
            rw [hs, List.append_nil] at this
            have := congrArg List.length this
            omega
          | cons e rest =>
            have hf := hC2.front SW.out hs
            have e1 : E = (P ++ P2.map (sh p)).map (fun e => e.1 + e.2.1) ++ (splitP S (p + p2)).map (fun e => e.1 + e.2.1) := by rw [← List.map_append, ← hC2.spl]; exact S2.out.symm
            have e2 : E[P.length + L2.length]? = some (e.1 + e.2.1) := by
              rw [e1, List.getElem?_append_right (by rw [List.length_map]; omega), List.length_map, hP3, Nat.sub_self, hs]
              rfl
            rw [List.getElem?_eq_getElem (by omega)] at e2
            rw [Option.some.inj e2]
            exact hf
        have N2 : Hid (∀ t, t + 1 = P.length + L2.length → ∃ h : t < E.length, E[t] ≤ c + m) := fun t ht => by
          refine ⟨by omega, ?_⟩
          have e1 : E = (P ++ P2.map (sh p)).map (fun e => e.1 + e.2.1) ++ (splitP S (p + p2)).map (fun e => e.1 + e.2.1) := by rw [← List.map_append, ← hC2.spl]; exact S2.out.symm
          have ht2 : t < (P ++ P2.map (sh p)).length := by omega
          have e2 : E[t]? = some ((P ++ P2.map (sh p))[t].1 + (P ++ P2.map (sh p))[t].2.1) := by
            rw [e1, List.getElem?_append_left (by rw [List.length_map]; omega), List.getElem?_map, List.getElem?_eq_getElem ht2]
            rfl
          rw [List.getElem?_eq_getElem (by omega)] at e2
          rw [Option.some.inj e2]
          have h1 := hC2.ends _ (List.getElem_mem ht2)
          have h2 := hC2.hp
          omega
        have C2 := hide hC2
        have HR2 := hide hR2
        have HB2 := hide B2
        have HO2 := hide ho2
        have hkH2 : k + j + r.size + (P ++ P2.map (sh p)).length ≤ c + m := by rw [hP3]; omega
        obtain ⟨lb, lc, rfl, kl⟩ := own_msg ho2
        have KL := hide kl
        clear FD hPo hF hmy hR2 ho2 hg2 hC2 B2 kl HC HR HB hX ci2
        generalize hPP : P ++ P2.map (sh p) = PP at *
        clear hPP
        go_wp2_with (go_at_call 10; refine Calls.mono (num5_any _ _) ?_; rintro e wn ⟨rfl, rfl⟩)
        have ciE : (c : Int) + (m : Int) = ((c + m : Nat) : Int) := by omega
        rw [ciE]
        clear ciE ci
        obtain ⟨cm, hcmE⟩ : ∃ cm, c + m = cm := ⟨_, rfl⟩
        rw [hcmE] at hnx C2 hkH2 hcm N1 N2 ⊢
        have hi2 := hic hlt
        clear hcmE hlt hli hm hcS hpc hic hkH hl2 hHz
        go_loopw [12, 18] (fun v12 v18 wq => ∃ q : Nat, q ≤ L2.length ∧ v18 = .int .i64 (q : Int) ∧ v12 = .int .i64 ((P.length + q : Nat) : Int) ∧ Below w2.heap.size w2 wq) (fun _ v18 _ => L2.length - (intOf v18).toNat)
        case atStart => exact ⟨0, Nat.zero_le _, rfl, rfl, Below.refl _ _⟩
        case round =>
          obtain ⟨q, hq, rfl, rfl, hBq⟩ := hrel
          have BQ := hide hBq
          clear hBq
          by_cases hql : q < L2.length
          case pos =>
            obtain ⟨lg, hlg, _, _, lcl⟩ := KL.out (by omega)
            subst hlg
            have hw1 := EQ.out q hql
            have hlT : P.length + q < L.length := by omega
            rw [List.getElem?_eq_getElem hlT] at hw1
            have hw1 := Option.some.inj hw1
            have R1 : Hid (∀ X, Below w2.heap.size w2 X → X.rangeAt lg (q * 11) (msgV L2[q]).toList) := fun X hb j v hv => (hb.cell (World.block_lt_of_cell? w2 _ (mcs_range lcl q hql j v hv))).trans (mcs_range lcl q hql j v hv)
            have hs2 : R ≤ w2.heap.size := by have := HB2.out.size; omega
            have R2 : Hid (∀ X, Below w2.heap.size w2 X → X.rangeAt wg ((P.length + q) * 11) (msgV L2[q]).toList) := fun X hb => by
              have := WM.out X (HB2.out.trans (hb.mono hs2)) (P.length + q) hlT
              rw [hw1] at this
              exact this
            clear lcl hw1
            generalize L2[q] = mq at *
            obtain ⟨tq, htq⟩ : ∃ tq, P.length + q = tq := ⟨_, rfl⟩
            rw [htq] at R2 hlT ⊢
            have htq1 : Hid (P.length + (q + 1) = tq + 1) := by show _ = _; omega
            have hge : decide ((L.length : Int) ≤ (tq : Int)) = false := decide_eq_false (by omega)
            have hqi : (q : Int) < (L2.length : Int) := by omega
            have hti : (tq : Int) < (L.length : Int) := by omega
            have BD := hide BQ.out.drew
            clear htq
            go_upto_region 19 with fail
            refine wp_region_held_drew (S := fun X => Below w2.heap.size w2 X) (by kernel_rfl) BD.out (fun hHeld => ?_)
            refine wpAnyH_take (i := 0) (v := (.int .i64 (tq : Int))) rfl (by kernel_rfl) (by kernel_rfl) (by kernel_rfl) (fun _ _ _ h => h) (Or.inl ⟨by rfl, ?_⟩) (by assumption) ?_
            · intro w' hSw
              (try dsimp only at hSw)
              go_simp <;> first | exact i64_in (by omega) (by omega) | exact u32_in (by omega) (by omega) | exact u32_add _ _ | (rw [Int.tmod_eq_emod_of_nonneg (by omega)]; omega) | (rw [Int.tdiv_eq_ediv_of_nonneg (by omega)]; omega) | omega
            (try simp only [Act.put, List.setIfInBounds_toArray, List.set_cons_zero, List.set_cons_succ])
            refine wpAnyH_take (i := 1) (v := (.slice (some ⟨wg, 0, none⟩) L.length wc)) rfl (by kernel_rfl) (by kernel_rfl) (by kernel_rfl) (fun _ _ _ h => h) (Or.inl ⟨by rfl, ?_⟩) (by assumption) ?_
            · intro w' hSw
              (try dsimp only at hSw)
              go_simp <;> first | exact i64_in (by omega) (by omega) | exact u32_in (by omega) (by omega) | exact u32_add _ _ | (rw [Int.tmod_eq_emod_of_nonneg (by omega)]; omega) | (rw [Int.tdiv_eq_ediv_of_nonneg (by omega)]; omega) | omega
            (try simp only [Act.put, List.setIfInBounds_toArray, List.set_cons_zero, List.set_cons_succ])
            refine wpAnyH_take (i := 2) (v := (.int .i64 (L.length : Int))) rfl (by kernel_rfl) (by kernel_rfl) (by kernel_rfl) (fun _ _ _ h => h) (Or.inl ⟨by rfl, ?_⟩) (by assumption) ?_
            · intro w' hSw
              (try dsimp only at hSw)
              go_simp <;> first | exact i64_in (by omega) (by omega) | exact u32_in (by omega) (by omega) | exact u32_add _ _ | (rw [Int.tmod_eq_emod_of_nonneg (by omega)]; omega) | (rw [Int.tdiv_eq_ediv_of_nonneg (by omega)]; omega) | omega
            (try simp only [Act.put, List.setIfInBounds_toArray, List.set_cons_zero, List.set_cons_succ])
            refine wpAnyH_take (i := 3) (v := (.bool false)) rfl (by kernel_rfl) (by kernel_rfl) (by kernel_rfl) (fun _ _ _ h => h) (Or.inl ⟨by rfl, ?_⟩) (by assumption) ?_
            · intro w' hSw
              (try dsimp only at hSw)
              (go_simp <;> first | omega | simp [hge])
            (try simp only [Act.put, List.setIfInBounds_toArray, List.set_cons_zero, List.set_cons_succ])
            refine wpAnyH_take (i := 4) (v := (.bool false)) rfl (by kernel_rfl) (by kernel_rfl) (by kernel_rfl) (fun _ _ _ h => h) (Or.inl ⟨by rfl, ?_⟩) (by assumption) ?_
            · intro w' hSw
              (try dsimp only at hSw)
              go_simp <;> first | exact i64_in (by omega) (by omega) | exact u32_in (by omega) (by omega) | exact u32_add _ _ | (rw [Int.tmod_eq_emod_of_nonneg (by omega)]; omega) | (rw [Int.tdiv_eq_ediv_of_nonneg (by omega)]; omega) | omega
            (try simp only [Act.put, List.setIfInBounds_toArray, List.set_cons_zero, List.set_cons_succ])
            refine wpAnyH_take (i := 5) (v := (.slice (some ⟨lg, 0, none⟩) L2.length lc)) rfl (by kernel_rfl) (by kernel_rfl) (by kernel_rfl) (fun _ _ _ h => h) (Or.inl ⟨by kernel_rfl, ?_⟩) (by assumption) ?_
            · intro w' hSw
              (try dsimp only at hSw)
              go_simp
            (try simp only [Act.put, List.setIfInBounds_toArray, List.set_cons_zero, List.set_cons_succ])
            refine wpAnyH_take (i := 6) (v := (.int .i64 (q : Int))) rfl (by kernel_rfl) (by kernel_rfl) (by kernel_rfl) (fun _ _ _ h => h) (Or.inl ⟨by kernel_rfl, ?_⟩) (by assumption) ?_
            · intro w' hSw
              (try dsimp only at hSw)
              go_simp
            (try simp only [Act.put, List.setIfInBounds_toArray, List.set_cons_zero, List.set_cons_succ])
            refine wpAnyH_take (i := 7) (v := (.pointer (some ⟨lg, q * 11, none⟩))) rfl (by kernel_rfl) (by kernel_rfl) (by kernel_rfl) (fun _ _ _ h => h) (Or.inl ⟨by kernel_rfl, ?_⟩) (by assumption) ?_
            · intro w' hSw
              (try dsimp only at hSw)
              (go_simp <;> omega)
            (try simp only [Act.put, List.setIfInBounds_toArray, List.set_cons_zero, List.set_cons_succ])
            refine wpAnyH_take (i := 8) (v := .agg (msgV mq)) rfl (by kernel_rfl) (by kernel_rfl) (by kernel_rfl) (fun _ _ _ h => h) (yieldsIf_load_mid ?hw8 27 (.tmp 74) ?ho8 lg (q * 11) ?hx8 (msgV mq).toList _ (fun w' h => R1.out w' h) Tryd.underlying27 rfl infoMs11) (by assumption) ?_
            case hw8 => kernel_rfl
            case ho8 => rfl
            case hx8 => kernel_rfl
            (try simp only [Act.put, List.getElem_toArray, List.getElem_cons_zero, List.getElem_cons_succ, List.setIfInBounds_toArray, List.set_cons_zero, List.set_cons_succ])
            refine wpAnyH_take (i := 9) (v := (.slice (some ⟨wg, 0, none⟩) L.length wc)) rfl (by kernel_rfl) (by kernel_rfl) (by kernel_rfl) (fun _ _ _ h => h) (Or.inl ⟨by kernel_rfl, ?_⟩) (by assumption) ?_
            · intro w' hSw
              (try dsimp only at hSw)
              go_simp
            (try simp only [Act.put, List.setIfInBounds_toArray, List.set_cons_zero, List.set_cons_succ])
            refine wpAnyH_take (i := 10) (v := (.int .i64 (tq : Int))) rfl (by kernel_rfl) (by kernel_rfl) (by kernel_rfl) (fun _ _ _ h => h) (Or.inl ⟨by kernel_rfl, ?_⟩) (by assumption) ?_
            · intro w' hSw
              (try dsimp only at hSw)
              go_simp
            (try simp only [Act.put, List.setIfInBounds_toArray, List.set_cons_zero, List.set_cons_succ])
            refine wpAnyH_take (i := 11) (v := (.pointer (some ⟨wg, tq * 11, none⟩))) rfl (by kernel_rfl) (by kernel_rfl) (by kernel_rfl) (fun _ _ _ h => h) (Or.inl ⟨by kernel_rfl, ?_⟩) (by assumption) ?_
            · intro w' hSw
              (try dsimp only at hSw)
              (go_simp <;> omega)
            (try simp only [Act.put, List.setIfInBounds_toArray, List.set_cons_zero, List.set_cons_succ])
            refine wpAnyH_take (i := 12) (v := .agg (msgV mq)) rfl (by kernel_rfl) (by kernel_rfl) (by kernel_rfl) (fun _ _ _ h => h) (yieldsIf_load_mid ?hw12 27 (.tmp 78) ?ho12 wg (tq * 11) ?hx12 (msgV mq).toList _ (fun w' h => R2.out w' h) Tryd.underlying27 rfl infoMs11) (by assumption) ?_
            case hw12 => kernel_rfl
            case ho12 => rfl
            case hx12 => kernel_rfl
            (try simp only [Act.put, List.getElem_toArray, List.getElem_cons_zero, List.getElem_cons_succ, List.setIfInBounds_toArray, List.set_cons_zero, List.set_cons_succ])
            refine wpAnyH_take (i := 13) (v := (.bool (!sameM mq mq))) rfl (by kernel_rfl) (by kernel_rfl) (by kernel_rfl) (fun _ _ _ h => h) (Or.inl ⟨by kernel_rfl, ?_⟩) (by assumption) ?_
            · intro w' hSw
              (try dsimp only at hSw)
              exact run_neqM _ _ _ _ _ _ _ _ mq mq (by kernel_rfl) (by kernel_rfl)
            (try simp only [Act.put, List.setIfInBounds_toArray, List.set_cons_zero, List.set_cons_succ])
            refine wpAnyH_ready (rs := [14]) (by kernel_rfl) (by simp) ?_
            refine AllReadyH.cons rfl (fun K hK => ?_) AllReadyH.nil
            go_simp
            refine hK.out _ _ (BD.out) (fun hHeld => ?_)
            clear hK
            (try simp only [Act.put, List.setIfInBounds_toArray, List.set_cons_zero, List.set_cons_succ])
            refine wpAnyH_done (by kernel_rfl) ?_ _
            clear hHeld
            rw [sameM_self]
            go_wp2_with fail
            go_roundw
            case rel => exact ⟨q + 1, by omega, by go_num, by rw [htq1.out]; go_num, BD.out⟩
            case measure => simp [intOf]; omega
          case neg =>
            obtain rfl : q = L2.length := by omega
            have hqi : ¬ (L2.length : Int) < (L2.length : Int) := by omega
            have hs2 : R ≤ w2.heap.size := by have := HB2.out.size; omega
            have BT := hide (HB2.out.trans (BQ.out.mono hs2))
            have RT := hide (HR2.out.below BQ.out)
            obtain ⟨tq, htq⟩ : ∃ tq, P.length + L2.length = tq := ⟨_, rfl⟩
            have hPP : PP.length = tq := by omega
            rw [htq] at N1 N2 hPz2 ⊢
            have FINI : Hid (∃ (i' c' : Nat) (P' : List (Nat × Nat × MM)) (p' k' : Nat) (H' : ByteArray), (Value.int .i64 (tq : Int)) = .int .i64 (P'.length : Int) ∧ (Value.int .i64 (cm : Int)) = .int .i64 (c' : Int) ∧ (Value.int .i64 ((i : Int) + 1)) = .int .i64 (i' : Int) ∧ CmS S c' P' p' k' H' ∧ RdAt wr R H' (k' : Int) ∧ Below R w wr ∧ (c' < S.size → i' ≤ 2 * cs.length) ∧ i' ≤ 2 * cs.length + 1 ∧ k' + H'.size + P'.length ≤ c') := ⟨i + 1, cm, PP, p + p2, k + j, r, by rw [hPP], rfl, by rw [Int.natCast_add]; rfl, C2.out, RT.out, BT.out, hnx, by omega, hkH2⟩
            clear htq hP3 hkH2 HR2 HB2 HO2 KL C2 EQ
            by_cases hA : tq < L.length
            case pos =>
              obtain ⟨hE1, hE2⟩ := N1.out hA
              have cA := EM.out _ BT.out tq hE1
              have hAi : (tq : Int) < (L.length : Int) := by omega
              have hA2 : ¬ (E[tq] : Int) ≤ (cm : Int) := by omega
              generalize E[tq] = eA at *
              clear N1
              by_cases h0 : tq = 0
              case pos =>
                have h0i : ¬ (0 : Int) < (tq : Int) := by omega
                clear h0 N2
                go_wp2_with fail
                exact ⟨FINI.out, by simp [intOf]; omega⟩
              case neg =>
                obtain ⟨t, ht⟩ : ∃ t, t + 1 = tq := ⟨tq - 1, by omega⟩
                obtain ⟨hE3, hE4⟩ := N2.out t ht
                have cB := EM.out _ BT.out t hE3
                have hB2 : ¬ (cm : Int) < (E[t] : Int) := by omega
                have h0i : (0 : Int) < (tq : Int) := by omega
                have hti : (tq : Int) - 1 = (t : Int) := by omega
                have htl : (t : Int) < (L.length : Int) := by omega
                generalize E[t] = eT at *
                clear ht h0 N2
                go_wp2_with fail
                exact ⟨FINI.out, by simp [intOf]; omega⟩
            case neg =>
              have hAi : ¬ (tq : Int) < (L.length : Int) := by omega
              clear N1
              by_cases h0 : tq = 0
              case pos => exfalso; omega
              case neg =>
                obtain ⟨t, ht⟩ : ∃ t, t + 1 = tq := ⟨tq - 1, by omega⟩
                obtain ⟨hE3, hE4⟩ := N2.out t ht
                have cB := EM.out _ BT.out t hE3
                have hB2 : ¬ (cm : Int) < (E[t] : Int) := by omega
                have h0i : (0 : Int) < (tq : Int) := by omega
                have hti : (tq : Int) - 1 = (t : Int) := by omega
                have htl : (t : Int) < (L.length : Int) := by omega
                generalize E[t] = eT at *
                clear ht h0 N2
                go_wp2_with fail
                exact ⟨FINI.out, by simp [intOf]; omega⟩
end Go.Proofs.YtgdjfocnaapooaaDoor
