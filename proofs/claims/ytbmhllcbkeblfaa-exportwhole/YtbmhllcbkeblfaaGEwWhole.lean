import Derived.Test.YtbmhllcbkeblfaaGEwLeave
import Derived.Test.YtbmhllcbkeblfaaEpHear2
import Derived.Test.YtbmhllcbkeblfaaGEwAct
namespace Go.Proofs.Ytbmhllcbkeblfaa.Cn
open Go.RowKit
theorem whl_len (tb : List (List Pr)) (ms : List Int) : ∀ p : Nat, (whl tb ms p).length ≤ 512 * p
  | 0 => Nat.le_refl _
  | p + 1 => by
    have h := whl_len tb ms p
    have h2 := ofT_len tb p
    unfold whl
    rw [List.length_append]
    split
    · simp; omega
    · omega
theorem whl_succ (tb : List (List Pr)) (ms : List Int) (p : Nat) : whl tb ms (p + 1) = whl tb ms p ++ if (p : Int) ∈ ms then [] else ofT tb p := rfl
/-- how far the list of what is missing has come -/
def Far (ms : List Int) (p a : Nat) : Prop := a ≤ ms.length ∧ (∀ i (h : i < ms.length), i < a → ms[i] < (p : Int)) ∧ (∀ i (h : i < ms.length), a ≤ i → (p : Int) ≤ ms[i])
theorem far_yes {ms : List Int} (hr : ms.Pairwise (· < ·)) {p a : Nat} (h : Far ms p a) (ha : a < ms.length) (e : ms[a] = (p : Int)) : (p : Int) ∈ ms ∧ Far ms (p + 1) (a + 1) := by
  refine ⟨e ▸ List.getElem_mem ha, by omega, fun i hi hia => ?_, fun i hi hia => ?_⟩
  · by_cases q : i < a
    · have := h.2.1 i hi q
      omega
    · obtain rfl : i = a := by omega
      omega
  · have := List.pairwise_iff_getElem.1 hr a i ha hi (by omega)
    omega
theorem far_no {ms : List Int} {p a : Nat} (hr : ms.Pairwise (· < ·)) (h : Far ms p a) (hn : ∀ ha : a < ms.length, ms[a] ≠ (p : Int)) : ¬ (p : Int) ∈ ms ∧ Far ms (p + 1) a := by
  have big : ∀ i (hi : i < ms.length), a ≤ i → (p : Int) + 1 ≤ ms[i] := fun i hi hia => by
    have h1 := h.2.2 i hi hia
    by_cases q : i = a
    · subst q
      have := hn hi
      omega
    · have ha : a < ms.length := by omega
      have h2 := h.2.2 a ha (Nat.le_refl _)
      have := List.pairwise_iff_getElem.1 hr a i ha hi (by omega)
      omega
  refine ⟨fun hm => ?_, h.1, fun i hi hia => ?_, fun i hi hia => ?_⟩
  · obtain ⟨i, hi, e⟩ := List.getElem_of_mem hm
    by_cases q : i < a
    · have := h.2.1 i hi q
      omega
    · have := big i hi (by omega)
      omega
  · have := h.2.1 i hi hia
    omega
  · have := big i hi hia
    omega
theorem wpList_apP {w : World} {ops : Array Oper} {rest : List Oper} {o : Oper} {a : Act} {Q : Exit → Act → World → Prop} (hgd : o.guard = none) (x y : Operand) (ho : o.op = .call { callee := .builtin .append, args := #[x, y], argTypes := #[46, 46] }) (base : Nat) (v : Value) (n : Nat) (L : List Pr) (hx : a.eval x = v) (hv : w.ownsRow base 86 2 v n (prs L)) (base2 : Nat) (v2 : Value) (n2 : Nat) (L2 : List Pr) (hy : a.eval y = v2) (hv2 : w.ownsRow base2 86 2 v2 n2 (prs L2)) (hl : n + n2 < 4398046511104) (hb : base ≤ w.heap.size)
    (h : ∀ v' w', w'.ownsRow base 86 2 v' (n + n2) (prs (L ++ L2)) → w.grownBy w' v.ownBlock → (v'.ownBlock = v.ownBlock ∨ v'.ownBlock = some w.heap.size) → wpList Try.prog ops Q rest (a.put o.dst v') w') : wpList Try.prog ops Q (o :: rest) a w :=
  wpList_plain hgd fun _ hK => wp_apRow x y 46 ho base 86 Try.underlying46 pr_infos rfl (by decide) v n (prs L) hx hv base2 v2 n2 (prs L2) hy hv2 (prs_oneCell _) (by unfold maxLen; omega) (by omega) hb (fun v' w' h1 h2 h3 => hK _ _ (h v' w' (by rw [prs_append]; exact h1) h2 h3))
set_option maxHeartbeats 16000000 in
set_option maxRecDepth 100000 in
set_option linter.unusedSimpArgs false in
set_option linter.unusedVariables false in
theorem whole_t {N : Nat} {w : World} {ao : Option Addr} {b o cap : Nat} {pv : Nat → Value} {tb : List (List Pr)} (h : TbAt N w ao b o pv tb) (hN : N ≤ w.heap.size) (n : Nat) (hn : n ≤ 1000) {mv : Value} {ms : List Int} {mb : Nat} (hm : w.ownsRow mb 3 1 mv ms.length (ints ms)) (hml : ms.length ≤ 1000) (hr : ms.Pairwise (· < ·)) (h0 : ∀ q ∈ ms, 0 ≤ q) :
    Calls Try.prog 22 #[.slice ao tb.length cap, .int .i64 (n : Int), mv] w fun e w' => ∃ u, e = .returned u ∧ w'.ownsRow w.heap.size 86 2 u (whl tb ms n).length (prs (whl tb ms n)) ∧ Kp w w' non := by
  obtain ⟨ma, mc, hmv⟩ := own_sl hm
  subst hmv
  have HT := hide h
  have HM := hide hm
  have F0 : Hid (Far ms 0 0) := ⟨Nat.zero_le _, fun i hi q => absurd q (Nat.not_lt_zero _), fun i hi _ => h0 _ (List.getElem_mem hi)⟩
  have HR := hide hr
  have HN := hide hN
  obtain ⟨ml, hmll⟩ : ∃ ml, ml = ms.length := ⟨_, rfl⟩
  have HML := hide hmll
  rw [← hmll] at hml ⊢
  clear h hm hr h0 hmll hN
  go_enter Try.func22, Try.ntmps22
  go_wp2_with fail
  go_loopw [7, 8, 9, 10, 11] (fun vl va vp _ _ wr => ∃ p a : Nat, p ≤ n ∧ a ≤ ml ∧ vp = .int .i64 (p : Int) ∧ va = .int .i64 (a : Int) ∧ Hid (Far ms p a) ∧ Hid (wr.ownsRow w.heap.size 86 2 vl (whl tb ms p).length (prs (whl tb ms p))) ∧ Hid (Kp w wr non)) (fun _ _ vp _ _ _ => n - (intOf vp).toNat)
  case atStart => exact ⟨0, 0, Nat.zero_le _, Nat.zero_le _, rfl, rfl, F0.out, World.ownsRow_nil _ _ _ _, Kp.refl _ _⟩
  case round =>
    obtain ⟨p, a, hp, hal, rfl, rfl, F, OL, KI⟩ := hrel
    obtain ⟨la, lc, rfl⟩ := own_sl OL.out
    by_cases hpn : p < n
    case neg =>
      obtain rfl : p = n := by omega
      go_wp2_with fail
      go_ret
      exact ⟨_, rfl, OL.out, KI.out⟩
    case pos =>
      have hpi : (p : Int) < (n : Int) := by omega
      by_cases ham : a < ml
      case pos =>
        have hai : (a : Int) < (ml : Int) := by omega
        have hams : a < ms.length := by have := HML.out; omega
        obtain ⟨mg, md, hmg⟩ := own_g HM.out (by omega)
        injection hmg with hmg _ hmc
        subst hmg
        subst hmc
        have cm : wr.cell? ⟨mg, a, none⟩ = some (.int .i64 ms[a]) := by
          obtain ⟨g', c', e1, hc, _⟩ := own_at (own_kp HM.out KI.out (fun _ _ f => f)) (j := a) (u := .int .i64 ms[a]) (by rw [ints_at, List.getElem?_eq_getElem hams]; rfl)
          injection e1 with e1
          injection e1 with e1
          injection e1 with e1
          rw [e1]
          exact hc
        by_cases he : ms[a] = (p : Int)
        case pos =>
          have FY := hide (far_yes HR.out F.out hams he)
          have WS : Hid (whl tb ms (p + 1) = whl tb ms p) := by show _ = _; rw [whl_succ, if_pos FY.out.1, List.append_nil]
          rw [he] at cm
          clear he F
          go_wp2_with fail
          go_roundw
          case rel => exact ⟨p + 1, a + 1, by omega, by omega, by go_num, by go_num, FY.out.2, by rw [WS.out]; exact OL.out, KI.out⟩
          case measure => simp [intOf]; omega
        case neg =>
          have FN := hide (far_no HR.out F.out (fun _ => he))
          obtain ⟨mz, hmz⟩ : ∃ mz, mz = ms[a] := ⟨_, rfl⟩
          rw [← hmz] at cm he
          clear hmz
          have hq : (mz == (p : Int)) = false := by simpa using he
          clear he
          have WS : Hid (whl tb ms (p + 1) = whl tb ms p ++ ofT tb p) := by show _ = _; rw [whl_succ, if_neg FN.out.1]
          have OFT := hide (of_t (cap := cap) (HT.out.below ((KI.out.below).mono HN.out)) p (by omega))
          clear F
          go_wp2_with fail
          refine Calls.mono OFT.out ?_
          rintro e w' ⟨u, rfl, hpr, rfl⟩
          obtain ⟨pa, pb, po, pc, rfl, r⟩ := hpr
          have RR := hide r
          obtain ⟨rw_, hrw⟩ : ∃ rw_, rw_ = ofT tb p := ⟨_, rfl⟩
          rw [← hrw] at RR WS ⊢
          have hrl : rw_.length ≤ 512 := by rw [hrw]; exact ofT_len tb p
          have HLN : Hid ((whl tb ms p).length ≤ 512000) := by
            have := whl_len tb ms p
            show _ ≤ _
            omega
          obtain ⟨L0, hL0⟩ : ∃ L0, L0 = whl tb ms p := ⟨_, rfl⟩
          rw [← hL0] at OL WS HLN ⊢
          clear r hrw hL0 OFT
          generalize wr = wo at *
          go_wp2_with fail
          go_loopw [7, 11] (fun vl vi wr => ∃ i : Nat, i ≤ rw_.length ∧ vi = .int .i64 (i : Int) ∧ Hid (wr.ownsRow w.heap.size 86 2 vl (L0.length + i) (prs (L0 ++ rw_.take i))) ∧ Hid (Kp w wr non) ∧ Hid (Kp wo wr (fun k => w.heap.size ≤ k))) (fun _ vi _ => rw_.length - (intOf vi).toNat)
          case atStart => exact ⟨0, Nat.zero_le _, rfl, by rw [List.take_zero, List.append_nil]; exact OL.out, KI.out, Kp.refl _ _⟩
          case round =>
            obtain ⟨i, hi, rfl, O1, K1, K2⟩ := hrel
            obtain ⟨l1, c1, rfl⟩ := own_sl O1.out
            by_cases hil : i < rw_.length
            case neg =>
              obtain rfl : i = rw_.length := by omega
              have O9 : Hid (wr.ownsRow w.heap.size 86 2 (.slice l1 (L0.length + rw_.length) c1) (whl tb ms (p + 1)).length (prs (whl tb ms (p + 1)))) := by
                rw [WS.out, List.length_append]
                have z := O1.out
                rw [List.take_length] at z
                exact z
              go_wp2_with fail
              go_roundw
              case rel => exact ⟨p + 1, a, by omega, hal, by go_num, rfl, FN.out.2, O9.out, K1.out⟩
              case measure => simp [intOf]; omega
            case pos =>
              have hii : (i : Int) < (rw_.length : Int) := by omega
              have ha := RR.out.at0 (by omega)
              subst ha
              have RG : Hid (wr.rangeAt pb (po + i * 2) (prV rw_[i]).toList) := fun j q hj => by
                have z := RR.out.c i hil j q (by simpa using hj)
                have hlt := RR.out.lt (by omega)
                exact (K2.out.cell (World.block_lt_of_cell? wo _ z) (fun e => by have e : w.heap.size ≤ pb := e; have := HN.out; omega)).trans z
              have TK : Hid (rw_.take (i + 1) = rw_.take i ++ [rw_[i]]) := List.take_succ_eq_append_getElem hil
              obtain ⟨z, hz⟩ : ∃ z, z = rw_[i] := ⟨_, rfl⟩
              rw [← hz] at RG TK
              clear hz
              obtain ⟨W4, hW4⟩ : ∃ W4, W4 = wr.alloc (.cells (prV z) 86) := ⟨_, rfl⟩
              have k4 : Kp wr W4 non := by rw [hW4]; exact (Kp.refl wr non).alloc _
              have N4 : Hid (W4.ownsRow wr.heap.size 86 2 (.slice (some ⟨wr.heap.size, 0, none⟩) 1 1) 1 (prs [z])) := by rw [hW4, prs_one]; exact own_one _ _ _ _ rfl
              have O4 := hide (own_kp O1.out k4 (fun _ _ f => f))
              have K4 := hide k4
              have hb4 : Hid (w.heap.size ≤ W4.heap.size) := Nat.le_trans K1.out.size k4.size
              have PI := hide pr_info
              have LB : Hid (L0.length + i + 1 < 4398046511104) := by
                have := HLN.out
                show _ < _
                omega
              clear k4
              go_wp2_with (first | refine wpList_load_mid rfl 86 (.tmp 43) rfl pb (po + i * 2) rfl (prV z).toList _ RG.out Try.underlying86 rfl PI.out ?_ | (refine wpList_plain rfl fun _ hK => wp_bsP (.tmp 44) rfl z rfl (hK _ _ ?_); rw [← hW4]) | (at_builtin; refine wpList_apP rfl (.tmp 40) (.tmp 45) rfl w.heap.size _ (L0.length + i) (L0 ++ rw_.take i) rfl O4.out _ _ 1 [z] rfl N4.out LB.out hb4.out ?_; intro v' w' o5 g5 n5; have O5 := hide o5; have G5 := hide (Kp.of_grown g5); clear o5 g5 n5))
              have K5 : Hid (Kp w w' non) := (K1.out.trans K4.out (fun _ f => f.elim)).trans G5.out (fun k e => Or.inr (own_ge O4.out e.symm))
              have K6 : Hid (Kp wo w' (fun k => w.heap.size ≤ k)) := (K2.out.trans K4.out (fun _ f => f.elim)).trans G5.out (fun k e => Or.inl (own_ge O4.out e.symm))
              have O6 : Hid (w'.ownsRow w.heap.size 86 2 v' (L0.length + (i + 1)) (prs (L0 ++ rw_.take (i + 1)))) := by
                have y := O5.out
                rw [TK.out, ← List.append_assoc]
                exact y
              go_roundw
              case rel => exact ⟨i + 1, by omega, by go_num, O6.out, K5.out, K6.out⟩
              case measure => simp [intOf]; omega
      case neg =>
        have hai : ¬ (a : Int) < (ml : Int) := by omega
        have FN := hide (far_no HR.out F.out (fun ha => absurd ha (by have := HML.out; omega)))
        have WS : Hid (whl tb ms (p + 1) = whl tb ms p ++ ofT tb p) := by show _ = _; rw [whl_succ, if_neg FN.out.1]
        have OFT := hide (of_t (cap := cap) (HT.out.below ((KI.out.below).mono HN.out)) p (by omega))
        clear F
        go_wp2_with fail
        refine Calls.mono OFT.out ?_
        rintro e w' ⟨u, rfl, hpr, rfl⟩
        obtain ⟨pa, pb, po, pc, rfl, r⟩ := hpr
        have RR := hide r
        obtain ⟨rw_, hrw⟩ : ∃ rw_, rw_ = ofT tb p := ⟨_, rfl⟩
        rw [← hrw] at RR WS ⊢
        have hrl : rw_.length ≤ 512 := by rw [hrw]; exact ofT_len tb p
        have HLN : Hid ((whl tb ms p).length ≤ 512000) := by
          have := whl_len tb ms p
          show _ ≤ _
          omega
        obtain ⟨L0, hL0⟩ : ∃ L0, L0 = whl tb ms p := ⟨_, rfl⟩
        rw [← hL0] at OL WS HLN ⊢
        clear r hrw hL0 OFT
        generalize wr = wo at *
        go_wp2_with fail
        go_loopw [7, 11] (fun vl vi wr => ∃ i : Nat, i ≤ rw_.length ∧ vi = .int .i64 (i : Int) ∧ Hid (wr.ownsRow w.heap.size 86 2 vl (L0.length + i) (prs (L0 ++ rw_.take i))) ∧ Hid (Kp w wr non) ∧ Hid (Kp wo wr (fun k => w.heap.size ≤ k))) (fun _ vi _ => rw_.length - (intOf vi).toNat)
        case atStart => exact ⟨0, Nat.zero_le _, rfl, by rw [List.take_zero, List.append_nil]; exact OL.out, KI.out, Kp.refl _ _⟩
        case round =>
          obtain ⟨i, hi, rfl, O1, K1, K2⟩ := hrel
          obtain ⟨l1, c1, rfl⟩ := own_sl O1.out
          by_cases hil : i < rw_.length
          case neg =>
            obtain rfl : i = rw_.length := by omega
            have O9 : Hid (wr.ownsRow w.heap.size 86 2 (.slice l1 (L0.length + rw_.length) c1) (whl tb ms (p + 1)).length (prs (whl tb ms (p + 1)))) := by
              rw [WS.out, List.length_append]
              have z := O1.out
              rw [List.take_length] at z
              exact z
            go_wp2_with fail
            go_roundw
            case rel => exact ⟨p + 1, a, by omega, hal, by go_num, rfl, FN.out.2, O9.out, K1.out⟩
            case measure => simp [intOf]; omega
          case pos =>
            have hii : (i : Int) < (rw_.length : Int) := by omega
            have ha := RR.out.at0 (by omega)
            subst ha
            have RG : Hid (wr.rangeAt pb (po + i * 2) (prV rw_[i]).toList) := fun j q hj => by
              have z := RR.out.c i hil j q (by simpa using hj)
              have hlt := RR.out.lt (by omega)
              exact (K2.out.cell (World.block_lt_of_cell? wo _ z) (fun e => by have e : w.heap.size ≤ pb := e; have := HN.out; omega)).trans z
            have TK : Hid (rw_.take (i + 1) = rw_.take i ++ [rw_[i]]) := List.take_succ_eq_append_getElem hil
            obtain ⟨z, hz⟩ : ∃ z, z = rw_[i] := ⟨_, rfl⟩
            rw [← hz] at RG TK
            clear hz
            obtain ⟨W4, hW4⟩ : ∃ W4, W4 = wr.alloc (.cells (prV z) 86) := ⟨_, rfl⟩
            have k4 : Kp wr W4 non := by rw [hW4]; exact (Kp.refl wr non).alloc _
            have N4 : Hid (W4.ownsRow wr.heap.size 86 2 (.slice (some ⟨wr.heap.size, 0, none⟩) 1 1) 1 (prs [z])) := by rw [hW4, prs_one]; exact own_one _ _ _ _ rfl
            have O4 := hide (own_kp O1.out k4 (fun _ _ f => f))
            have K4 := hide k4
            have hb4 : Hid (w.heap.size ≤ W4.heap.size) := Nat.le_trans K1.out.size k4.size
            have PI := hide pr_info
            have LB : Hid (L0.length + i + 1 < 4398046511104) := by
              have := HLN.out
              show _ < _
              omega
            clear k4
            go_wp2_with (first | refine wpList_load_mid rfl 86 (.tmp 43) rfl pb (po + i * 2) rfl (prV z).toList _ RG.out Try.underlying86 rfl PI.out ?_ | (refine wpList_plain rfl fun _ hK => wp_bsP (.tmp 44) rfl z rfl (hK _ _ ?_); rw [← hW4]) | (at_builtin; refine wpList_apP rfl (.tmp 40) (.tmp 45) rfl w.heap.size _ (L0.length + i) (L0 ++ rw_.take i) rfl O4.out _ _ 1 [z] rfl N4.out LB.out hb4.out ?_; intro v' w' o5 g5 n5; have O5 := hide o5; have G5 := hide (Kp.of_grown g5); clear o5 g5 n5))
            have K5 : Hid (Kp w w' non) := (K1.out.trans K4.out (fun _ f => f.elim)).trans G5.out (fun k e => Or.inr (own_ge O4.out e.symm))
            have K6 : Hid (Kp wo w' (fun k => w.heap.size ≤ k)) := (K2.out.trans K4.out (fun _ f => f.elim)).trans G5.out (fun k e => Or.inl (own_ge O4.out e.symm))
            have O6 : Hid (w'.ownsRow w.heap.size 86 2 v' (L0.length + (i + 1)) (prs (L0 ++ rw_.take (i + 1)))) := by
              have y := O5.out
              rw [TK.out, ← List.append_assoc]
              exact y
            go_roundw
            case rel => exact ⟨i + 1, by omega, by go_num, O6.out, K5.out, K6.out⟩
            case measure => simp [intOf]; omega
end Go.Proofs.Ytbmhllcbkeblfaa.Cn
namespace Go.Proofs.Ytbmhllcbkeblfaa.Cn
open Go.RowKit
theorem RwAt.up {α : Type} {k : Nat} {V : α → Array Value} {N N' : Nat} {w : World} {ao : Option Addr} {b o : Nat} {L : List α} (h : RwAt k V N w ao b o L) (hn : N ≤ N') : RwAt k V N' w ao b o L := ⟨h.at0, fun z => Nat.lt_of_lt_of_le (h.lt z) hn, h.c, h.len⟩
theorem TbAt.up {N N' : Nat} {w : World} {ao : Option Addr} {b o : Nat} {pv : Nat → Value} {tb : List (List Pr)} (h : TbAt N w ao b o pv tb) (hn : N ≤ N') : TbAt N' w ao b o pv tb := ⟨h.at0, fun z => Nat.lt_of_lt_of_le (h.lt z) hn, h.c, fun q hq => by
  obtain ⟨pa, pb, po, pc, e, r⟩ := h.ps q hq
  exact ⟨pa, pb, po, pc, e, r.up hn⟩, h.len⟩
theorem beg_tj {tb : List (List Pr)} {ver : Int} {R n : Nat} {e : Ex} (ok : Eok e R n) (hb : busyB e = false) (hv : verB ver = true) (hl : e.last.jb = 0) : Tj tb ver R (n + 1) (begX e ver) [] [] ∧ begL e ver = [askM (begX e ver)] ∧ (begX e ver).at_ = (begX e ver).now ∧ (begX e ver).part = 0 ∧ (begX e ver).left = 0 ∧ (begX e ver).rd = [] ∧ (begX e ver).rows = e.rows ∧ (begX e ver).gw = e.gw := by
  have k := begX_ok ok ver
  have e0 : begE e ver = 0 := by unfold begE; rw [hb, hv]; rfl
  have p := ok.p1
  have q : ¬ 0 = (jobX e ver).rows.length := by show ¬ 0 = e.rows.length; omega
  have e1 : begX e ver = askX (setP (jobX e ver) 0) := by unfold begX; rw [if_pos e0]; exact if_neg q
  have e2 : begL e ver = [askM (setP (jobX e ver) 0)] := by unfold begL; rw [if_pos e0]; exact if_neg q
  rw [e1] at k ⊢
  rw [e2]
  have jb : (askX (setP (jobX e ver) 0)).told.jb = 1 := by show e.last.jb + 1 = 1; omega
  exact ⟨⟨k, busy_iff.2 (by rw [jb]; decide), jb, rfl, rfl, rfl, rfl, fun q h => absurd h (by simp), ⟨List.Pairwise.nil, fun q h => absurd h (by simp)⟩, fun m h => absurd h (by simp)⟩, rfl, rfl, rfl, rfl, rfl, rfl, rfl⟩
/-- what the law's loop keeps -/
structure Lp (tb : List (List Pr)) (ver : Int) (R P K : Nat) (rows : List (List Int)) (gw : Int) (v : Ex) (t : Tk) (i : Nat) : Prop where
  st : t.st = (i : Int)
  ol : t.old.length ≤ i
  sz : ∀ m ∈ t.old, m.key.size ≤ 281474976710656 ∧ m.val.size ≤ 281474976710656
  rw_ : v.rows = rows ∧ v.gw = gw
  le : i ≤ P * (512 + R)
  go : (t.op = true ∧ t.q = askM v ∧ Tj tb ver R (1 + i * K) v t.old t.ms ∧ v.at_ = v.now ∧ ((v.part = t.pt.toNat ∧ t.pt = (v.part : Int) ∧ t.lf = (v.left : Int)) ∨ (t.pt ≠ (v.part : Int) ∧ v.left = 0)) ∧ i ≤ stp R v ∧ i < P * (512 + R)) ∨ (t.op = false ∧ busyB v = false ∧ v.last.jb = 1 ∧ v.last.vr = ver ∧ v.last.ms = t.ms ∧ v.last.ps = whl tb t.ms v.rows.length ∧ (t.ms.Pairwise (· < ·) ∧ ∀ q ∈ t.ms, 0 ≤ q) ∧ Eok v R (1 + i * K))
theorem stp_lt {R P : Nat} {e : Ex} (h1 : e.part < P) (h2 : e.rd.length ≤ 512) (h3 : e.left < R) : stp R e < P * (512 + R) := by
  unfold stp
  have : (e.part + 1) * (512 + R) ≤ P * (512 + R) := Nat.mul_le_mul_right _ h1
  rw [Nat.succ_mul] at this
  omega
theorem right_sz {tb : List (List Pr)} (h : ∀ r ∈ tb, ∀ p ∈ r, p.k.size ≤ 281474976710656 ∧ p.v.size ≤ 281474976710656) (q : Mg) : (rightM tb q).key.size ≤ 281474976710656 ∧ (rightM tb q).val.size ≤ 281474976710656 := by
  unfold rightM
  split
  · rename_i p hp
    have hm := List.mem_of_getElem? hp
    unfold ofT at hm
    split at hm
    · cases hr : tb[q.sq.toNat]? with
      | none => rw [hr] at hm; simp at hm
      | some r =>
        rw [hr] at hm
        exact h r (List.mem_of_getElem? hr) p hm
    · simp at hm
  · exact ⟨by show (ByteArray.mk #[]).size ≤ _; simp [ByteArray.size], by show (ByteArray.mk #[]).size ≤ _; simp [ByteArray.size]⟩
/-- behind an act -/
theorem Lp.next {tb : List (List Pr)} {ver : Int} {R P K : Nat} {rows : List (List Int)} {gw : Int} {v v' : Ex} {t t2 t' : Tk} {i : Nat} (hz : ∀ r ∈ tb, ∀ p ∈ r, p.k.size ≤ 281474976710656 ∧ p.v.size ≤ 281474976710656) (h : Lp tb ver R P K rows gw v t i) (hrl : rows.length = P) (hi : i < P * (512 + R)) (hst : i ≤ stp R v) (e1 : t2.old = t.old) (e2 : t2.pt = (v.part : Int)) (e3 : t2.st = ((i + 1 : Nat) : Int)) (a : Ac tb ver R (1 + i * K + K) t2 t' v v') : Lp tb ver R P K rows gw v' t' (i + 1) := by
  have ek : 1 + i * K + K = 1 + (i + 1) * K := by rw [Nat.succ_mul]; omega
  have hr : v'.rows = rows ∧ v'.gw = gw := by rw [a.rows.1, a.rows.2]; exact h.rw_
  refine ⟨by rw [a.st, e3], by have := a.len; rw [e1] at this; have := h.ol; omega, fun m hm => ?_, hr, hi, ?_⟩
  · rcases a.olds m hm with z | z
    · rw [e1] at z
      exact h.sz m z
    · rw [z]
      exact right_sz hz _
  · rcases a.go with ⟨b1, b2, b3, b4, b5, b6⟩ | ⟨b1, b2, b3, b4, b5, b6, b7, b8⟩
    · rw [ek] at b3
      have j := b3.ok.job b3.b
      have j1 := j.pt
      rw [hr.1, hrl] at j1
      have := stp_lt (R := R) j1 j.rl j.lf
      refine Or.inl ⟨b1, b2, b3, b4, ?_, by omega, by omega⟩
      rcases b5 with ⟨c1, c2⟩ | ⟨c1, c2⟩
      · refine Or.inl ⟨?_, ?_, c2⟩
        · rw [a.pt, e2, c1]; omega
        · rw [a.pt, e2, c1]
      · refine Or.inr ⟨?_, c2⟩
        rw [a.pt, e2]
        omega
    · rw [ek] at b8
      exact Or.inr ⟨b1, b2, b3, b4, b5, b6, b7, b8⟩
theorem rows_at (st : ByteArray) (x : Nat → Int) (ns : List ND) {P p : Nat} (hp : p < P) {e : Ex} (hr : e.rows = rowsP st x ns P) : rowAt e p = rowOf ns (x 20) (ownsP st x ns p) := by
  unfold rowAt
  rw [hr]
  unfold rowsP
  rw [List.getElem?_map, List.getElem?_range hp]
  rfl
theorem ask_q {tb : List (List Pr)} {ver : Int} {R n : Nat} {e : Ex} {old : List Mg} {ms : List Int} (h : Tj tb ver R n e old ms) : askM e = qM (ownr e) 1 (e.part : Int) ver (e.rd.length : Int) := by
  unfold askM qM
  rw [h.jb, h.vr]
theorem own_q {tb : List (List Pr)} {ver : Int} {R n P : Nat} {e : Ex} {old : List Mg} {ms : List Int} (h : Tj tb ver R n e old ms) {st : ByteArray} {x : Nat → Int} {ns : List ND} (hr : e.rows = rowsP st x ns P) : ownr e = ((rowOf ns (x 20) (ownsP st x ns e.part))[e.left]?).getD (-1) := by
  have j := h.ok.job h.b
  have j1 := j.pt
  have hl := rowAt_len h.ok j.pt
  have j2 := j.lf
  rw [hr, rowsP_len] at j1
  unfold ownr
  rw [rows_at st x ns j1 hr] at hl ⊢
  rw [List.getElem?_eq_getElem (by omega)]
  rfl
def tk0 : Tk := ⟨mg0, false, [], 0, 0, [], 0⟩
theorem own_nilM (w : World) (b : Nat) : w.ownsRow b 36 11 (.slice none 0 0) 0 (mgs []) := World.ownsRow_nil _ _ _ _
theorem own_nilI (w : World) (b : Nat) : w.ownsRow b 3 1 (.slice none 0 0) 0 (ints []) := World.ownsRow_nil _ _ _ _
/-- a talk begins -/
theorem St.begin {N : Nat} {w0 w w' : World} {X : Nat} {v : Ex} {Z : Zz} (hx : ExAt w X v Z) (ge : ∀ k, Ap X Z k → N ≤ k) (bel : Below N w0 w) (le : N ≤ w.heap.size) (hw : w' = w.alloc (.cells (tkA X tk0 (.slice none 0 0) (.slice none 0 0)) 57)) : St N w0 w' w.heap.size X v Z tk0 (.slice none 0 0) (.slice none 0 0) := by
  have k : Kp w w' non := by rw [hw]; exact (Kp.refl w non).alloc _
  refine ⟨⟨hx.kp0 k, ⟨by rw [hw]; exact heap_last _ _, own_nilM _ _, own_nilI _ _⟩, fun k e => by simp [Value.ownBlock] at e⟩, fun k e => ?_, bel.trans (kp_bel k (fun _ f => f.elim) le), Nat.le_trans le k.size⟩
  rcases e with e | e | e | e
  · exact ge k e
  · rw [e]; exact le
  · simp [Value.ownBlock] at e
  · simp [Value.ownBlock] at e
theorem act_info : (Try.prog.info? 61).map (·.size) = some 4 := by kernel_rfl
theorem act_one (a : ActP) : (actA a).all (·.oneCell') = true := by simp [actA, Value.oneCell']
theorem tk_cs {w : World} {T X : Nat} {t : Tk} {ov mv : Value} (h : w.heap[T]? = some (.cells (tkA X t ov mv) 57)) : w.cell? ⟨T, 12, none⟩ = some (.bool t.op) ∧ w.cell? ⟨T, 6, none⟩ = some (.int .i64 t.q.sq) ∧ w.cell? ⟨T, 14, none⟩ = some (.int .i64 t.pt) ∧ w.cell? ⟨T, 15, none⟩ = some (.int .i64 t.lf) ∧ w.cell? ⟨T, 17, none⟩ = some (.int .i64 t.st) ∧ w.cell? ⟨T, 4, none⟩ = some (.int .i64 t.q.id) ∧ w.cell? ⟨T, 16, none⟩ = some mv := by
  simp only [cell_row h]
  exact ⟨rfl, rfl, rfl, rfl, rfl, rfl, rfl⟩
theorem tk_rng {w : World} {T X : Nat} {t : Tk} {ov mv : Value} (h : w.heap[T]? = some (.cells (tkA X t ov mv) 57)) : w.rangeAt T 1 (mgV t.q).toList := by
  intro i u hi
  have hl : i < 11 := by
    have := (List.getElem?_eq_some_iff.1 hi).1
    simpa [mgV] using this
  rw [cell_row h]
  match i, hl with
  | 0, _ | 1, _ | 2, _ | 3, _ | 4, _ | 5, _ | 6, _ | 7, _ | 8, _ | 9, _ | 10, _ => exact hi
theorem St.set {N : Nat} {w0 w w' : World} {T X : Nat} {v : Ex} {Z : Zz} {t t' : Tk} {ov mv : Value} (h : St N w0 w T X v Z t ov mv) (o : Nat) (u : Value) (hw : w' = w.setCell ⟨T, o, none⟩ u) (hA : (tkA X t ov mv).setIfInBounds o u = tkA X t' ov mv) (e1 : t'.old = t.old) (e2 : t'.ms = t.ms) : St N w0 w' T X v Z t' ov mv := by
  have k : Kp w w' (fun k => k = T) := by rw [hw]; exact (Kp.refl w (fun k => k = T)).set (Or.inl rfl) _ _
  refine h.talk k (h.bo.tk.setT k ?_ e1 e2)
  rw [hw, ← hA]
  exact set_row h.bo.tk.blk o u
end Go.Proofs.Ytbmhllcbkeblfaa.Cn
