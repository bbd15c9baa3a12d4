import Derived.Test.YtndfhpfhgdamgaaGreatDoorGRfOk
namespace Go.Proofs.YtndfhpfhgdamgaaGreatDoor.Cn
open Go.RowKit
def here : ByteArray := ⟨#[104, 101, 114, 101]⟩
def gotM (g : Mg) : Mg := ⟨12, g.td, g.fr, g.id, 0, 0, 5, 0, 0, g.key, here⟩
def latF (M D t : Int) (L : List Mg) : List Lt := match L with
  | [] => []
  | g :: _ => if g.kind = 11 ∧ g.id = t then (if mtB M g.td then [] else [⟨gotM g, D⟩]) else []
theorem latF_no {M D t : Int} {L : List Mg} (h : ∀ h0 : 0 < L.length, ¬ (L[0].kind = 11 ∧ L[0].id = t)) : latF M D t L = [] := by
  cases L with
  | nil => rfl
  | cons g r => exact if_neg (h (Nat.succ_pos _))
theorem latF_yes {M D t : Int} {L : List Mg} (h0 : 0 < L.length) (h : L[0].kind = 11 ∧ L[0].id = t) : latF M D t L = if mtB M L[0].td then [] else [⟨gotM L[0], D⟩] := by
  cases L with
  | nil => simp at h0
  | cons g r => exact if_pos h
set_option maxHeartbeats 16000000 in
set_option maxRecDepth 100000 in
set_option linter.unusedSimpArgs false in
set_option linter.unusedVariables false in
theorem sends_any {w : World} {base B ob oc : Nat} {ow : List Int} {M D : Int} {wv : Value} {Y : List Lt} (h : StX w base B ob oc ow M D wv Y) {b0 : Nat} {lv : Value} {L : List Mg} (hr : w.ownsRow b0 58 11 lv L.length (mgs L)) (hlen : L.length ≤ 1000) (how : ow.length ≤ 1000) (t : Int)
    (hn : ∀ i (hi : i < L.length), 1 ≤ i → ¬ (L[i].kind = 11 ∧ L[i].id = t)) (hh : ∀ h0 : 0 < L.length, L[0].kind = 11 ∧ L[0].id = t → Y = [] ∧ L[0].td ∈ ow ∧ 0 ≤ L[0].td ∧ L[0].td < 16) :
    Calls Tryz.prog 38 #[.pointer (some ⟨B, 0, none⟩), lv, .int .i64 t] w fun e w' => e = .returned (.bool true) ∧ ∃ wv', StX w' base B ob oc ow M D wv' (Y ++ latF M D t L) ∧ Kp w w' (fun k => k = B ∨ wv.ownBlock = some k) := by
  obtain ⟨la, lc, hlv⟩ := own_sl hr
  subst hlv
  have HX := hide h
  have HR := hide hr
  have HNN := hide hn
  have HHH := hide hh
  have hK : Hid (∀ k, (Value.slice la L.length lc).ownBlock = some k → ¬ (k = B ∨ wv.ownBlock = some k)) := fun k e q => by
    rcases q with q | q
    · exact own_not hr h.blk (by decide) (q ▸ e)
    · exact own_ne2 hr h.way (by decide) e q
  have hbs : Hid (base ≤ w.heap.size) := by have := h.ge; have := blk_lt h.blk; show _ ≤ _; omega
  clear h hr hn hh
  go_enter Tryz.func38, Tryz.ntmps38
  go_wp2_with fail
  go_loopw [7] (fun vi wr => ∃ i : Nat, i ≤ L.length ∧ vi = .int .i64 (i : Int) ∧ ((i = 0 ∧ w = wr) ∨ (0 < i ∧ ∃ wv', StX wr base B ob oc ow M D wv' (Y ++ latF M D t L) ∧ Kp w wr (fun k => k = B ∨ wv.ownBlock = some k)))) (fun vi _ => L.length - (intOf vi).toNat)
  case atStart => exact ⟨0, Nat.zero_le _, rfl, Or.inl ⟨rfl, rfl⟩⟩
  case round =>
    obtain ⟨i, hi, rfl, hst⟩ := hrel
    by_cases hin : i < L.length
    case neg =>
      have PS : Hid (∃ wv', StX wr base B ob oc ow M D wv' (Y ++ latF M D t L) ∧ Kp w wr (fun k => k = B ∨ wv.ownBlock = some k)) := by
        rcases hst with ⟨e0, rfl⟩ | ⟨_, q⟩
        · refine ⟨wv, ?_, Kp.refl _ _⟩
          rw [latF_no (fun h0 => by omega), List.append_nil]
          exact HX.out
        · exact q
      clear hst
      go_wp2_with fail
      go_ret
      exact ⟨rfl, PS.out⟩
    case pos =>
      have hii : (i : Int) < (L.length : Int) := by omega
      have HR' : wr.ownsRow b0 58 11 (.slice la L.length lc) L.length (mgs L) := by
        rcases hst with ⟨e0, rfl⟩ | ⟨_, wv', _, k⟩
        · exact HR.out
        · exact own_kp HR.out k hK.out
      obtain ⟨lb, lc', hlb⟩ := own_g HR' (by omega)
      injection hlb with hlb _ hlc
      subst hlb
      subst hlc
      have RGm := mg_range HR' hin rfl
      have e0 := RGm 0 _ rfl
      have e1 := RGm 1 _ rfl
      have e2 := RGm 2 _ rfl
      have e3 := RGm 3 _ rfl
      have e9 := RGm 9 _ rfl
      rw [Nat.add_zero] at e0
      clear RGm HR'
      by_cases hg : L[i].kind = 11 ∧ L[i].id = t
      case neg =>
        have PS : Hid (∃ wv', StX wr base B ob oc ow M D wv' (Y ++ latF M D t L) ∧ Kp w wr (fun k => k = B ∨ wv.ownBlock = some k)) := by
          rcases hst with ⟨ei, rfl⟩ | ⟨_, q⟩
          · subst ei
            refine ⟨wv, ?_, Kp.refl _ _⟩
            rw [latF_no (fun h0 => hg), List.append_nil]
            exact HX.out
          · exact q
        clear hst e1 e2 e9
        generalize L[i].kind = xk at *
        generalize L[i].id = xi at *
        by_cases z1 : xk = 11
        · subst z1
          have z2 : ¬ xi = t := fun e => hg ⟨rfl, e⟩
          have y2 : (xi == t) = false := by simp [z2]
          go_wp2_with fail
          go_roundw
          case rel => exact ⟨i + 1, by omega, by go_num, Or.inr ⟨Nat.succ_pos i, PS.out⟩⟩
          case measure => simp [intOf]; omega
        · have y1 : (xk == 11) = false := by simp [z1]
          go_wp2_with fail
          go_roundw
          case rel => exact ⟨i + 1, by omega, by go_num, Or.inr ⟨Nat.succ_pos i, PS.out⟩⟩
          case measure => simp [intOf]; omega
      case pos =>
        have hi0 : i = 0 := by
          rcases Nat.eq_zero_or_pos i with q | q
          · exact q
          · exact absurd hg (HNN.out i hin q)
        have hww : w = wr := by
          rcases hst with ⟨_, q⟩ | ⟨q, _⟩
          · exact q
          · omega
        clear hst
        subst hww
        have hh2 : Y = [] ∧ L[i].td ∈ ow ∧ 0 ≤ L[i].td ∧ L[i].td < 16 := by
          have := HHH.out (by omega)
          subst hi0
          exact this hg
        obtain ⟨hY, hmem, ht0, ht1⟩ := hh2
        have HY := hide hY
        have HLF0 : Hid (latF M D t L = if mtB M L[i].td then [] else [⟨gotM L[i], D⟩]) := by
          subst hi0
          exact latF_yes (by omega) hg
        have HME := hide hmem
        rw [show gotM L[i] = ⟨12, L[i].td, L[i].fr, t, 0, 0, 5, 0, 0, L[i].key, here⟩ by rw [← hg.2]; rfl] at HLF0
        rw [hg.1] at e0
        rw [hg.2] at e3
        clear hg hY hmem hi0
        generalize L[i].td = td at *
        generalize L[i].fr = fr at *
        generalize L[i].key = key at *
        obtain ⟨c0, c1, c2, c3⟩ := HX.out.cells
        have MU := hide fun q => mute_any (w := w.drewN q) (B := B) M td (by rw [World.cell?_drewN]; exact c1) ht0 ht1
        have OWN := hide HX.out.own
        clear c1 c2 c3
        go_upto_region 5 with fail
        clear e0
        go_wp2_with fail
        go_loopw [8, 9] (fun v8 v9 wt => ∃ (k q : Nat), wt = w.drewN q ∧ k ≤ ow.length ∧ v9 = .int .i64 (k : Int) ∧ v8 = .bool ((ow.take k).any fun z => z == td)) (fun _ v9 _ => ow.length - (intOf v9).toNat)
        case atStart => exact ⟨0, 0, rfl, Nat.zero_le _, rfl, rfl⟩
        case round =>
          obtain ⟨k, q, rfl, hk, rfl, rfl⟩ := hrel
          by_cases hkn : k < ow.length
          case pos =>
            have hkk : (k : Int) < (ow.length : Int) := by omega
            have ck := OWN.out k hkn
            have HT : Hid (((ow.take (k + 1)).any fun z => z == td) = (((ow.take k).any fun z => z == td) || (atL ow k == td))) := by
              show _ = _
              rw [List.take_add_one, List.any_append, List.getElem?_eq_getElem hkn]
              simp [atL, hkn]
            generalize ((ow.take k).any fun z => z == td) = b8 at *
            generalize atL ow k = zk at *
            cases b8
            · by_cases z1 : zk = td
              · have y1 : (zk == td) = true := by simp [z1]
                go_wp2_with fail
                go_quiet (fail)
                go_wp2_with fail
                go_roundw
                case rel => exact ⟨k + 1, _, rfl, by omega, by go_num, by rw [HT.out, y1]; rfl⟩
                case measure => simp [intOf]; omega
              · have y1 : (zk == td) = false := by simp [z1]
                go_wp2_with fail
                go_quiet (fail)
                go_wp2_with fail
                go_roundw
                case rel => exact ⟨k + 1, _, rfl, by omega, by go_num, by rw [HT.out, y1]; rfl⟩
                case measure => simp [intOf]; omega
            · go_wp2_with fail
              go_quiet (fail)
              go_wp2_with fail
              go_roundw
              case rel => exact ⟨k + 1, _, rfl, by omega, by go_num, by rw [HT.out]; rfl⟩
              case measure => simp [intOf]; omega
          case neg =>
            obtain rfl : k = ow.length := by omega
            have hall : ((ow.take ow.length).any fun z => z == td) = true := by
              rw [List.take_length, List.any_eq_true]
              exact ⟨td, HME.out, by simp⟩
            rw [hall]
            clear hall
            have XQ := hide (HX.out.kp ((Kp.refl w non).drewN q) (fun _ f => f.elim) (fun f => f) (fun _ _ f => f))
            have KQ : Hid (Kp w (w.drewN q) non) := (Kp.refl w non).drewN q
            have MU1 := hide (MU.out q)
            have E4 : Hid ((w.drewN q).cell? ⟨lb, i * 11 + 2, none⟩ = some (.int .i64 td) ∧ (w.drewN q).cell? ⟨lb, i * 11 + 1, none⟩ = some (.int .i64 fr) ∧ (w.drewN q).cell? ⟨lb, i * 11 + 3, none⟩ = some (.int .i64 t) ∧ (w.drewN q).cell? ⟨lb, i * 11 + 9, none⟩ = some (.string key)) := by
              exact ⟨by rw [World.cell?_drewN]; exact e2, by rw [World.cell?_drewN]; exact e1, by rw [World.cell?_drewN]; exact e3, by rw [World.cell?_drewN]; exact e9⟩
            have LBL : Hid (lb < (w.drewN q).heap.size) := World.block_lt_of_cell? _ _ E4.out.1
            clear e1 e2 e3 e9 c0
            obtain ⟨W1, hW1⟩ : ∃ W1, W1 = w.drewN q := ⟨_, rfl⟩
            rw [← hW1] at XQ KQ MU1 E4 LBL ⊢
            clear hW1 MU
            have e2 := E4.out.1
            have c0 := XQ.out.cells.1
            cases hmt : mtB M td
            case true =>
              rw [hmt] at MU1
              have X8 : Hid (StX W1 base B ob oc ow M D wv (Y ++ latF M D t L)) := by
                have := XQ.out
                rw [HLF0.out, hmt, if_pos rfl, List.append_nil]
                exact this
              clear hmt HLF0
              go_wp2_with (go_at_call 39; refine Calls.mono MU1.out ?_; rintro e w' ⟨rfl, rfl⟩)
              go_roundw
              case rel => exact ⟨i + 1, by omega, by go_num, Or.inr ⟨Nat.succ_pos i, wv, X8.out, KQ.out.mono (fun _ f => f.elim)⟩⟩
              case measure => simp [intOf]; omega
            case false =>
              rw [hmt] at MU1
              have HLF : Hid (latF M D t L = [⟨(⟨12, td, fr, t, 0, 0, 5, 0, 0, key, here⟩ : Mg), D⟩]) := by
                show _ = _
                rw [HLF0.out, hmt]
                rfl
              clear hmt HLF0
              go_upto_region 13 with (go_at_call 39; refine Calls.mono MU1.out ?_; rintro e w' ⟨rfl, rfl⟩)
              clear e2 c0
              refine wp_region_held_drew (S := fun X => X.cell? ⟨lb, i * 11 + 2, none⟩ = some (.int .i64 td) ∧ X.cell? ⟨lb, i * 11 + 1, none⟩ = some (.int .i64 fr) ∧ X.cell? ⟨lb, i * 11 + 3, none⟩ = some (.int .i64 t) ∧ X.cell? ⟨lb, i * 11 + 9, none⟩ = some (.string key)) (by kernel_rfl) E4.out (fun hHeld => ?_)
              refine wpAnyH_take (i := 0) (v := (.slice (some ⟨lb, 0, none⟩) L.length lc)) rfl (by kernel_rfl) (by kernel_rfl) (by kernel_rfl) (fun _ _ _ h => h) (Or.inl ⟨by rfl, ?_⟩) (by assumption) ?_
              · intro w' hSw
                (try dsimp only at hSw)
                go_simp
              (try simp only [Act.put, List.getElem_toArray, List.getElem_cons_zero, List.getElem_cons_succ, List.setIfInBounds_toArray, List.set_cons_zero, List.set_cons_succ])
              refine wpAnyH_take (i := 1) (v := (.int .i64 (i : Int))) rfl (by kernel_rfl) (by kernel_rfl) (by kernel_rfl) (fun _ _ _ h => h) (Or.inl ⟨by rfl, ?_⟩) (by assumption) ?_
              · intro w' hSw
                (try dsimp only at hSw)
                go_simp
              (try simp only [Act.put, List.getElem_toArray, List.getElem_cons_zero, List.getElem_cons_succ, List.setIfInBounds_toArray, List.set_cons_zero, List.set_cons_succ])
              refine wpAnyH_take (i := 2) (v := (.pointer (some ⟨lb, i * 11, none⟩))) rfl (by kernel_rfl) (by kernel_rfl) (by kernel_rfl) (fun _ _ _ h => h) (Or.inl ⟨by rfl, ?_⟩) (by assumption) ?_
              · intro w' hSw
                (try dsimp only at hSw)
                go_simp
              (try simp only [Act.put, List.getElem_toArray, List.getElem_cons_zero, List.getElem_cons_succ, List.setIfInBounds_toArray, List.set_cons_zero, List.set_cons_succ])
              refine wpAnyH_take (i := 3) (v := (.pointer (some ⟨lb, i * 11 + 2, none⟩))) rfl (by kernel_rfl) (by kernel_rfl) (by kernel_rfl) (fun _ _ _ h => h) (Or.inl ⟨by rfl, ?_⟩) (by assumption) ?_
              · intro w' hSw
                (try dsimp only at hSw)
                go_simp
              (try simp only [Act.put, List.getElem_toArray, List.getElem_cons_zero, List.getElem_cons_succ, List.setIfInBounds_toArray, List.set_cons_zero, List.set_cons_succ])
              refine wpAnyH_take (i := 4) (v := (.int .i64 td)) rfl (by kernel_rfl) (by kernel_rfl) (by kernel_rfl) (fun _ _ _ h => h) (Or.inl ⟨by rfl, ?_⟩) (by assumption) ?_
              · intro w' hSw
                (try dsimp only at hSw)
                (have hs1 := hSw.1; go_simp)
              (try simp only [Act.put, List.getElem_toArray, List.getElem_cons_zero, List.getElem_cons_succ, List.setIfInBounds_toArray, List.set_cons_zero, List.set_cons_succ])
              refine wpAnyH_take (i := 5) (v := (.slice (some ⟨lb, 0, none⟩) L.length lc)) rfl (by kernel_rfl) (by kernel_rfl) (by kernel_rfl) (fun _ _ _ h => h) (Or.inl ⟨by rfl, ?_⟩) (by assumption) ?_
              · intro w' hSw
                (try dsimp only at hSw)
                go_simp
              (try simp only [Act.put, List.getElem_toArray, List.getElem_cons_zero, List.getElem_cons_succ, List.setIfInBounds_toArray, List.set_cons_zero, List.set_cons_succ])
              refine wpAnyH_take (i := 6) (v := (.int .i64 (i : Int))) rfl (by kernel_rfl) (by kernel_rfl) (by kernel_rfl) (fun _ _ _ h => h) (Or.inl ⟨by rfl, ?_⟩) (by assumption) ?_
              · intro w' hSw
                (try dsimp only at hSw)
                go_simp
              (try simp only [Act.put, List.getElem_toArray, List.getElem_cons_zero, List.getElem_cons_succ, List.setIfInBounds_toArray, List.set_cons_zero, List.set_cons_succ])
              refine wpAnyH_take (i := 7) (v := (.pointer (some ⟨lb, i * 11, none⟩))) rfl (by kernel_rfl) (by kernel_rfl) (by kernel_rfl) (fun _ _ _ h => h) (Or.inl ⟨by rfl, ?_⟩) (by assumption) ?_
              · intro w' hSw
                (try dsimp only at hSw)
                go_simp
              (try simp only [Act.put, List.getElem_toArray, List.getElem_cons_zero, List.getElem_cons_succ, List.setIfInBounds_toArray, List.set_cons_zero, List.set_cons_succ])
              refine wpAnyH_take (i := 8) (v := (.pointer (some ⟨lb, i * 11 + 1, none⟩))) rfl (by kernel_rfl) (by kernel_rfl) (by kernel_rfl) (fun _ _ _ h => h) (Or.inl ⟨by rfl, ?_⟩) (by assumption) ?_
              · intro w' hSw
                (try dsimp only at hSw)
                go_simp
              (try simp only [Act.put, List.getElem_toArray, List.getElem_cons_zero, List.getElem_cons_succ, List.setIfInBounds_toArray, List.set_cons_zero, List.set_cons_succ])
              refine wpAnyH_take (i := 9) (v := (.int .i64 fr)) rfl (by kernel_rfl) (by kernel_rfl) (by kernel_rfl) (fun _ _ _ h => h) (Or.inl ⟨by rfl, ?_⟩) (by assumption) ?_
              · intro w' hSw
                (try dsimp only at hSw)
                (have hs1 := hSw.2.1; go_simp)
              (try simp only [Act.put, List.getElem_toArray, List.getElem_cons_zero, List.getElem_cons_succ, List.setIfInBounds_toArray, List.set_cons_zero, List.set_cons_succ])
              refine wpAnyH_take (i := 10) (v := (.slice (some ⟨lb, 0, none⟩) L.length lc)) rfl (by kernel_rfl) (by kernel_rfl) (by kernel_rfl) (fun _ _ _ h => h) (Or.inl ⟨by rfl, ?_⟩) (by assumption) ?_
              · intro w' hSw
                (try dsimp only at hSw)
                go_simp
              (try simp only [Act.put, List.getElem_toArray, List.getElem_cons_zero, List.getElem_cons_succ, List.setIfInBounds_toArray, List.set_cons_zero, List.set_cons_succ])
              refine wpAnyH_take (i := 11) (v := (.int .i64 (i : Int))) rfl (by kernel_rfl) (by kernel_rfl) (by kernel_rfl) (fun _ _ _ h => h) (Or.inl ⟨by rfl, ?_⟩) (by assumption) ?_
              · intro w' hSw
                (try dsimp only at hSw)
                go_simp
              (try simp only [Act.put, List.getElem_toArray, List.getElem_cons_zero, List.getElem_cons_succ, List.setIfInBounds_toArray, List.set_cons_zero, List.set_cons_succ])
              refine wpAnyH_take (i := 12) (v := (.pointer (some ⟨lb, i * 11, none⟩))) rfl (by kernel_rfl) (by kernel_rfl) (by kernel_rfl) (fun _ _ _ h => h) (Or.inl ⟨by rfl, ?_⟩) (by assumption) ?_
              · intro w' hSw
                (try dsimp only at hSw)
                go_simp
              (try simp only [Act.put, List.getElem_toArray, List.getElem_cons_zero, List.getElem_cons_succ, List.setIfInBounds_toArray, List.set_cons_zero, List.set_cons_succ])
              refine wpAnyH_take (i := 13) (v := (.pointer (some ⟨lb, i * 11 + 3, none⟩))) rfl (by kernel_rfl) (by kernel_rfl) (by kernel_rfl) (fun _ _ _ h => h) (Or.inl ⟨by rfl, ?_⟩) (by assumption) ?_
              · intro w' hSw
                (try dsimp only at hSw)
                go_simp
              (try simp only [Act.put, List.getElem_toArray, List.getElem_cons_zero, List.getElem_cons_succ, List.setIfInBounds_toArray, List.set_cons_zero, List.set_cons_succ])
              refine wpAnyH_take (i := 14) (v := (.int .i64 t)) rfl (by kernel_rfl) (by kernel_rfl) (by kernel_rfl) (fun _ _ _ h => h) (Or.inl ⟨by rfl, ?_⟩) (by assumption) ?_
              · intro w' hSw
                (try dsimp only at hSw)
                (have hs1 := hSw.2.2.1; go_simp)
              (try simp only [Act.put, List.getElem_toArray, List.getElem_cons_zero, List.getElem_cons_succ, List.setIfInBounds_toArray, List.set_cons_zero, List.set_cons_succ])
              refine wpAnyH_take (i := 15) (v := (.slice (some ⟨lb, 0, none⟩) L.length lc)) rfl (by kernel_rfl) (by kernel_rfl) (by kernel_rfl) (fun _ _ _ h => h) (Or.inl ⟨by rfl, ?_⟩) (by assumption) ?_
              · intro w' hSw
                (try dsimp only at hSw)
                go_simp
              (try simp only [Act.put, List.getElem_toArray, List.getElem_cons_zero, List.getElem_cons_succ, List.setIfInBounds_toArray, List.set_cons_zero, List.set_cons_succ])
              refine wpAnyH_take (i := 16) (v := (.int .i64 (i : Int))) rfl (by kernel_rfl) (by kernel_rfl) (by kernel_rfl) (fun _ _ _ h => h) (Or.inl ⟨by rfl, ?_⟩) (by assumption) ?_
              · intro w' hSw
                (try dsimp only at hSw)
                go_simp
              (try simp only [Act.put, List.getElem_toArray, List.getElem_cons_zero, List.getElem_cons_succ, List.setIfInBounds_toArray, List.set_cons_zero, List.set_cons_succ])
              refine wpAnyH_take (i := 17) (v := (.pointer (some ⟨lb, i * 11, none⟩))) rfl (by kernel_rfl) (by kernel_rfl) (by kernel_rfl) (fun _ _ _ h => h) (Or.inl ⟨by rfl, ?_⟩) (by assumption) ?_
              · intro w' hSw
                (try dsimp only at hSw)
                go_simp
              (try simp only [Act.put, List.getElem_toArray, List.getElem_cons_zero, List.getElem_cons_succ, List.setIfInBounds_toArray, List.set_cons_zero, List.set_cons_succ])
              refine wpAnyH_take (i := 18) (v := (.pointer (some ⟨lb, i * 11 + 9, none⟩))) rfl (by kernel_rfl) (by kernel_rfl) (by kernel_rfl) (fun _ _ _ h => h) (Or.inl ⟨by rfl, ?_⟩) (by assumption) ?_
              · intro w' hSw
                (try dsimp only at hSw)
                go_simp
              (try simp only [Act.put, List.getElem_toArray, List.getElem_cons_zero, List.getElem_cons_succ, List.setIfInBounds_toArray, List.set_cons_zero, List.set_cons_succ])
              refine wpAnyH_take (i := 19) (v := (.string key)) rfl (by kernel_rfl) (by kernel_rfl) (by kernel_rfl) (fun _ _ _ h => h) (Or.inl ⟨by rfl, ?_⟩) (by assumption) ?_
              · intro w' hSw
                (try dsimp only at hSw)
                (have hs1 := hSw.2.2.2; go_simp)
              (try simp only [Act.put, List.getElem_toArray, List.getElem_cons_zero, List.getElem_cons_succ, List.setIfInBounds_toArray, List.set_cons_zero, List.set_cons_succ])
              refine wpAnyH_take (i := 20) (v := (.agg (mgV (⟨12, td, fr, t, 0, 0, 5, 0, 0, key, here⟩ : Mg)))) rfl (by kernel_rfl) (by kernel_rfl) (by kernel_rfl) (fun _ _ _ h => h) (Or.inl ⟨by rfl, ?_⟩) (by assumption) ?_
              · intro w' hSw
                (try dsimp only at hSw)
                (exact exec_blR 58 _ rfl (mgV (⟨12, td, fr, t, 0, 0, 5, 0, 0, key, here⟩ : Mg)) (by kernel_rfl))
              (try simp only [Act.put, List.getElem_toArray, List.getElem_cons_zero, List.getElem_cons_succ, List.setIfInBounds_toArray, List.set_cons_zero, List.set_cons_succ])
              refine wpAnyH_ready (rs := [21]) (by kernel_rfl) (by simp) ?_
              refine AllReadyH.cons rfl (fun K hK => ?_) AllReadyH.nil
              obtain ⟨MB, hMB⟩ : ∃ MB, MB = W1.heap.size := ⟨_, rfl⟩
              obtain ⟨W2, hW2⟩ : ∃ W2, W2 = W1.drew.alloc (.cells (mgV mg0) 58) := ⟨_, rfl⟩
              have k2 : Kp W1 W2 non := by rw [hW2]; exact ((Kp.refl W1 non).drew).alloc _
              have M2 : Hid (W2.heap[MB]? = some (.cells (mgV mg0) 58)) := by rw [hW2, hMB]; exact heap_last _ _
              have E5 : Hid (W2.cell? ⟨lb, i * 11 + 2, none⟩ = some (.int .i64 td) ∧ W2.cell? ⟨lb, i * 11 + 1, none⟩ = some (.int .i64 fr) ∧ W2.cell? ⟨lb, i * 11 + 3, none⟩ = some (.int .i64 t) ∧ W2.cell? ⟨lb, i * 11 + 9, none⟩ = some (.string key)) := ⟨(k2.cell (b := lb) LBL.out (fun f => f)).trans E4.out.1, (k2.cell (b := lb) LBL.out (fun f => f)).trans E4.out.2.1, (k2.cell (b := lb) LBL.out (fun f => f)).trans E4.out.2.2.1, (k2.cell (b := lb) LBL.out (fun f => f)).trans E4.out.2.2.2⟩
              have LM : Hid (lb ≠ MB) := by have h := LBL.out; intro e; rw [e, hMB] at h; exact Nat.lt_irrefl _ h
              have BM : Hid (B < MB) := by rw [hMB]; exact blk_lt XQ.out.blk
              have OBM : Hid (W1.heap.size ≤ MB) := by rw [hMB]; exact Nat.le_refl _
              have LBL2 : Hid (lb < W2.heap.size) := Nat.lt_of_lt_of_le LBL.out k2.size
              have K2 := hide k2
              have HMB := hide hMB
              clear k2 hMB
              go_simp
              change K _ (W1.drew.alloc (.cells (mgV mg0) 58))
              rw [← hW2, ← HMB.out]
              clear hW2 HMB
              refine hK.out _ _ (E5.out) (fun hHeld => ?_)
              clear hK
              (try simp only [Act.put, List.setIfInBounds_toArray, List.set_cons_zero, List.set_cons_succ])
              refine wpAnyH_ready (rs := [22]) (by kernel_rfl) (by simp) ?_
              refine AllReadyH.cons rfl (fun K hK => ?_) AllReadyH.nil
              refine wp_store_row 58 (.tmp 10) (.tmp 87) rfl MB (mgV (⟨12, td, fr, t, 0, 0, 5, 0, 0, key, here⟩ : Mg)) (by kernel_rfl) (by kernel_rfl) 58 _ M2.out mg_info rfl (mg_one _) ?_
              obtain ⟨W3, hW3⟩ : ∃ W3, W3 = W2.setRow MB (mgV (⟨12, td, fr, t, 0, 0, 5, 0, 0, key, here⟩ : Mg)) := ⟨_, rfl⟩
              have k3 : Kp W2 W3 (fun j => j = MB) := by rw [hW3]; exact kp_setRow2 _ _ _
              have M3 : Hid (W3.heap[MB]? = some (.cells (mgV (⟨12, td, fr, t, 0, 0, 5, 0, 0, key, here⟩ : Mg)) 58)) := by rw [hW3]; exact setRow_heap _ _ _ _ _ _ M2.out
              have E6 : Hid (W3.cell? ⟨lb, i * 11 + 2, none⟩ = some (.int .i64 td) ∧ W3.cell? ⟨lb, i * 11 + 1, none⟩ = some (.int .i64 fr) ∧ W3.cell? ⟨lb, i * 11 + 3, none⟩ = some (.int .i64 t) ∧ W3.cell? ⟨lb, i * 11 + 9, none⟩ = some (.string key)) := ⟨(k3.cell (b := lb) LBL2.out LM.out).trans E5.out.1, (k3.cell (b := lb) LBL2.out LM.out).trans E5.out.2.1, (k3.cell (b := lb) LBL2.out LM.out).trans E5.out.2.2.1, (k3.cell (b := lb) LBL2.out LM.out).trans E5.out.2.2.2⟩
              have K3 : Hid (Kp W1 W3 non) := K2.out.trans k3 (fun j e => Or.inr (by rw [e]; exact OBM.out))
              have X3 := hide (XQ.out.kp K3.out (fun _ f => f.elim) (fun f => f) (fun _ _ f => f))
              have K4 : Hid (Kp w W3 non) := KQ.out.trans K3.out (fun _ f => f.elim)
              rw [← hW3]
              clear hW3 k3 M2
              refine hK.out _ _ (E6.out) (fun hHeld => ?_)
              clear hK
              (try simp only [Act.put, List.setIfInBounds_toArray, List.set_cons_zero, List.set_cons_succ])
              refine wpAnyH_done (by kernel_rfl) ?_ _
              clear E6 E5 E4 hHeld K2 K3 MU1
              have o3 := X3.out.cells.2.2.2
              have C4 : Hid (W3.heap[MB]? = some (.cells (mgV (⟨12, td, fr, t, 0, 0, 5, 0, 0, key, here⟩ : Mg)) 58) ∧ W3.cell? ⟨B, 2, none⟩ = some (.int .i64 D)) := ⟨M3.out, X3.out.cells.2.2.1⟩
              have MBN : Hid (MB ≠ B) := by have := BM.out; intro e; omega
              obtain ⟨J, hJ⟩ : ∃ J, J = W3.heap.size := ⟨_, rfl⟩
              obtain ⟨W5, hW5⟩ : ∃ W5, W5 = W3.drew.alloc (.cells (ltV ⟨(⟨12, td, fr, t, 0, 0, 5, 0, 0, key, here⟩ : Mg), D⟩) 136) := ⟨_, rfl⟩
              have k5 : Kp W3 W5 non := by rw [hW5]; exact ((Kp.refl W3 non).drew).alloc _
              have J5 : Hid (W5.heap[J]? = some (.cells (ltV ⟨(⟨12, td, fr, t, 0, 0, 5, 0, 0, key, here⟩ : Mg), D⟩) 136)) := by rw [hW5, hJ]; exact heap_last _ _
              have x5 := X3.out.kp k5 (fun _ f => f.elim) (fun f => f) (fun _ _ f => f)
              have X5 : Hid (StX W5 base B ob oc ow M D wv []) := by rw [← HY.out]; exact x5
              have D5 : Hid (W5.heap[MB]? = some (.cells (mgV (⟨12, td, fr, t, 0, 0, 5, 0, 0, key, here⟩ : Mg)) 58) ∧ W5.cell? ⟨B, 2, none⟩ = some (.int .i64 D)) := ⟨(k5.block _ (blk_lt C4.out.1) (fun f => f)).trans C4.out.1, x5.cells.2.2.1⟩
              have K5 : Hid (Kp w W5 non) := K4.out.trans k5 (fun _ f => f.elim)
              have HB5 : Hid (base ≤ W5.heap.size) := Nat.le_trans hbs.out K5.out.size
              have O5 : Hid (W5.cell? ⟨B, 3, none⟩ = some wv) := x5.cells.2.2.2
              clear k5 x5 M3 X3
              go_upto_region 14 with fail
              refine wp_region_held_drew (S := fun X => X.heap[MB]? = some (.cells (mgV (⟨12, td, fr, t, 0, 0, 5, 0, 0, key, here⟩ : Mg)) 58) ∧ X.cell? ⟨B, 2, none⟩ = some (.int .i64 D)) (by kernel_rfl) C4.out (fun hHeld => ?_)
              refine wpAnyH_take (i := 0) (v := (.pointer (some ⟨B, 0, none⟩))) rfl (by kernel_rfl) (by kernel_rfl) (by kernel_rfl) (fun _ _ _ h => h) (Or.inl ⟨by rfl, ?_⟩) (by assumption) ?_
              · intro w' hSw
                (try dsimp only at hSw)
                go_simp
              (try simp only [Act.put, List.getElem_toArray, List.getElem_cons_zero, List.getElem_cons_succ, List.setIfInBounds_toArray, List.set_cons_zero, List.set_cons_succ])
              refine wpAnyH_take (i := 1) (v := (.pointer (some ⟨B, 0, none⟩))) rfl (by kernel_rfl) (by kernel_rfl) (by kernel_rfl) (fun _ _ _ h => h) (Or.inl ⟨by rfl, ?_⟩) (by assumption) ?_
              · intro w' hSw
                (try dsimp only at hSw)
                go_simp
              (try simp only [Act.put, List.getElem_toArray, List.getElem_cons_zero, List.getElem_cons_succ, List.setIfInBounds_toArray, List.set_cons_zero, List.set_cons_succ])
              refine wpAnyH_take (i := 2) (v := (.pointer (some ⟨B, 0, none⟩))) rfl (by kernel_rfl) (by kernel_rfl) (by kernel_rfl) (fun _ _ _ h => h) (Or.inl ⟨by rfl, ?_⟩) (by assumption) ?_
              · intro w' hSw
                (try dsimp only at hSw)
                go_simp
              (try simp only [Act.put, List.getElem_toArray, List.getElem_cons_zero, List.getElem_cons_succ, List.setIfInBounds_toArray, List.set_cons_zero, List.set_cons_succ])
              refine wpAnyH_take (i := 3) (v := (.pointer (some ⟨B, 3, none⟩))) rfl (by kernel_rfl) (by kernel_rfl) (by kernel_rfl) (fun _ _ _ h => h) (Or.inl ⟨by rfl, ?_⟩) (by assumption) ?_
              · intro w' hSw
                (try dsimp only at hSw)
                go_simp
              (try simp only [Act.put, List.getElem_toArray, List.getElem_cons_zero, List.getElem_cons_succ, List.setIfInBounds_toArray, List.set_cons_zero, List.set_cons_succ])
              refine wpAnyH_take (i := 5) (v := (.agg (mgV (⟨12, td, fr, t, 0, 0, 5, 0, 0, key, here⟩ : Mg)))) rfl (by kernel_rfl) (by kernel_rfl) (by kernel_rfl) (fun _ _ _ h => h) (Or.inl ⟨by rfl, ?_⟩) (by assumption) ?_
              · intro w' hSw
                (try dsimp only at hSw)
                (exact exec_ldR 58 (.tmp 10) rfl rfl _ hSw.1 Tryz.underlying58 mg_info)
              (try simp only [Act.put, List.getElem_toArray, List.getElem_cons_zero, List.getElem_cons_succ, List.setIfInBounds_toArray, List.set_cons_zero, List.set_cons_succ])
              refine wpAnyH_take (i := 6) (v := (.pointer (some ⟨B, 0, none⟩))) rfl (by kernel_rfl) (by kernel_rfl) (by kernel_rfl) (fun _ _ _ h => h) (Or.inl ⟨by rfl, ?_⟩) (by assumption) ?_
              · intro w' hSw
                (try dsimp only at hSw)
                go_simp
              (try simp only [Act.put, List.getElem_toArray, List.getElem_cons_zero, List.getElem_cons_succ, List.setIfInBounds_toArray, List.set_cons_zero, List.set_cons_succ])
              refine wpAnyH_take (i := 7) (v := (.pointer (some ⟨B, 0, none⟩))) rfl (by kernel_rfl) (by kernel_rfl) (by kernel_rfl) (fun _ _ _ h => h) (Or.inl ⟨by rfl, ?_⟩) (by assumption) ?_
              · intro w' hSw
                (try dsimp only at hSw)
                go_simp
              (try simp only [Act.put, List.getElem_toArray, List.getElem_cons_zero, List.getElem_cons_succ, List.setIfInBounds_toArray, List.set_cons_zero, List.set_cons_succ])
              refine wpAnyH_take (i := 8) (v := (.pointer (some ⟨B, 2, none⟩))) rfl (by kernel_rfl) (by kernel_rfl) (by kernel_rfl) (fun _ _ _ h => h) (Or.inl ⟨by rfl, ?_⟩) (by assumption) ?_
              · intro w' hSw
                (try dsimp only at hSw)
                go_simp
              (try simp only [Act.put, List.getElem_toArray, List.getElem_cons_zero, List.getElem_cons_succ, List.setIfInBounds_toArray, List.set_cons_zero, List.set_cons_succ])
              refine wpAnyH_take (i := 9) (v := (.int .i64 D)) rfl (by kernel_rfl) (by kernel_rfl) (by kernel_rfl) (fun _ _ _ h => h) (Or.inl ⟨by rfl, ?_⟩) (by assumption) ?_
              · intro w' hSw
                (try dsimp only at hSw)
                (have hs1 := hSw.2; go_simp)
              (try simp only [Act.put, List.getElem_toArray, List.getElem_cons_zero, List.getElem_cons_succ, List.setIfInBounds_toArray, List.set_cons_zero, List.set_cons_succ])
              refine wpAnyH_take (i := 10) (v := (.agg (ltV ⟨(⟨12, td, fr, t, 0, 0, 5, 0, 0, key, here⟩ : Mg), D⟩))) rfl (by kernel_rfl) (by kernel_rfl) (by kernel_rfl) (fun _ _ _ h => h) (Or.inl ⟨by rfl, ?_⟩) (by assumption) ?_
              · intro w' hSw
                (try dsimp only at hSw)
                (exact exec_blR 136 _ rfl (ltV ⟨(⟨12, td, fr, t, 0, 0, 5, 0, 0, key, here⟩ : Mg), D⟩) (by kernel_rfl))
              (try simp only [Act.put, List.getElem_toArray, List.getElem_cons_zero, List.getElem_cons_succ, List.setIfInBounds_toArray, List.set_cons_zero, List.set_cons_succ])
              refine wpAnyH_ready (rs := [4, 11]) (by kernel_rfl) (by simp) ?_
              refine AllReadyH.cons rfl (fun K hK => ?_) (AllReadyH.cons rfl (fun K hK => ?_) AllReadyH.nil)
              · go_simp
                refine hK.out _ _ (C4.out) (fun hHeld => ?_)
                clear hK
                (try simp only [Act.put, List.setIfInBounds_toArray, List.set_cons_zero, List.set_cons_succ])
                refine wpAnyH_ready (rs := [11]) (by kernel_rfl) (by simp) ?_
                refine AllReadyH.cons rfl (fun K hK => ?_) AllReadyH.nil
                refine wp_bsLt (.tmp 98) rfl ⟨(⟨12, td, fr, t, 0, 0, 5, 0, 0, key, here⟩ : Mg), D⟩ rfl ?_
                rw [← hW5]
                clear hW5
                refine hK.out _ _ (D5.out) (fun hHeld => ?_)
                clear hK
                (try simp only [Act.put, List.setIfInBounds_toArray, List.set_cons_zero, List.set_cons_succ])
                clear o3
                refine wpAnyH_ready (rs := [12]) (by kernel_rfl) (by simp) ?_
                refine AllReadyH.cons rfl (fun K hK => ?_) AllReadyH.nil
                refine wp_apLt (.tmp 92) (.tmp 99) rfl base wv [] rfl X5.out.way J ⟨(⟨12, td, fr, t, 0, 0, 5, 0, 0, key, here⟩ : Mg), D⟩ (by rw [hJ]; rfl) J5.out (by simp) HB5.out ?_
                intro u' W6 ho0 hg hnb
                have ho : W6.ownsRow base 136 12 u' 1 (lts [⟨(⟨12, td, fr, t, 0, 0, 5, 0, 0, key, here⟩ : Mg), D⟩]) := ho0
                clear ho0
                obtain ⟨ua, uc, hu⟩ := own_sl ho
                subst hu
                obtain ⟨e6, x7, k7⟩ := X5.out.putw (Y' := [⟨(⟨12, td, fr, t, 0, 0, 5, 0, 0, key, here⟩ : Mg), D⟩]) (Kp.of_grown hg |>.mono (fun j e => e.symm)) ho
                have kg := Kp.of_grown hg
                have c6 : W6.cell? ⟨B, 3, none⟩ = some wv := by rw [cell_row (e6.trans X5.out.blk)]; rfl
                have f6 : W6.frozen? ⟨B, 3, none⟩ = false := fz_row (e6.trans X5.out.blk) 3
                have D6 : Hid (W6.heap[MB]? = some (.cells (mgV (⟨12, td, fr, t, 0, 0, 5, 0, 0, key, here⟩ : Mg)) 58) ∧ W6.cell? ⟨B, 2, none⟩ = some (.int .i64 D)) := ⟨(kg.block _ (blk_lt D5.out.1) (fun e => own_not X5.out.way D5.out.1 (by decide) e.symm)).trans D5.out.1, by rw [cell_row (e6.trans X5.out.blk)]; rfl⟩
                have ks : Kp W6 (W6.setCell ⟨B, 3, none⟩ (.slice ua 1 uc)) (fun j => j = B) := (Kp.refl W6 (fun j => j = B)).set (Or.inl rfl) _ _
                have D7 : Hid ((W6.setCell ⟨B, 3, none⟩ (.slice ua 1 uc)).heap[MB]? = some (.cells (mgV (⟨12, td, fr, t, 0, 0, 5, 0, 0, key, here⟩ : Mg)) 58) ∧ (W6.setCell ⟨B, 3, none⟩ (.slice ua 1 uc)).cell? ⟨B, 2, none⟩ = some (.int .i64 D)) := ⟨(ks.block _ (blk_lt D6.out.1) (fun e => MBN.out e)).trans D6.out.1, x7.cells.2.2.1⟩
                have X7 := hide x7
                have K7 := hide k7
                clear ho hg hnb x7 k7 kg e6 ks
                refine hK.out _ _ (D6.out) (fun hHeld => ?_)
                clear hK
                (try simp only [Act.put, List.setIfInBounds_toArray, List.set_cons_zero, List.set_cons_succ])
                refine wpAnyH_take (i := 13) (v := (.pointer (some ⟨B, 0, none⟩))) rfl (by kernel_rfl) (by kernel_rfl) (by kernel_rfl) (fun _ _ _ h => h) (Or.inl ⟨by rfl, ?_⟩) (by assumption) ?_
                · intro w' hSw
                  (try dsimp only at hSw)
                  go_simp
                (try simp only [Act.put, List.getElem_toArray, List.getElem_cons_zero, List.getElem_cons_succ, List.setIfInBounds_toArray, List.set_cons_zero, List.set_cons_succ])
                refine wpAnyH_take (i := 14) (v := (.pointer (some ⟨B, 3, none⟩))) rfl (by kernel_rfl) (by kernel_rfl) (by kernel_rfl) (fun _ _ _ h => h) (Or.inl ⟨by rfl, ?_⟩) (by assumption) ?_
                · intro w' hSw
                  (try dsimp only at hSw)
                  go_simp
                (try simp only [Act.put, List.getElem_toArray, List.getElem_cons_zero, List.getElem_cons_succ, List.setIfInBounds_toArray, List.set_cons_zero, List.set_cons_succ])
                refine wpAnyH_ready (rs := [15]) (by kernel_rfl) (by simp) ?_
                refine AllReadyH.cons rfl (fun K hK => ?_) AllReadyH.nil
                go_simp
                obtain ⟨W7, hW7⟩ : ∃ W7, W7 = W6.setCell ⟨B, 3, none⟩ (.slice ua 1 uc) := ⟨_, rfl⟩
                rw [← hW7] at D7 X7 K7 ⊢
                clear hW7 c6 f6
                refine hK.out _ _ (D7.out) (fun hHeld => ?_)
                clear hK
                (try simp only [Act.put, List.setIfInBounds_toArray, List.set_cons_zero, List.set_cons_succ])
                refine wpAnyH_done (by kernel_rfl) ?_ _
                have K8 : Hid (Kp w W7 (fun j => j = B ∨ wv.ownBlock = some j)) := (K5.out.mono (fun _ f => f.elim)).trans K7.out (fun j q => Or.inl q)
                have X8 : Hid (StX W7 base B ob oc ow M D (.slice ua 1 uc) (Y ++ latF M D t L)) := by
                  have := X7.out
                  rw [HY.out, HLF.out]
                  exact this
                clear D7 D6 D5 X7 K7 X5
                go_wp2_with fail
                go_roundw
                case rel => exact ⟨i + 1, by omega, by go_num, Or.inr ⟨Nat.succ_pos i, (.slice ua 1 uc), X8.out, K8.out⟩⟩
                case measure => simp [intOf]; omega
              · skip
                refine wp_bsLt (.tmp 98) rfl ⟨(⟨12, td, fr, t, 0, 0, 5, 0, 0, key, here⟩ : Mg), D⟩ rfl ?_
                rw [← hW5]
                clear hW5
                refine hK.out _ _ (D5.out) (fun hHeld => ?_)
                clear hK
                (try simp only [Act.put, List.setIfInBounds_toArray, List.set_cons_zero, List.set_cons_succ])
                clear o3
                refine wpAnyH_ready (rs := [4]) (by kernel_rfl) (by simp) ?_
                refine AllReadyH.cons rfl (fun K hK => ?_) AllReadyH.nil
                have o5 := O5.out
                go_simp
                clear o5
                refine hK.out _ _ (D5.out) (fun hHeld => ?_)
                clear hK
                (try simp only [Act.put, List.setIfInBounds_toArray, List.set_cons_zero, List.set_cons_succ])
                refine wpAnyH_ready (rs := [12]) (by kernel_rfl) (by simp) ?_
                refine AllReadyH.cons rfl (fun K hK => ?_) AllReadyH.nil
                refine wp_apLt (.tmp 92) (.tmp 99) rfl base wv [] rfl X5.out.way J ⟨(⟨12, td, fr, t, 0, 0, 5, 0, 0, key, here⟩ : Mg), D⟩ (by rw [hJ]; rfl) J5.out (by simp) HB5.out ?_
                intro u' W6 ho0 hg hnb
                have ho : W6.ownsRow base 136 12 u' 1 (lts [⟨(⟨12, td, fr, t, 0, 0, 5, 0, 0, key, here⟩ : Mg), D⟩]) := ho0
                clear ho0
                obtain ⟨ua, uc, hu⟩ := own_sl ho
                subst hu
                obtain ⟨e6, x7, k7⟩ := X5.out.putw (Y' := [⟨(⟨12, td, fr, t, 0, 0, 5, 0, 0, key, here⟩ : Mg), D⟩]) (Kp.of_grown hg |>.mono (fun j e => e.symm)) ho
                have kg := Kp.of_grown hg
                have c6 : W6.cell? ⟨B, 3, none⟩ = some wv := by rw [cell_row (e6.trans X5.out.blk)]; rfl
                have f6 : W6.frozen? ⟨B, 3, none⟩ = false := fz_row (e6.trans X5.out.blk) 3
                have D6 : Hid (W6.heap[MB]? = some (.cells (mgV (⟨12, td, fr, t, 0, 0, 5, 0, 0, key, here⟩ : Mg)) 58) ∧ W6.cell? ⟨B, 2, none⟩ = some (.int .i64 D)) := ⟨(kg.block _ (blk_lt D5.out.1) (fun e => own_not X5.out.way D5.out.1 (by decide) e.symm)).trans D5.out.1, by rw [cell_row (e6.trans X5.out.blk)]; rfl⟩
                have ks : Kp W6 (W6.setCell ⟨B, 3, none⟩ (.slice ua 1 uc)) (fun j => j = B) := (Kp.refl W6 (fun j => j = B)).set (Or.inl rfl) _ _
                have D7 : Hid ((W6.setCell ⟨B, 3, none⟩ (.slice ua 1 uc)).heap[MB]? = some (.cells (mgV (⟨12, td, fr, t, 0, 0, 5, 0, 0, key, here⟩ : Mg)) 58) ∧ (W6.setCell ⟨B, 3, none⟩ (.slice ua 1 uc)).cell? ⟨B, 2, none⟩ = some (.int .i64 D)) := ⟨(ks.block _ (blk_lt D6.out.1) (fun e => MBN.out e)).trans D6.out.1, x7.cells.2.2.1⟩
                have X7 := hide x7
                have K7 := hide k7
                clear ho hg hnb x7 k7 kg e6 ks
                refine hK.out _ _ (D6.out) (fun hHeld => ?_)
                clear hK
                (try simp only [Act.put, List.setIfInBounds_toArray, List.set_cons_zero, List.set_cons_succ])
                refine wpAnyH_take (i := 13) (v := (.pointer (some ⟨B, 0, none⟩))) rfl (by kernel_rfl) (by kernel_rfl) (by kernel_rfl) (fun _ _ _ h => h) (Or.inl ⟨by rfl, ?_⟩) (by assumption) ?_
                · intro w' hSw
                  (try dsimp only at hSw)
                  go_simp
                (try simp only [Act.put, List.getElem_toArray, List.getElem_cons_zero, List.getElem_cons_succ, List.setIfInBounds_toArray, List.set_cons_zero, List.set_cons_succ])
                refine wpAnyH_take (i := 14) (v := (.pointer (some ⟨B, 3, none⟩))) rfl (by kernel_rfl) (by kernel_rfl) (by kernel_rfl) (fun _ _ _ h => h) (Or.inl ⟨by rfl, ?_⟩) (by assumption) ?_
                · intro w' hSw
                  (try dsimp only at hSw)
                  go_simp
                (try simp only [Act.put, List.getElem_toArray, List.getElem_cons_zero, List.getElem_cons_succ, List.setIfInBounds_toArray, List.set_cons_zero, List.set_cons_succ])
                refine wpAnyH_ready (rs := [15]) (by kernel_rfl) (by simp) ?_
                refine AllReadyH.cons rfl (fun K hK => ?_) AllReadyH.nil
                go_simp
                obtain ⟨W7, hW7⟩ : ∃ W7, W7 = W6.setCell ⟨B, 3, none⟩ (.slice ua 1 uc) := ⟨_, rfl⟩
                rw [← hW7] at D7 X7 K7 ⊢
                clear hW7 c6 f6
                refine hK.out _ _ (D7.out) (fun hHeld => ?_)
                clear hK
                (try simp only [Act.put, List.setIfInBounds_toArray, List.set_cons_zero, List.set_cons_succ])
                refine wpAnyH_done (by kernel_rfl) ?_ _
                have K8 : Hid (Kp w W7 (fun j => j = B ∨ wv.ownBlock = some j)) := (K5.out.mono (fun _ f => f.elim)).trans K7.out (fun j q => Or.inl q)
                have X8 : Hid (StX W7 base B ob oc ow M D (.slice ua 1 uc) (Y ++ latF M D t L)) := by
                  have := X7.out
                  rw [HY.out, HLF.out]
                  exact this
                clear D7 D6 D5 X7 K7 X5
                go_wp2_with fail
                go_roundw
                case rel => exact ⟨i + 1, by omega, by go_num, Or.inr ⟨Nat.succ_pos i, (.slice ua 1 uc), X8.out, K8.out⟩⟩
                case measure => simp [intOf]; omega
end Go.Proofs.YtndfhpfhgdamgaaGreatDoor.Cn
