import Derived.Test.YtfpalfpfijcpbaaGreatDoorPtDefs
import Derived.Deep.DeepCutAuto
namespace Go.Proofs.YtfpalfpfijcpbaaGreatDoor
open Go.RowKit Go.Shelf
set_option maxHeartbeats 32000000 in
set_option maxRecDepth 100000 in
set_option linter.unusedSimpArgs false in
theorem told_any (st : ByteArray) (ao : Option Addr) (b o cap : Nat) (fs : List CT) (w : World) (hao : 0 < fs.length → ao = some ⟨b, o, none⟩) (hb : 0 < fs.length → b < w.heap.size) (hl : LiesC b o w fs) (_hcap : fs.length ≤ cap) (hlen : fs.length ≤ 1048576) (hst : st.size ≤ 1048576) (hnm : ∀ c ∈ fs, c.1.size ≤ 1048576) (hcat : (catC fs).length ≤ 1048576) (hT : TabM w) :
    Calls Tryz.prog 24 #[.string st, .slice ao fs.length cap] w fun e w' => ∃ v, e = .returned (.tuple #[.agg #[.string st, .int .i64 7, .int .i64 3, v, .int .i64 (totS (fs.map rowC) : Int), .int .i64 (crcN 0 (catC fs) : Int)], .string (strOf (catC fs)), .bool (okUp st fs fs.length)]) ∧ w'.ownsRow w.heap.size 109 4 v fs.length (rcs (fs.map rowC)) ∧ Below w.heap.size w w' := by
  obtain ⟨W0, hW0⟩ : ∃ W0, W0 = (w.alloc (.cells #[.string ⟨#[]⟩, .int .i64 0, .int .i64 0, .slice none 0 0, .int .i64 0, .int .i64 0] 52)).alloc (.cells #[.string st, .int .i64 7, .int .i64 3, .slice none 0 0, .int .i64 0, .int .i64 0] 52) := ⟨_, rfl⟩
  have b0 : Below w.heap.size w W0 := by rw [hW0]; exact ((Below.refl _ w).alloc (Nat.le_refl _) _).alloc (by simp) _
  have s0 : W0.heap.size = w.heap.size + 1 + 1 := by rw [hW0]; simp
  have M0 : ManAt W0 (w.heap.size + 1) st (.slice none 0 0) 0 0 := by
    rw [hW0, show w.heap.size + 1 = (w.alloc (.cells #[.string ⟨#[]⟩, .int .i64 0, .int .i64 0, .slice none 0 0, .int .i64 0, .int .i64 0] 52)).heap.size by simp]
    exact ⟨by simp, by simp, by simp, by simp, by simp, by simp, fun i hi => by
      match i, hi with
      | 3, _ => simp
      | 4, _ => simp
      | 5, _ => simp⟩
  have rW : Hid (W0.cell? ⟨w.heap.size, 0, none⟩ = some (.string ⟨#[]⟩) ∧ W0.cell? ⟨w.heap.size, 1, none⟩ = some (.int .i64 0) ∧ W0.cell? ⟨w.heap.size, 2, none⟩ = some (.int .i64 0) ∧ W0.cell? ⟨w.heap.size, 3, none⟩ = some (.slice none 0 0) ∧ W0.cell? ⟨w.heap.size, 4, none⟩ = some (.int .i64 0) ∧ W0.cell? ⟨w.heap.size, 5, none⟩ = some (.int .i64 0) ∧ ∀ i, i < 6 → W0.frozen? ⟨w.heap.size, i, none⟩ = false) := by
    have q : Below (w.heap.size + 1) (w.alloc (.cells #[.string ⟨#[]⟩, .int .i64 0, .int .i64 0, .slice none 0 0, .int .i64 0, .int .i64 0] 52)) W0 := by rw [hW0]; exact (Below.refl _ _).alloc (by simp) _
    refine ⟨by rw [q.cell (by show w.heap.size < _; omega)]; simp, by rw [q.cell (by show w.heap.size < _; omega)]; simp, by rw [q.cell (by show w.heap.size < _; omega)]; simp, by rw [q.cell (by show w.heap.size < _; omega)]; simp, by rw [q.cell (by show w.heap.size < _; omega)]; simp, by rw [q.cell (by show w.heap.size < _; omega)]; simp, fun i hi => ?_⟩
    rw [q.frozen (by show w.heap.size < _; omega)]
    match i, hi with
    | 0, _ => simp
    | 1, _ => simp
    | 2, _ => simp
    | 3, _ => simp
    | 4, _ => simp
    | 5, _ => simp
  have LS := hide (fun w' => letters_any st w' (by omega))
  have LN := hide (fun (t : ByteArray) (ht : t.size ≤ 1048576) w' => letters_any t w' (by omega))
  have HL : Hid (∀ w', KbX (fun i => i = w.heap.size + 1) W0 w' → 0 < fs.length → LiesC b o w' fs ∧ b < w'.heap.size) := fun w' hk z => by
    have hbw := hb z
    have hb0 : b < W0.heap.size := by omega
    refine ⟨fun i hi => ?_, Nat.lt_of_lt_of_le hb0 hk.size⟩
    rw [hk.cell hb0 (by omega), hk.cell hb0 (by omega), b0.cell (by exact hbw), b0.cell (by exact hbw)]
    exact hl i hi
  have HAO := hide hao
  have HNM := hide hnm
  have MM := hide M0
  have I0 : Hid (okUp st fs 0 = (lettersB st && decide (fs.length ≤ 1025))) := by show _ = _; unfold okUp; simp
  have hdl : decide (fs.length ≤ 1025) = decide ((fs.length : Int) ≤ 1025) := by rw [decide_eq_decide]; omega
  rw [hdl] at I0
  clear hdl hl hao hb hnm M0
  generalize lettersB st = L0 at *
  go_enter Tryz.func24, Tryz.ntmps24
  go_upto_region 3 with fail
  rw [← hW0]
  go_cut [9] (fun ok wx => ok = .bool (okUp st fs 0) ∧ W0 = wx)
  case first =>
    cases L0
    all_goals
      go_wp2_with (go_at_call 32; refine Calls.mono (LS.out _) ?_; rintro e w' ⟨rfl, rfl⟩)
      go_meet
      case rel => exact ⟨by rw [I0.out]; rfl, hW0⟩
  case rest =>
    obtain ⟨rfl, rfl⟩ := hcut
    go_wp2_with fail
    go_loopw [8, 9, 10] (fun all ok i wr => ∃ (k : Nat) (v : Value), k ≤ fs.length ∧ i = .int .i64 k ∧ all = .string (strOf (catC (fs.take k))) ∧ ok = .bool (okUp st fs k) ∧ Hid (ManAt wr (w.heap.size + 1) st v (totS ((fs.take k).map rowC) : Int) 0 ∧ wr.ownsRow W0.heap.size 109 4 v k (rcs ((fs.take k).map rowC)) ∧ KbX (fun i => i = w.heap.size + 1) W0 wr)) (fun _ _ i _ => fs.length - (intOf i).toNat)
    case atStart => exact ⟨0, _, Nat.zero_le _, rfl, rfl, rfl, MM.out, World.ownsRow_nil _ _ _ _, KbX.refl _ _⟩
    case round =>
      obtain ⟨k, v, hk, rfl, rfl, rfl, H⟩ := hrel
      by_cases hlt : k < fs.length
      · have hlt' : (k : Int) < (fs.length : Int) := by omega
        obtain rfl := HAO.out (by omega)
        obtain ⟨hLC, hbw⟩ := HL.out wr H.out.2.2 (by omega)
        obtain ⟨d1, d2⟩ := hLC k hlt
        have hnmk := HNM.out fs[k] (List.getElem_mem hlt)
        obtain ⟨pn, hpn⟩ : ∃ pn, pn = (fs.getD (k - 1) cz).1 := ⟨_, rfl⟩
        have hp1 : wr.cell? ⟨b, o + (k - 1) * 2, none⟩ = some (.string pn) := by
          have := (hLC (k - 1) (by omega)).1
          rw [this, hpn, List.getD_eq_getElem?_getD, List.getElem?_eq_getElem (by omega)]; rfl
        have hgk : fs.getD k cz = fs[k] := by rw [List.getD_eq_getElem?_getD, List.getElem?_eq_getElem hlt]; rfl
        have OKS : Hid (okUp st fs (k + 1) = (okUp st fs k && (lettersB fs[k].1 && (decide (k = 0) || gtS fs[k].1 pn)))) := by show _ = _; rw [okUp_succ, okAt, hgk, hpn]
        have CS := hide (catC_snoc fs k hlt)
        have hcl := catC_le fs (k + 1)
        have hcl2 := congrArg List.length CS.out
        rw [List.length_append, size_data] at hcl2
        have LK := hide (LN.out fs[k].1 hnmk)
        have RS : Hid ((fs.take (k + 1)).map rowC = (fs.take k).map rowC ++ [rowC fs[k]]) := by show _ = _; rw [List.take_succ_eq_append_getElem hlt, List.map_append]; rfl
        clear hLC hgk hpn
        generalize fs[k] = c at *
        obtain ⟨nm, dt⟩ := c
        dsimp only at d1 d2 hnmk LK OKS CS hcl2 RS
        generalize okUp st fs k = OK at *
        generalize lettersB nm = LB at *
        have hGB : gtS nm pn = (!Op.bytesLess nm.toList pn.toList && !(nm.toList == pn.toList)) := rfl
        generalize gtS nm pn = GB at *
        obtain ⟨m0, m1, m2, m3, m4, m5, mf⟩ := H.out.1
        go_upto_region 8 with fail
        obtain ⟨W1, hW1⟩ : ∃ W1, W1 = wr.alloc (.cells #[.string nm, .string dt] 58) := ⟨_, rfl⟩
        have b1 : Below wr.heap.size wr W1 := by rw [hW1]; exact (Below.refl _ _).alloc (Nat.le_refl _) _
        have s1 : W1.heap.size = wr.heap.size + 1 := by rw [hW1]; simp
        have g0 : W1.cell? ⟨wr.heap.size, 0, none⟩ = some (.string nm) := by rw [hW1]; simp
        have g1 : W1.cell? ⟨wr.heap.size, 1, none⟩ = some (.string dt) := by rw [hW1]; simp
        have gp : W1.cell? ⟨b, o + (k - 1) * 2, none⟩ = some (.string pn) := by rw [b1.cell (by exact hbw)]; exact hp1
        rw [← hW1]
        clear hW1
        have SC : Hid (∀ x, Below W1.drew.heap.size W1.drew x → x.cell? ⟨wr.heap.size, 0, none⟩ = some (.string nm) ∧ x.cell? ⟨b, o + (k - 1) * 2, none⟩ = some (.string pn)) := fun x hx => ⟨by rw [hx.cell (by show wr.heap.size < W1.heap.size; omega)]; exact g0, by rw [hx.cell (by show b < W1.heap.size; omega)]; exact gp⟩
        have hk0' : (0 : Nat) = 0 := rfl
        go_cut [9] (fun ok wx => ok = .bool (okUp st fs (k + 1)) ∧ W1.drew = wx)
        case first =>
          by_cases hOK : OK = false
          · subst hOK
            have EV : Hid (okUp st fs (k + 1) = false) := by show _ = _; rw [OKS.out]; rfl
            refine wp_region_held_drew (S := fun x => x.cell? ⟨wr.heap.size, 0, none⟩ = some (.string nm) ∧ x.cell? ⟨b, o + (k - 1) * 2, none⟩ = some (.string pn)) (by kernel_rfl) (SC.out _ (Below.refl _ _)) (fun hHeld => ?_)
            refine wpAnyH_take (i := 0) (v := (.bool false)) rfl (by kernel_rfl) (by kernel_rfl) (by kernel_rfl) (fun _ _ _ h => h) (Or.inl ⟨by rfl, ?_⟩) (by assumption) ?_
            · intro w' hSw
              (try dsimp only at hSw)
              go_simp <;> first | exact i64_in (by omega) (by omega) | exact u32_in (by omega) (by omega) | exact u32_add _ _ | (rw [Int.tmod_eq_emod_of_nonneg (by omega)]; omega) | (rw [Int.tdiv_eq_ediv_of_nonneg (by omega)]; omega) | omega
            (try simp only [Act.put, List.setIfInBounds_toArray, List.set_cons_zero, List.set_cons_succ])
            refine wpAnyH_take (i := 1) (v := (.bool false)) rfl (by kernel_rfl) (by kernel_rfl) (by kernel_rfl) (fun _ _ _ h => h) (Or.inl ⟨by rfl, ?_⟩) (by assumption) ?_
            · intro w' hSw
              (try dsimp only at hSw)
              go_simp <;> first | exact i64_in (by omega) (by omega) | exact u32_in (by omega) (by omega) | exact u32_add _ _ | (rw [Int.tmod_eq_emod_of_nonneg (by omega)]; omega) | (rw [Int.tdiv_eq_ediv_of_nonneg (by omega)]; omega) | omega
            (try simp only [Act.put, List.setIfInBounds_toArray, List.set_cons_zero, List.set_cons_succ])
            refine wpAnyH_take (i := 2) (v := undef) rfl (by kernel_rfl) (by kernel_rfl) (by kernel_rfl) (fun _ _ _ h => h) (Or.inr ⟨by kernel_rfl, rfl⟩) (by assumption) ?_
            (try simp only [Act.put, List.setIfInBounds_toArray, List.set_cons_zero, List.set_cons_succ])
            refine wpAnyH_take (i := 3) (v := undef) rfl (by kernel_rfl) (by kernel_rfl) (by kernel_rfl) (fun _ _ _ h => h) (Or.inr ⟨by kernel_rfl, rfl⟩) (by assumption) ?_
            (try simp only [Act.put, List.setIfInBounds_toArray, List.set_cons_zero, List.set_cons_succ])
            refine wpAnyH_take (i := 4) (v := undef) rfl (by kernel_rfl) (by kernel_rfl) (by kernel_rfl) (fun _ _ _ h => h) (Or.inr ⟨by kernel_rfl, rfl⟩) (by assumption) ?_
            (try simp only [Act.put, List.setIfInBounds_toArray, List.set_cons_zero, List.set_cons_succ])
            refine wpAnyH_take (i := 5) (v := (.bool false)) rfl (by kernel_rfl) (by kernel_rfl) (by kernel_rfl) (fun _ _ _ h => h) (Or.inl ⟨by rfl, ?_⟩) (by assumption) ?_
            · intro w' hSw
              (try dsimp only at hSw)
              go_simp <;> first | exact i64_in (by omega) (by omega) | exact u32_in (by omega) (by omega) | exact u32_add _ _ | (rw [Int.tmod_eq_emod_of_nonneg (by omega)]; omega) | (rw [Int.tdiv_eq_ediv_of_nonneg (by omega)]; omega) | omega
            (try simp only [Act.put, List.setIfInBounds_toArray, List.set_cons_zero, List.set_cons_succ])
            refine wpAnyH_take (i := 6) (v := (.bool false)) rfl (by kernel_rfl) (by kernel_rfl) (by kernel_rfl) (fun _ _ _ h => h) (Or.inl ⟨by rfl, ?_⟩) (by assumption) ?_
            · intro w' hSw
              (try dsimp only at hSw)
              go_simp <;> first | exact i64_in (by omega) (by omega) | exact u32_in (by omega) (by omega) | exact u32_add _ _ | (rw [Int.tmod_eq_emod_of_nonneg (by omega)]; omega) | (rw [Int.tdiv_eq_ediv_of_nonneg (by omega)]; omega) | omega
            (try simp only [Act.put, List.setIfInBounds_toArray, List.set_cons_zero, List.set_cons_succ])
            refine wpAnyH_take (i := 7) (v := undef) rfl (by kernel_rfl) (by kernel_rfl) (by kernel_rfl) (fun _ _ _ h => h) (Or.inr ⟨by kernel_rfl, rfl⟩) (by assumption) ?_
            (try simp only [Act.put, List.setIfInBounds_toArray, List.set_cons_zero, List.set_cons_succ])
            refine wpAnyH_take (i := 8) (v := undef) rfl (by kernel_rfl) (by kernel_rfl) (by kernel_rfl) (fun _ _ _ h => h) (Or.inr ⟨by kernel_rfl, rfl⟩) (by assumption) ?_
            (try simp only [Act.put, List.setIfInBounds_toArray, List.set_cons_zero, List.set_cons_succ])
            refine wpAnyH_take (i := 9) (v := undef) rfl (by kernel_rfl) (by kernel_rfl) (by kernel_rfl) (fun _ _ _ h => h) (Or.inr ⟨by kernel_rfl, rfl⟩) (by assumption) ?_
            (try simp only [Act.put, List.setIfInBounds_toArray, List.set_cons_zero, List.set_cons_succ])
            refine wpAnyH_take (i := 10) (v := undef) rfl (by kernel_rfl) (by kernel_rfl) (by kernel_rfl) (fun _ _ _ h => h) (Or.inr ⟨by kernel_rfl, rfl⟩) (by assumption) ?_
            (try simp only [Act.put, List.setIfInBounds_toArray, List.set_cons_zero, List.set_cons_succ])
            refine wpAnyH_take (i := 11) (v := undef) rfl (by kernel_rfl) (by kernel_rfl) (by kernel_rfl) (fun _ _ _ h => h) (Or.inr ⟨by kernel_rfl, rfl⟩) (by assumption) ?_
            (try simp only [Act.put, List.setIfInBounds_toArray, List.set_cons_zero, List.set_cons_succ])
            refine wpAnyH_take (i := 12) (v := undef) rfl (by kernel_rfl) (by kernel_rfl) (by kernel_rfl) (fun _ _ _ h => h) (Or.inr ⟨by kernel_rfl, rfl⟩) (by assumption) ?_
            (try simp only [Act.put, List.setIfInBounds_toArray, List.set_cons_zero, List.set_cons_succ])
            refine wpAnyH_take (i := 13) (v := undef) rfl (by kernel_rfl) (by kernel_rfl) (by kernel_rfl) (fun _ _ _ h => h) (Or.inr ⟨by kernel_rfl, rfl⟩) (by assumption) ?_
            (try simp only [Act.put, List.setIfInBounds_toArray, List.set_cons_zero, List.set_cons_succ])
            refine wpAnyH_take (i := 14) (v := undef) rfl (by kernel_rfl) (by kernel_rfl) (by kernel_rfl) (fun _ _ _ h => h) (Or.inr ⟨by kernel_rfl, rfl⟩) (by assumption) ?_
            (try simp only [Act.put, List.setIfInBounds_toArray, List.set_cons_zero, List.set_cons_succ])
            refine wpAnyH_take (i := 15) (v := undef) rfl (by kernel_rfl) (by kernel_rfl) (by kernel_rfl) (fun _ _ _ h => h) (Or.inr ⟨by kernel_rfl, rfl⟩) (by assumption) ?_
            (try simp only [Act.put, List.setIfInBounds_toArray, List.set_cons_zero, List.set_cons_succ])
            refine wpAnyH_take (i := 16) (v := undef) rfl (by kernel_rfl) (by kernel_rfl) (by kernel_rfl) (fun _ _ _ h => h) (Or.inr ⟨by kernel_rfl, rfl⟩) (by assumption) ?_
            (try simp only [Act.put, List.setIfInBounds_toArray, List.set_cons_zero, List.set_cons_succ])
            refine wpAnyH_take (i := 17) (v := undef) rfl (by kernel_rfl) (by kernel_rfl) (by kernel_rfl) (fun _ _ _ h => h) (Or.inr ⟨by kernel_rfl, rfl⟩) (by assumption) ?_
            (try simp only [Act.put, List.setIfInBounds_toArray, List.set_cons_zero, List.set_cons_succ])
            refine wpAnyH_take (i := 18) (v := undef) rfl (by kernel_rfl) (by kernel_rfl) (by kernel_rfl) (fun _ _ _ h => h) (Or.inr ⟨by kernel_rfl, rfl⟩) (by assumption) ?_
            (try simp only [Act.put, List.setIfInBounds_toArray, List.set_cons_zero, List.set_cons_succ])
            refine wpAnyH_take (i := 19) (v := undef) rfl (by kernel_rfl) (by kernel_rfl) (by kernel_rfl) (fun _ _ _ h => h) (Or.inr ⟨by kernel_rfl, rfl⟩) (by assumption) ?_
            (try simp only [Act.put, List.setIfInBounds_toArray, List.set_cons_zero, List.set_cons_succ])
            refine wpAnyH_take (i := 20) (v := (.bool false)) rfl (by kernel_rfl) (by kernel_rfl) (by kernel_rfl) (fun _ _ _ h => h) (Or.inl ⟨by rfl, ?_⟩) (by assumption) ?_
            · intro w' hSw
              (try dsimp only at hSw)
              go_simp <;> first | exact i64_in (by omega) (by omega) | exact u32_in (by omega) (by omega) | exact u32_add _ _ | (rw [Int.tmod_eq_emod_of_nonneg (by omega)]; omega) | (rw [Int.tdiv_eq_ediv_of_nonneg (by omega)]; omega) | omega
            (try simp only [Act.put, List.setIfInBounds_toArray, List.set_cons_zero, List.set_cons_succ])
            refine wpAnyH_take (i := 21) (v := (.bool false)) rfl (by kernel_rfl) (by kernel_rfl) (by kernel_rfl) (fun _ _ _ h => h) (Or.inl ⟨by rfl, ?_⟩) (by assumption) ?_
            · intro w' hSw
              (try dsimp only at hSw)
              go_simp <;> first | exact i64_in (by omega) (by omega) | exact u32_in (by omega) (by omega) | exact u32_add _ _ | (rw [Int.tmod_eq_emod_of_nonneg (by omega)]; omega) | (rw [Int.tdiv_eq_ediv_of_nonneg (by omega)]; omega) | omega
            (try simp only [Act.put, List.setIfInBounds_toArray, List.set_cons_zero, List.set_cons_succ])
            refine wpAnyH_done (by kernel_rfl) ?_ _
            clear hHeld
            go_simp
            go_wp2_with fail
            go_meet
            case rel => exact ⟨by rw [EV.out], rfl⟩
          obtain rfl : OK = true := by cases OK; exact absurd rfl hOK; rfl
          clear hOK
          by_cases hLB : LB = false
          · subst hLB
            have EV : Hid (okUp st fs (k + 1) = false) := by show _ = _; rw [OKS.out]; rfl
            refine wp_region_held_drew (S := fun x => x.cell? ⟨wr.heap.size, 0, none⟩ = some (.string nm) ∧ x.cell? ⟨b, o + (k - 1) * 2, none⟩ = some (.string pn)) (by kernel_rfl) (SC.out _ (Below.refl _ _)) (fun hHeld => ?_)
            refine wpAnyH_take (i := 0) (v := (.bool true)) rfl (by kernel_rfl) (by kernel_rfl) (by kernel_rfl) (fun _ _ _ h => h) (Or.inl ⟨by rfl, ?_⟩) (by assumption) ?_
            · intro w' hSw
              (try dsimp only at hSw)
              go_simp <;> first | exact i64_in (by omega) (by omega) | exact u32_in (by omega) (by omega) | exact u32_add _ _ | (rw [Int.tmod_eq_emod_of_nonneg (by omega)]; omega) | (rw [Int.tdiv_eq_ediv_of_nonneg (by omega)]; omega) | omega
            (try simp only [Act.put, List.setIfInBounds_toArray, List.set_cons_zero, List.set_cons_succ])
            refine wpAnyH_take (i := 1) (v := (.bool true)) rfl (by kernel_rfl) (by kernel_rfl) (by kernel_rfl) (fun _ _ _ h => h) (Or.inl ⟨by rfl, ?_⟩) (by assumption) ?_
            · intro w' hSw
              (try dsimp only at hSw)
              go_simp <;> first | exact i64_in (by omega) (by omega) | exact u32_in (by omega) (by omega) | exact u32_add _ _ | (rw [Int.tmod_eq_emod_of_nonneg (by omega)]; omega) | (rw [Int.tdiv_eq_ediv_of_nonneg (by omega)]; omega) | omega
            (try simp only [Act.put, List.setIfInBounds_toArray, List.set_cons_zero, List.set_cons_succ])
            refine wpAnyH_take (i := 2) (v := (.pointer (some ⟨wr.heap.size, 0, none⟩))) rfl (by kernel_rfl) (by kernel_rfl) (by kernel_rfl) (fun _ _ _ h => h) (Or.inl ⟨by kernel_rfl, ?_⟩) (by assumption) ?_
            · intro w' hSw
              (try dsimp only at hSw)
              go_simp
            (try simp only [Act.put, List.setIfInBounds_toArray, List.set_cons_zero, List.set_cons_succ])
            refine wpAnyH_take (i := 3) (v := (.string nm)) rfl (by kernel_rfl) (by kernel_rfl) (by kernel_rfl) (fun _ _ _ h => h) (Or.inl ⟨by kernel_rfl, ?_⟩) (by assumption) ?_
            · intro w' hSw
              (try dsimp only at hSw)
              (go_simp <;> first | exact hSw.1 | omega)
            (try simp only [Act.put, List.setIfInBounds_toArray, List.set_cons_zero, List.set_cons_succ])
            refine wpAnyH_ready (rs := [4]) (by kernel_rfl) (by simp) ?_
            refine AllReadyH.cons rfl (fun K hK => ?_) AllReadyH.nil
            go_simp
            refine Calls.mono (LK.out _) ?_
            rintro e w' ⟨rfl, rfl⟩
            refine hK.out _ _ (SC.out _ (Below.refl _ _)) (fun hHeld => ?_)
            clear hK
            (try simp only [Act.put, List.setIfInBounds_toArray, List.set_cons_zero, List.set_cons_succ])
            refine wpAnyH_take (i := 5) (v := (.bool false)) rfl (by kernel_rfl) (by kernel_rfl) (by kernel_rfl) (fun _ _ _ h => h) (Or.inl ⟨by rfl, ?_⟩) (by assumption) ?_
            · intro w' hSw
              (try dsimp only at hSw)
              go_simp <;> first | exact i64_in (by omega) (by omega) | exact u32_in (by omega) (by omega) | exact u32_add _ _ | (rw [Int.tmod_eq_emod_of_nonneg (by omega)]; omega) | (rw [Int.tdiv_eq_ediv_of_nonneg (by omega)]; omega) | omega
            (try simp only [Act.put, List.setIfInBounds_toArray, List.set_cons_zero, List.set_cons_succ])
            refine wpAnyH_take (i := 6) (v := (.bool false)) rfl (by kernel_rfl) (by kernel_rfl) (by kernel_rfl) (fun _ _ _ h => h) (Or.inl ⟨by rfl, ?_⟩) (by assumption) ?_
            · intro w' hSw
              (try dsimp only at hSw)
              go_simp <;> first | exact i64_in (by omega) (by omega) | exact u32_in (by omega) (by omega) | exact u32_add _ _ | (rw [Int.tmod_eq_emod_of_nonneg (by omega)]; omega) | (rw [Int.tdiv_eq_ediv_of_nonneg (by omega)]; omega) | omega
            (try simp only [Act.put, List.setIfInBounds_toArray, List.set_cons_zero, List.set_cons_succ])
            refine wpAnyH_take (i := 7) (v := undef) rfl (by kernel_rfl) (by kernel_rfl) (by kernel_rfl) (fun _ _ _ h => h) (Or.inr ⟨by kernel_rfl, rfl⟩) (by assumption) ?_
            (try simp only [Act.put, List.setIfInBounds_toArray, List.set_cons_zero, List.set_cons_succ])
            refine wpAnyH_take (i := 8) (v := undef) rfl (by kernel_rfl) (by kernel_rfl) (by kernel_rfl) (fun _ _ _ h => h) (Or.inr ⟨by kernel_rfl, rfl⟩) (by assumption) ?_
            (try simp only [Act.put, List.setIfInBounds_toArray, List.set_cons_zero, List.set_cons_succ])
            refine wpAnyH_take (i := 9) (v := undef) rfl (by kernel_rfl) (by kernel_rfl) (by kernel_rfl) (fun _ _ _ h => h) (Or.inr ⟨by kernel_rfl, rfl⟩) (by assumption) ?_
            (try simp only [Act.put, List.setIfInBounds_toArray, List.set_cons_zero, List.set_cons_succ])
            refine wpAnyH_take (i := 10) (v := undef) rfl (by kernel_rfl) (by kernel_rfl) (by kernel_rfl) (fun _ _ _ h => h) (Or.inr ⟨by kernel_rfl, rfl⟩) (by assumption) ?_
            (try simp only [Act.put, List.setIfInBounds_toArray, List.set_cons_zero, List.set_cons_succ])
            refine wpAnyH_take (i := 11) (v := undef) rfl (by kernel_rfl) (by kernel_rfl) (by kernel_rfl) (fun _ _ _ h => h) (Or.inr ⟨by kernel_rfl, rfl⟩) (by assumption) ?_
            (try simp only [Act.put, List.setIfInBounds_toArray, List.set_cons_zero, List.set_cons_succ])
            refine wpAnyH_take (i := 12) (v := undef) rfl (by kernel_rfl) (by kernel_rfl) (by kernel_rfl) (fun _ _ _ h => h) (Or.inr ⟨by kernel_rfl, rfl⟩) (by assumption) ?_
            (try simp only [Act.put, List.setIfInBounds_toArray, List.set_cons_zero, List.set_cons_succ])
            refine wpAnyH_take (i := 13) (v := undef) rfl (by kernel_rfl) (by kernel_rfl) (by kernel_rfl) (fun _ _ _ h => h) (Or.inr ⟨by kernel_rfl, rfl⟩) (by assumption) ?_
            (try simp only [Act.put, List.setIfInBounds_toArray, List.set_cons_zero, List.set_cons_succ])
            refine wpAnyH_take (i := 14) (v := undef) rfl (by kernel_rfl) (by kernel_rfl) (by kernel_rfl) (fun _ _ _ h => h) (Or.inr ⟨by kernel_rfl, rfl⟩) (by assumption) ?_
            (try simp only [Act.put, List.setIfInBounds_toArray, List.set_cons_zero, List.set_cons_succ])
            refine wpAnyH_take (i := 15) (v := undef) rfl (by kernel_rfl) (by kernel_rfl) (by kernel_rfl) (fun _ _ _ h => h) (Or.inr ⟨by kernel_rfl, rfl⟩) (by assumption) ?_
            (try simp only [Act.put, List.setIfInBounds_toArray, List.set_cons_zero, List.set_cons_succ])
            refine wpAnyH_take (i := 16) (v := undef) rfl (by kernel_rfl) (by kernel_rfl) (by kernel_rfl) (fun _ _ _ h => h) (Or.inr ⟨by kernel_rfl, rfl⟩) (by assumption) ?_
            (try simp only [Act.put, List.setIfInBounds_toArray, List.set_cons_zero, List.set_cons_succ])
            refine wpAnyH_take (i := 17) (v := undef) rfl (by kernel_rfl) (by kernel_rfl) (by kernel_rfl) (fun _ _ _ h => h) (Or.inr ⟨by kernel_rfl, rfl⟩) (by assumption) ?_
            (try simp only [Act.put, List.setIfInBounds_toArray, List.set_cons_zero, List.set_cons_succ])
            refine wpAnyH_take (i := 18) (v := undef) rfl (by kernel_rfl) (by kernel_rfl) (by kernel_rfl) (fun _ _ _ h => h) (Or.inr ⟨by kernel_rfl, rfl⟩) (by assumption) ?_
            (try simp only [Act.put, List.setIfInBounds_toArray, List.set_cons_zero, List.set_cons_succ])
            refine wpAnyH_take (i := 19) (v := undef) rfl (by kernel_rfl) (by kernel_rfl) (by kernel_rfl) (fun _ _ _ h => h) (Or.inr ⟨by kernel_rfl, rfl⟩) (by assumption) ?_
            (try simp only [Act.put, List.setIfInBounds_toArray, List.set_cons_zero, List.set_cons_succ])
            refine wpAnyH_take (i := 20) (v := (.bool false)) rfl (by kernel_rfl) (by kernel_rfl) (by kernel_rfl) (fun _ _ _ h => h) (Or.inl ⟨by rfl, ?_⟩) (by assumption) ?_
            · intro w' hSw
              (try dsimp only at hSw)
              go_simp <;> first | exact i64_in (by omega) (by omega) | exact u32_in (by omega) (by omega) | exact u32_add _ _ | (rw [Int.tmod_eq_emod_of_nonneg (by omega)]; omega) | (rw [Int.tdiv_eq_ediv_of_nonneg (by omega)]; omega) | omega
            (try simp only [Act.put, List.setIfInBounds_toArray, List.set_cons_zero, List.set_cons_succ])
            refine wpAnyH_take (i := 21) (v := (.bool false)) rfl (by kernel_rfl) (by kernel_rfl) (by kernel_rfl) (fun _ _ _ h => h) (Or.inl ⟨by rfl, ?_⟩) (by assumption) ?_
            · intro w' hSw
              (try dsimp only at hSw)
              go_simp <;> first | exact i64_in (by omega) (by omega) | exact u32_in (by omega) (by omega) | exact u32_add _ _ | (rw [Int.tmod_eq_emod_of_nonneg (by omega)]; omega) | (rw [Int.tdiv_eq_ediv_of_nonneg (by omega)]; omega) | omega
            (try simp only [Act.put, List.setIfInBounds_toArray, List.set_cons_zero, List.set_cons_succ])
            refine wpAnyH_done (by kernel_rfl) ?_ _
            clear hHeld
            go_simp
            go_wp2_with fail
            go_meet
            case rel => exact ⟨by rw [EV.out], rfl⟩
          obtain rfl : LB = true := by cases LB; exact absurd rfl hLB; rfl
          clear hLB
          by_cases hk0 : k = 0
          · have EV : Hid (okUp st fs (k + 1) = true) := by show _ = _; rw [OKS.out, decide_eq_true hk0]; rfl
            have HK0 := hide hk0
            clear hk0
            refine wp_region_held_drew (S := fun x => x.cell? ⟨wr.heap.size, 0, none⟩ = some (.string nm) ∧ x.cell? ⟨b, o + (k - 1) * 2, none⟩ = some (.string pn)) (by kernel_rfl) (SC.out _ (Below.refl _ _)) (fun hHeld => ?_)
            refine wpAnyH_take (i := 0) (v := (.bool true)) rfl (by kernel_rfl) (by kernel_rfl) (by kernel_rfl) (fun _ _ _ h => h) (Or.inl ⟨by rfl, ?_⟩) (by assumption) ?_
            · intro w' hSw
              (try dsimp only at hSw)
              go_simp <;> first | exact i64_in (by omega) (by omega) | exact u32_in (by omega) (by omega) | exact u32_add _ _ | (rw [Int.tmod_eq_emod_of_nonneg (by omega)]; omega) | (rw [Int.tdiv_eq_ediv_of_nonneg (by omega)]; omega) | omega
            (try simp only [Act.put, List.setIfInBounds_toArray, List.set_cons_zero, List.set_cons_succ])
            refine wpAnyH_take (i := 1) (v := (.bool true)) rfl (by kernel_rfl) (by kernel_rfl) (by kernel_rfl) (fun _ _ _ h => h) (Or.inl ⟨by rfl, ?_⟩) (by assumption) ?_
            · intro w' hSw
              (try dsimp only at hSw)
              go_simp <;> first | exact i64_in (by omega) (by omega) | exact u32_in (by omega) (by omega) | exact u32_add _ _ | (rw [Int.tmod_eq_emod_of_nonneg (by omega)]; omega) | (rw [Int.tdiv_eq_ediv_of_nonneg (by omega)]; omega) | omega
            (try simp only [Act.put, List.setIfInBounds_toArray, List.set_cons_zero, List.set_cons_succ])
            refine wpAnyH_take (i := 2) (v := (.pointer (some ⟨wr.heap.size, 0, none⟩))) rfl (by kernel_rfl) (by kernel_rfl) (by kernel_rfl) (fun _ _ _ h => h) (Or.inl ⟨by kernel_rfl, ?_⟩) (by assumption) ?_
            · intro w' hSw
              (try dsimp only at hSw)
              go_simp
            (try simp only [Act.put, List.setIfInBounds_toArray, List.set_cons_zero, List.set_cons_succ])
            refine wpAnyH_take (i := 3) (v := (.string nm)) rfl (by kernel_rfl) (by kernel_rfl) (by kernel_rfl) (fun _ _ _ h => h) (Or.inl ⟨by kernel_rfl, ?_⟩) (by assumption) ?_
            · intro w' hSw
              (try dsimp only at hSw)
              (go_simp <;> first | exact hSw.1 | omega)
            (try simp only [Act.put, List.setIfInBounds_toArray, List.set_cons_zero, List.set_cons_succ])
            refine wpAnyH_ready (rs := [4]) (by kernel_rfl) (by simp) ?_
            refine AllReadyH.cons rfl (fun K hK => ?_) AllReadyH.nil
            go_simp
            refine Calls.mono (LK.out _) ?_
            rintro e w' ⟨rfl, rfl⟩
            refine hK.out _ _ (SC.out _ (Below.refl _ _)) (fun hHeld => ?_)
            clear hK
            (try simp only [Act.put, List.setIfInBounds_toArray, List.set_cons_zero, List.set_cons_succ])
            refine wpAnyH_take (i := 5) (v := (.bool true)) rfl (by kernel_rfl) (by kernel_rfl) (by kernel_rfl) (fun _ _ _ h => h) (Or.inl ⟨by rfl, ?_⟩) (by assumption) ?_
            · intro w' hSw
              (try dsimp only at hSw)
              go_simp <;> first | exact i64_in (by omega) (by omega) | exact u32_in (by omega) (by omega) | exact u32_add _ _ | (rw [Int.tmod_eq_emod_of_nonneg (by omega)]; omega) | (rw [Int.tdiv_eq_ediv_of_nonneg (by omega)]; omega) | omega
            (try simp only [Act.put, List.setIfInBounds_toArray, List.set_cons_zero, List.set_cons_succ])
            refine wpAnyH_take (i := 6) (v := (.bool true)) rfl (by kernel_rfl) (by kernel_rfl) (by kernel_rfl) (fun _ _ _ h => h) (Or.inl ⟨by rfl, ?_⟩) (by assumption) ?_
            · intro w' hSw
              (try dsimp only at hSw)
              go_simp <;> first | exact i64_in (by omega) (by omega) | exact u32_in (by omega) (by omega) | exact u32_add _ _ | (rw [Int.tmod_eq_emod_of_nonneg (by omega)]; omega) | (rw [Int.tdiv_eq_ediv_of_nonneg (by omega)]; omega) | omega
            (try simp only [Act.put, List.setIfInBounds_toArray, List.set_cons_zero, List.set_cons_succ])
            refine wpAnyH_take (i := 7) (v := (.int .i64 (k : Int))) rfl (by kernel_rfl) (by kernel_rfl) (by kernel_rfl) (fun _ _ _ h => h) (Or.inl ⟨by kernel_rfl, ?_⟩) (by assumption) ?_
            · intro w' hSw
              (try dsimp only at hSw)
              go_simp
            (try simp only [Act.put, List.setIfInBounds_toArray, List.set_cons_zero, List.set_cons_succ])
            refine wpAnyH_take (i := 8) (v := (.bool true)) rfl (by kernel_rfl) (by kernel_rfl) (by kernel_rfl) (fun _ _ _ h => h) (Or.inl ⟨by kernel_rfl, ?_⟩) (by assumption) ?_
            · intro w' hSw
              (try dsimp only at hSw)
              (have hk0 := HK0.out; go_simp <;> first | omega | exact hk0)
            (try simp only [Act.put, List.setIfInBounds_toArray, List.set_cons_zero, List.set_cons_succ])
            refine wpAnyH_take (i := 9) (v := (.bool true)) rfl (by kernel_rfl) (by kernel_rfl) (by kernel_rfl) (fun _ _ _ h => h) (Or.inl ⟨by kernel_rfl, ?_⟩) (by assumption) ?_
            · intro w' hSw
              (try dsimp only at hSw)
              go_simp
            (try simp only [Act.put, List.setIfInBounds_toArray, List.set_cons_zero, List.set_cons_succ])
            refine wpAnyH_take (i := 10) (v := undef) rfl (by kernel_rfl) (by kernel_rfl) (by kernel_rfl) (fun _ _ _ h => h) (Or.inr ⟨by kernel_rfl, rfl⟩) (by assumption) ?_
            (try simp only [Act.put, List.setIfInBounds_toArray, List.set_cons_zero, List.set_cons_succ])
            refine wpAnyH_take (i := 11) (v := undef) rfl (by kernel_rfl) (by kernel_rfl) (by kernel_rfl) (fun _ _ _ h => h) (Or.inr ⟨by kernel_rfl, rfl⟩) (by assumption) ?_
            (try simp only [Act.put, List.setIfInBounds_toArray, List.set_cons_zero, List.set_cons_succ])
            refine wpAnyH_take (i := 12) (v := undef) rfl (by kernel_rfl) (by kernel_rfl) (by kernel_rfl) (fun _ _ _ h => h) (Or.inr ⟨by kernel_rfl, rfl⟩) (by assumption) ?_
            (try simp only [Act.put, List.setIfInBounds_toArray, List.set_cons_zero, List.set_cons_succ])
            refine wpAnyH_take (i := 13) (v := undef) rfl (by kernel_rfl) (by kernel_rfl) (by kernel_rfl) (fun _ _ _ h => h) (Or.inr ⟨by kernel_rfl, rfl⟩) (by assumption) ?_
            (try simp only [Act.put, List.setIfInBounds_toArray, List.set_cons_zero, List.set_cons_succ])
            refine wpAnyH_take (i := 14) (v := undef) rfl (by kernel_rfl) (by kernel_rfl) (by kernel_rfl) (fun _ _ _ h => h) (Or.inr ⟨by kernel_rfl, rfl⟩) (by assumption) ?_
            (try simp only [Act.put, List.setIfInBounds_toArray, List.set_cons_zero, List.set_cons_succ])
            refine wpAnyH_take (i := 15) (v := undef) rfl (by kernel_rfl) (by kernel_rfl) (by kernel_rfl) (fun _ _ _ h => h) (Or.inr ⟨by kernel_rfl, rfl⟩) (by assumption) ?_
            (try simp only [Act.put, List.setIfInBounds_toArray, List.set_cons_zero, List.set_cons_succ])
            refine wpAnyH_take (i := 16) (v := undef) rfl (by kernel_rfl) (by kernel_rfl) (by kernel_rfl) (fun _ _ _ h => h) (Or.inr ⟨by kernel_rfl, rfl⟩) (by assumption) ?_
            (try simp only [Act.put, List.setIfInBounds_toArray, List.set_cons_zero, List.set_cons_succ])
            refine wpAnyH_take (i := 17) (v := undef) rfl (by kernel_rfl) (by kernel_rfl) (by kernel_rfl) (fun _ _ _ h => h) (Or.inr ⟨by kernel_rfl, rfl⟩) (by assumption) ?_
            (try simp only [Act.put, List.setIfInBounds_toArray, List.set_cons_zero, List.set_cons_succ])
            refine wpAnyH_take (i := 18) (v := undef) rfl (by kernel_rfl) (by kernel_rfl) (by kernel_rfl) (fun _ _ _ h => h) (Or.inr ⟨by kernel_rfl, rfl⟩) (by assumption) ?_
            (try simp only [Act.put, List.setIfInBounds_toArray, List.set_cons_zero, List.set_cons_succ])
            refine wpAnyH_take (i := 19) (v := (.bool true)) rfl (by kernel_rfl) (by kernel_rfl) (by kernel_rfl) (fun _ _ _ h => h) (Or.inl ⟨by kernel_rfl, ?_⟩) (by assumption) ?_
            · intro w' hSw
              (try dsimp only at hSw)
              go_simp
            (try simp only [Act.put, List.setIfInBounds_toArray, List.set_cons_zero, List.set_cons_succ])
            refine wpAnyH_take (i := 20) (v := (.bool true)) rfl (by kernel_rfl) (by kernel_rfl) (by kernel_rfl) (fun _ _ _ h => h) (Or.inl ⟨by rfl, ?_⟩) (by assumption) ?_
            · intro w' hSw
              (try dsimp only at hSw)
              go_simp <;> first | exact i64_in (by omega) (by omega) | exact u32_in (by omega) (by omega) | exact u32_add _ _ | (rw [Int.tmod_eq_emod_of_nonneg (by omega)]; omega) | (rw [Int.tdiv_eq_ediv_of_nonneg (by omega)]; omega) | omega
            (try simp only [Act.put, List.setIfInBounds_toArray, List.set_cons_zero, List.set_cons_succ])
            refine wpAnyH_take (i := 21) (v := (.bool true)) rfl (by kernel_rfl) (by kernel_rfl) (by kernel_rfl) (fun _ _ _ h => h) (Or.inl ⟨by rfl, ?_⟩) (by assumption) ?_
            · intro w' hSw
              (try dsimp only at hSw)
              go_simp <;> first | exact i64_in (by omega) (by omega) | exact u32_in (by omega) (by omega) | exact u32_add _ _ | (rw [Int.tmod_eq_emod_of_nonneg (by omega)]; omega) | (rw [Int.tdiv_eq_ediv_of_nonneg (by omega)]; omega) | omega
            (try simp only [Act.put, List.setIfInBounds_toArray, List.set_cons_zero, List.set_cons_succ])
            refine wpAnyH_done (by kernel_rfl) ?_ _
            clear hHeld
            go_simp
            go_wp2_with fail
            go_meet
            case rel => exact ⟨by rw [EV.out], rfl⟩
          · have EV : Hid (okUp st fs (k + 1) = GB) := by show _ = _; rw [OKS.out, decide_eq_false hk0]; rfl
            have hsub : IntKind.i64.wrap ((k : Int) - 1) = ((k - 1 : Nat) : Int) := by rw [IntKind.wrap_i64]; omega
            refine wp_region_held_drew (S := fun x => x.cell? ⟨wr.heap.size, 0, none⟩ = some (.string nm) ∧ x.cell? ⟨b, o + (k - 1) * 2, none⟩ = some (.string pn)) (by kernel_rfl) (SC.out _ (Below.refl _ _)) (fun hHeld => ?_)
            refine wpAnyH_take (i := 0) (v := (.bool true)) rfl (by kernel_rfl) (by kernel_rfl) (by kernel_rfl) (fun _ _ _ h => h) (Or.inl ⟨by rfl, ?_⟩) (by assumption) ?_
            · intro w' hSw
              (try dsimp only at hSw)
              go_simp <;> first | exact i64_in (by omega) (by omega) | exact u32_in (by omega) (by omega) | exact u32_add _ _ | (rw [Int.tmod_eq_emod_of_nonneg (by omega)]; omega) | (rw [Int.tdiv_eq_ediv_of_nonneg (by omega)]; omega) | omega
            (try simp only [Act.put, List.setIfInBounds_toArray, List.set_cons_zero, List.set_cons_succ])
            refine wpAnyH_take (i := 1) (v := (.bool true)) rfl (by kernel_rfl) (by kernel_rfl) (by kernel_rfl) (fun _ _ _ h => h) (Or.inl ⟨by rfl, ?_⟩) (by assumption) ?_
            · intro w' hSw
              (try dsimp only at hSw)
              go_simp <;> first | exact i64_in (by omega) (by omega) | exact u32_in (by omega) (by omega) | exact u32_add _ _ | (rw [Int.tmod_eq_emod_of_nonneg (by omega)]; omega) | (rw [Int.tdiv_eq_ediv_of_nonneg (by omega)]; omega) | omega
            (try simp only [Act.put, List.setIfInBounds_toArray, List.set_cons_zero, List.set_cons_succ])
            refine wpAnyH_take (i := 2) (v := (.pointer (some ⟨wr.heap.size, 0, none⟩))) rfl (by kernel_rfl) (by kernel_rfl) (by kernel_rfl) (fun _ _ _ h => h) (Or.inl ⟨by kernel_rfl, ?_⟩) (by assumption) ?_
            · intro w' hSw
              (try dsimp only at hSw)
              go_simp
            (try simp only [Act.put, List.setIfInBounds_toArray, List.set_cons_zero, List.set_cons_succ])
            refine wpAnyH_take (i := 3) (v := (.string nm)) rfl (by kernel_rfl) (by kernel_rfl) (by kernel_rfl) (fun _ _ _ h => h) (Or.inl ⟨by kernel_rfl, ?_⟩) (by assumption) ?_
            · intro w' hSw
              (try dsimp only at hSw)
              (go_simp <;> first | exact hSw.1 | omega)
            (try simp only [Act.put, List.setIfInBounds_toArray, List.set_cons_zero, List.set_cons_succ])
            refine wpAnyH_ready (rs := [4]) (by kernel_rfl) (by simp) ?_
            refine AllReadyH.cons rfl (fun K hK => ?_) AllReadyH.nil
            go_simp
            refine Calls.mono (LK.out _) ?_
            rintro e w' ⟨rfl, rfl⟩
            refine hK.out _ _ (SC.out _ (Below.refl _ _)) (fun hHeld => ?_)
            clear hK
            (try simp only [Act.put, List.setIfInBounds_toArray, List.set_cons_zero, List.set_cons_succ])
            refine wpAnyH_take (i := 5) (v := (.bool true)) rfl (by kernel_rfl) (by kernel_rfl) (by kernel_rfl) (fun _ _ _ h => h) (Or.inl ⟨by rfl, ?_⟩) (by assumption) ?_
            · intro w' hSw
              (try dsimp only at hSw)
              go_simp <;> first | exact i64_in (by omega) (by omega) | exact u32_in (by omega) (by omega) | exact u32_add _ _ | (rw [Int.tmod_eq_emod_of_nonneg (by omega)]; omega) | (rw [Int.tdiv_eq_ediv_of_nonneg (by omega)]; omega) | omega
            (try simp only [Act.put, List.setIfInBounds_toArray, List.set_cons_zero, List.set_cons_succ])
            refine wpAnyH_take (i := 6) (v := (.bool true)) rfl (by kernel_rfl) (by kernel_rfl) (by kernel_rfl) (fun _ _ _ h => h) (Or.inl ⟨by rfl, ?_⟩) (by assumption) ?_
            · intro w' hSw
              (try dsimp only at hSw)
              go_simp <;> first | exact i64_in (by omega) (by omega) | exact u32_in (by omega) (by omega) | exact u32_add _ _ | (rw [Int.tmod_eq_emod_of_nonneg (by omega)]; omega) | (rw [Int.tdiv_eq_ediv_of_nonneg (by omega)]; omega) | omega
            (try simp only [Act.put, List.setIfInBounds_toArray, List.set_cons_zero, List.set_cons_succ])
            refine wpAnyH_take (i := 7) (v := (.int .i64 (k : Int))) rfl (by kernel_rfl) (by kernel_rfl) (by kernel_rfl) (fun _ _ _ h => h) (Or.inl ⟨by kernel_rfl, ?_⟩) (by assumption) ?_
            · intro w' hSw
              (try dsimp only at hSw)
              go_simp
            (try simp only [Act.put, List.setIfInBounds_toArray, List.set_cons_zero, List.set_cons_succ])
            refine wpAnyH_take (i := 8) (v := (.bool false)) rfl (by kernel_rfl) (by kernel_rfl) (by kernel_rfl) (fun _ _ _ h => h) (Or.inl ⟨by kernel_rfl, ?_⟩) (by assumption) ?_
            · intro w' hSw
              (try dsimp only at hSw)
              (go_simp <;> first | omega | exact hk0)
            (try simp only [Act.put, List.setIfInBounds_toArray, List.set_cons_zero, List.set_cons_succ])
            refine wpAnyH_take (i := 9) (v := (.bool false)) rfl (by kernel_rfl) (by kernel_rfl) (by kernel_rfl) (fun _ _ _ h => h) (Or.inl ⟨by kernel_rfl, ?_⟩) (by assumption) ?_
            · intro w' hSw
              (try dsimp only at hSw)
              go_simp
            (try simp only [Act.put, List.setIfInBounds_toArray, List.set_cons_zero, List.set_cons_succ])
            refine wpAnyH_take (i := 10) (v := (.pointer (some ⟨wr.heap.size, 0, none⟩))) rfl (by kernel_rfl) (by kernel_rfl) (by kernel_rfl) (fun _ _ _ h => h) (Or.inl ⟨by kernel_rfl, ?_⟩) (by assumption) ?_
            · intro w' hSw
              (try dsimp only at hSw)
              go_simp
            (try simp only [Act.put, List.setIfInBounds_toArray, List.set_cons_zero, List.set_cons_succ])
            refine wpAnyH_take (i := 11) (v := (.string nm)) rfl (by kernel_rfl) (by kernel_rfl) (by kernel_rfl) (fun _ _ _ h => h) (Or.inl ⟨by kernel_rfl, ?_⟩) (by assumption) ?_
            · intro w' hSw
              (try dsimp only at hSw)
              (go_simp <;> first | exact hSw.1 | omega)
            (try simp only [Act.put, List.setIfInBounds_toArray, List.set_cons_zero, List.set_cons_succ])
            refine wpAnyH_take (i := 12) (v := (.slice (some ⟨b, o, none⟩) fs.length cap)) rfl (by kernel_rfl) (by kernel_rfl) (by kernel_rfl) (fun _ _ _ h => h) (Or.inl ⟨by kernel_rfl, ?_⟩) (by assumption) ?_
            · intro w' hSw
              (try dsimp only at hSw)
              go_simp
            (try simp only [Act.put, List.setIfInBounds_toArray, List.set_cons_zero, List.set_cons_succ])
            refine wpAnyH_take (i := 13) (v := (.int .i64 (k : Int))) rfl (by kernel_rfl) (by kernel_rfl) (by kernel_rfl) (fun _ _ _ h => h) (Or.inl ⟨by kernel_rfl, ?_⟩) (by assumption) ?_
            · intro w' hSw
              (try dsimp only at hSw)
              go_simp
            (try simp only [Act.put, List.setIfInBounds_toArray, List.set_cons_zero, List.set_cons_succ])
            refine wpAnyH_take (i := 14) (v := (.int .i64 (((k - 1 : Nat) : Int)))) rfl (by kernel_rfl) (by kernel_rfl) (by kernel_rfl) (fun _ _ _ h => h) (Or.inl ⟨by kernel_rfl, ?_⟩) (by assumption) ?_
            · intro w' hSw
              (try dsimp only at hSw)
              (go_simp <;> first | exact hsub | exact hsub.symm | omega)
            (try simp only [Act.put, List.setIfInBounds_toArray, List.set_cons_zero, List.set_cons_succ])
            refine wpAnyH_take (i := 15) (v := (.pointer (some ⟨b, o + (k - 1) * 2, none⟩))) rfl (by kernel_rfl) (by kernel_rfl) (by kernel_rfl) (fun _ _ _ h => h) (Or.inl ⟨by kernel_rfl, ?_⟩) (by assumption) ?_
            · intro w' hSw
              (try dsimp only at hSw)
              (go_simp <;> omega)
            (try simp only [Act.put, List.setIfInBounds_toArray, List.set_cons_zero, List.set_cons_succ])
            refine wpAnyH_take (i := 16) (v := (.pointer (some ⟨b, o + (k - 1) * 2, none⟩))) rfl (by kernel_rfl) (by kernel_rfl) (by kernel_rfl) (fun _ _ _ h => h) (Or.inl ⟨by kernel_rfl, ?_⟩) (by assumption) ?_
            · intro w' hSw
              (try dsimp only at hSw)
              (go_simp <;> omega)
            (try simp only [Act.put, List.setIfInBounds_toArray, List.set_cons_zero, List.set_cons_succ])
            refine wpAnyH_take (i := 17) (v := (.string pn)) rfl (by kernel_rfl) (by kernel_rfl) (by kernel_rfl) (fun _ _ _ h => h) (Or.inl ⟨by kernel_rfl, ?_⟩) (by assumption) ?_
            · intro w' hSw
              (try dsimp only at hSw)
              (go_simp <;> first | exact hSw.2 | omega)
            (try simp only [Act.put, List.setIfInBounds_toArray, List.set_cons_zero, List.set_cons_succ])
            refine wpAnyH_take (i := 18) (v := (.bool GB)) rfl (by kernel_rfl) (by kernel_rfl) (by kernel_rfl) (fun _ _ _ h => h) (Or.inl ⟨by kernel_rfl, ?_⟩) (by assumption) ?_
            · intro w' hSw
              (try dsimp only at hSw)
              (go_simp <;> first | exact hGB | exact hGB.symm)
            (try simp only [Act.put, List.setIfInBounds_toArray, List.set_cons_zero, List.set_cons_succ])
            refine wpAnyH_take (i := 19) (v := (.bool GB)) rfl (by kernel_rfl) (by kernel_rfl) (by kernel_rfl) (fun _ _ _ h => h) (Or.inl ⟨by kernel_rfl, ?_⟩) (by assumption) ?_
            · intro w' hSw
              (try dsimp only at hSw)
              go_simp
            (try simp only [Act.put, List.setIfInBounds_toArray, List.set_cons_zero, List.set_cons_succ])
            refine wpAnyH_take (i := 20) (v := (.bool GB)) rfl (by kernel_rfl) (by kernel_rfl) (by kernel_rfl) (fun _ _ _ h => h) (Or.inl ⟨by rfl, ?_⟩) (by assumption) ?_
            · intro w' hSw
              (try dsimp only at hSw)
              go_simp <;> first | exact i64_in (by omega) (by omega) | exact u32_in (by omega) (by omega) | exact u32_add _ _ | (rw [Int.tmod_eq_emod_of_nonneg (by omega)]; omega) | (rw [Int.tdiv_eq_ediv_of_nonneg (by omega)]; omega) | omega
            (try simp only [Act.put, List.setIfInBounds_toArray, List.set_cons_zero, List.set_cons_succ])
            refine wpAnyH_take (i := 21) (v := (.bool GB)) rfl (by kernel_rfl) (by kernel_rfl) (by kernel_rfl) (fun _ _ _ h => h) (Or.inl ⟨by rfl, ?_⟩) (by assumption) ?_
            · intro w' hSw
              (try dsimp only at hSw)
              go_simp <;> first | exact i64_in (by omega) (by omega) | exact u32_in (by omega) (by omega) | exact u32_add _ _ | (rw [Int.tmod_eq_emod_of_nonneg (by omega)]; omega) | (rw [Int.tdiv_eq_ediv_of_nonneg (by omega)]; omega) | omega
            (try simp only [Act.put, List.setIfInBounds_toArray, List.set_cons_zero, List.set_cons_succ])
            refine wpAnyH_done (by kernel_rfl) ?_ _
            clear hHeld
            go_simp
            go_wp2_with fail
            go_meet
            case rel => exact ⟨by rw [EV.out, hGB], rfl⟩
        case rest =>
          obtain ⟨rfl, rfl⟩ := hcut
          go_upto_region 9 with fail
          obtain ⟨ad, n0, c0, rfl⟩ := own_shapeX H.out.2.1
          have bd : Below wr.heap.size wr W1.drew := b1.drew
          have sdd : W1.drew.heap.size = wr.heap.size + 1 := s1
          have hmb : w.heap.size + 1 < wr.heap.size := lt_of_cell? m0
          have e0 : W1.drew.cell? ⟨wr.heap.size, 0, none⟩ = some (.string nm) := g0
          have e1 : W1.drew.cell? ⟨wr.heap.size, 1, none⟩ = some (.string dt) := g1
          have MD0 : Hid (ManAt W1.drew (w.heap.size + 1) st (.slice ad n0 c0) (totS ((fs.take k).map rowC) : Int) 0) := ⟨by rw [bd.cell (by exact hmb)]; exact m0, by rw [bd.cell (by exact hmb)]; exact m1, by rw [bd.cell (by exact hmb)]; exact m2, by rw [bd.cell (by exact hmb)]; exact m3, by rw [bd.cell (by exact hmb)]; exact m4, by rw [bd.cell (by exact hmb)]; exact m5, fun i hi => by rw [bd.frozen (by exact hmb)]; exact mf i hi⟩
          have OD := hide (own_blw H.out.2.1 bd)
          have KD := hide (H.out.2.2.blw bd)
          have HVB : Hid (∀ j, (Value.slice ad n0 c0).ownBlock = some j → W0.heap.size ≤ j ∧ j < wr.heap.size) := fun j hj => H.out.2.1.lt j hj
          clear m0 m1 m2 m3 m4 m5 mf g0 g1 gp hp1 d1 d2 SC OKS LK b1 s1 hGB bd H
          generalize W1.drew = Wd at *
          go_cut [] (fun wx => ∃ v', ManAt wx (w.heap.size + 1) st v' (totS ((fs.take k).map rowC) : Int) 0 ∧ wx.ownsRow W0.heap.size 109 4 v' (k + 1) (rcs ((fs.take (k + 1)).map rowC)) ∧ KbX (fun i => i = w.heap.size + 1) W0 wx ∧ wx.cell? ⟨wr.heap.size, 1, none⟩ = some (.string dt))
          case first =>
            have BE := hide (Below.refl Wd.heap.size Wd).drew
            obtain ⟨m0, m1, m2, m3, m4, m5, mf⟩ := MD0.out
            have SC : Hid (∀ x, Below Wd.heap.size Wd x → x.cell? ⟨wr.heap.size, 0, none⟩ = some (.string nm) ∧ x.cell? ⟨wr.heap.size, 1, none⟩ = some (.string dt)) := fun x hx => ⟨by rw [hx.cell (by show wr.heap.size < _; omega)]; exact e0, by rw [hx.cell (by show wr.heap.size < _; omega)]; exact e1⟩
            have C3 : Hid (∀ x, Below Wd.heap.size Wd x → x.cell? ⟨w.heap.size + 1, 3, none⟩ = some (.slice ad n0 c0)) := fun x hx => by rw [hx.cell (by show w.heap.size + 1 < _; omega)]; exact m3
            have hwW0 : w.heap.size ≤ W0.heap.size := by omega
            have TM : Hid (∀ x, Below Wd.heap.size Wd x → TabM x) := fun x hx => hT.below (b0.trans (((KD.out.blw hx).toBelow (B := w.heap.size) (fun i hi => by omega) hwW0)))
            have CR := hide (fun (x : World) (h : Nat) (t1 : TabM x) (t2 : x.cell? ⟨h, 0, none⟩ = some (.string dt)) => crc_one dt h x (by omega) t1 t2)
            have MR := hide (fun (x : World) (h : Nat) (t1 : TabM x) (t2 : x.cell? ⟨h, 0, none⟩ = some (.string dt)) => md5_one dt h x (by omega) t1 t2)
            have MM1 : Hid (∀ x : World, (∀ o, x.cell? ⟨w.heap.size + 1, o, none⟩ = Wd.cell? ⟨w.heap.size + 1, o, none⟩) → (∀ o, x.frozen? ⟨w.heap.size + 1, o, none⟩ = Wd.frozen? ⟨w.heap.size + 1, o, none⟩) → ManAt x (w.heap.size + 1) st (.slice ad n0 c0) (totS ((fs.take k).map rowC) : Int) 0) := fun x h1 h2 => ⟨by rw [h1]; exact m0, by rw [h1]; exact m1, by rw [h1]; exact m2, by rw [h1]; exact m3, by rw [h1]; exact m4, by rw [h1]; exact m5, fun i hi => by rw [h2]; exact mf i hi⟩
            obtain ⟨i0, hi, hz0, hz1, hz2⟩ := info_parts infoR
            obtain ⟨hm1, hm2⟩ : k + 1 ≤ maxLen ∧ (k + 1) * 48 ≤ 140737488355328 := by unfold maxLen; omega
            have hlk : ((fs.take k).map rowC).length = k := by rw [List.length_map, List.length_take]; omega
            clear m0 m1 m2 m3 m4 m5 mf MD0 e0 e1
            refine wp_region_held_drew (S := fun x => x.cell? ⟨wr.heap.size, 0, none⟩ = some (.string nm) ∧ x.cell? ⟨wr.heap.size, 1, none⟩ = some (.string dt)) (by kernel_rfl) (SC.out _ BE.out) (fun hHeld => ?_)
            generalize Wd.drew = We at *
            refine wpAnyH_take (i := 0) (v := (.pointer (some ⟨w.heap.size + 1, 3, none⟩))) rfl (by kernel_rfl) (by kernel_rfl) (by kernel_rfl) (fun _ _ _ h => h) (Or.inl ⟨by rfl, ?_⟩) (by assumption) ?_
            · intro w' hSw
              (try dsimp only at hSw)
              (obtain ⟨u0, u1⟩ := hSw; go_simp)
            (try simp only [Act.put, List.setIfInBounds_toArray, List.set_cons_zero, List.set_cons_succ])
            refine wpAnyH_take (i := 2) (v := (.pointer (some ⟨wr.heap.size, 0, none⟩))) rfl (by kernel_rfl) (by kernel_rfl) (by kernel_rfl) (fun _ _ _ h => h) (Or.inl ⟨by rfl, ?_⟩) (by assumption) ?_
            · intro w' hSw
              (try dsimp only at hSw)
              (obtain ⟨u0, u1⟩ := hSw; go_simp)
            (try simp only [Act.put, List.setIfInBounds_toArray, List.set_cons_zero, List.set_cons_succ])
            refine wpAnyH_take (i := 3) (v := (.string nm)) rfl (by kernel_rfl) (by kernel_rfl) (by kernel_rfl) (fun _ _ _ h => h) (Or.inl ⟨by rfl, ?_⟩) (by assumption) ?_
            · intro w' hSw
              (try dsimp only at hSw)
              (obtain ⟨u0, u1⟩ := hSw; go_simp)
            (try simp only [Act.put, List.setIfInBounds_toArray, List.set_cons_zero, List.set_cons_succ])
            refine wpAnyH_take (i := 4) (v := (.pointer (some ⟨wr.heap.size, 1, none⟩))) rfl (by kernel_rfl) (by kernel_rfl) (by kernel_rfl) (fun _ _ _ h => h) (Or.inl ⟨by rfl, ?_⟩) (by assumption) ?_
            · intro w' hSw
              (try dsimp only at hSw)
              (obtain ⟨u0, u1⟩ := hSw; go_simp)
            (try simp only [Act.put, List.setIfInBounds_toArray, List.set_cons_zero, List.set_cons_succ])
            refine wpAnyH_take (i := 5) (v := (.string dt)) rfl (by kernel_rfl) (by kernel_rfl) (by kernel_rfl) (fun _ _ _ h => h) (Or.inl ⟨by rfl, ?_⟩) (by assumption) ?_
            · intro w' hSw
              (try dsimp only at hSw)
              (obtain ⟨u0, u1⟩ := hSw; go_simp)
            (try simp only [Act.put, List.setIfInBounds_toArray, List.set_cons_zero, List.set_cons_succ])
            refine wpAnyH_take (i := 6) (v := (.int .i64 (dt.size : Int))) rfl (by kernel_rfl) (by kernel_rfl) (by kernel_rfl) (fun _ _ _ h => h) (Or.inl ⟨by rfl, ?_⟩) (by assumption) ?_
            · intro w' hSw
              (try dsimp only at hSw)
              (obtain ⟨u0, u1⟩ := hSw; go_simp)
            (try simp only [Act.put, List.setIfInBounds_toArray, List.set_cons_zero, List.set_cons_succ])
            refine wpAnyH_take (i := 7) (v := (.pointer (some ⟨wr.heap.size, 1, none⟩))) rfl (by kernel_rfl) (by kernel_rfl) (by kernel_rfl) (fun _ _ _ h => h) (Or.inl ⟨by rfl, ?_⟩) (by assumption) ?_
            · intro w' hSw
              (try dsimp only at hSw)
              (obtain ⟨u0, u1⟩ := hSw; go_simp)
            (try simp only [Act.put, List.setIfInBounds_toArray, List.set_cons_zero, List.set_cons_succ])
            refine wpAnyH_take (i := 8) (v := (.string dt)) rfl (by kernel_rfl) (by kernel_rfl) (by kernel_rfl) (fun _ _ _ h => h) (Or.inl ⟨by rfl, ?_⟩) (by assumption) ?_
            · intro w' hSw
              (try dsimp only at hSw)
              (obtain ⟨u0, u1⟩ := hSw; go_simp)
            (try simp only [Act.put, List.setIfInBounds_toArray, List.set_cons_zero, List.set_cons_succ])
            refine wpAnyH_take (i := 11) (v := (.pointer (some ⟨wr.heap.size, 1, none⟩))) rfl (by kernel_rfl) (by kernel_rfl) (by kernel_rfl) (fun _ _ _ h => h) (Or.inl ⟨by rfl, ?_⟩) (by assumption) ?_
            · intro w' hSw
              (try dsimp only at hSw)
              (obtain ⟨u0, u1⟩ := hSw; go_simp)
            (try simp only [Act.put, List.setIfInBounds_toArray, List.set_cons_zero, List.set_cons_succ])
            refine wpAnyH_take (i := 12) (v := (.string dt)) rfl (by kernel_rfl) (by kernel_rfl) (by kernel_rfl) (fun _ _ _ h => h) (Or.inl ⟨by rfl, ?_⟩) (by assumption) ?_
            · intro w' hSw
              (try dsimp only at hSw)
              (obtain ⟨u0, u1⟩ := hSw; go_simp)
            (try simp only [Act.put, List.setIfInBounds_toArray, List.set_cons_zero, List.set_cons_succ])
            have B1 : Hid (Below Wd.heap.size Wd (We.alloc (.cells #[.string dt] 9))) := BE.out.alloc BE.out.size _
            have B2 : Hid (Below Wd.heap.size Wd ((We.alloc (.cells #[.string dt] 9)).alloc (.cells #[.string dt] 9))) := B1.out.alloc B1.out.size _
            have q1 : (We.alloc (.cells #[.string dt] 9)).cell? ⟨We.heap.size, 0, none⟩ = some (.string dt) := by simp
            have q2 : ((We.alloc (.cells #[.string dt] 9)).alloc (.cells #[.string dt] 9)).cell? ⟨We.heap.size, 0, none⟩ = some (.string dt) := by rw [((Below.refl _ (We.alloc (.cells #[.string dt] 9))).alloc (Nat.le_refl _) (.cells #[.string dt] 9)).cell (by show We.heap.size < _; simp)]; exact q1
            have q3 : ((We.alloc (.cells #[.string dt] 9)).alloc (.cells #[.string dt] 9)).cell? ⟨We.heap.size + 1, 0, none⟩ = some (.string dt) := by simp
            have Q1 := hide q1
            have Q2 := hide q2
            have Q3 := hide q3
            clear q1 q2 q3
            refine' via (R := _) (fun RAa => ?_) ?_
            rotate_left 1
            refine' via (R := _) (fun RPa => ?_) ?_
            rotate_left 1
            refine' via (R := _) (fun RAb => ?_) ?_
            rotate_left 1
            refine' via (R := _) (fun RPb => ?_) ?_
            rotate_left 1
            · skip
              refine wpAnyH_ready (rs := [1, 9, 13]) (by kernel_rfl) (by simp) ?_
              refine AllReadyH.cons rfl (fun K hK => ?_) (AllReadyH.cons rfl (fun K hK => ?_) (AllReadyH.cons rfl (fun K hK => ?_) AllReadyH.nil))
              · skip
                have y3 := C3.out _ BE.out
                go_simp
                clear y3
                refine hK.out _ _ (SC.out _ BE.out) (fun hHeld => ?_)
                clear hK
                (try simp only [Act.put, List.setIfInBounds_toArray, List.set_cons_zero, List.set_cons_succ])
                refine wpAnyH_ready (rs := [9, 13]) (by kernel_rfl) (by simp) ?_
                refine AllReadyH.cons rfl (fun K hK => ?_) (AllReadyH.cons rfl (fun K hK => ?_) AllReadyH.nil)
                · skip
                  go_simp
                  refine hK.out _ _ (SC.out _ B1.out) (fun hHeld => ?_)
                  clear hK
                  (try simp only [Act.put, List.setIfInBounds_toArray, List.set_cons_zero, List.set_cons_succ])
                  refine wpAnyH_ready (rs := [10, 13]) (by kernel_rfl) (by simp) ?_
                  refine AllReadyH.cons rfl (fun K hK => ?_) (AllReadyH.cons rfl (fun K hK => ?_) AllReadyH.nil)
                  · skip
                    go_simp
                    refine Calls.mono (CR.out _ (We.heap.size) (TM.out _ B1.out) Q1.out) ?_
                    rintro x w' ⟨rfl, rfl⟩
                    refine hK.out _ _ (SC.out _ B1.out) (fun hHeld => ?_)
                    clear hK
                    (try simp only [Act.put, List.setIfInBounds_toArray, List.set_cons_zero, List.set_cons_succ])
                    refine wpAnyH_ready (rs := [13]) (by kernel_rfl) (by simp) ?_
                    refine AllReadyH.cons rfl (fun K hK => ?_) AllReadyH.nil
                    go_simp
                    refine hK.out _ _ (SC.out _ B2.out) (fun hHeld => ?_)
                    clear hK
                    (try simp only [Act.put, List.setIfInBounds_toArray, List.set_cons_zero, List.set_cons_succ])
                    exact RAa
                  · skip
                    go_simp
                    refine hK.out _ _ (SC.out _ B2.out) (fun hHeld => ?_)
                    clear hK
                    (try simp only [Act.put, List.setIfInBounds_toArray, List.set_cons_zero, List.set_cons_succ])
                    refine wpAnyH_ready (rs := [10]) (by kernel_rfl) (by simp) ?_
                    refine AllReadyH.cons rfl (fun K hK => ?_) AllReadyH.nil
                    go_simp
                    refine Calls.mono (CR.out _ (We.heap.size) (TM.out _ B2.out) Q2.out) ?_
                    rintro x w' ⟨rfl, rfl⟩
                    refine hK.out _ _ (SC.out _ B2.out) (fun hHeld => ?_)
                    clear hK
                    (try simp only [Act.put, List.setIfInBounds_toArray, List.set_cons_zero, List.set_cons_succ])
                    exact RAa
                · skip
                  go_simp
                  refine hK.out _ _ (SC.out _ B1.out) (fun hHeld => ?_)
                  clear hK
                  (try simp only [Act.put, List.setIfInBounds_toArray, List.set_cons_zero, List.set_cons_succ])
                  refine wpAnyH_ready (rs := [9]) (by kernel_rfl) (by simp) ?_
                  refine AllReadyH.cons rfl (fun K hK => ?_) AllReadyH.nil
                  go_simp
                  refine hK.out _ _ (SC.out _ B2.out) (fun hHeld => ?_)
                  clear hK
                  (try simp only [Act.put, List.setIfInBounds_toArray, List.set_cons_zero, List.set_cons_succ])
                  refine wpAnyH_ready (rs := [10]) (by kernel_rfl) (by simp) ?_
                  refine AllReadyH.cons rfl (fun K hK => ?_) AllReadyH.nil
                  go_simp
                  refine Calls.mono (CR.out _ (We.heap.size + 1) (TM.out _ B2.out) Q3.out) ?_
                  rintro x w' ⟨rfl, rfl⟩
                  refine hK.out _ _ (SC.out _ B2.out) (fun hHeld => ?_)
                  clear hK
                  (try simp only [Act.put, List.setIfInBounds_toArray, List.set_cons_zero, List.set_cons_succ])
                  exact RAb
              · skip
                go_simp
                refine hK.out _ _ (SC.out _ B1.out) (fun hHeld => ?_)
                clear hK
                (try simp only [Act.put, List.setIfInBounds_toArray, List.set_cons_zero, List.set_cons_succ])
                refine wpAnyH_ready (rs := [1, 10, 13]) (by kernel_rfl) (by simp) ?_
                refine AllReadyH.cons rfl (fun K hK => ?_) (AllReadyH.cons rfl (fun K hK => ?_) (AllReadyH.cons rfl (fun K hK => ?_) AllReadyH.nil))
                · skip
                  have y3 := C3.out _ B1.out
                  go_simp
                  clear y3
                  refine hK.out _ _ (SC.out _ B1.out) (fun hHeld => ?_)
                  clear hK
                  (try simp only [Act.put, List.setIfInBounds_toArray, List.set_cons_zero, List.set_cons_succ])
                  refine wpAnyH_ready (rs := [10, 13]) (by kernel_rfl) (by simp) ?_
                  refine AllReadyH.cons rfl (fun K hK => ?_) (AllReadyH.cons rfl (fun K hK => ?_) AllReadyH.nil)
                  · skip
                    go_simp
                    refine Calls.mono (CR.out _ (We.heap.size) (TM.out _ B1.out) Q1.out) ?_
                    rintro x w' ⟨rfl, rfl⟩
                    refine hK.out _ _ (SC.out _ B1.out) (fun hHeld => ?_)
                    clear hK
                    (try simp only [Act.put, List.setIfInBounds_toArray, List.set_cons_zero, List.set_cons_succ])
                    refine wpAnyH_ready (rs := [13]) (by kernel_rfl) (by simp) ?_
                    refine AllReadyH.cons rfl (fun K hK => ?_) AllReadyH.nil
                    go_simp
                    refine hK.out _ _ (SC.out _ B2.out) (fun hHeld => ?_)
                    clear hK
                    (try simp only [Act.put, List.setIfInBounds_toArray, List.set_cons_zero, List.set_cons_succ])
                    exact RAa
                  · skip
                    go_simp
                    refine hK.out _ _ (SC.out _ B2.out) (fun hHeld => ?_)
                    clear hK
                    (try simp only [Act.put, List.setIfInBounds_toArray, List.set_cons_zero, List.set_cons_succ])
                    refine wpAnyH_ready (rs := [10]) (by kernel_rfl) (by simp) ?_
                    refine AllReadyH.cons rfl (fun K hK => ?_) AllReadyH.nil
                    go_simp
                    refine Calls.mono (CR.out _ (We.heap.size) (TM.out _ B2.out) Q2.out) ?_
                    rintro x w' ⟨rfl, rfl⟩
                    refine hK.out _ _ (SC.out _ B2.out) (fun hHeld => ?_)
                    clear hK
                    (try simp only [Act.put, List.setIfInBounds_toArray, List.set_cons_zero, List.set_cons_succ])
                    exact RAa
                · skip
                  go_simp
                  refine Calls.mono (CR.out _ (We.heap.size) (TM.out _ B1.out) Q1.out) ?_
                  rintro x w' ⟨rfl, rfl⟩
                  refine hK.out _ _ (SC.out _ B1.out) (fun hHeld => ?_)
                  clear hK
                  (try simp only [Act.put, List.setIfInBounds_toArray, List.set_cons_zero, List.set_cons_succ])
                  refine wpAnyH_ready (rs := [1, 13]) (by kernel_rfl) (by simp) ?_
                  refine AllReadyH.cons rfl (fun K hK => ?_) (AllReadyH.cons rfl (fun K hK => ?_) AllReadyH.nil)
                  · skip
                    have y3 := C3.out _ B1.out
                    go_simp
                    clear y3
                    refine hK.out _ _ (SC.out _ B1.out) (fun hHeld => ?_)
                    clear hK
                    (try simp only [Act.put, List.setIfInBounds_toArray, List.set_cons_zero, List.set_cons_succ])
                    refine wpAnyH_ready (rs := [13]) (by kernel_rfl) (by simp) ?_
                    refine AllReadyH.cons rfl (fun K hK => ?_) AllReadyH.nil
                    go_simp
                    refine hK.out _ _ (SC.out _ B2.out) (fun hHeld => ?_)
                    clear hK
                    (try simp only [Act.put, List.setIfInBounds_toArray, List.set_cons_zero, List.set_cons_succ])
                    exact RAa
                  · skip
                    go_simp
                    refine hK.out _ _ (SC.out _ B2.out) (fun hHeld => ?_)
                    clear hK
                    (try simp only [Act.put, List.setIfInBounds_toArray, List.set_cons_zero, List.set_cons_succ])
                    exact RPa
                · skip
                  go_simp
                  refine hK.out _ _ (SC.out _ B2.out) (fun hHeld => ?_)
                  clear hK
                  (try simp only [Act.put, List.setIfInBounds_toArray, List.set_cons_zero, List.set_cons_succ])
                  refine wpAnyH_ready (rs := [1, 10]) (by kernel_rfl) (by simp) ?_
                  refine AllReadyH.cons rfl (fun K hK => ?_) (AllReadyH.cons rfl (fun K hK => ?_) AllReadyH.nil)
                  · skip
                    have y3 := C3.out _ B2.out
                    go_simp
                    clear y3
                    refine hK.out _ _ (SC.out _ B2.out) (fun hHeld => ?_)
                    clear hK
                    (try simp only [Act.put, List.setIfInBounds_toArray, List.set_cons_zero, List.set_cons_succ])
                    refine wpAnyH_ready (rs := [10]) (by kernel_rfl) (by simp) ?_
                    refine AllReadyH.cons rfl (fun K hK => ?_) AllReadyH.nil
                    go_simp
                    refine Calls.mono (CR.out _ (We.heap.size) (TM.out _ B2.out) Q2.out) ?_
                    rintro x w' ⟨rfl, rfl⟩
                    refine hK.out _ _ (SC.out _ B2.out) (fun hHeld => ?_)
                    clear hK
                    (try simp only [Act.put, List.setIfInBounds_toArray, List.set_cons_zero, List.set_cons_succ])
                    exact RAa
                  · skip
                    go_simp
                    refine Calls.mono (CR.out _ (We.heap.size) (TM.out _ B2.out) Q2.out) ?_
                    rintro x w' ⟨rfl, rfl⟩
                    refine hK.out _ _ (SC.out _ B2.out) (fun hHeld => ?_)
                    clear hK
                    (try simp only [Act.put, List.setIfInBounds_toArray, List.set_cons_zero, List.set_cons_succ])
                    exact RPa
              · skip
                go_simp
                refine hK.out _ _ (SC.out _ B1.out) (fun hHeld => ?_)
                clear hK
                (try simp only [Act.put, List.setIfInBounds_toArray, List.set_cons_zero, List.set_cons_succ])
                refine wpAnyH_ready (rs := [1, 9]) (by kernel_rfl) (by simp) ?_
                refine AllReadyH.cons rfl (fun K hK => ?_) (AllReadyH.cons rfl (fun K hK => ?_) AllReadyH.nil)
                · skip
                  have y3 := C3.out _ B1.out
                  go_simp
                  clear y3
                  refine hK.out _ _ (SC.out _ B1.out) (fun hHeld => ?_)
                  clear hK
                  (try simp only [Act.put, List.setIfInBounds_toArray, List.set_cons_zero, List.set_cons_succ])
                  refine wpAnyH_ready (rs := [9]) (by kernel_rfl) (by simp) ?_
                  refine AllReadyH.cons rfl (fun K hK => ?_) AllReadyH.nil
                  go_simp
                  refine hK.out _ _ (SC.out _ B2.out) (fun hHeld => ?_)
                  clear hK
                  (try simp only [Act.put, List.setIfInBounds_toArray, List.set_cons_zero, List.set_cons_succ])
                  refine wpAnyH_ready (rs := [10]) (by kernel_rfl) (by simp) ?_
                  refine AllReadyH.cons rfl (fun K hK => ?_) AllReadyH.nil
                  go_simp
                  refine Calls.mono (CR.out _ (We.heap.size + 1) (TM.out _ B2.out) Q3.out) ?_
                  rintro x w' ⟨rfl, rfl⟩
                  refine hK.out _ _ (SC.out _ B2.out) (fun hHeld => ?_)
                  clear hK
                  (try simp only [Act.put, List.setIfInBounds_toArray, List.set_cons_zero, List.set_cons_succ])
                  exact RAb
                · skip
                  go_simp
                  refine hK.out _ _ (SC.out _ B2.out) (fun hHeld => ?_)
                  clear hK
                  (try simp only [Act.put, List.setIfInBounds_toArray, List.set_cons_zero, List.set_cons_succ])
                  refine wpAnyH_ready (rs := [1, 10]) (by kernel_rfl) (by simp) ?_
                  refine AllReadyH.cons rfl (fun K hK => ?_) (AllReadyH.cons rfl (fun K hK => ?_) AllReadyH.nil)
                  · skip
                    have y3 := C3.out _ B2.out
                    go_simp
                    clear y3
                    refine hK.out _ _ (SC.out _ B2.out) (fun hHeld => ?_)
                    clear hK
                    (try simp only [Act.put, List.setIfInBounds_toArray, List.set_cons_zero, List.set_cons_succ])
                    refine wpAnyH_ready (rs := [10]) (by kernel_rfl) (by simp) ?_
                    refine AllReadyH.cons rfl (fun K hK => ?_) AllReadyH.nil
                    go_simp
                    refine Calls.mono (CR.out _ (We.heap.size + 1) (TM.out _ B2.out) Q3.out) ?_
                    rintro x w' ⟨rfl, rfl⟩
                    refine hK.out _ _ (SC.out _ B2.out) (fun hHeld => ?_)
                    clear hK
                    (try simp only [Act.put, List.setIfInBounds_toArray, List.set_cons_zero, List.set_cons_succ])
                    exact RAb
                  · skip
                    go_simp
                    refine Calls.mono (CR.out _ (We.heap.size + 1) (TM.out _ B2.out) Q3.out) ?_
                    rintro x w' ⟨rfl, rfl⟩
                    refine hK.out _ _ (SC.out _ B2.out) (fun hHeld => ?_)
                    clear hK
                    (try simp only [Act.put, List.setIfInBounds_toArray, List.set_cons_zero, List.set_cons_succ])
                    exact RPb
            · skip
              refine wpAnyH_ready (rs := [1, 14]) (by kernel_rfl) (by simp) ?_
              refine AllReadyH.cons rfl (fun K hK => ?_) (AllReadyH.cons rfl (fun K hK => ?_) AllReadyH.nil)
              · skip
                have y3 := C3.out _ B2.out
                go_simp
                clear y3
                refine hK.out _ _ (SC.out _ B2.out) (fun hHeld => ?_)
                clear hK
                (try simp only [Act.put, List.setIfInBounds_toArray, List.set_cons_zero, List.set_cons_succ])
                exact RAb
              · skip
                go_simp
                refine Calls.mono (MR.out _ (We.heap.size) (TM.out _ B2.out) Q2.out) ?_
                rintro x w5 ⟨rfl, b5⟩
                have B5 := hide (B2.out.trans (b5.mono B2.out.size))
                clear b5
                refine hK.out _ _ (SC.out _ B5.out) (fun hHeld => ?_)
                clear hK
                (try simp only [Act.put, List.setIfInBounds_toArray, List.set_cons_zero, List.set_cons_succ])
                refine wpAnyH_take (i := 15) (v := (.agg #[.string nm, .int .i64 (dt.size : Int), .int .i64 (crcN 0 dt.data.toList : Int), .string (strOf (md5L dt.data.toList))])) rfl (by kernel_rfl) (by kernel_rfl) (by kernel_rfl) (fun _ _ _ h => h) (Or.inl ⟨by rfl, ?_⟩) (by assumption) ?_
                · intro w' hSw
                  (try dsimp only at hSw)
                  go_simp <;> first | exact i64_in (by omega) (by omega) | exact u32_in (by omega) (by omega) | exact u32_add _ _ | (rw [Int.tmod_eq_emod_of_nonneg (by omega)]; omega) | (rw [Int.tdiv_eq_ediv_of_nonneg (by omega)]; omega) | omega
                (try simp only [Act.put, List.setIfInBounds_toArray, List.set_cons_zero, List.set_cons_succ])
                have B6 : Hid (Below Wd.heap.size Wd (w5.alloc (.cells #[.string nm, .int .i64 (dt.size : Int), .int .i64 (crcN 0 dt.data.toList : Int), .string (strOf (md5L dt.data.toList))] 109))) := B5.out.alloc B5.out.size _
                refine' via (R := _) (fun RT => ?_) ?_
                rotate_left 1
                refine wpAnyH_ready (rs := [1, 16]) (by kernel_rfl) (by simp) ?_
                refine AllReadyH.cons rfl (fun K hK => ?_) (AllReadyH.cons rfl (fun K hK => ?_) AllReadyH.nil)
                · skip
                  have y3 := C3.out _ B5.out
                  go_simp
                  clear y3
                  refine hK.out _ _ (SC.out _ B5.out) (fun hHeld => ?_)
                  clear hK
                  (try simp only [Act.put, List.setIfInBounds_toArray, List.set_cons_zero, List.set_cons_succ])
                  refine wpAnyH_ready (rs := [16]) (by kernel_rfl) (by simp) ?_
                  refine AllReadyH.cons rfl (fun K hK => ?_) AllReadyH.nil
                  go_simp
                  refine hK.out _ _ (SC.out _ B6.out) (fun hHeld => ?_)
                  clear hK
                  (try simp only [Act.put, List.setIfInBounds_toArray, List.set_cons_zero, List.set_cons_succ])
                  exact RT
                · skip
                  go_simp
                  refine hK.out _ _ (SC.out _ B6.out) (fun hHeld => ?_)
                  clear hK
                  (try simp only [Act.put, List.setIfInBounds_toArray, List.set_cons_zero, List.set_cons_succ])
                  refine wpAnyH_ready (rs := [1]) (by kernel_rfl) (by simp) ?_
                  refine AllReadyH.cons rfl (fun K hK => ?_) AllReadyH.nil
                  have y3 := C3.out _ B6.out
                  go_simp
                  clear y3
                  refine hK.out _ _ (SC.out _ B6.out) (fun hHeld => ?_)
                  clear hK
                  (try simp only [Act.put, List.setIfInBounds_toArray, List.set_cons_zero, List.set_cons_succ])
                  exact RT
                refine wpAnyH_ready (rs := [17]) (by kernel_rfl) (by simp) ?_
                refine AllReadyH.cons rfl (fun K hK => ?_) AllReadyH.nil
                refine ite_yes' (by rfl) ?_
                have O5 := hide (own_blw OD.out B5.out)
                have hsz5 : W0.heap.size ≤ w5.heap.size := Nat.le_trans KD.out.size B5.out.size
                refine wp_append_own (w5.alloc (.cells #[.string nm, .int .i64 (dt.size : Int), .int .i64 (crcN 0 dt.data.toList : Int), .string (strOf (md5L dt.data.toList))] 109)) (.tmp 53) (.tmp 68) 50 ?jhho1 W0.heap.size 109 i0 (.agg #[.string ⟨#[]⟩, .int .i64 0, .int .i64 0, .string ⟨#[]⟩]) 4 48 Tryz.underlying50 hi hz0 hz1 hz2 ?jhzs1 (by decide) (.slice ad n0 c0) k (rcs ((fs.take k).map rowC)) ?jhhs1 (O5.out.alloc _) ⟨w5.heap.size, 0, none⟩ 1 1 (rcs [rowC (nm, dt)]) ?jhhx1 (rcs_one_len _) (cell_row _ (rowC (nm, dt))) (rcs_one _) hm1 hm2 (le_allocX hsz5) ?jhhk1
                case jhho1 => rfl
                case jhzs1 => rfl
                case jhhs1 => kernel_rfl
                case jhhx1 => kernel_rfl
                intro v2 w7 o2 g2 n2
                clear n2
                have blk : ∀ j, j < Wd.heap.size → (Value.slice ad n0 c0).ownBlock ≠ some j → w7.heap[j]? = Wd.heap[j]? := fun j hj hn => by
                  rw [g2.block j (by have := B6.out.size; omega) (fun e => hn e.symm), B6.out.block j hj]
                have nB : (Value.slice ad n0 c0).ownBlock ≠ some (w.heap.size + 1) := fun e => by have := HVB.out _ e; omega
                have nW : (Value.slice ad n0 c0).ownBlock ≠ some wr.heap.size := fun e => by have := HVB.out _ e; omega
                have cel : ∀ j o, j < Wd.heap.size → (Value.slice ad n0 c0).ownBlock ≠ some j → w7.cell? ⟨j, o, none⟩ = Wd.cell? ⟨j, o, none⟩ := fun j o hj hn => by simp only [World.cell?, blk j hj hn]
                have fro : ∀ j o, j < Wd.heap.size → (Value.slice ad n0 c0).ownBlock ≠ some j → w7.frozen? ⟨j, o, none⟩ = Wd.frozen? ⟨j, o, none⟩ := fun j o hj hn => by simp only [World.frozen?, blk j hj hn]
                have S7 : Hid ((fun x : World => x.cell? ⟨wr.heap.size, 0, none⟩ = some (.string nm) ∧ x.cell? ⟨wr.heap.size, 1, none⟩ = some (.string dt)) w7) := by
                  obtain ⟨y0, y1⟩ := SC.out Wd (Below.refl _ _)
                  exact ⟨by rw [cel _ 0 (by omega) nW]; exact y0, by rw [cel _ 1 (by omega) nW]; exact y1⟩
                have M7 := hide (MM1.out w7 (fun o => cel _ o (by omega) nB) (fun o => fro _ o (by omega) nB))
                have K7 : Hid (KbX (fun i => i = w.heap.size + 1) W0 w7) := ((KD.out.blw B6.out).grown g2 (fun j hj => (HVB.out j hj).1))
                obtain ⟨ad2, k2, c2, rfl⟩ := own_shapeX o2
                have O7 := hide o2
                clear o2 g2 blk cel fro
                refine hK.out _ _ (S7.out) (fun hHeld => ?_)
                clear hK
                (try simp only [Act.put, List.setIfInBounds_toArray, List.set_cons_zero, List.set_cons_succ])
                refine wpAnyH_take (i := 18) (v := (.pointer (some ⟨w.heap.size + 1, 3, none⟩))) rfl (by kernel_rfl) (by kernel_rfl) (by kernel_rfl) (fun _ _ _ h => h) (Or.inl ⟨by rfl, ?_⟩) (by assumption) ?_
                · intro w' hSw
                  (try dsimp only at hSw)
                  go_simp <;> first | exact i64_in (by omega) (by omega) | exact u32_in (by omega) (by omega) | exact u32_add _ _ | (rw [Int.tmod_eq_emod_of_nonneg (by omega)]; omega) | (rw [Int.tdiv_eq_ediv_of_nonneg (by omega)]; omega) | omega
                (try simp only [Act.put, List.setIfInBounds_toArray, List.set_cons_zero, List.set_cons_succ])
                have z3 := M7.out.c3
                have zf := M7.out.fz 3 ⟨by omega, by omega⟩
                refine wpAnyH_ready (rs := [19]) (by kernel_rfl) (by simp) ?_
                refine AllReadyH.cons rfl (fun K hK => ?_) AllReadyH.nil
                go_simp
                have ks := Kb.set (w.heap.size + 1) 3 w7 (.slice ad2 k2 c2)
                have hW7 : wr.heap.size < w7.heap.size := lt_of_cell? S7.out.1
                have hnb : wr.heap.size ≠ w.heap.size + 1 := by omega
                have RELF : Hid (∃ v', ManAt (w7.setCell ⟨w.heap.size + 1, 3, none⟩ (.slice ad2 k2 c2)) (w.heap.size + 1) st v' (totS ((fs.take k).map rowC) : Int) 0 ∧ (w7.setCell ⟨w.heap.size + 1, 3, none⟩ (.slice ad2 k2 c2)).ownsRow W0.heap.size 109 4 v' (k + 1) (rcs ((fs.take (k + 1)).map rowC)) ∧ KbX (fun i => i = w.heap.size + 1) W0 (w7.setCell ⟨w.heap.size + 1, 3, none⟩ (.slice ad2 k2 c2)) ∧ (w7.setCell ⟨w.heap.size + 1, 3, none⟩ (.slice ad2 k2 c2)).cell? ⟨wr.heap.size, 1, none⟩ = some (.string dt)) := by
                  refine ⟨.slice ad2 k2 c2, M7.out.set3 _, ?_, K7.out.trans (KbX.of ks rfl), by rw [ks.cell hW7 hnb]; exact S7.out.2⟩
                  rw [RS.out, rcs_append]
                  exact own_kbx O7.out (KbX.of (X := fun x => x = w.heap.size + 1) ks rfl) (fun j hj => by rw [hj]; omega)
                refine hK.out _ _ (by obtain ⟨y0, y1⟩ := S7.out; exact ⟨by rw [ks.cell hW7 hnb]; exact y0, by rw [ks.cell hW7 hnb]; exact y1⟩) (fun hHeld => ?_)
                clear hK
                (try simp only [Act.put, List.setIfInBounds_toArray, List.set_cons_zero, List.set_cons_succ])
                refine wpAnyH_done (by kernel_rfl) ?_ _
                clear hHeld
                clear K7 O7 M7 S7 ks z3 zf SC MM1 TM CR MR
                go_simp
                go_wp2_with fail
                go_meet
                case rel => exact RELF.out
            · skip
              refine wpAnyH_ready (rs := [14]) (by kernel_rfl) (by simp) ?_
              refine AllReadyH.cons rfl (fun K hK => ?_) AllReadyH.nil
              go_simp
              refine Calls.mono (MR.out _ (We.heap.size) (TM.out _ B2.out) Q2.out) ?_
              rintro x w5 ⟨rfl, b5⟩
              have B5 := hide (B2.out.trans (b5.mono B2.out.size))
              clear b5
              refine hK.out _ _ (SC.out _ B5.out) (fun hHeld => ?_)
              clear hK
              (try simp only [Act.put, List.setIfInBounds_toArray, List.set_cons_zero, List.set_cons_succ])
              refine wpAnyH_take (i := 15) (v := (.agg #[.string nm, .int .i64 (dt.size : Int), .int .i64 (crcN 0 dt.data.toList : Int), .string (strOf (md5L dt.data.toList))])) rfl (by kernel_rfl) (by kernel_rfl) (by kernel_rfl) (fun _ _ _ h => h) (Or.inl ⟨by rfl, ?_⟩) (by assumption) ?_
              · intro w' hSw
                (try dsimp only at hSw)
                go_simp <;> first | exact i64_in (by omega) (by omega) | exact u32_in (by omega) (by omega) | exact u32_add _ _ | (rw [Int.tmod_eq_emod_of_nonneg (by omega)]; omega) | (rw [Int.tdiv_eq_ediv_of_nonneg (by omega)]; omega) | omega
              (try simp only [Act.put, List.setIfInBounds_toArray, List.set_cons_zero, List.set_cons_succ])
              have B6 : Hid (Below Wd.heap.size Wd (w5.alloc (.cells #[.string nm, .int .i64 (dt.size : Int), .int .i64 (crcN 0 dt.data.toList : Int), .string (strOf (md5L dt.data.toList))] 109))) := B5.out.alloc B5.out.size _
              refine wpAnyH_ready (rs := [16]) (by kernel_rfl) (by simp) ?_
              refine AllReadyH.cons rfl (fun K hK => ?_) AllReadyH.nil
              go_simp
              refine hK.out _ _ (SC.out _ B6.out) (fun hHeld => ?_)
              clear hK
              (try simp only [Act.put, List.setIfInBounds_toArray, List.set_cons_zero, List.set_cons_succ])
              refine wpAnyH_ready (rs := [17]) (by kernel_rfl) (by simp) ?_
              refine AllReadyH.cons rfl (fun K hK => ?_) AllReadyH.nil
              refine ite_yes' (by rfl) ?_
              have O5 := hide (own_blw OD.out B5.out)
              have hsz5 : W0.heap.size ≤ w5.heap.size := Nat.le_trans KD.out.size B5.out.size
              refine wp_append_own (w5.alloc (.cells #[.string nm, .int .i64 (dt.size : Int), .int .i64 (crcN 0 dt.data.toList : Int), .string (strOf (md5L dt.data.toList))] 109)) (.tmp 53) (.tmp 68) 50 ?jhho2 W0.heap.size 109 i0 (.agg #[.string ⟨#[]⟩, .int .i64 0, .int .i64 0, .string ⟨#[]⟩]) 4 48 Tryz.underlying50 hi hz0 hz1 hz2 ?jhzs2 (by decide) (.slice ad n0 c0) k (rcs ((fs.take k).map rowC)) ?jhhs2 (O5.out.alloc _) ⟨w5.heap.size, 0, none⟩ 1 1 (rcs [rowC (nm, dt)]) ?jhhx2 (rcs_one_len _) (cell_row _ (rowC (nm, dt))) (rcs_one _) hm1 hm2 (le_allocX hsz5) ?jhhk2
              case jhho2 => rfl
              case jhzs2 => rfl
              case jhhs2 => kernel_rfl
              case jhhx2 => kernel_rfl
              intro v2 w7 o2 g2 n2
              clear n2
              have blk : ∀ j, j < Wd.heap.size → (Value.slice ad n0 c0).ownBlock ≠ some j → w7.heap[j]? = Wd.heap[j]? := fun j hj hn => by
                rw [g2.block j (by have := B6.out.size; omega) (fun e => hn e.symm), B6.out.block j hj]
              have nB : (Value.slice ad n0 c0).ownBlock ≠ some (w.heap.size + 1) := fun e => by have := HVB.out _ e; omega
              have nW : (Value.slice ad n0 c0).ownBlock ≠ some wr.heap.size := fun e => by have := HVB.out _ e; omega
              have cel : ∀ j o, j < Wd.heap.size → (Value.slice ad n0 c0).ownBlock ≠ some j → w7.cell? ⟨j, o, none⟩ = Wd.cell? ⟨j, o, none⟩ := fun j o hj hn => by simp only [World.cell?, blk j hj hn]
              have fro : ∀ j o, j < Wd.heap.size → (Value.slice ad n0 c0).ownBlock ≠ some j → w7.frozen? ⟨j, o, none⟩ = Wd.frozen? ⟨j, o, none⟩ := fun j o hj hn => by simp only [World.frozen?, blk j hj hn]
              have S7 : Hid ((fun x : World => x.cell? ⟨wr.heap.size, 0, none⟩ = some (.string nm) ∧ x.cell? ⟨wr.heap.size, 1, none⟩ = some (.string dt)) w7) := by
                obtain ⟨y0, y1⟩ := SC.out Wd (Below.refl _ _)
                exact ⟨by rw [cel _ 0 (by omega) nW]; exact y0, by rw [cel _ 1 (by omega) nW]; exact y1⟩
              have M7 := hide (MM1.out w7 (fun o => cel _ o (by omega) nB) (fun o => fro _ o (by omega) nB))
              have K7 : Hid (KbX (fun i => i = w.heap.size + 1) W0 w7) := ((KD.out.blw B6.out).grown g2 (fun j hj => (HVB.out j hj).1))
              obtain ⟨ad2, k2, c2, rfl⟩ := own_shapeX o2
              have O7 := hide o2
              clear o2 g2 blk cel fro
              refine hK.out _ _ (S7.out) (fun hHeld => ?_)
              clear hK
              (try simp only [Act.put, List.setIfInBounds_toArray, List.set_cons_zero, List.set_cons_succ])
              refine wpAnyH_take (i := 18) (v := (.pointer (some ⟨w.heap.size + 1, 3, none⟩))) rfl (by kernel_rfl) (by kernel_rfl) (by kernel_rfl) (fun _ _ _ h => h) (Or.inl ⟨by rfl, ?_⟩) (by assumption) ?_
              · intro w' hSw
                (try dsimp only at hSw)
                go_simp <;> first | exact i64_in (by omega) (by omega) | exact u32_in (by omega) (by omega) | exact u32_add _ _ | (rw [Int.tmod_eq_emod_of_nonneg (by omega)]; omega) | (rw [Int.tdiv_eq_ediv_of_nonneg (by omega)]; omega) | omega
              (try simp only [Act.put, List.setIfInBounds_toArray, List.set_cons_zero, List.set_cons_succ])
              have z3 := M7.out.c3
              have zf := M7.out.fz 3 ⟨by omega, by omega⟩
              refine wpAnyH_ready (rs := [19]) (by kernel_rfl) (by simp) ?_
              refine AllReadyH.cons rfl (fun K hK => ?_) AllReadyH.nil
              go_simp
              have ks := Kb.set (w.heap.size + 1) 3 w7 (.slice ad2 k2 c2)
              have hW7 : wr.heap.size < w7.heap.size := lt_of_cell? S7.out.1
              have hnb : wr.heap.size ≠ w.heap.size + 1 := by omega
              have RELF : Hid (∃ v', ManAt (w7.setCell ⟨w.heap.size + 1, 3, none⟩ (.slice ad2 k2 c2)) (w.heap.size + 1) st v' (totS ((fs.take k).map rowC) : Int) 0 ∧ (w7.setCell ⟨w.heap.size + 1, 3, none⟩ (.slice ad2 k2 c2)).ownsRow W0.heap.size 109 4 v' (k + 1) (rcs ((fs.take (k + 1)).map rowC)) ∧ KbX (fun i => i = w.heap.size + 1) W0 (w7.setCell ⟨w.heap.size + 1, 3, none⟩ (.slice ad2 k2 c2)) ∧ (w7.setCell ⟨w.heap.size + 1, 3, none⟩ (.slice ad2 k2 c2)).cell? ⟨wr.heap.size, 1, none⟩ = some (.string dt)) := by
                refine ⟨.slice ad2 k2 c2, M7.out.set3 _, ?_, K7.out.trans (KbX.of ks rfl), by rw [ks.cell hW7 hnb]; exact S7.out.2⟩
                rw [RS.out, rcs_append]
                exact own_kbx O7.out (KbX.of (X := fun x => x = w.heap.size + 1) ks rfl) (fun j hj => by rw [hj]; omega)
              refine hK.out _ _ (by obtain ⟨y0, y1⟩ := S7.out; exact ⟨by rw [ks.cell hW7 hnb]; exact y0, by rw [ks.cell hW7 hnb]; exact y1⟩) (fun hHeld => ?_)
              clear hK
              (try simp only [Act.put, List.setIfInBounds_toArray, List.set_cons_zero, List.set_cons_succ])
              refine wpAnyH_done (by kernel_rfl) ?_ _
              clear hHeld
              clear K7 O7 M7 S7 ks z3 zf SC MM1 TM CR MR
              go_simp
              go_wp2_with fail
              go_meet
              case rel => exact RELF.out
            · skip
              refine wpAnyH_ready (rs := [1, 14]) (by kernel_rfl) (by simp) ?_
              refine AllReadyH.cons rfl (fun K hK => ?_) (AllReadyH.cons rfl (fun K hK => ?_) AllReadyH.nil)
              · skip
                have y3 := C3.out _ B2.out
                go_simp
                clear y3
                refine hK.out _ _ (SC.out _ B2.out) (fun hHeld => ?_)
                clear hK
                (try simp only [Act.put, List.setIfInBounds_toArray, List.set_cons_zero, List.set_cons_succ])
                exact RAa
              · skip
                go_simp
                refine Calls.mono (MR.out _ (We.heap.size + 1) (TM.out _ B2.out) Q3.out) ?_
                rintro x w5 ⟨rfl, b5⟩
                have B5 := hide (B2.out.trans (b5.mono B2.out.size))
                clear b5
                refine hK.out _ _ (SC.out _ B5.out) (fun hHeld => ?_)
                clear hK
                (try simp only [Act.put, List.setIfInBounds_toArray, List.set_cons_zero, List.set_cons_succ])
                refine wpAnyH_take (i := 15) (v := (.agg #[.string nm, .int .i64 (dt.size : Int), .int .i64 (crcN 0 dt.data.toList : Int), .string (strOf (md5L dt.data.toList))])) rfl (by kernel_rfl) (by kernel_rfl) (by kernel_rfl) (fun _ _ _ h => h) (Or.inl ⟨by rfl, ?_⟩) (by assumption) ?_
                · intro w' hSw
                  (try dsimp only at hSw)
                  go_simp <;> first | exact i64_in (by omega) (by omega) | exact u32_in (by omega) (by omega) | exact u32_add _ _ | (rw [Int.tmod_eq_emod_of_nonneg (by omega)]; omega) | (rw [Int.tdiv_eq_ediv_of_nonneg (by omega)]; omega) | omega
                (try simp only [Act.put, List.setIfInBounds_toArray, List.set_cons_zero, List.set_cons_succ])
                have B6 : Hid (Below Wd.heap.size Wd (w5.alloc (.cells #[.string nm, .int .i64 (dt.size : Int), .int .i64 (crcN 0 dt.data.toList : Int), .string (strOf (md5L dt.data.toList))] 109))) := B5.out.alloc B5.out.size _
                refine' via (R := _) (fun RT => ?_) ?_
                rotate_left 1
                refine wpAnyH_ready (rs := [1, 16]) (by kernel_rfl) (by simp) ?_
                refine AllReadyH.cons rfl (fun K hK => ?_) (AllReadyH.cons rfl (fun K hK => ?_) AllReadyH.nil)
                · skip
                  have y3 := C3.out _ B5.out
                  go_simp
                  clear y3
                  refine hK.out _ _ (SC.out _ B5.out) (fun hHeld => ?_)
                  clear hK
                  (try simp only [Act.put, List.setIfInBounds_toArray, List.set_cons_zero, List.set_cons_succ])
                  refine wpAnyH_ready (rs := [16]) (by kernel_rfl) (by simp) ?_
                  refine AllReadyH.cons rfl (fun K hK => ?_) AllReadyH.nil
                  go_simp
                  refine hK.out _ _ (SC.out _ B6.out) (fun hHeld => ?_)
                  clear hK
                  (try simp only [Act.put, List.setIfInBounds_toArray, List.set_cons_zero, List.set_cons_succ])
                  exact RT
                · skip
                  go_simp
                  refine hK.out _ _ (SC.out _ B6.out) (fun hHeld => ?_)
                  clear hK
                  (try simp only [Act.put, List.setIfInBounds_toArray, List.set_cons_zero, List.set_cons_succ])
                  refine wpAnyH_ready (rs := [1]) (by kernel_rfl) (by simp) ?_
                  refine AllReadyH.cons rfl (fun K hK => ?_) AllReadyH.nil
                  have y3 := C3.out _ B6.out
                  go_simp
                  clear y3
                  refine hK.out _ _ (SC.out _ B6.out) (fun hHeld => ?_)
                  clear hK
                  (try simp only [Act.put, List.setIfInBounds_toArray, List.set_cons_zero, List.set_cons_succ])
                  exact RT
                refine wpAnyH_ready (rs := [17]) (by kernel_rfl) (by simp) ?_
                refine AllReadyH.cons rfl (fun K hK => ?_) AllReadyH.nil
                refine ite_yes' (by rfl) ?_
                have O5 := hide (own_blw OD.out B5.out)
                have hsz5 : W0.heap.size ≤ w5.heap.size := Nat.le_trans KD.out.size B5.out.size
                refine wp_append_own (w5.alloc (.cells #[.string nm, .int .i64 (dt.size : Int), .int .i64 (crcN 0 dt.data.toList : Int), .string (strOf (md5L dt.data.toList))] 109)) (.tmp 53) (.tmp 68) 50 ?jhho3 W0.heap.size 109 i0 (.agg #[.string ⟨#[]⟩, .int .i64 0, .int .i64 0, .string ⟨#[]⟩]) 4 48 Tryz.underlying50 hi hz0 hz1 hz2 ?jhzs3 (by decide) (.slice ad n0 c0) k (rcs ((fs.take k).map rowC)) ?jhhs3 (O5.out.alloc _) ⟨w5.heap.size, 0, none⟩ 1 1 (rcs [rowC (nm, dt)]) ?jhhx3 (rcs_one_len _) (cell_row _ (rowC (nm, dt))) (rcs_one _) hm1 hm2 (le_allocX hsz5) ?jhhk3
                case jhho3 => rfl
                case jhzs3 => rfl
                case jhhs3 => kernel_rfl
                case jhhx3 => kernel_rfl
                intro v2 w7 o2 g2 n2
                clear n2
                have blk : ∀ j, j < Wd.heap.size → (Value.slice ad n0 c0).ownBlock ≠ some j → w7.heap[j]? = Wd.heap[j]? := fun j hj hn => by
                  rw [g2.block j (by have := B6.out.size; omega) (fun e => hn e.symm), B6.out.block j hj]
                have nB : (Value.slice ad n0 c0).ownBlock ≠ some (w.heap.size + 1) := fun e => by have := HVB.out _ e; omega
                have nW : (Value.slice ad n0 c0).ownBlock ≠ some wr.heap.size := fun e => by have := HVB.out _ e; omega
                have cel : ∀ j o, j < Wd.heap.size → (Value.slice ad n0 c0).ownBlock ≠ some j → w7.cell? ⟨j, o, none⟩ = Wd.cell? ⟨j, o, none⟩ := fun j o hj hn => by simp only [World.cell?, blk j hj hn]
                have fro : ∀ j o, j < Wd.heap.size → (Value.slice ad n0 c0).ownBlock ≠ some j → w7.frozen? ⟨j, o, none⟩ = Wd.frozen? ⟨j, o, none⟩ := fun j o hj hn => by simp only [World.frozen?, blk j hj hn]
                have S7 : Hid ((fun x : World => x.cell? ⟨wr.heap.size, 0, none⟩ = some (.string nm) ∧ x.cell? ⟨wr.heap.size, 1, none⟩ = some (.string dt)) w7) := by
                  obtain ⟨y0, y1⟩ := SC.out Wd (Below.refl _ _)
                  exact ⟨by rw [cel _ 0 (by omega) nW]; exact y0, by rw [cel _ 1 (by omega) nW]; exact y1⟩
                have M7 := hide (MM1.out w7 (fun o => cel _ o (by omega) nB) (fun o => fro _ o (by omega) nB))
                have K7 : Hid (KbX (fun i => i = w.heap.size + 1) W0 w7) := ((KD.out.blw B6.out).grown g2 (fun j hj => (HVB.out j hj).1))
                obtain ⟨ad2, k2, c2, rfl⟩ := own_shapeX o2
                have O7 := hide o2
                clear o2 g2 blk cel fro
                refine hK.out _ _ (S7.out) (fun hHeld => ?_)
                clear hK
                (try simp only [Act.put, List.setIfInBounds_toArray, List.set_cons_zero, List.set_cons_succ])
                refine wpAnyH_take (i := 18) (v := (.pointer (some ⟨w.heap.size + 1, 3, none⟩))) rfl (by kernel_rfl) (by kernel_rfl) (by kernel_rfl) (fun _ _ _ h => h) (Or.inl ⟨by rfl, ?_⟩) (by assumption) ?_
                · intro w' hSw
                  (try dsimp only at hSw)
                  go_simp <;> first | exact i64_in (by omega) (by omega) | exact u32_in (by omega) (by omega) | exact u32_add _ _ | (rw [Int.tmod_eq_emod_of_nonneg (by omega)]; omega) | (rw [Int.tdiv_eq_ediv_of_nonneg (by omega)]; omega) | omega
                (try simp only [Act.put, List.setIfInBounds_toArray, List.set_cons_zero, List.set_cons_succ])
                have z3 := M7.out.c3
                have zf := M7.out.fz 3 ⟨by omega, by omega⟩
                refine wpAnyH_ready (rs := [19]) (by kernel_rfl) (by simp) ?_
                refine AllReadyH.cons rfl (fun K hK => ?_) AllReadyH.nil
                go_simp
                have ks := Kb.set (w.heap.size + 1) 3 w7 (.slice ad2 k2 c2)
                have hW7 : wr.heap.size < w7.heap.size := lt_of_cell? S7.out.1
                have hnb : wr.heap.size ≠ w.heap.size + 1 := by omega
                have RELF : Hid (∃ v', ManAt (w7.setCell ⟨w.heap.size + 1, 3, none⟩ (.slice ad2 k2 c2)) (w.heap.size + 1) st v' (totS ((fs.take k).map rowC) : Int) 0 ∧ (w7.setCell ⟨w.heap.size + 1, 3, none⟩ (.slice ad2 k2 c2)).ownsRow W0.heap.size 109 4 v' (k + 1) (rcs ((fs.take (k + 1)).map rowC)) ∧ KbX (fun i => i = w.heap.size + 1) W0 (w7.setCell ⟨w.heap.size + 1, 3, none⟩ (.slice ad2 k2 c2)) ∧ (w7.setCell ⟨w.heap.size + 1, 3, none⟩ (.slice ad2 k2 c2)).cell? ⟨wr.heap.size, 1, none⟩ = some (.string dt)) := by
                  refine ⟨.slice ad2 k2 c2, M7.out.set3 _, ?_, K7.out.trans (KbX.of ks rfl), by rw [ks.cell hW7 hnb]; exact S7.out.2⟩
                  rw [RS.out, rcs_append]
                  exact own_kbx O7.out (KbX.of (X := fun x => x = w.heap.size + 1) ks rfl) (fun j hj => by rw [hj]; omega)
                refine hK.out _ _ (by obtain ⟨y0, y1⟩ := S7.out; exact ⟨by rw [ks.cell hW7 hnb]; exact y0, by rw [ks.cell hW7 hnb]; exact y1⟩) (fun hHeld => ?_)
                clear hK
                (try simp only [Act.put, List.setIfInBounds_toArray, List.set_cons_zero, List.set_cons_succ])
                refine wpAnyH_done (by kernel_rfl) ?_ _
                clear hHeld
                clear K7 O7 M7 S7 ks z3 zf SC MM1 TM CR MR
                go_simp
                go_wp2_with fail
                go_meet
                case rel => exact RELF.out
            · skip
              refine wpAnyH_ready (rs := [14]) (by kernel_rfl) (by simp) ?_
              refine AllReadyH.cons rfl (fun K hK => ?_) AllReadyH.nil
              go_simp
              refine Calls.mono (MR.out _ (We.heap.size + 1) (TM.out _ B2.out) Q3.out) ?_
              rintro x w5 ⟨rfl, b5⟩
              have B5 := hide (B2.out.trans (b5.mono B2.out.size))
              clear b5
              refine hK.out _ _ (SC.out _ B5.out) (fun hHeld => ?_)
              clear hK
              (try simp only [Act.put, List.setIfInBounds_toArray, List.set_cons_zero, List.set_cons_succ])
              refine wpAnyH_take (i := 15) (v := (.agg #[.string nm, .int .i64 (dt.size : Int), .int .i64 (crcN 0 dt.data.toList : Int), .string (strOf (md5L dt.data.toList))])) rfl (by kernel_rfl) (by kernel_rfl) (by kernel_rfl) (fun _ _ _ h => h) (Or.inl ⟨by rfl, ?_⟩) (by assumption) ?_
              · intro w' hSw
                (try dsimp only at hSw)
                go_simp <;> first | exact i64_in (by omega) (by omega) | exact u32_in (by omega) (by omega) | exact u32_add _ _ | (rw [Int.tmod_eq_emod_of_nonneg (by omega)]; omega) | (rw [Int.tdiv_eq_ediv_of_nonneg (by omega)]; omega) | omega
              (try simp only [Act.put, List.setIfInBounds_toArray, List.set_cons_zero, List.set_cons_succ])
              have B6 : Hid (Below Wd.heap.size Wd (w5.alloc (.cells #[.string nm, .int .i64 (dt.size : Int), .int .i64 (crcN 0 dt.data.toList : Int), .string (strOf (md5L dt.data.toList))] 109))) := B5.out.alloc B5.out.size _
              refine wpAnyH_ready (rs := [16]) (by kernel_rfl) (by simp) ?_
              refine AllReadyH.cons rfl (fun K hK => ?_) AllReadyH.nil
              go_simp
              refine hK.out _ _ (SC.out _ B6.out) (fun hHeld => ?_)
              clear hK
              (try simp only [Act.put, List.setIfInBounds_toArray, List.set_cons_zero, List.set_cons_succ])
              refine wpAnyH_ready (rs := [17]) (by kernel_rfl) (by simp) ?_
              refine AllReadyH.cons rfl (fun K hK => ?_) AllReadyH.nil
              refine ite_yes' (by rfl) ?_
              have O5 := hide (own_blw OD.out B5.out)
              have hsz5 : W0.heap.size ≤ w5.heap.size := Nat.le_trans KD.out.size B5.out.size
              refine wp_append_own (w5.alloc (.cells #[.string nm, .int .i64 (dt.size : Int), .int .i64 (crcN 0 dt.data.toList : Int), .string (strOf (md5L dt.data.toList))] 109)) (.tmp 53) (.tmp 68) 50 ?jhho4 W0.heap.size 109 i0 (.agg #[.string ⟨#[]⟩, .int .i64 0, .int .i64 0, .string ⟨#[]⟩]) 4 48 Tryz.underlying50 hi hz0 hz1 hz2 ?jhzs4 (by decide) (.slice ad n0 c0) k (rcs ((fs.take k).map rowC)) ?jhhs4 (O5.out.alloc _) ⟨w5.heap.size, 0, none⟩ 1 1 (rcs [rowC (nm, dt)]) ?jhhx4 (rcs_one_len _) (cell_row _ (rowC (nm, dt))) (rcs_one _) hm1 hm2 (le_allocX hsz5) ?jhhk4
              case jhho4 => rfl
              case jhzs4 => rfl
              case jhhs4 => kernel_rfl
              case jhhx4 => kernel_rfl
              intro v2 w7 o2 g2 n2
              clear n2
              have blk : ∀ j, j < Wd.heap.size → (Value.slice ad n0 c0).ownBlock ≠ some j → w7.heap[j]? = Wd.heap[j]? := fun j hj hn => by
                rw [g2.block j (by have := B6.out.size; omega) (fun e => hn e.symm), B6.out.block j hj]
              have nB : (Value.slice ad n0 c0).ownBlock ≠ some (w.heap.size + 1) := fun e => by have := HVB.out _ e; omega
              have nW : (Value.slice ad n0 c0).ownBlock ≠ some wr.heap.size := fun e => by have := HVB.out _ e; omega
              have cel : ∀ j o, j < Wd.heap.size → (Value.slice ad n0 c0).ownBlock ≠ some j → w7.cell? ⟨j, o, none⟩ = Wd.cell? ⟨j, o, none⟩ := fun j o hj hn => by simp only [World.cell?, blk j hj hn]
              have fro : ∀ j o, j < Wd.heap.size → (Value.slice ad n0 c0).ownBlock ≠ some j → w7.frozen? ⟨j, o, none⟩ = Wd.frozen? ⟨j, o, none⟩ := fun j o hj hn => by simp only [World.frozen?, blk j hj hn]
              have S7 : Hid ((fun x : World => x.cell? ⟨wr.heap.size, 0, none⟩ = some (.string nm) ∧ x.cell? ⟨wr.heap.size, 1, none⟩ = some (.string dt)) w7) := by
                obtain ⟨y0, y1⟩ := SC.out Wd (Below.refl _ _)
                exact ⟨by rw [cel _ 0 (by omega) nW]; exact y0, by rw [cel _ 1 (by omega) nW]; exact y1⟩
              have M7 := hide (MM1.out w7 (fun o => cel _ o (by omega) nB) (fun o => fro _ o (by omega) nB))
              have K7 : Hid (KbX (fun i => i = w.heap.size + 1) W0 w7) := ((KD.out.blw B6.out).grown g2 (fun j hj => (HVB.out j hj).1))
              obtain ⟨ad2, k2, c2, rfl⟩ := own_shapeX o2
              have O7 := hide o2
              clear o2 g2 blk cel fro
              refine hK.out _ _ (S7.out) (fun hHeld => ?_)
              clear hK
              (try simp only [Act.put, List.setIfInBounds_toArray, List.set_cons_zero, List.set_cons_succ])
              refine wpAnyH_take (i := 18) (v := (.pointer (some ⟨w.heap.size + 1, 3, none⟩))) rfl (by kernel_rfl) (by kernel_rfl) (by kernel_rfl) (fun _ _ _ h => h) (Or.inl ⟨by rfl, ?_⟩) (by assumption) ?_
              · intro w' hSw
                (try dsimp only at hSw)
                go_simp <;> first | exact i64_in (by omega) (by omega) | exact u32_in (by omega) (by omega) | exact u32_add _ _ | (rw [Int.tmod_eq_emod_of_nonneg (by omega)]; omega) | (rw [Int.tdiv_eq_ediv_of_nonneg (by omega)]; omega) | omega
              (try simp only [Act.put, List.setIfInBounds_toArray, List.set_cons_zero, List.set_cons_succ])
              have z3 := M7.out.c3
              have zf := M7.out.fz 3 ⟨by omega, by omega⟩
              refine wpAnyH_ready (rs := [19]) (by kernel_rfl) (by simp) ?_
              refine AllReadyH.cons rfl (fun K hK => ?_) AllReadyH.nil
              go_simp
              have ks := Kb.set (w.heap.size + 1) 3 w7 (.slice ad2 k2 c2)
              have hW7 : wr.heap.size < w7.heap.size := lt_of_cell? S7.out.1
              have hnb : wr.heap.size ≠ w.heap.size + 1 := by omega
              have RELF : Hid (∃ v', ManAt (w7.setCell ⟨w.heap.size + 1, 3, none⟩ (.slice ad2 k2 c2)) (w.heap.size + 1) st v' (totS ((fs.take k).map rowC) : Int) 0 ∧ (w7.setCell ⟨w.heap.size + 1, 3, none⟩ (.slice ad2 k2 c2)).ownsRow W0.heap.size 109 4 v' (k + 1) (rcs ((fs.take (k + 1)).map rowC)) ∧ KbX (fun i => i = w.heap.size + 1) W0 (w7.setCell ⟨w.heap.size + 1, 3, none⟩ (.slice ad2 k2 c2)) ∧ (w7.setCell ⟨w.heap.size + 1, 3, none⟩ (.slice ad2 k2 c2)).cell? ⟨wr.heap.size, 1, none⟩ = some (.string dt)) := by
                refine ⟨.slice ad2 k2 c2, M7.out.set3 _, ?_, K7.out.trans (KbX.of ks rfl), by rw [ks.cell hW7 hnb]; exact S7.out.2⟩
                rw [RS.out, rcs_append]
                exact own_kbx O7.out (KbX.of (X := fun x => x = w.heap.size + 1) ks rfl) (fun j hj => by rw [hj]; omega)
              refine hK.out _ _ (by obtain ⟨y0, y1⟩ := S7.out; exact ⟨by rw [ks.cell hW7 hnb]; exact y0, by rw [ks.cell hW7 hnb]; exact y1⟩) (fun hHeld => ?_)
              clear hK
              (try simp only [Act.put, List.setIfInBounds_toArray, List.set_cons_zero, List.set_cons_succ])
              refine wpAnyH_done (by kernel_rfl) ?_ _
              clear hHeld
              clear K7 O7 M7 S7 ks z3 zf SC MM1 TM CR MR
              go_simp
              go_wp2_with fail
              go_meet
              case rel => exact RELF.out
          case rest =>
            obtain ⟨v', M8, O8, K8, c8⟩ := hcut
            obtain ⟨ad2, n2, c2, rfl⟩ := own_shapeX O8
            have z4 := M8.c4
            have zf := M8.fz 4 ⟨by omega, by omega⟩
            have M9 := hide (M8.set4 ((totS ((fs.take k).map rowC) : Int) + (dt.size : Int)))
            have hwb : wr.heap.size ≠ w.heap.size + 1 := by omega
            have hw8 : wr.heap.size < wc.heap.size := lt_of_cell? c8
            have ks := Kb.set (w.heap.size + 1) 4 wc (.int .i64 ((totS ((fs.take k).map rowC) : Int) + (dt.size : Int)))
            have c9 : (wc.setCell ⟨w.heap.size + 1, 4, none⟩ (.int .i64 ((totS ((fs.take k).map rowC) : Int) + (dt.size : Int)))).cell? ⟨wr.heap.size, 1, none⟩ = some (.string dt) := by rw [ks.cell hw8 hwb]; exact c8
            have O9 := hide (own_kbx O8 (KbX.of (X := fun x => x = w.heap.size + 1) ks rfl) (fun j hj => by rw [hj]; omega))
            have K9 := hide (K8.trans (KbX.of ks rfl))
            have hts := totC_le fs k
            have hts2 : (totS ((fs.take (k + 1)).map rowC) : Int) = (totS ((fs.take k).map rowC) : Int) + (dt.size : Int) := by rw [RS.out, totS_snoc]; show (((totS ((fs.take k).map rowC) + ((dt.size : Int)).toNat : Nat)) : Int) = _; rw [Int.toNat_natCast]; omega
            have HTS := hide hts2
            have HCS : Hid (strOf (catC (fs.take k)) ++ dt = strOf (catC (fs.take (k + 1)))) := by show _ = _; rw [CS.out, strOf_append, strOf_toList]
            have hca : (strOf (catC (fs.take k))).size + dt.size ≤ 140737488355328 := by rw [strOf_size]; omega
            clear hts2 M8 O8 K8 ks CS RS
            generalize totS ((fs.take k).map rowC) = TT at *
            go_wp2_with fail
            exact ⟨⟨k + 1, .slice ad2 n2 c2, by omega, by go_num, by rw [HCS.out], rfl, by rw [HTS.out]; exact M9.out, O9.out, K9.out⟩, by simp [intOf]; omega⟩
      · obtain rfl : k = fs.length := by omega
        have eT : fs.take fs.length = fs := List.take_length
        rw [eT] at H ⊢
        have M := hide H.out.1
        have O := hide H.out.2.1
        have K := hide H.out.2.2
        obtain ⟨ad, n0, c0, rfl⟩ := own_shapeX O.out
        have hsa : (strOf (catC fs)).size ≤ 1099511627776 := by rw [strOf_size]; omega
        have hmb : w.heap.size + 1 < wr.heap.size := lt_of_cell? M.out.c0
        obtain ⟨WA, hWA⟩ : ∃ WA, WA = wr.alloc (.cells #[.string (strOf (catC fs))] 9) := ⟨_, rfl⟩
        have bA : Below wr.heap.size wr WA := by rw [hWA]; exact (Below.refl _ _).alloc (Nat.le_refl _) _
        have cA : WA.cell? ⟨wr.heap.size, 0, none⟩ = some (.string (strOf (catC fs))) := by rw [hWA]; simp
        have KA := hide (K.out.blw bA)
        have TA : TabM WA := hT.below (b0.trans (KA.out.toBelow (B := w.heap.size) (fun i hi => by omega) (by omega)))
        have CR := hide (crc_one (strOf (catC fs)) wr.heap.size WA hsa TA cA)
        rw [strOf_data] at CR
        have MA : ManAt WA (w.heap.size + 1) st (.slice ad n0 c0) (totS (fs.map rowC) : Int) 0 := by
          obtain ⟨m0, m1, m2, m3, m4, m5, mf⟩ := M.out
          exact ⟨by rw [bA.cell (by exact hmb)]; exact m0, by rw [bA.cell (by exact hmb)]; exact m1, by rw [bA.cell (by exact hmb)]; exact m2, by rw [bA.cell (by exact hmb)]; exact m3, by rw [bA.cell (by exact hmb)]; exact m4, by rw [bA.cell (by exact hmb)]; exact m5, fun i hi => by rw [bA.frozen (by exact hmb)]; exact mf i hi⟩
        have z5 := MA.c5
        have zf5 := MA.fz 5 ⟨by omega, by omega⟩
        have MB := MA.set5 (crcN 0 (catC fs) : Int)
        have ks := Kb.set (w.heap.size + 1) 5 WA (.int .i64 (crcN 0 (catC fs) : Int))
        have OB := hide (own_kbx (own_blw O.out bA) (KbX.of (X := fun x => x = w.heap.size + 1) ks rfl) (fun j hj => by rw [hj]; omega))
        have KB := hide (KA.out.trans (KbX.of ks rfl))
        have RC : ∀ i, i < 6 → (WA.setCell ⟨w.heap.size + 1, 5, none⟩ (.int .i64 (crcN 0 (catC fs) : Int))).cell? ⟨w.heap.size, i, none⟩ = W0.cell? ⟨w.heap.size, i, none⟩ ∧ (WA.setCell ⟨w.heap.size + 1, 5, none⟩ (.int .i64 (crcN 0 (catC fs) : Int))).frozen? ⟨w.heap.size, i, none⟩ = W0.frozen? ⟨w.heap.size, i, none⟩ := fun i hi => ⟨KB.out.cell (by omega) (by omega), KB.out.frozen (by omega) (by omega)⟩
        obtain ⟨r0, f0⟩ := RC 0 (by omega)
        obtain ⟨r1, f1⟩ := RC 1 (by omega)
        obtain ⟨r2, f2⟩ := RC 2 (by omega)
        obtain ⟨r3, f3⟩ := RC 3 (by omega)
        obtain ⟨r4, f4⟩ := RC 4 (by omega)
        obtain ⟨r5, f5⟩ := RC 5 (by omega)
        have RW := rW.out
        rw [RW.1] at r0
        rw [RW.2.1] at r1
        rw [RW.2.2.1] at r2
        rw [RW.2.2.2.1] at r3
        rw [RW.2.2.2.2.1] at r4
        rw [RW.2.2.2.2.2.1] at r5
        rw [RW.2.2.2.2.2.2 0 (by omega)] at f0
        rw [RW.2.2.2.2.2.2 1 (by omega)] at f1
        rw [RW.2.2.2.2.2.2 2 (by omega)] at f2
        rw [RW.2.2.2.2.2.2 3 (by omega)] at f3
        rw [RW.2.2.2.2.2.2 4 (by omega)] at f4
        rw [RW.2.2.2.2.2.2 5 (by omega)] at f5
        obtain ⟨y0, y1, y2, y3, y4, y5, -⟩ := MB
        have hsz2 : w.heap.size + 1 < (WA.setCell ⟨w.heap.size + 1, 5, none⟩ (.int .i64 (crcN 0 (catC fs) : Int))).heap.size := by have := KB.out.size; omega
        have B0 := hide b0
        clear H eT hlt hk bA cA TA MA ks RC RW M O K KA b0 hT HL HAO HNM MM I0 LS LN hsa hlen hcat
        generalize hq1 : strOf (catC fs) = ALL at *
        generalize hq2 : crcN 0 (catC fs) = CC at *
        generalize hq3 : totS (fs.map rowC) = TT at *
        generalize hq4 : okUp st fs fs.length = OKK at *
        have HQ := hide (And.intro hq1 (And.intro hq2 (And.intro hq3 hq4)))
        clear hq1 hq2 hq3 hq4
        go_wp2_with fail
        rw [← hWA]
        refine Calls.mono CR.out ?_
        rintro x w' ⟨rfl, rfl⟩
        clear hWA CR
        generalize hWB : WA.setCell ⟨w.heap.size + 1, 5, none⟩ (.int .i64 (CC : Int)) = WB at *
        go_wp2_with fail
        have BB := hide (B0.out.trans ((KB.out.toBelow (B := w.heap.size) (fun i hi => by omega) (by omega)).mono (Nat.le_refl _)))
        refine bodyPost_ret (v := .tuple #[.agg #[.string st, .int .i64 7, .int .i64 3, .slice ad n0 c0, .int .i64 (TT : Int), .int .i64 (CC : Int)], .string ALL, .bool OKK]) ?hres ?hdef ?hpst
        case hdef => rfl
        case hres => simp [results, Tryz.results24, go_sem, r0, r1, r2, r3, r4, r5]
        refine ⟨.slice ad n0 c0, by rw [HQ.out.1, HQ.out.2.1, HQ.out.2.2.1, HQ.out.2.2.2], ?_, ?_⟩
        · have hk0 := fun (x : World) (o : Nat) (v : Value) => KbX.of (X := fun i => i = w.heap.size) (Kb.set w.heap.size o x v) rfl
          exact own_lower (own_kbx OB.out ((((((hk0 _ _ _).trans (hk0 _ _ _)).trans (hk0 _ _ _)).trans (hk0 _ _ _)).trans (hk0 _ _ _)).trans (hk0 _ _ _)) (fun j hj => by rw [hj]; omega)) (by omega)
        · exact (((((BB.out.setCell (Nat.le_refl _) _).setCell (Nat.le_refl _) _).setCell (Nat.le_refl _) _).setCell (Nat.le_refl _) _).setCell (Nat.le_refl _) _).setCell (Nat.le_refl _) _
end Go.Proofs.YtfpalfpfijcpbaaGreatDoor
