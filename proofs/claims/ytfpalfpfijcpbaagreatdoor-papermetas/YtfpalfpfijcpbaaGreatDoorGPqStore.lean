import Derived.Test.YtfpalfpfijcpbaaGreatDoorGPjSpNotes
import Derived.Test.YtfpalfpfijcpbaaGreatDoorPmBack
namespace Go.Proofs.YtfpalfpfijcpbaaGreatDoor
open Go.RowKit Go.Shelf
def isStC (c : UInt8) : Bool := isLow c || isDig c || c == 45
theorem st_class : ∀ n : Fin 256, stL.data.toList.contains (UInt8.ofNat n.1) = isStC (UInt8.ofNat n.1) ∧ ltL.data.toList.contains (UInt8.ofNat n.1) = isLow (UInt8.ofNat n.1) := by decide +kernel
theorem st_in (c : UInt8) : stL.data.toList.contains c = isStC c ∧ ltL.data.toList.contains c = isLow c := by
  have := st_class ⟨c.toNat, c.toNat_lt⟩
  simp only [UInt8.ofNat_toNat] at this
  exact this
theorem stA_snoc (t : ByteArray) (k : Nat) (h : k < t.size) : (t.data.toList.take (k + 1)).all isStC = ((t.data.toList.take k).all isStC && isStC t[k]) := by
  rw [List.take_succ_eq_append_getElem (by simpa using h), List.all_append]
  simp
  rfl
theorem stA_false (t : ByteArray) (k : Nat) (h : k < t.size) (hc : isStC t[k] = false) : t.data.toList.all isStC = false := by
  rw [List.all_eq_false]
  exact ⟨t[k], by have : t[k] = t.data.toList[k]'(by simpa using h) := rfl; rw [this]; exact List.getElem_mem _, by rw [hc]; simp⟩
theorem stOk_eq (t : ByteArray) (h0 : 0 < t.size) : stOk t 1 40 = (decide (t.size ≤ 40) && isLow t[0] && t.data.toList.all isStC) := by
  unfold stOk inR isSt allOf
  have e0 : t.data.toList.isEmpty = false := by
    cases hd : t.data.toList with
    | nil => rw [← size_data, hd] at h0; simp at h0
    | cons a b => rfl
  have e1 : (t.data.toList.take 1).all (fun c => ltL.data.toList.contains c) = isLow t[0] := by
    rw [List.take_succ_eq_append_getElem (by simpa using h0)]
    simp only [List.take_zero, List.nil_append, List.all_cons, List.all_nil, Bool.and_true]
    exact (st_in _).2
  have e2 : (t.data.toList.all fun c => stL.data.toList.contains c) = t.data.toList.all isStC := by
    congr 1; funext c; exact (st_in c).1
  rw [e0, e1, e2, decide_eq_true (show (1 : Int) ≤ (t.size : Int) by omega)]
  have e3 : decide ((t.size : Int) ≤ 40) = decide (t.size ≤ 40) := by rw [decide_eq_decide]; omega
  rw [e3]
  simp [Bool.and_assoc]
set_option maxHeartbeats 2000000 in
set_option maxRecDepth 100000 in
/-- the document's store -/
theorem rstore_any (t : ByteArray) (w : World) :
    Calls Tryz.prog 102 #[.string t] w fun e w' => e = .returned (.bool (stOk t 1 40)) ∧ w = w' := by
  by_cases h1 : t.size = 0
  · have e1 : stOk t 1 40 = false := by unfold stOk inR; rw [h1]; rfl
    rw [e1]
    go_enter Tryz.func102, Tryz.ntmps102
    go_wp2_with fail
    go_ret
    exact ⟨rfl, rfl⟩
  · have HE := hide (stOk_eq t (by omega))
    obtain ⟨E, hE⟩ : ∃ E, E = stOk t 1 40 := ⟨_, rfl⟩
    rw [← hE] at HE ⊢
    clear hE
    have h1' : ¬ (t.size : Int) < 1 := by omega
    by_cases h2 : 40 < t.size
    · have h2' : (40 : Int) < (t.size : Int) := by omega
      go_enter Tryz.func102, Tryz.ntmps102
      go_wp2_with fail
      go_ret
      exact ⟨ret_bool (by rw [HE.out, decide_eq_false (by omega)]; rfl), rfl⟩
    · have h2' : ¬ (40 : Int) < (t.size : Int) := by omega
      have hx0 : ∀ w', (Instr.index 9 (.string t) (.int .i64 0)).run Tryz.prog w' = .ok (.int .u8 ((t[0]'(by omega)).toNat : Int)) w' := fun w' => ix_str w' t 0 (by omega)
      have HE2 : Hid (E = (isLow (t[0]'(by omega)) && t.data.toList.all isStC)) := by show _ = _; rw [HE.out, decide_eq_true (by omega)]; rfl
      clear HE
      generalize (t[0]'(by omega)) = c0 at *
      by_cases ha : c0.toNat < 97
      · have ha' : (c0.toNat : Int) < 97 := by omega
        go_enter Tryz.func102, Tryz.ntmps102
        go_wp2_with fail
        go_ret
        exact ⟨ret_bool (by rw [HE2.out]; unfold isLow; rw [decide_eq_false (by omega)]; rfl), rfl⟩
      · have ha' : ¬ (c0.toNat : Int) < 97 := by omega
        by_cases hb : 122 < c0.toNat
        · have hb' : (122 : Int) < (c0.toNat : Int) := by omega
          go_enter Tryz.func102, Tryz.ntmps102
          go_wp2_with fail
          go_ret
          exact ⟨ret_bool (by rw [HE2.out]; unfold isLow; rw [decide_eq_false (p := c0.toNat ≤ 122) (by omega)]; simp), rfl⟩
        · have hb' : ¬ (122 : Int) < (c0.toNat : Int) := by omega
          have HE3 : Hid (E = t.data.toList.all isStC) := by show _ = _; rw [HE2.out]; unfold isLow; rw [decide_eq_true (by omega), decide_eq_true (by omega)]; rfl
          clear HE2
          go_enter Tryz.func102, Tryz.ntmps102
          go_wp2_with fail
          clear hx0 ha' hb' ha hb
          go_loop [3] (fun v => ∃ k : Nat, k ≤ t.size ∧ v = .int .i64 k ∧ Hid ((t.data.toList.take k).all isStC = true)) (fun v => t.size - (intOf v).toNat)
          case atStart => exact ⟨0, Nat.zero_le _, rfl, rfl⟩
          case round =>
            obtain ⟨k, hk, rfl, hA⟩ := hrel
            by_cases hlt : k < t.size
            · have hxs : ∀ w', (Instr.index 9 (.string t) (.int .i64 (k : Int))).run Tryz.prog w' = .ok (.int .u8 (t[k].toNat : Int)) w' := fun w' => ix_str w' t k hlt
              have HS := hide (stA_snoc t k hlt)
              have HF := hide (stA_false t k hlt)
              generalize t[k] = c at *
              have hlt' : (k : Int) < (t.size : Int) := by omega
              by_cases hl : 97 ≤ c.toNat ∧ c.toNat ≤ 122
              · have x1 : (97 : Int) ≤ (c.toNat : Int) := by omega
                have x2 : (c.toNat : Int) ≤ 122 := by omega
                have hC : Hid (isStC c = true) := by show _ = _; unfold isStC isLow; rw [decide_eq_true hl.1, decide_eq_true hl.2]; rfl
                clear hl
                go_wp2_with fail
                go_round
                case rel => exact ⟨k + 1, by omega, by go_num, by rw [HS.out, hA.out, hC.out]; rfl⟩
                case measure => simp [intOf]; omega
              · by_cases hd : 48 ≤ c.toNat ∧ c.toNat ≤ 57
                · have x1 : ¬ (97 : Int) ≤ (c.toNat : Int) := by omega
                  have x3 : (48 : Int) ≤ (c.toNat : Int) := by omega
                  have x4 : (c.toNat : Int) ≤ 57 := by omega
                  have hC : Hid (isStC c = true) := by show _ = _; unfold isStC isDig; rw [decide_eq_true hd.1, decide_eq_true hd.2]; simp
                  clear hl hd
                  go_wp2_with fail
                  go_round
                  case rel => exact ⟨k + 1, by omega, by go_num, by rw [HS.out, hA.out, hC.out]; rfl⟩
                  case measure => simp [intOf]; omega
                · by_cases h45 : c.toNat = 45
                  · have x1 : ¬ (97 : Int) ≤ (c.toNat : Int) := by omega
                    have x3 : ¬ (48 : Int) ≤ (c.toNat : Int) := by omega
                    have x5 : ((c.toNat : Int) == 45) = true := by rw [h45]; rfl
                    have hC : Hid (isStC c = true) := by
                      show _ = _
                      have : c = 45 := UInt8.toNat_inj.1 h45
                      rw [this]; rfl
                    clear hl hd h45
                    go_wp2_with fail
                    go_round
                    case rel => exact ⟨k + 1, by omega, by go_num, by rw [HS.out, hA.out, hC.out]; rfl⟩
                    case measure => simp [intOf]; omega
                  · have x5 : ((c.toNat : Int) == 45) = false := beq_eq_false_iff_ne.2 (by omega)
                    have hC : Hid (isStC c = false) := by
                      show _ = _
                      unfold isStC isLow isDig
                      have e1 : (decide (97 ≤ c.toNat) && decide (c.toNat ≤ 122)) = false := by rw [← Bool.decide_and]; exact decide_eq_false hl
                      have e2 : (decide (48 ≤ c.toNat) && decide (c.toNat ≤ 57)) = false := by rw [← Bool.decide_and]; exact decide_eq_false hd
                      have e3 : (c == 45) = false := beq_eq_false_iff_ne.2 (fun e => h45 (by rw [e]; rfl))
                      rw [e1, e2, e3]; rfl
                    by_cases y1 : 97 ≤ c.toNat
                    · have x1 : (97 : Int) ≤ (c.toNat : Int) := by omega
                      have x2 : ¬ (c.toNat : Int) ≤ 122 := by omega
                      have x3 : (48 : Int) ≤ (c.toNat : Int) := by omega
                      have x4 : ¬ (c.toNat : Int) ≤ 57 := by omega
                      clear hl hd h45 y1
                      go_wp2_with fail
                      go_ret
                      exact ⟨ret_bool (by rw [HE3.out, HF.out hC.out]), rfl⟩
                    · have x1 : ¬ (97 : Int) ≤ (c.toNat : Int) := by omega
                      by_cases y2 : 48 ≤ c.toNat
                      · have x3 : (48 : Int) ≤ (c.toNat : Int) := by omega
                        have x4 : ¬ (c.toNat : Int) ≤ 57 := by omega
                        clear hl hd h45 y1 y2
                        go_wp2_with fail
                        go_ret
                        exact ⟨ret_bool (by rw [HE3.out, HF.out hC.out]), rfl⟩
                      · have x3 : ¬ (48 : Int) ≤ (c.toNat : Int) := by omega
                        clear hl hd h45 y1 y2
                        go_wp2_with fail
                        go_ret
                        exact ⟨ret_bool (by rw [HE3.out, HF.out hC.out]), rfl⟩
            · obtain rfl : k = t.size := by omega
              have hA' := hA.out
              rw [List.take_of_length_le (by simp)] at hA'
              have HA := hide hA'
              clear hA' hA
              go_wp2_with fail
              go_ret
              exact ⟨ret_bool (by rw [HE3.out, HA.out]), rfl⟩
end Go.Proofs.YtfpalfpfijcpbaaGreatDoor
namespace Go.Proofs.YtfpalfpfijcpbaaGreatDoor
open Go.RowKit Go.Shelf
set_option maxHeartbeats 4000000 in
set_option maxRecDepth 100000 in
/-- the document's metaFields -/
theorem rmetaFields_any (st : ByteArray) (n1 n2 n3 n4 n5 n6 n7 : Int) (w : World) :
    Calls Tryz.prog 43 #[.agg #[.string st, .int .i64 n1, .int .i64 n2, .int .i64 n3, .int .i64 n4, .int .i64 n5, .int .i64 n6, .int .i64 n7]] w fun x w' => x = .returned (.int .i64 (metaE st (mN n1 n2 n3 n4 n5 n6 n7))) ∧ Below w.heap.size w w' := by
  have hb : Hid (Below w.heap.size w (w.alloc (.cells #[.string st, .int .i64 n1, .int .i64 n2, .int .i64 n3, .int .i64 n4, .int .i64 n5, .int .i64 n6, .int .i64 n7] 23))) := (Below.refl _ _).alloc (Nat.le_refl _) _
  have L := hide (fun w' => rstore_any st w')
  obtain ⟨B, hB⟩ : ∃ B, B = metaE st (mN n1 n2 n3 n4 n5 n6 n7) := ⟨_, rfl⟩
  rw [← hB]
  have hB' : B = if (stOk st 1 40 && inR n1 1 999999 && inR n2 0 15 && inR n3 1 64 && inR n4 1 16 && inR n5 1 16 && inR n6 1 16 && inR n7 0 9007199254740992) = true then 0 else 42 := by rw [hB]; rfl
  have HB := hide hB'
  clear hB hB'
  generalize stOk st 1 40 = b0 at *
  cases b0 with
  | false =>
    go_enter Tryz.func43, Tryz.ntmps43
    go_wp2_with (first | (go_at_call 102; refine Calls.mono (L.out _) ?_; rintro e w' ⟨rfl, rfl⟩) | (go_at_call 103; refine Calls.mono (rin_any _ _ _ _) ?_; rintro e w' ⟨rfl, rfl⟩))
    go_ret
    exact ⟨ret_i (by rw [HB.out]; rfl), hb.out⟩
  | true =>
    cases h1 : inR n1 1 999999 with
    | false =>
      go_enter Tryz.func43, Tryz.ntmps43
      go_wp2_with (first | (go_at_call 102; refine Calls.mono (L.out _) ?_; rintro e w' ⟨rfl, rfl⟩) | (go_at_call 103; refine Calls.mono (rin_any _ _ _ _) ?_; rintro e w' ⟨rfl, rfl⟩))
      go_ret
      exact ⟨ret_i (by rw [HB.out, h1]; rfl), hb.out⟩
    | true =>
      cases h2 : inR n2 0 15 with
      | false =>
        go_enter Tryz.func43, Tryz.ntmps43
        go_wp2_with (first | (go_at_call 102; refine Calls.mono (L.out _) ?_; rintro e w' ⟨rfl, rfl⟩) | (go_at_call 103; refine Calls.mono (rin_any _ _ _ _) ?_; rintro e w' ⟨rfl, rfl⟩))
        go_ret
        exact ⟨ret_i (by rw [HB.out, h1, h2]; rfl), hb.out⟩
      | true =>
        cases h3 : inR n3 1 64 with
        | false =>
          go_enter Tryz.func43, Tryz.ntmps43
          go_wp2_with (first | (go_at_call 102; refine Calls.mono (L.out _) ?_; rintro e w' ⟨rfl, rfl⟩) | (go_at_call 103; refine Calls.mono (rin_any _ _ _ _) ?_; rintro e w' ⟨rfl, rfl⟩))
          go_ret
          exact ⟨ret_i (by rw [HB.out, h1, h2, h3]; rfl), hb.out⟩
        | true =>
          cases h4 : inR n4 1 16 with
          | false =>
            go_enter Tryz.func43, Tryz.ntmps43
            go_wp2_with (first | (go_at_call 102; refine Calls.mono (L.out _) ?_; rintro e w' ⟨rfl, rfl⟩) | (go_at_call 103; refine Calls.mono (rin_any _ _ _ _) ?_; rintro e w' ⟨rfl, rfl⟩))
            go_ret
            exact ⟨ret_i (by rw [HB.out, h1, h2, h3, h4]; rfl), hb.out⟩
          | true =>
            cases h5 : inR n5 1 16 with
            | false =>
              go_enter Tryz.func43, Tryz.ntmps43
              go_wp2_with (first | (go_at_call 102; refine Calls.mono (L.out _) ?_; rintro e w' ⟨rfl, rfl⟩) | (go_at_call 103; refine Calls.mono (rin_any _ _ _ _) ?_; rintro e w' ⟨rfl, rfl⟩))
              go_ret
              exact ⟨ret_i (by rw [HB.out, h1, h2, h3, h4, h5]; rfl), hb.out⟩
            | true =>
              cases h6 : inR n6 1 16 with
              | false =>
                go_enter Tryz.func43, Tryz.ntmps43
                go_wp2_with (first | (go_at_call 102; refine Calls.mono (L.out _) ?_; rintro e w' ⟨rfl, rfl⟩) | (go_at_call 103; refine Calls.mono (rin_any _ _ _ _) ?_; rintro e w' ⟨rfl, rfl⟩))
                go_ret
                exact ⟨ret_i (by rw [HB.out, h1, h2, h3, h4, h5, h6]; rfl), hb.out⟩
              | true =>
                cases h7 : inR n7 0 9007199254740992 with
                | false =>
                  go_enter Tryz.func43, Tryz.ntmps43
                  go_wp2_with (first | (go_at_call 102; refine Calls.mono (L.out _) ?_; rintro e w' ⟨rfl, rfl⟩) | (go_at_call 103; refine Calls.mono (rin_any _ _ _ _) ?_; rintro e w' ⟨rfl, rfl⟩))
                  go_ret
                  exact ⟨ret_i (by rw [HB.out, h1, h2, h3, h4, h5, h6, h7]; rfl), hb.out⟩
                | true =>
                  go_enter Tryz.func43, Tryz.ntmps43
                  go_wp2_with (first | (go_at_call 102; refine Calls.mono (L.out _) ?_; rintro e w' ⟨rfl, rfl⟩) | (go_at_call 103; refine Calls.mono (rin_any _ _ _ _) ?_; rintro e w' ⟨rfl, rfl⟩))
                  go_ret
                  exact ⟨ret_i (by rw [HB.out, h1, h2, h3, h4, h5, h6, h7]; rfl), hb.out⟩
end Go.Proofs.YtfpalfpfijcpbaaGreatDoor
