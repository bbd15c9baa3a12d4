import Derived.Test.YtgdopepghmjopaaGreatDoorGPjSpoil
import Derived.Test.YtgdopepghmjopaaGreatDoorGDaAlg
import Derived.Laws.OwnMore
import Derived.Deep.QuietTactic
import Derived.BigQuiet
import Derived.Deep.RegionHeld3
import Derived.Deep.MidRow
namespace Go.Proofs.YtgdopepghmjopaaGreatDoor
open Go.RowKit Go.Shelf
def isNmC (c : UInt8) : Bool := isLow c || isDig c || c == 45 || c == 95 || c == 46
theorem nm_class : ∀ n : Fin 256, nmL.data.toList.contains (UInt8.ofNat n.1) = isNmC (UInt8.ofNat n.1) := by decide +kernel
theorem nm_in (c : UInt8) : nmL.data.toList.contains c = isNmC c := by
  have := nm_class ⟨c.toNat, c.toNat_lt⟩
  simp only [UInt8.ofNat_toNat] at this
  exact this
theorem nmA_snoc (t : ByteArray) (k : Nat) (h : k < t.size) : (t.data.toList.take (k + 1)).all isNmC = ((t.data.toList.take k).all isNmC && isNmC t[k]) := by
  rw [List.take_succ_eq_append_getElem (by simpa using h), List.all_append]
  simp
  rfl
theorem nmA_false (t : ByteArray) (k : Nat) (h : k < t.size) (hc : isNmC t[k] = false) : t.data.toList.all isNmC = false := by
  rw [List.all_eq_false]
  exact ⟨t[k], by have : t[k] = t.data.toList[k]'(by simpa using h) := rfl; rw [this]; exact List.getElem_mem _, by rw [hc]; simp⟩
theorem nmOk_eq (t : ByteArray) (h0 : 0 < t.size) (h2 : t.size ≤ 40) : nmOk t 1 40 = (t.data.toList.all isNmC && !(t.data.toList == [46]) && !(t.data.toList == [46, 46])) := by
  unfold nmOk inR isNm allOf
  have e2 : (t.data.toList.all fun c => nmL.data.toList.contains c) = t.data.toList.all isNmC := by
    congr 1; funext c; exact nm_in c
  rw [e2, decide_eq_true (show (1 : Int) ≤ (t.size : Int) by omega), decide_eq_true (show (t.size : Int) ≤ 40 by omega)]
  rfl
set_option maxHeartbeats 4000000 in
set_option maxRecDepth 100000 in
/-- the document's named -/
theorem rnamed_any (t : ByteArray) (w : World) :
    Calls Tryz.prog 57 #[.string t] w fun e w' => e = .returned (.bool (nmOk t 1 40)) ∧ w = w' := by
  by_cases h1 : t.size = 0
  · have e1 : nmOk t 1 40 = false := by unfold nmOk inR; rw [h1]; rfl
    rw [e1]
    go_enter Tryz.func57, Tryz.ntmps57
    go_wp2_with fail
    go_ret
    exact ⟨rfl, rfl⟩
  · have h1' : ¬ (t.size : Int) < 1 := by omega
    by_cases h2 : 40 < t.size
    · have e1 : nmOk t 1 40 = false := by unfold nmOk inR; rw [decide_eq_false (show ¬ (t.size : Int) ≤ 40 by omega)]; simp
      rw [e1]
      have h2' : (40 : Int) < (t.size : Int) := by omega
      go_enter Tryz.func57, Tryz.ntmps57
      go_wp2_with fail
      go_ret
      exact ⟨rfl, rfl⟩
    · have h2' : ¬ (40 : Int) < (t.size : Int) := by omega
      have HE := hide (nmOk_eq t (by omega) (by omega))
      obtain ⟨E, hE⟩ : ∃ E, E = nmOk t 1 40 := ⟨_, rfl⟩
      rw [← hE] at HE ⊢
      clear hE
      by_cases hd1 : t.data.toList = [46]
      · have d1 : (t.toList == [46]) = true := by rw [toList_data, hd1]; rfl
        have HF : Hid (E = false) := by show _ = _; rw [HE.out, hd1]; rfl
        clear hd1 HE
        go_enter Tryz.func57, Tryz.ntmps57
        go_wp2_with fail
        go_ret
        exact ⟨ret_bool (by rw [HF.out]), rfl⟩
      have d1 : (t.toList == [46]) = false := by rw [toList_data]; exact beq_eq_false_iff_ne.2 hd1
      by_cases hd2 : t.data.toList = [46, 46]
      · have d2 : (t.toList == [46, 46]) = true := by rw [toList_data, hd2]; rfl
        have HF : Hid (E = false) := by show _ = _; rw [HE.out, hd2]; rfl
        clear hd1 hd2 HE
        go_enter Tryz.func57, Tryz.ntmps57
        go_wp2_with fail
        go_ret
        exact ⟨ret_bool (by rw [HF.out]), rfl⟩
      have d2 : (t.toList == [46, 46]) = false := by rw [toList_data]; exact beq_eq_false_iff_ne.2 hd2
      have HE3 : Hid (E = t.data.toList.all isNmC) := by show _ = _; rw [HE.out, beq_eq_false_iff_ne.2 hd1, beq_eq_false_iff_ne.2 hd2]; simp
      clear HE hd1 hd2
      go_enter Tryz.func57, Tryz.ntmps57
      go_wp2_with fail
      clear d1 d2
      go_loop [3] (fun v => ∃ k : Nat, k ≤ t.size ∧ v = .int .i64 k ∧ Hid ((t.data.toList.take k).all isNmC = true)) (fun v => t.size - (intOf v).toNat)
      case atStart => exact ⟨0, Nat.zero_le _, rfl, rfl⟩
      case round =>
        obtain ⟨k, hk, rfl, hA⟩ := hrel
        by_cases hlt : k < t.size
        · have hxs : ∀ w', (Instr.index 9 (.string t) (.int .i64 (k : Int))).run Tryz.prog w' = .ok (.int .u8 (t[k].toNat : Int)) w' := fun w' => ix_str w' t k hlt
          have HS := hide (nmA_snoc t k hlt)
          have HF := hide (nmA_false t k hlt)
          generalize t[k] = c at *
          have hlt' : (k : Int) < (t.size : Int) := by omega
          have CL : Hid (isNmC c = ((decide (97 ≤ c.toNat) && decide (c.toNat ≤ 122)) || (decide (48 ≤ c.toNat) && decide (c.toNat ≤ 57)) || decide (c.toNat = 45) || decide (c.toNat = 95) || decide (c.toNat = 46))) := by
            show _ = _
            unfold isNmC isLow isDig
            have e : ∀ d : UInt8, (c == d) = decide (c.toNat = d.toNat) := fun d => by
              rw [Bool.eq_iff_iff, beq_iff_eq, decide_eq_true_eq, UInt8.toNat_inj]
            rw [e 45, e 95, e 46]
            rfl
          obtain ⟨x1, hx1⟩ : ∃ x : Bool, x = decide ((97 : Int) ≤ (c.toNat : Int)) := ⟨_, rfl⟩
          rcases (show (97 ≤ c.toNat ∧ c.toNat ≤ 122) ∨ (48 ≤ c.toNat ∧ c.toNat ≤ 57) ∨ c.toNat = 45 ∨ c.toNat = 95 ∨ c.toNat = 46 ∨ (122 < c.toNat) ∨ (57 < c.toNat ∧ c.toNat < 97 ∧ c.toNat ≠ 95) ∨ (c.toNat < 48 ∧ c.toNat ≠ 45 ∧ c.toNat ≠ 46) by omega) with ⟨q1, q2⟩ | ⟨q1, q2⟩ | q | q | q | q | ⟨q1, q2, q3⟩ | ⟨q1, q2, q3⟩
          · have y1 : (97 : Int) ≤ (c.toNat : Int) := by omega
            have y2 : (c.toNat : Int) ≤ 122 := by omega
            have hC : Hid (isNmC c = true) := by show _ = _; rw [CL.out, decide_eq_true q1, decide_eq_true q2]; rfl
            clear q1 q2 hx1 CL
            go_wp2_with fail
            go_round
            case rel => exact ⟨k + 1, by omega, by go_num, by rw [HS.out, hA.out, hC.out]; rfl⟩
            case measure => simp [intOf]; omega
          · have y1 : ¬ (97 : Int) ≤ (c.toNat : Int) := by omega
            have y3 : (48 : Int) ≤ (c.toNat : Int) := by omega
            have y4 : (c.toNat : Int) ≤ 57 := by omega
            have hC : Hid (isNmC c = true) := by show _ = _; rw [CL.out, decide_eq_true q1, decide_eq_true q2]; simp
            clear q1 q2 hx1 CL
            go_wp2_with fail
            go_round
            case rel => exact ⟨k + 1, by omega, by go_num, by rw [HS.out, hA.out, hC.out]; rfl⟩
            case measure => simp [intOf]; omega
          · have y1 : ¬ (97 : Int) ≤ (c.toNat : Int) := by omega
            have y3 : ¬ (48 : Int) ≤ (c.toNat : Int) := by omega
            have y5 : ((c.toNat : Int) == 45) = true := by rw [q]; rfl
            have hC : Hid (isNmC c = true) := by show _ = _; rw [CL.out, decide_eq_true q]; simp
            clear q hx1 CL
            go_wp2_with fail
            go_round
            case rel => exact ⟨k + 1, by omega, by go_num, by rw [HS.out, hA.out, hC.out]; rfl⟩
            case measure => simp [intOf]; omega
          · have y1 : ¬ (97 : Int) ≤ (c.toNat : Int) := by omega
            have y3 : (48 : Int) ≤ (c.toNat : Int) := by omega
            have y4 : ¬ (c.toNat : Int) ≤ 57 := by omega
            have y5 : ((c.toNat : Int) == 45) = false := beq_eq_false_iff_ne.2 (by omega)
            have y6 : ((c.toNat : Int) == 95) = true := by rw [q]; rfl
            have hC : Hid (isNmC c = true) := by show _ = _; rw [CL.out, decide_eq_true q]; simp
            clear q hx1 CL
            go_wp2_with fail
            go_round
            case rel => exact ⟨k + 1, by omega, by go_num, by rw [HS.out, hA.out, hC.out]; rfl⟩
            case measure => simp [intOf]; omega
          · have y1 : ¬ (97 : Int) ≤ (c.toNat : Int) := by omega
            have y3 : ¬ (48 : Int) ≤ (c.toNat : Int) := by omega
            have y5 : ((c.toNat : Int) == 45) = false := beq_eq_false_iff_ne.2 (by omega)
            have y6 : ((c.toNat : Int) == 95) = false := beq_eq_false_iff_ne.2 (by omega)
            have y7 : ((c.toNat : Int) == 46) = true := by rw [q]; rfl
            have hC : Hid (isNmC c = true) := by show _ = _; rw [CL.out, decide_eq_true q]; simp
            clear q hx1 CL
            go_wp2_with fail
            go_round
            case rel => exact ⟨k + 1, by omega, by go_num, by rw [HS.out, hA.out, hC.out]; rfl⟩
            case measure => simp [intOf]; omega
          · have y1 : (97 : Int) ≤ (c.toNat : Int) := by omega
            have y2 : ¬ (c.toNat : Int) ≤ 122 := by omega
            have y3 : (48 : Int) ≤ (c.toNat : Int) := by omega
            have y4 : ¬ (c.toNat : Int) ≤ 57 := by omega
            have y5 : ((c.toNat : Int) == 45) = false := beq_eq_false_iff_ne.2 (by omega)
            have y6 : ((c.toNat : Int) == 95) = false := beq_eq_false_iff_ne.2 (by omega)
            have y7 : ((c.toNat : Int) == 46) = false := beq_eq_false_iff_ne.2 (by omega)
            have hC : Hid (isNmC c = false) := by show _ = _; rw [CL.out]; simp; omega
            clear q hx1 CL
            go_wp2_with fail
            go_ret
            exact ⟨ret_bool (by rw [HE3.out, HF.out hC.out]), rfl⟩
          · have y1 : ¬ (97 : Int) ≤ (c.toNat : Int) := by omega
            have y3 : (48 : Int) ≤ (c.toNat : Int) := by omega
            have y4 : ¬ (c.toNat : Int) ≤ 57 := by omega
            have y5 : ((c.toNat : Int) == 45) = false := beq_eq_false_iff_ne.2 (by omega)
            have y6 : ((c.toNat : Int) == 95) = false := beq_eq_false_iff_ne.2 (by omega)
            have y7 : ((c.toNat : Int) == 46) = false := beq_eq_false_iff_ne.2 (by omega)
            have hC : Hid (isNmC c = false) := by show _ = _; rw [CL.out]; simp; omega
            clear q1 q2 q3 hx1 CL
            go_wp2_with fail
            go_ret
            exact ⟨ret_bool (by rw [HE3.out, HF.out hC.out]), rfl⟩
          · have y1 : ¬ (97 : Int) ≤ (c.toNat : Int) := by omega
            have y3 : ¬ (48 : Int) ≤ (c.toNat : Int) := by omega
            have y5 : ((c.toNat : Int) == 45) = false := beq_eq_false_iff_ne.2 (by omega)
            have y6 : ((c.toNat : Int) == 95) = false := beq_eq_false_iff_ne.2 (by omega)
            have y7 : ((c.toNat : Int) == 46) = false := beq_eq_false_iff_ne.2 (by omega)
            have hC : Hid (isNmC c = false) := by show _ = _; rw [CL.out]; simp; omega
            clear q1 q2 q3 hx1 CL
            go_wp2_with fail
            go_ret
            exact ⟨ret_bool (by rw [HE3.out, HF.out hC.out]), rfl⟩
        · obtain rfl : k = t.size := by omega
          have hA' := hA.out
          rw [List.take_of_length_le (by simp)] at hA'
          have HA := hide hA'
          clear hA' hA
          go_wp2_with fail
          go_ret
          exact ⟨ret_bool (by rw [HE3.out, HA.out]), rfl⟩
end Go.Proofs.YtgdopepghmjopaaGreatDoor
namespace Go.Proofs.YtgdopepghmjopaaGreatDoor
open Go.RowKit
set_option maxRecDepth 100000 in
theorem isCRC_any (n : Int) (w : World) :
    Calls Tryz.prog 94 #[.int .i64 n] w fun e w' => e = .returned (.bool (decide (0 ≤ n) && decide (n ≤ 4294967295))) ∧ w = w' := by
  by_cases h0 : 0 ≤ n
  · go_enter Tryz.func94, Tryz.ntmps94
    go_wp2
    go_ret
    exact ⟨by simp [h0], rfl⟩
  · have h0' : decide (0 ≤ n) = false := decide_eq_false h0
    go_enter Tryz.func94, Tryz.ntmps94
    go_wp2
    go_ret
    exact ⟨by simp, rfl⟩
set_option maxHeartbeats 1000000 in
set_option maxRecDepth 100000 in
/-- CRCJoin, of good arguments -/
theorem crcJoin_ok (a b n : Nat) (ha : a < 4294967296) (hb : b < 4294967296) (hn : n ≤ 9007199254740992) (w : World) :
    Calls Tryz.prog 73 #[.int .i64 (a : Int), .int .i64 (b : Int), .int .i64 (n : Int)] w fun e w' => e = .returned (.tuple #[.int .i64 ((stps (8 * n) a ^^^ b : Nat) : Int), .int .i64 0]) ∧ w = w' := by
  have I : ∀ c : Nat, c < 4294967296 → ∀ w', Calls Tryz.prog 94 #[.int .i64 (c : Int)] w' fun e w'' => e = .returned (.bool true) ∧ w' = w'' := fun c hc w' => by
    have := isCRC_any (c : Int) w'
    rw [decide_eq_true (show (0 : Int) ≤ (c : Int) by omega), decide_eq_true (show (c : Int) ≤ 4294967295 by omega)] at this
    exact this
  have HA := hide (I a ha)
  have HB := hide (I b hb)
  clear I
  go_enter Tryz.func73, Tryz.ntmps73
  go_wp2_with fail
  refine Calls.mono (HA.out _) ?_
  rintro e wx ⟨rfl, rfl⟩
  go_wp2_with fail
  refine Calls.mono (HB.out _) ?_
  rintro e wx ⟨rfl, rfl⟩
  go_wp2_with fail
  clear HA HB
  go_loopw [8, 9, 10] (fun x y i wr => ∃ m p : Nat, i = .int .i64 (m : Int) ∧ m * p ≤ n ∧ m ≤ 9007199254740992 ∧ x = .int .u32 (stps (8 * (n - m * p)) a : Int) ∧ y = .int .u32 (stps (8 * p) 2147483648 : Int) ∧ wr = w) (fun _ _ i _ => (intOf i).toNat)
  case atStart => exact ⟨n, 1, rfl, by omega, hn, by rw [Nat.mul_one, Nat.sub_self]; rfl, rfl, rfl⟩
  case round =>
    obtain ⟨m, p, rfl, hmp, hm, rfl, rfl, rfl⟩ := hrel
    have hx := stps_lt (8 * (n - m * p)) ha
    have hy : stps (8 * p) 2147483648 < 4294967296 := stps_lt (8 * p) (by omega)
    by_cases h0 : m = 0
    · subst h0
      rw [Nat.zero_mul, Nat.sub_zero] at hx ⊢
      have hxx := bxor64 (stps (8 * n) a) b hx hb
      obtain ⟨Z, hZ⟩ : ∃ Z, Z = stps (8 * n) a ^^^ b := ⟨_, rfl⟩
      rw [← hZ] at hxx
      have HZ := hide hZ
      clear hZ
      generalize stps (8 * n) a = X at hx hxx ⊢
      go_wp2
      go_ret2
      exact ⟨by rw [← HZ.out]; rfl, rfl⟩
    · have hsq : stps (8 * (2 * p)) 2147483648 = pr (stps (8 * p) 2147483648) (stps (8 * p) 2147483648) 32 := by
        rw [pr_power _ _ hy, ← stps_add]
        congr 1
        omega
      have C2 : Hid (∀ w', Calls Tryz.prog 95 #[.int .u32 (stps (8 * p) 2147483648 : Int), .int .u32 (stps (8 * p) 2147483648 : Int)] w' fun e w'' => e = .returned (.int .u32 (stps (8 * (2 * p)) 2147483648 : Int)) ∧ w' = w'') := fun w' => by
        rw [hsq]; exact product_any _ _ hy hy w'
      have hpos : (0 : Int) < (m : Int) := by omega
      by_cases hodd : m % 2 = 1
      · have hmm : m / 2 * (2 * p) = m * p - p := by
          have : m = 2 * (m / 2) + 1 := by omega
          generalize m / 2 = h at *
          subst this
          rw [Nat.add_mul, Nat.one_mul, Nat.add_sub_cancel, Nat.mul_comm 2 h, Nat.mul_assoc]
        have hpm : p ≤ m * p := Nat.le_mul_of_pos_left p (by omega)
        have hw : stps (8 * (n - m / 2 * (2 * p))) a = pr (stps (8 * (n - m * p)) a) (stps (8 * p) 2147483648) 32 := by
          rw [pr_power _ _ hx, ← stps_add, hmm]
          congr 1
          omega
        have C1 : Hid (∀ w', Calls Tryz.prog 95 #[.int .u32 (stps (8 * (n - m * p)) a : Int), .int .u32 (stps (8 * p) 2147483648 : Int)] w' fun e w'' => e = .returned (.int .u32 (stps (8 * (n - m / 2 * (2 * p))) a : Int)) ∧ w' = w'') := fun w' => by
          rw [hw]; exact product_any _ _ hx hy w'
        have hle : m / 2 * (2 * p) ≤ n := by omega
        have HLE := hide hle
        have hq : ((m : Int) % 2 == 1) = true := by rw [show (m : Int) % 2 = 1 by omega]; rfl
        clear hw hsq hmm hpm hle hmp
        obtain ⟨X2, hX2⟩ : ∃ X2, X2 = stps (8 * (n - m / 2 * (2 * p))) a := ⟨_, rfl⟩
        obtain ⟨Y2, hY2⟩ : ∃ Y2, Y2 = stps (8 * (2 * p)) 2147483648 := ⟨_, rfl⟩
        rw [← hX2] at C1
        rw [← hY2] at C2
        have HX2 := hide hX2
        have HY2 := hide hY2
        clear hX2 hY2
        generalize stps (8 * (n - m * p)) a = X at hx C1 ⊢
        generalize stps (8 * p) 2147483648 = Y at hy C1 C2 ⊢
        go_wp2_with fail
        refine Calls.mono (C1.out _) ?_
        rintro e wx ⟨rfl, rfl⟩
        go_wp2_with (go_at_call 95; refine Calls.mono (C2.out _) ?_; rintro e wx ⟨rfl, rfl⟩)
        go_roundw
        case rel => exact ⟨m / 2, 2 * p, by go_num, HLE.out, by omega, by rw [HX2.out], by rw [HY2.out], by first | rfl | trivial⟩
        case measure => simp [intOf]; omega
      · have hmm : m / 2 * (2 * p) = m * p := by
          have : m = 2 * (m / 2) := by omega
          generalize m / 2 = h at *
          subst this
          rw [Nat.mul_comm 2 h, Nat.mul_assoc]
        have hw : stps (8 * (n - m / 2 * (2 * p))) a = stps (8 * (n - m * p)) a := by rw [hmm]
        have HLE := hide (show m / 2 * (2 * p) ≤ n by omega)
        have hq : ((m : Int) % 2 == 1) = false := by rw [show (m : Int) % 2 = 0 by omega]; rfl
        have HX2 := hide hw
        clear hw hsq hmm hmp
        obtain ⟨Y2, hY2⟩ : ∃ Y2, Y2 = stps (8 * (2 * p)) 2147483648 := ⟨_, rfl⟩
        rw [← hY2] at C2
        have HY2 := hide hY2
        clear hY2
        obtain ⟨X, hX⟩ : ∃ X, X = stps (8 * (n - m * p)) a := ⟨_, rfl⟩
        rw [← hX] at HX2 ⊢
        clear hX hx
        generalize stps (8 * p) 2147483648 = Y at hy C2 ⊢
        go_wp2_with (go_at_call 95; refine Calls.mono (C2.out _) ?_; rintro e wx ⟨rfl, rfl⟩)
        go_roundw
        case rel => exact ⟨m / 2, 2 * p, by go_num, HLE.out, by omega, by rw [HX2.out], by rw [HY2.out], by first | rfl | trivial⟩
        case measure => simp [intOf]; omega
end Go.Proofs.YtgdopepghmjopaaGreatDoor
namespace Go.Proofs.YtgdopepghmjopaaGreatDoor
open Go.RowKit
def TabP (w : World) : Prop := ∀ j, j < 32 → w.cell? ⟨0, j, none⟩ = some (.int .i64 ((2 ^ j : Nat) : Int))
theorem TabP.below {w w' : World} {B : Nat} (h : TabP w) (hb : Below B w w') (hg : 0 < B) : TabP w' := fun j hj => (hb.cell (p := ⟨0, j, none⟩) hg).trans (h j hj)
/-- what m steps make of each power of two -/
def stepsV (m : Nat) : List Value := (List.range 32).map fun i => Value.int .i64 (stps m (2 ^ i) : Int)
theorem stepsV_len (m : Nat) : (stepsV m).length = 32 := by simp [stepsV]
theorem stepsV_get (m j : Nat) (h : j < 32) : (stepsV m)[j]? = some (.int .i64 (stps m (2 ^ j) : Int)) := by simp [stepsV, h]
theorem of_one (m x k : Nat) (h : x / 2 ^ k % 2 = 1) : stps m (x % 2 ^ (k + 1)) = stps m (x % 2 ^ k) ^^^ stps m (2 ^ k) := by
  rw [Nat.mod_pow_succ, h, Nat.add_comm, ← xor_pow k 1 (x % 2 ^ k) (Nat.mod_lt _ (Nat.pow_pos (by omega))), Nat.mul_one, stps_xor, Nat.xor_comm]
theorem of_none (m x k : Nat) (h : ¬ x / 2 ^ k % 2 = 1) : stps m (x % 2 ^ (k + 1)) = stps m (x % 2 ^ k) := by
  rw [Nat.mod_pow_succ, show x / 2 ^ k % 2 = 0 by omega, Nat.mul_zero, Nat.add_zero]
theorem i64_nat {n : Nat} (h : n < 9223372036854775808) : IntKind.i64.wrap (n : Int) = (n : Int) := by
  simp [IntKind.wrap, IntKind.signed, IntKind.bits]; omega
theorem heap_new0 (w : World) (o : Obj) : (w.alloc o).heap[w.heap.size]? = some o := by
  show (w.heap.push o)[w.heap.size]? = some o
  rw [Array.getElem?_push, if_pos rfl]
theorem heap_new1 (w : World) (o o' : Obj) : ((w.alloc o).alloc o').heap[w.heap.size]? = some o := by
  show ((w.heap.push o).push o')[w.heap.size]? = some o
  rw [Array.getElem?_push, if_neg (by simp), Array.getElem?_push, if_pos rfl]
theorem heap_new2 (w : World) (o o' : Obj) : ((w.alloc o).alloc o').heap[w.heap.size + 1]? = some o' := by
  show ((w.heap.push o).push o')[w.heap.size + 1]? = some o'
  rw [Array.getElem?_push, if_pos (by simp)]
set_option maxHeartbeats 1000000 in
set_option maxRecDepth 100000 in
theorem of_any (m x : Nat) (hx : x < 4294967296) (w : World) (hT : TabP w) :
    Calls Tryz.prog 81 #[.agg (stepsV m).toArray, .int .i64 (x : Int)] w fun e w' => e = .returned (.int .i64 (stps m x : Int)) ∧ Below w.heap.size w w' := by
  have hg : 0 < w.heap.size := World.block_lt_of_cell? w _ (hT 0 (by omega))
  have HT := hide hT
  clear hT
  go_enter Tryz.func81, Tryz.ntmps81
  go_wp2_with fail
  have hc : ∀ j, j < 32 → (w.alloc (.cells (stepsV m).toArray 104)).cell? ⟨w.heap.size, j, none⟩ = some (.int .i64 (stps m (2 ^ j) : Int)) := fun j hj => by
    rw [cell_of_row _ _ j _ _ _ (heap_new0 w _), List.getElem?_toArray, stepsV_get m j hj]
  have HC := hide hc
  clear hc
  go_loopw [5, 6] (fun o i wr => ∃ k : Nat, k ≤ 32 ∧ i = .int .i64 k ∧ o = .int .i64 (stps m (x % 2 ^ k) : Int) ∧ (∀ j, j < 32 → wr.cell? ⟨w.heap.size, j, none⟩ = some (.int .i64 (stps m (2 ^ j) : Int))) ∧ Below w.heap.size w wr) (fun _ i _ => 32 - (intOf i).toNat)
  case atStart => exact ⟨0, by omega, rfl, by rw [Nat.pow_zero, Nat.mod_one, stps_zero]; rfl, HC.out, (Below.refl _ w).alloc (Nat.le_refl _) _⟩
  case round =>
    clear HC
    obtain ⟨k, hk, rfl, rfl, hc, hnx⟩ := hrel
    by_cases hlt : k < 32
    · have c1 := HT.out.below hnx hg k hlt
      have c2 := hc k hlt
      have HC := hide hc
      clear hc
      have hp0 : 0 < 2 ^ k := Nat.pow_pos (by omega)
      have hp1 : 2 ^ k ≤ 2 ^ 31 := Nat.pow_le_pow_right (by omega) (by omega)
      have l1 : stps m (x % 2 ^ k) < 4294967296 := stps_lt m (Nat.lt_of_le_of_lt (Nat.mod_le _ _) hx)
      have l2 : stps m (2 ^ k) < 4294967296 := stps_lt m (by omega)
      have q1 := of_one m x k
      have q0 := of_none m x k
      have Q1 := hide q1
      have Q0 := hide q0
      clear q1 q0
      have hdi : (x : Int) / ((2 ^ k : Nat) : Int) = ((x / 2 ^ k : Nat) : Int) := (Int.natCast_ediv _ _).symm
      have hdl : x / 2 ^ k ≤ x := Nat.div_le_self _ _
      have hxx := bxor64 _ _ l1 l2
      have i0 : (0 : Int) ≤ (k : Int) := by omega
      have i1 : (k : Int) < 32 := by omega
      by_cases hbit : x / 2 ^ k % 2 = 1
      · have Q := hide (Q1.out hbit)
        have hq : (((x / 2 ^ k : Nat) : Int) % 2 == 1) = true := by rw [show ((x / 2 ^ k : Nat) : Int) % 2 = 1 by omega]; rfl
        clear Q1 Q0
        obtain ⟨Z, hZ⟩ : ∃ Z, Z = stps m (x % 2 ^ k) ^^^ stps m (2 ^ k) := ⟨_, rfl⟩
        rw [← hZ] at hxx Q
        clear hZ
        generalize stps m (x % 2 ^ k) = A at *
        generalize stps m (2 ^ k) = Bv at *
        generalize x / 2 ^ k = D at *
        generalize 2 ^ k = P at *
        have hP0 : ¬ (P = 0) := by omega
        go_wp2
        go_roundw
        case rel => exact ⟨k + 1, by omega, by go_num, by rw [Q.out], HC.out, hnx⟩
        case measure => simp [intOf]; omega
      · have Q := hide (Q0.out hbit)
        have hq : (((x / 2 ^ k : Nat) : Int) % 2 == 1) = false := by rw [show ((x / 2 ^ k : Nat) : Int) % 2 = 0 by omega]; rfl
        clear Q1 Q0 hxx
        generalize stps m (x % 2 ^ k) = A at *
        generalize x / 2 ^ k = D at *
        generalize 2 ^ k = P at *
        have hP0 : ¬ (P = 0) := by omega
        go_wp2
        go_roundw
        case rel => exact ⟨k + 1, by omega, by go_num, by rw [Q.out], HC.out, hnx⟩
        case measure => simp [intOf]; omega
    · obtain rfl : k = 32 := by omega
      rw [show x % 2 ^ 32 = x from Nat.mod_eq_of_lt hx]
      go_wp2
      go_ret
      exact ⟨rfl, hnx⟩
end Go.Proofs.YtgdopepghmjopaaGreatDoor
