import Derived.Test.YtfcghfllhcjmnaaDoorDbBurst
import Derived.Test.YtfcghfllhcjmnaaDoorDaJoinedF
namespace Go.Proofs.YtfcghfllhcjmnaaDoor
open Go.RowKit
theorem norm_mod2 (x N : Int) (hN : 0 < N) (hN2 : N ≤ 1152921504606846976) : ∃ P : Nat, (wrap64 (x.tmod N + N)).tmod N = (P : Int) ∧ (P : Int) < N := by
  have h1 : x.tmod N < N := Int.tmod_lt_of_pos x hN
  have h2 : -N < x.tmod N := Int.lt_tmod_of_pos x hN
  rw [IntWalk.wrap64_in _ ⟨by omega, by omega⟩, Int.tmod_eq_emod_of_nonneg (by omega)]
  have h3 := Int.emod_nonneg (x.tmod N + N) (by omega : N ≠ 0)
  have h4 := Int.emod_lt_of_pos (x.tmod N + N) hN
  exact ⟨((x.tmod N + N) % N).toNat, by omega, by omega⟩
set_option maxHeartbeats 1000000 in
set_option maxRecDepth 100000 in
theorem flipped_in (s : ByteArray) (p m : Nat) (w : World) (hs : s.size ≤ 2147483646) (hp : p < 8 * s.size) (hm : m < 4294967296) :
    Calls Tryd.prog 13 #[.string s, .int .i64 (p : Int), .int .i64 (m : Int)] w fun e w' => ∃ t : List UInt8, e = .returned (.string (strOf t)) ∧ t.length = s.size ∧ numL t = numL s.data.toList ^^^ fl (8 * s.size) p m 32 ∧ Below w.heap.size w w' := by
  obtain ⟨C, W1, hcv, hR, hTh, hB⟩ := bytes_new s w
  have HR := hide hR
  have HTh := hide hTh
  have HB := hide hB
  clear hR hTh hB
  go_enter Tryd.func13, Tryd.ntmps13
  go_wp2_with fail
  clear hcv
  go_loopw [2, 8] (fun mv i wr => ∃ (k : Nat) (t : List UInt8), k ≤ 32 ∧ i = .int .i64 k ∧ mv = .int .i64 ((m / 2 ^ k : Nat) : Int) ∧ t.length = s.size ∧ numL t = numL s.data.toList ^^^ fl (8 * s.size) p m k ∧ wr.rangeAt w.heap.size 0 (t.map ub) ∧ wr.there w.heap.size 0 s.size ∧ Below w.heap.size w wr) (fun _ i _ => 32 - (intOf i).toNat)
  case atStart => exact ⟨0, s.data.toList, by omega, rfl, by rw [Nat.pow_zero, Nat.div_one], size_data s, (Nat.xor_zero _).symm, HR.out, HTh.out, HB.out⟩
  case round =>
    clear HR HTh HB
    obtain ⟨k, t, hk, rfl, rfl, htl, htn, hR, hTh, hnx⟩ := hrel
    have HR := hide hR
    have HTh := hide hTh
    have HNX := hide hnx
    have HTN := hide htn
    clear hR hTh hnx htn
    have hM2 : m / 2 ^ (k + 1) = m / 2 ^ k / 2 := by rw [Nat.pow_succ, Nat.div_div_eq_div_mul]
    have hfl : fl (8 * s.size) p m (k + 1) = if m / 2 ^ k % 2 = 1 ∧ p + k < 8 * s.size then fl (8 * s.size) p m k ^^^ 2 ^ (p + k) else fl (8 * s.size) p m k := rfl
    have hMl : m / 2 ^ k < 4294967296 := Nat.lt_of_le_of_lt (Nat.div_le_self _ _) hm
    generalize m / 2 ^ k = M at *
    have HM2 := hide hM2
    have HFL := hide hfl
    clear hM2 hfl
    by_cases hlt : k < 32
    · by_cases hbit : M % 2 = 1
      · have hq : ((M : Int) % 2 == 1) = true := by rw [show (M : Int) % 2 = 1 by omega]; rfl
        by_cases hin : p + k < 8 * s.size
        · have hin' : (p : Int) + (k : Int) < 8 * (s.size : Int) := by omega
          go_wp2_with fail
          go_loopw [10, 11] (fun mb j wq => ∃ r : Nat, r ≤ (p + k) % 8 ∧ j = .int .i64 r ∧ mb = .int .u8 ((2 ^ r : Nat) : Int) ∧ wq = wr) (fun _ j _ => 8 - (intOf j).toNat)
          case atStart => exact ⟨0, Nat.zero_le _, rfl, rfl, rfl⟩
          case round =>
            obtain ⟨r, hr, rfl, rfl, rfl⟩ := hrel
            have hpr : 2 ^ r ≤ 2 ^ 7 := Nat.pow_le_pow_right (by omega) (by omega)
            by_cases hrl : r < (p + k) % 8
            · have hpr2 : 2 ^ (r + 1) ≤ 2 ^ 7 := Nat.pow_le_pow_right (by omega) (by omega)
              have hps : 2 ^ (r + 1) = 2 * 2 ^ r := by rw [Nat.pow_succ, Nat.mul_comm]
              have HPS := hide hps
              rw [hps] at hpr2
              clear hps
              generalize 2 ^ r = R at *
              have hrl' : (r : Int) < ((p : Int) + (k : Int)) % 8 := by omega
              go_wp2
              go_roundw
              case rel => exact ⟨r + 1, by omega, by go_num, by rw [HPS.out]; go_num, by first | rfl | trivial⟩
              case measure => simp [intOf]; omega
            · obtain rfl : r = (p + k) % 8 := by omega
              have hrl' : ¬ (((p + k) % 8 : Nat) : Int) < ((p : Int) + (k : Int)) % 8 := by omega
              have hj : (p + k) / 8 < t.length := by omega
              have hcell : wr.cell? ⟨w.heap.size, (p + k) / 8, none⟩ = some (.int .u8 (t[(p + k) / 8].toNat : Int)) := by
                have := HR.out ((p + k) / 8) (ub t[(p + k) / 8]) (by simp [hj])
                rwa [Nat.zero_add] at this
              have hfr : wr.frozen? ⟨w.heap.size, (p + k) / 8, none⟩ = false := by
                have := (HTh.out ((p + k) / 8) (by omega)).2
                rwa [Nat.zero_add] at this
              have hset := numL_set t ((p + k) / 8) ((p + k) % 8) hj (by omega)
              rw [show 8 * ((p + k) / 8) + (p + k) % 8 = p + k by omega] at hset
              have hbl : t[(p + k) / 8].toNat < 256 := UInt8.toNat_lt _
              have hx := bxor8 t[(p + k) / 8].toNat (2 ^ ((p + k) % 8)) hbl (by omega)
              have hxl : t[(p + k) / 8].toNat ^^^ 2 ^ ((p + k) % 8) < 2 ^ 8 := Nat.xor_lt_two_pow (by omega) (by omega)
              have HSET : Hid (numL (t.set ((p + k) / 8) (UInt8.ofNat (t[(p + k) / 8].toNat ^^^ 2 ^ ((p + k) % 8)))) = numL s.data.toList ^^^ fl (8 * s.size) p m (k + 1)) := by
                show _ = _
                rw [hset, HTN.out, HFL.out, if_pos ⟨hbit, hin⟩, Nat.xor_assoc]
              clear hset
              have HRS : Hid (∀ v : Nat, v < 256 → (wr.setCell ⟨w.heap.size, (p + k) / 8, none⟩ (.int .u8 (v : Int))).rangeAt w.heap.size 0 ((t.set ((p + k) / 8) (UInt8.ofNat v)).map ub)) := fun v hv => by
                have h1 := range_splice (vs := [.int .u8 (v : Int)]) HR.out (fun j hj' => by have := HTh.out ((p + k) / 8 + j) (by simp at hj'; omega); rwa [Nat.zero_add] at this) (by simp; omega)
                have h2 : splice (t.map ub) ((p + k) / 8) [.int .u8 (v : Int)] = (t.set ((p + k) / 8) (UInt8.ofNat v)).map ub := by
                  unfold splice
                  have e : ub (UInt8.ofNat v) = .int .u8 (v : Int) := by unfold ub; rw [UInt8.toNat_ofNat', Nat.mod_eq_of_lt (by omega)]
                  rw [List.map_set, e, List.set_eq_take_append_cons_drop]
                  simp [hj]
                rw [h2] at h1
                exact h1
              generalize hXV : t[(p + k) / 8].toNat ^^^ 2 ^ ((p + k) % 8) = XV at *
              generalize t[(p + k) / 8].toNat = BV at *
              have hRv : 2 ^ ((p + k) % 8) < 256 := by omega
              generalize 2 ^ ((p + k) % 8) = RV at *
              have hpk : ((p : Int) + (k : Int)) / 8 < (s.size : Int) := by omega
              go_wp2_with fail
              go_roundw
              case rel => exact ⟨k + 1, t.set ((p + k) / 8) (UInt8.ofNat XV), by omega, by go_num, by rw [HM2.out]; go_num, by rw [List.length_set]; exact htl, HSET.out, HRS.out XV (by omega), World.there_setCells HTh.out w.heap.size ((p + k) / 8) [.int .u8 (XV : Int)], HNX.out.setCell (by simp) _⟩
              case measure => simp [intOf]; omega
        · have hin' : decide ((p : Int) + (k : Int) < 8 * (s.size : Int)) = false := by rw [decide_eq_false_iff_not]; omega
          have HFL' : Hid (fl (8 * s.size) p m (k + 1) = fl (8 * s.size) p m k) := by show _ = _; rw [HFL.out, if_neg (fun h => hin h.2)]
          go_wp2_with fail
          go_roundw
          case rel => exact ⟨k + 1, t, by omega, by go_num, by rw [HM2.out]; go_num, htl, by rw [HFL'.out]; exact HTN.out, HR.out, HTh.out, HNX.out⟩
          case measure => simp [intOf]; omega
      · have hq : ((M : Int) % 2 == 1) = false := by rw [show (M : Int) % 2 = 0 by omega]; rfl
        have HFL' : Hid (fl (8 * s.size) p m (k + 1) = fl (8 * s.size) p m k) := by show _ = _; rw [HFL.out, if_neg (fun h => hbit h.1)]
        go_wp2_with fail
        go_roundw
        case rel => exact ⟨k + 1, t, by omega, by go_num, by rw [HM2.out]; go_num, htl, by rw [HFL'.out]; exact HTN.out, HR.out, HTh.out, HNX.out⟩
        case measure => simp [intOf]; omega
    · obtain rfl : k = 32 := by omega
      have hcv := run_convert_bytes_back (P := Tryd.prog) wr 47 9 5 ⟨w.heap.size, 0, none⟩ C t Tryd.underlying47 Tryd.underlying5 Tryd.underlying9 (fun j hj => by
        rw [Addr.add_mid]
        exact HR.out j _ (by simp [hj, ub]))
      rw [htl] at hcv
      go_wp2
      go_ret
      exact ⟨t, rfl, htl, HTN.out, HNX.out⟩
set_option maxHeartbeats 2000000 in
set_option maxRecDepth 100000 in
/-- the law DigestBurst -/
theorem burst_in (s : ByteArray) (at' m' : Int) (w : World) (hs : s.size ≤ 2147483646) (h1 : (Lit.int .i64 at').wf = true) (h2 : (Lit.int .i64 m').wf = true) (hT : Tabs w) :
    Calls Tryd.prog 4 #[.string s, .int .i64 at', .int .i64 m'] w fun e w' => e = .returned (.bool true) ∧ Below w.heap.size w w' := by
  have HT := hide hT
  clear hT
  have r1 : -9223372036854775808 ≤ at' ∧ at' ≤ 9223372036854775807 := by simpa [Lit.wf, IntKind.min, IntKind.max, IntKind.signed, IntKind.bits] using h1
  have r2 : -9223372036854775808 ≤ m' ∧ m' ≤ 9223372036854775807 := by simpa [Lit.wf, IntKind.min, IntKind.max, IntKind.signed, IntKind.bits] using h2
  clear h1 h2
  have one : ∀ (t : ByteArray), t.size ≤ 4294967296 → Hid (∀ w' : World, Tabs w' → Calls Tryd.prog 14 #[.slice (some ⟨w'.heap.size, 0, none⟩) 1 1] (w'.alloc (.cells #[.string t] 9)) fun e w'' => e = .returned (.int .i64 (crcN 0 t.data.toList : Int)) ∧ (w'.alloc (.cells #[.string t] 9)) = w'') := fun t hs w' h => by
    have := crc_new w' [t] 9 h (by simp) (fun q hq => by simp at hq; subst hq; omega) 1 rfl
    have ec : cat [t] = t.data.toList := by simp [cat]
    rw [ec] at this
    exact this
  have BY : Hid (∀ w' : World, Calls Tryd.prog 12 #[.slice (some ⟨w'.heap.size, 0, none⟩) 1 1] (w'.alloc (.cells #[.string s] 9)) fun e w'' => e = .returned (.bool false) ∧ (w'.alloc (.cells #[.string s] 9)) = w'') := fun w' => beyond_new w' [s] 9 (by simp [bulkN]; omega) 1 rfl
  have CSs := one s (by omega)
  go_enter Tryd.func4, Tryd.ntmps4
  go_wp2_with fail
  refine Calls.mono (known_any _ HT.out) ?_
  rintro e w1 ⟨rfl, hb1⟩
  have HB1 := hide hb1
  clear hb1
  go_wp2_with fail
  refine Calls.mono (BY.out _) ?_
  rintro e w2 ⟨rfl, h2⟩
  have HB2 := hide (show Below w.heap.size w w2 by rw [← h2]; exact HB1.out.alloc HB1.out.size _)
  clear h2 HB1
  by_cases h0 : s.size = 0
  · have h0' : ((s.size : Int) == 0) = true := by rw [h0]; rfl
    go_wp2
    go_ret
    exact ⟨rfl, HB2.out⟩
  · have h0' : ((s.size : Int) == 0) = false := by rw [beq_eq_false_iff_ne]; omega
    have hn : (0 : Int) < 8 * (s.size : Int) := by omega
    obtain ⟨P, hP, hPl⟩ := norm_mod2 at' (8 * (s.size : Int)) hn (by omega)
    obtain ⟨M, hM, hMl⟩ := norm_mod2 m' 4294967296 (by omega) (by omega)
    have FL := hide (flipped_in s P M · hs (by omega) (by omega))
    go_wp2_with fail
    refine Calls.mono (FL.out _) ?_
    rintro e w3 ⟨t, rfl, htl, htn, hb3⟩
    have HB3 := hide (HB2.out.trans (hb3.mono HB2.out.size))
    have hbu := burst s.data.toList t P M (by rw [size_data]; exact htl) (by rw [size_data]; omega) (by omega) (by rw [size_data]; exact htn)
    have CT := one (strOf t) (by rw [strOf_size]; omega)
    rw [strOf_data] at CT
    have heq : strOf t = s ↔ t = s.data.toList := ⟨fun h => by rw [← h]; rfl, fun h => by rw [h, strOf_toList]⟩
    clear hb3 hP hPl hM hMl FL htl htn one HB2
    by_cases hts : t = s.data.toList
    · subst hts
      rw [strOf_toList]
      rw [strOf_toList] at CT
      clear hbu heq
      generalize crcN 0 s.data.toList = CV at *
      go_wp2_with fail
      refine Calls.mono (CSs.out _ (HT.out.below HB3.out)) ?_
      rintro e w4 ⟨rfl, h2⟩
      have HB4 := hide (show Below w.heap.size w w4 by rw [← h2]; exact HB3.out.alloc HB3.out.size _)
      clear h2 HB3
      go_wp2_with fail
      refine Calls.mono (CSs.out _ (HT.out.below HB4.out)) ?_
      rintro e w5 ⟨rfl, h2⟩
      have HB5 := hide (show Below w.heap.size w w5 by rw [← h2]; exact HB4.out.alloc HB4.out.size _)
      clear h2 HB4
      go_wp2
      go_ret
      exact ⟨rfl, HB5.out⟩
    · have hc : crcN 0 t ≠ crcN 0 s.data.toList := fun h => hts (hbu.2 h)
      have hb' : ((strOf t).toList == s.toList) = false := by rw [eq_beq, decide_eq_false_iff_not]; exact fun h => hts (heq.1 h)
      clear hbu heq hts
      generalize strOf t = ST at *
      generalize crcN 0 s.data.toList = CV at *
      generalize crcN 0 t = CV2 at *
      have hcb : ((CV2 : Int) == (CV : Int)) = false := by rw [beq_eq_false_iff_ne]; omega
      go_wp2_with fail
      refine Calls.mono (CT.out _ (HT.out.below HB3.out)) ?_
      rintro e w4 ⟨rfl, h2⟩
      have HB4 := hide (show Below w.heap.size w w4 by rw [← h2]; exact HB3.out.alloc HB3.out.size _)
      clear h2 HB3
      go_wp2_with fail
      refine Calls.mono (CSs.out _ (HT.out.below HB4.out)) ?_
      rintro e w5 ⟨rfl, h2⟩
      have HB5 := hide (show Below w.heap.size w w5 by rw [← h2]; exact HB4.out.alloc HB4.out.size _)
      clear h2 HB4
      go_wp2
      go_ret
      exact ⟨rfl, HB5.out⟩
set_option maxHeartbeats 1000000 in
set_option maxRecDepth 100000 in
/-- the law DigestBurst, of any text -/
theorem burst_full (s : ByteArray) (at' m' : Int) (w : World) (hs : s.size ≤ 9223372036854775807) (h1 : (Lit.int .i64 at').wf = true) (h2 : (Lit.int .i64 m').wf = true) (hT : Tabs w) :
    Calls Tryd.prog 4 #[.string s, .int .i64 at', .int .i64 m'] w fun e w' => e = .returned (.bool true) ∧ Below w.heap.size w w' := by
  by_cases hbk : s.size ≤ 2147483646
  · exact burst_in s at' m' w hbk h1 h2 hT
  · have BY : Hid (∀ w' : World, Calls Tryd.prog 12 #[.slice (some ⟨w'.heap.size, 0, none⟩) 1 1] (w'.alloc (.cells #[.string s] 9)) fun e w'' => e = .returned (.bool true) ∧ (w'.alloc (.cells #[.string s] 9)) = w'') := fun w' =>
      beyond_newB w' [s] 9 (by simp [bulkN]; omega) (fun q hq => by simp at hq; subst hq; assumption) (by simp) 1 rfl
    have HT := hide hT
    clear hT hbk h1 h2
    go_enter Tryd.func4, Tryd.ntmps4
    go_wp2_with fail
    refine Calls.mono (known_any _ HT.out) ?_
    rintro e w1 ⟨rfl, hb1⟩
    have HB1 := hide hb1
    clear hb1
    go_wp2_with fail
    refine Calls.mono (BY.out _) ?_
    rintro e w2 ⟨rfl, h2⟩
    have HB2 := hide (show Below w.heap.size w w2 by rw [← h2]; exact HB1.out.alloc HB1.out.size _)
    clear h2 HB1
    go_wp2
    go_ret
    exact ⟨rfl, HB2.out⟩
end Go.Proofs.YtfcghfllhcjmnaaDoor
