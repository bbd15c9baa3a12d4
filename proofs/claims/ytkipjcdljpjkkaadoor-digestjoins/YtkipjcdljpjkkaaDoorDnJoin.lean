import Derived.Test.YtkipjcdljpjkkaaDoorDnTwice
namespace Go.Proofs.YtkipjcdljpjkkaaDoor
open Go.RowKit
set_option maxRecDepth 100000 in
/-- the document's step -/
theorem rstep_any (n : Nat) (hn : n < 4294967296) (w : World) :
    Calls Tryd.prog 24 #[.int .i64 (n : Int)] w fun e w' => e = .returned (.int .i64 (stp n : Int)) ∧ w = w' := by
  by_cases h2 : n % 2 = 0
  · have hq : ((n : Int) % 2 == 0) = true := by rw [show (n : Int) % 2 = 0 by omega]; rfl
    have hr : Hid ((n : Int) / 2 = (stp n : Int)) := by show _ = _; unfold stp; rw [if_pos h2]; omega
    go_enter Tryd.func24, Tryd.ntmps24
    go_wp2
    go_ret
    exact ⟨by rw [← hr.out]; rfl, rfl⟩
  · have hq : ((n : Int) % 2 == 0) = false := by rw [show (n : Int) % 2 = 1 by omega]; rfl
    have hx : bits .xor .i64 ((n : Int) / 2) 3988292384 = (stp n : Int) := by
      have := bxor64 (n / 2) 3988292384 (by omega) (by omega)
      rw [show ((n / 2 : Nat) : Int) = (n : Int) / 2 by omega] at this
      unfold stp
      rw [if_neg h2]
      exact this
    go_enter Tryd.func24, Tryd.ntmps24
    go_wp2
    go_ret
    exact ⟨rfl, rfl⟩
theorem range_below {w w' : World} {b : Nat} {cs : List Value} (h : w.rangeAt b 0 cs) (hb : Below w.heap.size w w') (hl : b < w.heap.size) : w'.rangeAt b 0 cs := fun j v hv => (hb.cell hl).trans (h j v hv)
theorem there_below {w w' : World} {b n : Nat} (h : w.there b 0 n) (hb : Below w.heap.size w w') (hl : b < w.heap.size) : w'.there b 0 n := fun j hj => by
  have := h j hj
  exact ⟨by rw [hb.cell hl]; exact this.1, by rw [hb.frozen hl]; exact this.2⟩
theorem size_setCells' (w : World) (b : Nat) : ∀ (vs : List Value) (o : Nat), (w.setCells b o vs).heap.size = w.heap.size := by
  intro vs
  induction vs generalizing w with
  | nil => intro o; rfl
  | cons v vs ih => intro o; exact (ih (w.setCell ⟨b, o, none⟩ v) (o + 1)).trans (World.size_setCell _ _ _)
set_option maxHeartbeats 1000000 in
set_option maxRecDepth 100000 in
set_option linter.unusedSimpArgs false in
/-- the document's CRCJoin, of good arguments -/
theorem rjoin_ok (a b n : Nat) (ha : a < 4294967296) (hb : b < 4294967296) (hn : n ≤ 9007199254740992) (w : World) (hT : TabP w) :
    Calls Tryd.prog 15 #[.int .i64 (a : Int), .int .i64 (b : Int), .int .i64 (n : Int)] w fun e w' => e = .returned (.tuple #[.int .i64 ((stps (8 * n) a ^^^ b : Nat) : Int), .int .i64 0]) ∧ Below w.heap.size w w' := by
  have hg : 0 < w.heap.size := World.block_lt_of_cell? w _ (hT 0 (by omega))
  have HT := hide hT
  clear hT
  have d1 : decide ((a : Int) < 0) = false := by rw [decide_eq_false_iff_not]; omega
  have d2 : decide ((4294967296 : Int) ≤ (a : Int)) = false := by rw [decide_eq_false_iff_not]; omega
  have d3 : decide ((b : Int) < 0) = false := by rw [decide_eq_false_iff_not]; omega
  have d4 : decide ((4294967296 : Int) ≤ (b : Int)) = false := by rw [decide_eq_false_iff_not]; omega
  have d5 : decide ((n : Int) < 0) = false := by rw [decide_eq_false_iff_not]; omega
  have d6 : decide ((9007199254740992 : Int) < (n : Int)) = false := by rw [decide_eq_false_iff_not]; omega
  have HA := hide ha
  have HB := hide hb
  have HN := hide hn
  clear ha hb hn
  go_enter Tryd.func15, Tryd.ntmps15
  go_wp2_with fail
  clear d1 d2 d3 d4 d5 d6
  go_loopw [9] (fun i wr => ∃ k : Nat, k ≤ 32 ∧ i = .int .i64 k ∧ wr.heap[w.heap.size]? = some (.cells (tK 1 k).toArray 53 (0, 0)) ∧ Below w.heap.size w wr)
    (fun i _ => 32 - (intOf i).toNat)
  case atStart =>
    refine ⟨0, by omega, rfl, ?_, (Below.refl _ w).alloc (Nat.le_refl _) _⟩
    rw [tK_zero]
    exact heap_new0 w _
  case round =>
    obtain ⟨k, hk, rfl, ht, hnx⟩ := hrel
    by_cases hlt : k < 32
    · have hp : 2 ^ k < 4294967296 := Nat.lt_of_le_of_lt (Nat.pow_le_pow_right (by omega) (show k ≤ 31 by omega)) (by omega)
      have HSET := hide (tK_set 1 k hlt)
      have hcell : wr.cell? ⟨w.heap.size, k, none⟩ = some (.int .i64 0) := by
        rw [cell_of_row wr _ k _ _ _ ht]
        have := tK_get 1 k k hlt
        rw [if_neg (by omega)] at this
        simpa using this
      have hfr : wr.frozen? ⟨w.heap.size, k, none⟩ = false := by simp [World.frozen?, ht]
      have c1 := HT.out.below hnx hg k hlt
      have CS : Hid (∀ w', Calls Tryd.prog 24 #[.int .i64 ((2 ^ k : Nat) : Int)] w' fun e w'' => e = .returned (.int .i64 (stps 1 (2 ^ k) : Int)) ∧ w' = w'') := fun w' => rstep_any (2 ^ k) hp w'
      have i0 : (0 : Int) ≤ (k : Int) := by omega
      have i1 : (k : Int) < 32 := by omega
      have hb' : (wr.setCell ⟨w.heap.size, k, none⟩ (.int .i64 (stps 1 (2 ^ k) : Int))).heap[w.heap.size]? = some (.cells (tK 1 (k + 1)).toArray 53 (0, 0)) := by
        have := Joins.block_setCell (i := k) ht (.int .i64 (stps 1 (2 ^ k) : Int))
        rw [List.setIfInBounds_toArray, HSET.out] at this
        exact this
      have HB' := hide hb'
      clear hb' HSET hp
      generalize stps 1 (2 ^ k) = V at *
      generalize 2 ^ k = P at *
      go_wp2_with fail
      refine Calls.mono (CS.out _) ?_
      rintro e wx ⟨rfl, rfl⟩
      go_wp2
      go_roundw
      case rel => exact ⟨k + 1, by omega, by go_num, HB'.out, hnx.setCell (Nat.le_refl _) _⟩
      case measure => simp [intOf]; omega
    · rw [show k = 32 by omega, tK_full] at ht
      have hk32 : (32 : Int) ≤ (k : Int) := by omega
      have hr := range_steps ht
      have hth : wr.there w.heap.size 0 32 := there_row ht (by rw [List.size_toArray, stepsV_len]; omega)
      have hl := heap_lt ht
      have HR := hide hr
      have HTH := hide hth
      have hn8 : (8 * (n : Int)) ≤ 72057594037927936 := by have := HN.out; omega
      clear hr hth ht hlt hk
      go_wp2_with fail
      clear hk32
      go_loopw [0, 10] (fun x l wq => ∃ q p : Nat, l = .int .i64 (q : Int) ∧ q * p ≤ 8 * n ∧ q ≤ 72057594037927936 ∧ x = .int .i64 (stps (8 * n - q * p) a : Int) ∧ wq.rangeAt w.heap.size 0 (stepsV p) ∧ wq.there w.heap.size 0 32 ∧ w.heap.size < wq.heap.size ∧ Below w.heap.size w wq) (fun _ l _ => (intOf l).toNat)
      case atStart => exact ⟨8 * n, 1, by rw [Int.natCast_mul]; rfl, by omega, by omega, by rw [Nat.mul_one, Nat.sub_self]; rfl, HR.out, HTH.out, hl, hnx⟩
      case round =>
        clear HR HTH hl hnx hn8
        obtain ⟨q, p, rfl, hqp, hq, rfl, hr, hth, hl, hnx⟩ := hrel
        have HA4 := HA.out
        have HB4 := HB.out
        have hx := stps_lt (8 * n - q * p) HA4
        by_cases h0 : q = 0
        · subst h0
          rw [Nat.zero_mul, Nat.sub_zero] at hx ⊢
          have hxx := bxor64 (stps (8 * n) a) b hx HB4
          obtain ⟨Z, hZ⟩ : ∃ Z, Z = stps (8 * n) a ^^^ b := ⟨_, rfl⟩
          rw [← hZ] at hxx
          have HZ := hide hZ
          clear hZ
          generalize stps (8 * n) a = X at hx hxx ⊢
          go_wp2
          go_ret2
          exact ⟨by rw [← HZ.out]; rfl, hnx⟩
        · have hlen := stepsV_len p
          have hlen2 := stepsV_len (2 * p)
          have hone := stepsV_one (2 * p)
          have hpos : (0 : Int) < (q : Int) := by omega
          have CO : Hid (∀ w', Below w.heap.size w w' → Calls Tryd.prog 27 #[.agg (stepsV p).toArray, .int .i64 (stps (8 * n - q * p) a : Int)] w' fun e w'' => e = .returned (.int .i64 (stps p (stps (8 * n - q * p) a) : Int)) ∧ Below w'.heap.size w' w'') := fun w' hb => of_any p _ hx w' (HT.out.below hb hg)
          have CT : Hid (∀ w', Below w.heap.size w w' → Calls Tryd.prog 28 #[.agg (stepsV p).toArray] w' fun e w'' => e = .returned (.agg (stepsV (2 * p)).toArray) ∧ Below w'.heap.size w' w'') := fun w' hb => twice_any p w' (HT.out.below hb hg)
          by_cases hodd : q % 2 = 1
          · have hmm : q / 2 * (2 * p) = q * p - p := by
              have : q = 2 * (q / 2) + 1 := by omega
              generalize q / 2 = h at *
              subst this
              rw [Nat.add_mul, Nat.one_mul, Nat.add_sub_cancel, Nat.mul_comm 2 h, Nat.mul_assoc]
            have hpm : p ≤ q * p := Nat.le_mul_of_pos_left p (by omega)
            have hw : stps (8 * n - q / 2 * (2 * p)) a = stps p (stps (8 * n - q * p) a) := by
              rw [← stps_add, hmm]
              congr 1
              omega
            have HLE := hide (show q / 2 * (2 * p) ≤ 8 * n by omega)
            have hqq : ((q : Int) % 2 == 1) = true := by rw [show (q : Int) % 2 = 1 by omega]; rfl
            have HX2 := hide hw
            clear hw hmm hpm hqp
            generalize stps p (stps (8 * n - q * p) a) = X2 at *
            generalize stps (8 * n - q * p) a = X at *
            generalize stepsV p = SV at *
            generalize hSV2 : stepsV (2 * p) = SV2 at *
            have HSV2 := hide hSV2
            clear hSV2
            go_wp2_with (refine wpList_load_mid rfl 53 _ rfl w.heap.size 0 rfl SV _ hr Tryd.underlying53 rfl (by rw [hlen]; kernel_rfl) ?_)
            refine Calls.mono (CO.out _ hnx) ?_
            rintro e w9 ⟨rfl, hb9⟩
            have hr9 := range_below hr hb9 hl
            have hth9 := there_below hth hb9 hl
            have hl9 := Nat.lt_of_lt_of_le hl hb9.size
            have hn9 := hnx.trans (hb9.mono (show w.heap.size ≤ wr.heap.size from hnx.size))
            clear hr hth hl hnx hb9 CO
            go_wp2_with (refine wpList_load_mid rfl 53 _ rfl w.heap.size 0 rfl SV _ hr9 Tryd.underlying53 rfl (by rw [hlen]; kernel_rfl) ?_)
            refine Calls.mono (CT.out _ hn9) ?_
            rintro e w10 ⟨rfl, hb10⟩
            have hth10 := there_below hth9 hb10 hl9
            have hl10 := Nat.lt_of_lt_of_le hl9 hb10.size
            have hn10 := hn9.trans (hb10.mono (show w.heap.size ≤ w9.heap.size from hn9.size))
            clear hr9 hth9 hl9 hn9 hb10 CT
            have hthS : w10.there w.heap.size 0 SV2.toArray.size := (show SV2.toArray.size = 32 by simp [hlen2]) ▸ hth10
            have e1 : (w10.setCells w.heap.size 0 SV2).rangeAt w.heap.size 0 SV2 := World.rangeAt_setCells_same _ _ _ _ (by simpa using hthS)
            have e2 : (w10.setCells w.heap.size 0 SV2).there w.heap.size 0 32 := World.there_setCells hth10 _ _ _
            have e3 : w.heap.size < (w10.setCells w.heap.size 0 SV2).heap.size := by rw [size_setCells']; exact hl10
            have e4 : Below w.heap.size w (w10.setCells w.heap.size 0 SV2) := below_setCells hn10 (Nat.le_refl _) _
            go_wp2_with (refine wpList_store_mid rfl 53 _ _ rfl w.heap.size 0 SV2.toArray rfl rfl hthS (by rw [List.size_toArray, hlen2]; kernel_rfl) hone ?_)
            go_roundw
            case rel => exact ⟨q / 2, 2 * p, by go_num, HLE.out, by omega, by rw [HX2.out], by rw [HSV2.out]; exact e1, e2, e3, e4⟩
            case measure => simp [intOf]; omega
          · have hmm : q / 2 * (2 * p) = q * p := by
              have : q = 2 * (q / 2) := by omega
              generalize q / 2 = h at *
              subst this
              rw [Nat.mul_comm 2 h, Nat.mul_assoc]
            have hw : stps (8 * n - q / 2 * (2 * p)) a = stps (8 * n - q * p) a := by rw [hmm]
            have HLE := hide (show q / 2 * (2 * p) ≤ 8 * n by omega)
            have hqq : ((q : Int) % 2 == 1) = false := by rw [show (q : Int) % 2 = 0 by omega]; rfl
            have HX2 := hide hw
            clear hw hmm hqp CO
            generalize stps (8 * n - q * p) a = X at *
            generalize stepsV p = SV at *
            generalize hSV2 : stepsV (2 * p) = SV2 at *
            have HSV2 := hide hSV2
            clear hSV2
            go_wp2_with (refine wpList_load_mid rfl 53 _ rfl w.heap.size 0 rfl SV _ hr Tryd.underlying53 rfl (by rw [hlen]; kernel_rfl) ?_)
            refine Calls.mono (CT.out _ hnx) ?_
            rintro e w10 ⟨rfl, hb10⟩
            have hth10 := there_below hth hb10 hl
            have hl10 := Nat.lt_of_lt_of_le hl hb10.size
            have hn10 := hnx.trans (hb10.mono (show w.heap.size ≤ wr.heap.size from hnx.size))
            clear hr hth hl hnx hb10 CT
            have hthS : w10.there w.heap.size 0 SV2.toArray.size := (show SV2.toArray.size = 32 by simp [hlen2]) ▸ hth10
            have e1 : (w10.setCells w.heap.size 0 SV2).rangeAt w.heap.size 0 SV2 := World.rangeAt_setCells_same _ _ _ _ (by simpa using hthS)
            have e2 : (w10.setCells w.heap.size 0 SV2).there w.heap.size 0 32 := World.there_setCells hth10 _ _ _
            have e3 : w.heap.size < (w10.setCells w.heap.size 0 SV2).heap.size := by rw [size_setCells']; exact hl10
            have e4 : Below w.heap.size w (w10.setCells w.heap.size 0 SV2) := below_setCells hn10 (Nat.le_refl _) _
            go_wp2_with (refine wpList_store_mid rfl 53 _ _ rfl w.heap.size 0 SV2.toArray rfl rfl hthS (by rw [List.size_toArray, hlen2]; kernel_rfl) hone ?_)
            go_roundw
            case rel => exact ⟨q / 2, 2 * p, by go_num, HLE.out, by omega, by rw [HX2.out], by rw [HSV2.out]; exact e1, e2, e3, e4⟩
            case measure => simp [intOf]; omega
end Go.Proofs.YtkipjcdljpjkkaaDoor
