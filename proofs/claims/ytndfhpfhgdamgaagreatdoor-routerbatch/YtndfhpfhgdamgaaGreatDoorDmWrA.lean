import Derived.Test.YtndfhpfhgdamgaaGreatDoorDmRun
namespace Go.Proofs.YtndfhpfhgdamgaaGreatDoor
open Go.RowKit
set_option maxHeartbeats 4000000 in
set_option maxRecDepth 100000 in
set_option linter.unusedSimpArgs false in
theorem write_a (b n : Nat) (q : Q) (r : List UInt8) (ex : List Value) (s : ByteArray) (w : World) (hE : Env b w q n r ex) (hn : n ≤ 1099511627776) (hs : s.size ≤ 1099511627776) (h64 : 64 ≤ n) (hk : n % 64 = 0) :
    Calls Tryz.prog 66 #[.pointer (some ⟨b, 0, none⟩), .string s] w fun e w' => e = .returned (.tuple #[]) ∧ Env b w' (blocksN q s.data.toList (s.size / 64)) (n + s.size) (over r 0 (s.data.toList.drop (64 * (s.size / 64)))) ex ∧ w.grownBy w' (some b) := by
  have cn := hE.count
  have fn := hE.free 4 (by omega)
  have hk' : (n : Int) % 64 = 0 := by omega
  have hE1 : Env b (w.setCells b 4 [.int .i64 ((n + s.size : Nat) : Int)]) q (n + s.size) r ex := hE.splice 4 _ (by simp) hE.len hE.q4 (splice_count _ _ _ _ _)
  have hG1 := grown_setCells (grown_refl w (some b)) [.int .i64 ((n + s.size : Nat) : Int)] 4
  rw [Int.natCast_add] at hE1 hG1
  have HE1 := hide hE1
  have HG1 := hide hG1
  clear hE1 hG1
  go_enter Tryz.func66, Tryz.ntmps66
  go_wp2
  clear hk' cn fn
  go_loopw [1] (fun dv wr => ∃ (k : Nat) (D : ByteArray), 64 * k + D.size = s.size ∧ dv = .string D ∧ D.data.toList = s.data.toList.drop (64 * k) ∧ Env b wr (blocksN q s.data.toList k) (n + s.size) r ex ∧ w.grownBy wr (some b))
    (fun dv _ => lenS dv)
  case atStart => exact ⟨0, s, by omega, rfl, rfl, HE1.out, HG1.out⟩
  case round =>
    obtain ⟨k, D, hkD, rfl, hD, hE, hG⟩ := hrel
    have HD := hide hD
    have HE := hide hE
    have HG := hide hG
    clear hD
    by_cases hlt : 64 ≤ D.size
    · obtain ⟨c0, c1, c2, c3⟩ := hE.word
      have f0 := hE.free 0 (by omega)
      have f1 := hE.free 1 (by omega)
      have f2 := hE.free 2 (by omega)
      have f3 := hE.free 3 (by omega)
      have hbl := hE.blk
      have HMX : Hid (∀ w', Below wr.heap.size wr w' → Calls Tryz.prog 82 #[qV (blocksN q s.data.toList k), .string (D.extract 0 64)] w' fun e w'' => e = .returned (qV (blocksN q s.data.toList (k + 1))) ∧ Below w'.heap.size w' w'') := fun w' hb => by
        have := mixed_any (D.extract 0 64) (blocksN q s.data.toList k) w' (by rw [ByteArray.size_extract]; omega) HE.out.q4 (by have := hb.size; omega) (HE.out.below hb).sines (HE.out.below hb).turns
        rw [take_data, HD.out] at this
        exact this
      have HQ1 := hide (show Q4 (blocksN q s.data.toList (k + 1)) from mixN_lt _ _)
      clear hE hG
      obtain ⟨q1, hq1⟩ : ∃ q1, q1 = blocksN q s.data.toList (k + 1) := ⟨_, rfl⟩
      rw [← hq1] at HMX HQ1
      have HQE := hide hq1
      clear hq1
      generalize blocksN q s.data.toList k = q0 at *
      obtain ⟨a1, b1, e1, d1⟩ := q1
      obtain ⟨a0, b0, e0, d0⟩ := q0
      have HMX2 : Hid (∀ w', Below wr.heap.size wr w' → Calls Tryz.prog 82 #[.agg #[.int .u32 (a0 : Int), .int .u32 (b0 : Int), .int .u32 (e0 : Int), .int .u32 (d0 : Int)], .string (D.extract 0 64)] w' fun e w'' => e = .returned (.agg #[.int .u32 (a1 : Int), .int .u32 (b1 : Int), .int .u32 (e1 : Int), .int .u32 (d1 : Int)]) ∧ Below w'.heap.size w' w'') := HMX
      clear HMX
      have hle : (64 : Int) ≤ (D.size : Int) := by omega
      go_wp2_with fail
      refine wp_region_held_drew (S := fun _ => True) (by kernel_rfl) trivial (fun hHeld => ?_)
      refine wpAnyH_take (i := 0) (v := (.pointer (some ⟨b, 0, none⟩))) rfl (by kernel_rfl) (by kernel_rfl) (by kernel_rfl) (fun _ _ _ h => h) (Or.inl ⟨by rfl, ?_⟩) (by assumption) ?_
      · intro w' hSw
        (try dsimp only at hSw)
        go_simp <;> first | exact i64_in (by omega) (by omega) | exact u32_in (by omega) (by omega) | exact u32_add _ _ | (rw [Int.tmod_eq_emod_of_nonneg (by omega)]; omega) | (rw [Int.tdiv_eq_ediv_of_nonneg (by omega)]; omega) | omega
      (try simp only [Act.put, List.setIfInBounds_toArray, List.set_cons_zero, List.set_cons_succ])
      refine wpAnyH_take (i := 1) (v := (.pointer (some ⟨b, 0, none⟩))) rfl (by kernel_rfl) (by kernel_rfl) (by kernel_rfl) (fun _ _ _ h => h) (Or.inl ⟨by rfl, ?_⟩) (by assumption) ?_
      · intro w' hSw
        (try dsimp only at hSw)
        go_simp <;> first | exact i64_in (by omega) (by omega) | exact u32_in (by omega) (by omega) | exact u32_add _ _ | (rw [Int.tmod_eq_emod_of_nonneg (by omega)]; omega) | (rw [Int.tdiv_eq_ediv_of_nonneg (by omega)]; omega) | omega
      (try simp only [Act.put, List.setIfInBounds_toArray, List.set_cons_zero, List.set_cons_succ])
      refine wpAnyH_take (i := 2) (v := (.pointer (some ⟨b, 0, none⟩))) rfl (by kernel_rfl) (by kernel_rfl) (by kernel_rfl) (fun _ _ _ h => h) (Or.inl ⟨by rfl, ?_⟩) (by assumption) ?_
      · intro w' hSw
        (try dsimp only at hSw)
        go_simp <;> first | exact i64_in (by omega) (by omega) | exact u32_in (by omega) (by omega) | exact u32_add _ _ | (rw [Int.tmod_eq_emod_of_nonneg (by omega)]; omega) | (rw [Int.tdiv_eq_ediv_of_nonneg (by omega)]; omega) | omega
      (try simp only [Act.put, List.setIfInBounds_toArray, List.set_cons_zero, List.set_cons_succ])
      refine wpAnyH_take (i := 3) (v := (.pointer (some ⟨b, 0, none⟩))) rfl (by kernel_rfl) (by kernel_rfl) (by kernel_rfl) (fun _ _ _ h => h) (Or.inl ⟨by rfl, ?_⟩) (by assumption) ?_
      · intro w' hSw
        (try dsimp only at hSw)
        go_simp <;> first | exact i64_in (by omega) (by omega) | exact u32_in (by omega) (by omega) | exact u32_add _ _ | (rw [Int.tmod_eq_emod_of_nonneg (by omega)]; omega) | (rw [Int.tdiv_eq_ediv_of_nonneg (by omega)]; omega) | omega
      (try simp only [Act.put, List.setIfInBounds_toArray, List.set_cons_zero, List.set_cons_succ])
      refine wpAnyH_take (i := 5) (v := (.string D)) rfl (by kernel_rfl) (by kernel_rfl) (by kernel_rfl) (fun _ _ _ h => h) (Or.inl ⟨by rfl, ?_⟩) (by assumption) ?_
      · intro w' hSw
        (try dsimp only at hSw)
        go_simp <;> first | exact i64_in (by omega) (by omega) | exact u32_in (by omega) (by omega) | exact u32_add _ _ | (rw [Int.tmod_eq_emod_of_nonneg (by omega)]; omega) | (rw [Int.tdiv_eq_ediv_of_nonneg (by omega)]; omega) | omega
      (try simp only [Act.put, List.setIfInBounds_toArray, List.set_cons_zero, List.set_cons_succ])
      refine wpAnyH_take (i := 6) (v := (.string (D.extract 0 64))) rfl (by kernel_rfl) (by kernel_rfl) (by kernel_rfl) (fun _ _ _ h => h) (Or.inl ⟨by rfl, ?_⟩) (by assumption) ?_
      · intro w' hSw
        (try dsimp only at hSw)
        go_simp <;> first | exact i64_in (by omega) (by omega) | exact u32_in (by omega) (by omega) | exact u32_add _ _ | (rw [Int.tmod_eq_emod_of_nonneg (by omega)]; omega) | (rw [Int.tdiv_eq_ediv_of_nonneg (by omega)]; omega) | omega
      (try simp only [Act.put, List.setIfInBounds_toArray, List.set_cons_zero, List.set_cons_succ])
      refine wpAnyH_ready (rs := [4]) (by kernel_rfl) (by simp) ?_
      refine AllReadyH.cons rfl (fun K hK => ?_) AllReadyH.nil
      go_simp
      refine hK.out _ _ trivial (fun hHeld => ?_)
      clear hK K
      (try simp only [Act.put, List.setIfInBounds_toArray, List.set_cons_zero, List.set_cons_succ])
      refine wpAnyH_ready (rs := [7]) (by kernel_rfl) (by simp) ?_
      refine AllReadyH.cons rfl (fun K hK => ?_) AllReadyH.nil
      go_simp
      refine Calls.mono (HMX2.out _ (Below.refl _ wr).drew) ?_
      rintro e w9 ⟨rfl, hb9⟩
      have S0 := (hb9.cell (p := ⟨b, 0, none⟩) hbl.2).trans c0
      have S1 := (hb9.cell (p := ⟨b, 1, none⟩) hbl.2).trans c1
      have S2 := (hb9.cell (p := ⟨b, 2, none⟩) hbl.2).trans c2
      have S3 := (hb9.cell (p := ⟨b, 3, none⟩) hbl.2).trans c3
      have F9 : ∀ j, j < 69 → w9.frozen? ⟨b, j, none⟩ = false := fun j hj => (hb9.frozen (p := ⟨b, j, none⟩) hbl.2).trans (HE.out.free j hj)
      have g0 := F9 0 (by omega)
      have g1 := F9 1 (by omega)
      have g2 := F9 2 (by omega)
      have g3 := F9 3 (by omega)
      clear F9
      refine hK.out _ _ trivial (fun hHeld => ?_)
      clear hK K
      (try simp only [Act.put, List.setIfInBounds_toArray, List.set_cons_zero, List.set_cons_succ])
      refine wpAnyH_take (i := 8) (v := (.pointer (some ⟨b, 0, none⟩))) rfl (by kernel_rfl) (by kernel_rfl) (by kernel_rfl) (fun _ _ _ h => h) (Or.inl ⟨by rfl, ?_⟩) (by assumption) ?_
      · intro w' hSw
        (try dsimp only at hSw)
        go_simp <;> first | exact i64_in (by omega) (by omega) | exact u32_in (by omega) (by omega) | exact u32_add _ _ | (rw [Int.tmod_eq_emod_of_nonneg (by omega)]; omega) | (rw [Int.tdiv_eq_ediv_of_nonneg (by omega)]; omega) | omega
      (try simp only [Act.put, List.setIfInBounds_toArray, List.set_cons_zero, List.set_cons_succ])
      refine wpAnyH_take (i := 9) (v := (.pointer (some ⟨b, 0, none⟩))) rfl (by kernel_rfl) (by kernel_rfl) (by kernel_rfl) (fun _ _ _ h => h) (Or.inl ⟨by rfl, ?_⟩) (by assumption) ?_
      · intro w' hSw
        (try dsimp only at hSw)
        go_simp <;> first | exact i64_in (by omega) (by omega) | exact u32_in (by omega) (by omega) | exact u32_add _ _ | (rw [Int.tmod_eq_emod_of_nonneg (by omega)]; omega) | (rw [Int.tdiv_eq_ediv_of_nonneg (by omega)]; omega) | omega
      (try simp only [Act.put, List.setIfInBounds_toArray, List.set_cons_zero, List.set_cons_succ])
      refine wpAnyH_ready (rs := [10]) (by kernel_rfl) (by simp) ?_
      refine AllReadyH.cons rfl (fun K hK => ?_) AllReadyH.nil
      go_simp
      refine hK.out _ _ trivial (fun hHeld => ?_)
      clear hK K
      (try simp only [Act.put, List.setIfInBounds_toArray, List.set_cons_zero, List.set_cons_succ])
      refine wpAnyH_done (by kernel_rfl) ?_ _
      have hE9 : Env b (w9.setCells b 0 (qL (a1, b1, e1, d1))) (a1, b1, e1, d1) (n + s.size) r ex := (HE.out.drew.below hb9).splice 0 _ (by simp [qL]) HE.out.len HQ1.out (splice_words _ _ _ _ _)
      have hG9 : w.grownBy (w9.setCells b 0 (qL (a1, b1, e1, d1))) (some b) := grown_setCells (grown_trans (grown_drew HG.out) (grown_below hb9)) _ _
      have HE9 := hide hE9
      have HG9 := hide hG9
      clear hE9 hG9 S0 S1 S2 S3 g0 g1 g2 g3
      go_wp2
      go_roundw
      case rel => exact ⟨k + 1, D.extract 64 D.size, by rw [ByteArray.size_extract]; omega, rfl, by rw [drop_data, HD.out, List.drop_drop]; rfl, HQE.out ▸ HE9.out, HG9.out⟩
      case measure => simp [lenS]; omega
    · have hk : k = s.size / 64 := by omega
      have hlt' : (D.size : Int) < 64 := by omega
      subst hk
      have hlen := HE.out.len
      have hth : wr.there b 5 (Nat.min D.size 64) := fun j hj => by
        have := HE.out.there (5 + j) (by have : Nat.min D.size 64 ≤ 64 := Nat.min_le_right _ _; omega)
        rwa [Nat.zero_add] at this
      have hmin : Nat.min D.size 64 = D.size := Nat.min_eq_left (by omega)
      have hcp := run_copy_str (P := Tryz.prog) wr 156 9 3 5 b 5 64 64 D Tryz.underlying156 size5 hth
      rw [hmin, List.take_of_length_le (by rw [size_data]; exact Nat.le_refl _), HD.out] at hcp
      have hdl : ((s.data.toList.drop (64 * (s.size / 64)))).length = D.size := by rw [← HD.out, size_data]
      have hE9 : Env b (wr.setCells b 5 ((s.data.toList.drop (64 * (s.size / 64))).map ub)) (blocksN q s.data.toList (s.size / 64)) (n + s.size) (over r 0 (s.data.toList.drop (64 * (s.size / 64)))) ex :=
        HE.out.splice 5 _ (by rw [List.length_map, hdl]; omega) (by rw [over_len (by rw [hdl]; omega)]; exact hlen) HE.out.q4 (splice_rest _ _ 0 _ _ _ (by rw [hdl]; omega))
      have hG9 : w.grownBy (wr.setCells b 5 ((s.data.toList.drop (64 * (s.size / 64))).map ub)) (some b) := grown_setCells HG.out _ _
      have HE9 := hide hE9
      have HG9 := hide hG9
      clear hE9 hG9 hE hG hdl hmin hth
      obtain ⟨LL, hLL⟩ : ∃ LL, LL = s.data.toList.drop (64 * (s.size / 64)) := ⟨_, rfl⟩
      rw [← hLL] at hcp HE9 HG9
      have HLL := hide hLL
      clear hLL
      go_wp2
      go_end0
      exact ⟨rfl, HLL.out ▸ HE9.out, HG9.out⟩
set_option maxHeartbeats 4000000 in
set_option maxRecDepth 100000 in
set_option linter.unusedSimpArgs false in
theorem write_b (b n : Nat) (q : Q) (r : List UInt8) (ex : List Value) (s : ByteArray) (w : World) (hE : Env b w q n r ex) (hn : n ≤ 1099511627776) (hs : s.size ≤ 1099511627776) (h64 : 64 ≤ n) (hk : 0 < n % 64) (hsm : n % 64 + s.size < 64) :
    Calls Tryz.prog 66 #[.pointer (some ⟨b, 0, none⟩), .string s] w fun e w' => e = .returned (.tuple #[]) ∧ Env b w' q (n + s.size) (over r (n % 64) s.data.toList) ex ∧ w.grownBy w' (some b) := by
  have cn := hE.count
  have fn := hE.free 4 (by omega)
  have hE1 : Env b (w.setCells b 4 [.int .i64 ((n + s.size : Nat) : Int)]) q (n + s.size) r ex := hE.splice 4 _ (by simp) hE.len hE.q4 (splice_count _ _ _ _ _)
  have hG1 := grown_setCells (grown_refl w (some b)) [.int .i64 ((n + s.size : Nat) : Int)] 4
  rw [Int.natCast_add] at hE1 hG1
  have HE1 := hide hE1
  have HG1 := hide hG1
  clear hE1 hG1
  obtain ⟨m, hm⟩ : ∃ m, m = n % 64 := ⟨_, rfl⟩
  have hm64 : m < 64 := by omega
  have hmi : (n : Int) % 64 = (m : Int) := by omega
  have hm0 : 0 < m := by omega
  have hsl := slice_rest b m (m : Int) rfl hm64
  have hth : (w.setCell ⟨b, 4, none⟩ (.int .i64 ((n : Int) + s.size))).there b (5 + m) (Nat.min s.size (64 - m)) := fun j hj => by
    have := HE1.out.there (5 + m + j) (by have : Nat.min s.size (64 - m) ≤ 64 - m := Nat.min_le_right _ _; omega)
    rwa [Nat.zero_add] at this
  have hmin : Nat.min s.size (64 - m) = s.size := Nat.min_eq_left (by omega)
  have hcp := run_copy_str (P := Tryz.prog) (w.setCell ⟨b, 4, none⟩ (.int .i64 ((n : Int) + s.size))) 156 9 3 5 b (5 + m) (64 - m) (64 - m) s Tryz.underlying156 size5 hth
  rw [hmin, List.take_of_length_le (by rw [size_data]; exact Nat.le_refl _)] at hcp
  have hdl : s.data.toList.length = s.size := by rw [size_data]
  have hE2 : Env b ((w.setCell ⟨b, 4, none⟩ (.int .i64 ((n : Int) + s.size))).setCells b (5 + m) (s.data.toList.map ub)) q (n + s.size) (over r m s.data.toList) ex :=
    HE1.out.splice (5 + m) _ (by rw [List.length_map, hdl]; omega) (by rw [over_len (by rw [hdl, hE.len]; omega)]; exact hE.len) HE1.out.q4 (splice_rest _ _ m _ _ _ (by rw [hdl, hE.len]; omega))
  have hG2 : w.grownBy ((w.setCell ⟨b, 4, none⟩ (.int .i64 ((n : Int) + s.size))).setCells b (5 + m) (s.data.toList.map ub)) (some b) := grown_setCells HG1.out _ _
  have HE2 := hide hE2
  have HG2 := hide hG2
  clear hE2 hG2 hth hmin hdl
  obtain ⟨dt, hdt⟩ : ∃ dt, dt = s.data.toList := ⟨_, rfl⟩
  rw [← hdt] at hcp HE2 HG2
  have HDT := hide hdt
  have HM := hide hm
  clear hm hdt
  go_enter Tryz.func66, Tryz.ntmps66
  go_wp2
  refine bodyPost_ret (v := .tuple #[]) (by simp [results, Tryz.results66]) rfl ⟨rfl, ?_, HG2.out⟩
  rw [← HM.out, ← HDT.out]
  exact HE2.out
set_option maxHeartbeats 4000000 in
set_option maxRecDepth 100000 in
set_option linter.unusedSimpArgs false in
theorem write_c (b n : Nat) (q : Q) (r : List UInt8) (ex : List Value) (s : ByteArray) (w : World) (hE : Env b w q n r ex) (hn : n ≤ 1099511627776) (hs : s.size ≤ 1099511627776) (h64 : 64 ≤ n) (hk : 0 < n % 64) (hsm : 64 ≤ n % 64 + s.size) :
    Calls Tryz.prog 66 #[.pointer (some ⟨b, 0, none⟩), .string s] w fun e w' => e = .returned (.tuple #[]) ∧ Env b w' (tailQ q (over r (n % 64) (s.data.toList.take (64 - n % 64))) (s.data.toList.drop (64 - n % 64))) (n + s.size) (tailR (over r (n % 64) (s.data.toList.take (64 - n % 64))) (s.data.toList.drop (64 - n % 64))) ex ∧ w.grownBy w' (some b) := by
  have cn := hE.count
  have fn := hE.free 4 (by omega)
  have hE1 : Env b (w.setCells b 4 [.int .i64 ((n + s.size : Nat) : Int)]) q (n + s.size) r ex := hE.splice 4 _ (by simp) hE.len hE.q4 (splice_count _ _ _ _ _)
  have hG1 := grown_setCells (grown_refl w (some b)) [.int .i64 ((n + s.size : Nat) : Int)] 4
  rw [Int.natCast_add] at hE1 hG1
  have HE1 := hide hE1
  have HG1 := hide hG1
  clear hE1 hG1
  obtain ⟨m, hm⟩ : ∃ m, m = n % 64 := ⟨_, rfl⟩
  have hm64 : m < 64 := by omega
  have hmi : (n : Int) % 64 = (m : Int) := by omega
  have hm0 : 0 < m := by omega
  have hsl := slice_rest b m (m : Int) rfl hm64
  have hth : (w.setCell ⟨b, 4, none⟩ (.int .i64 ((n : Int) + s.size))).there b (5 + m) (Nat.min s.size (64 - m)) := fun j hj => by
    have := HE1.out.there (5 + m + j) (by have : Nat.min s.size (64 - m) ≤ 64 - m := Nat.min_le_right _ _; omega)
    rwa [Nat.zero_add] at this
  have hmin : Nat.min s.size (64 - m) = (64 - m) := Nat.min_eq_right (by omega)
  have hcp := run_copy_str (P := Tryz.prog) (w.setCell ⟨b, 4, none⟩ (.int .i64 ((n : Int) + s.size))) 156 9 3 5 b (5 + m) (64 - m) (64 - m) s Tryz.underlying156 size5 hth
  rw [hmin] at hcp
  have hdl : (s.data.toList.take (64 - m)).length = (64 - m) := by rw [List.length_take, size_data]; omega
  have hE2 : Env b ((w.setCell ⟨b, 4, none⟩ (.int .i64 ((n : Int) + s.size))).setCells b (5 + m) ((s.data.toList.take (64 - m)).map ub)) q (n + s.size) (over r m (s.data.toList.take (64 - m))) ex :=
    HE1.out.splice (5 + m) _ (by rw [List.length_map, hdl]; omega) (by rw [over_len (by rw [hdl, hE.len]; omega)]; exact hE.len) HE1.out.q4 (splice_rest _ _ m _ _ _ (by rw [hdl, hE.len]; omega))
  have hG2 : w.grownBy ((w.setCell ⟨b, 4, none⟩ (.int .i64 ((n : Int) + s.size))).setCells b (5 + m) ((s.data.toList.take (64 - m)).map ub)) (some b) := grown_setCells HG1.out _ _
  have HE2 := hide hE2
  have HG2 := hide hG2
  clear hE2 hG2 hth hmin hdl
  obtain ⟨dt, hdt⟩ : ∃ dt, dt = (s.data.toList.take (64 - m)) := ⟨_, rfl⟩
  rw [← hdt] at hcp HE2 HG2
  have HDT := hide hdt
  have HM := hide hm
  clear hm hdt
  go_enter Tryz.func66, Tryz.ntmps66
  have hmm : (m : Int) + ((64 - m : Nat) : Int) = 64 := by omega
  have hcl : ((64 - m : Nat) : Int) ≤ (s.size : Int) := by omega
  go_wp2_with fail
  clear hcp hsl hmm cn fn
  obtain ⟨W2, hW2⟩ : ∃ W2, W2 = (w.setCell ⟨b, 4, none⟩ (.int .i64 ((n : Int) + s.size))).setCells b (5 + m) (dt.map ub) := ⟨_, rfl⟩
  rw [← hW2]
  rw [← hW2] at HE2 HG2
  clear hW2
  obtain ⟨c0, c1, c2, c3⟩ := HE2.out.word
  have hbl := HE2.out.blk
  obtain ⟨RR, hRR⟩ : ∃ RR, RR = over r m dt := ⟨_, rfl⟩
  rw [← hRR] at HE2
  have HRR := hide hRR
  clear hRR
  have hRl := HE2.out.len
  have hrg : ∀ W', Env b W' q (n + s.size) RR ex → W'.rangeAt b 5 (RR.map ub) := fun W' h j v hv => by
    have := h.range (5 + j) v (by rw [Cl_at]; rw [List.getElem?_append_left (by rw [List.length_map]; exact (List.getElem?_eq_some_iff.1 hv).1 |> (by simpa using ·))]; exact hv)
    rwa [Nat.zero_add] at this
  have HCV : Hid (∀ W', W'.rangeAt b 5 (RR.map ub) → (convert 156 9 (.slice (some ⟨b, 5, none⟩) 64 64)).run Tryz.prog W' = .ok (.string (strOf RR)) W') := fun W' h => by
    have := run_convert_bytes_back (P := Tryz.prog) W' 156 9 5 ⟨b, 5, none⟩ 64 RR Tryz.underlying156 Tryz.underlying5 Tryz.underlying9 (fun j hj => by
      rw [Addr.add_mid]
      exact h j _ (by simp [hj, ub]))
    rw [hRl] at this
    exact this
  have HMX : Hid (∀ w', Below W2.heap.size W2 w' → Calls Tryz.prog 82 #[qV q, .string (strOf RR)] w' fun e w'' => e = .returned (qV (mixN q RR)) ∧ Below w'.heap.size w' w'') := fun w' hb => by
    have := mixed_any (strOf RR) q w' (by rw [strOf_size]; exact hRl) HE2.out.q4 (by have := hb.size; omega) (HE2.out.below hb).sines (HE2.out.below hb).turns
    rw [strOf_data] at this
    exact this
  obtain ⟨q1, hq1⟩ : ∃ q1, q1 = mixN q RR := ⟨_, rfl⟩
  have hq14 : Q4 q1 := by rw [hq1]; exact mixN_lt _ _
  rw [← hq1] at HMX
  have HQE := hide hq1
  clear hq1
  obtain ⟨a1, b1, e1, d1⟩ := q1
  obtain ⟨qq, hqq⟩ : ∃ qq : Q, qq = q := ⟨_, rfl⟩
  have HQQ := hide hqq
  rw [← hqq] at HMX HE2 HQE c0 c1 c2 c3
  clear hqq
  obtain ⟨a0, b0, e0, d0⟩ := qq
  have HMX2 : Hid (∀ w', Below W2.heap.size W2 w' → Calls Tryz.prog 82 #[.agg #[.int .u32 (a0 : Int), .int .u32 (b0 : Int), .int .u32 (e0 : Int), .int .u32 (d0 : Int)], .string (strOf RR)] w' fun e w'' => e = .returned (.agg #[.int .u32 (a1 : Int), .int .u32 (b1 : Int), .int .u32 (e1 : Int), .int .u32 (d1 : Int)]) ∧ Below w'.heap.size w' w'') := HMX
  clear HMX
  have rg2 : W2.rangeAt b 5 (RR.map ub) := hrg W2 (by rw [← HQQ.out]; exact HE2.out)
  clear hrg
  refine wp_region_held_drew (S := fun W' => W'.rangeAt b 5 (RR.map ub)) (by kernel_rfl) ((World.rangeAt_drew _ _ _ _).2 rg2) (fun hHeld => ?_)
  refine wpAnyH_take (i := 0) (v := (.pointer (some ⟨b, 0, none⟩))) rfl (by kernel_rfl) (by kernel_rfl) (by kernel_rfl) (fun _ _ _ h => h) (Or.inl ⟨by rfl, ?_⟩) (by assumption) ?_
  · intro w' hSw
    (try dsimp only at hSw)
    go_simp <;> first | exact i64_in (by omega) (by omega) | exact u32_in (by omega) (by omega) | exact u32_add _ _ | (rw [Int.tmod_eq_emod_of_nonneg (by omega)]; omega) | (rw [Int.tdiv_eq_ediv_of_nonneg (by omega)]; omega) | omega
  (try simp only [Act.put, List.setIfInBounds_toArray, List.set_cons_zero, List.set_cons_succ])
  refine wpAnyH_take (i := 1) (v := (.pointer (some ⟨b, 0, none⟩))) rfl (by kernel_rfl) (by kernel_rfl) (by kernel_rfl) (fun _ _ _ h => h) (Or.inl ⟨by rfl, ?_⟩) (by assumption) ?_
  · intro w' hSw
    (try dsimp only at hSw)
    go_simp <;> first | exact i64_in (by omega) (by omega) | exact u32_in (by omega) (by omega) | exact u32_add _ _ | (rw [Int.tmod_eq_emod_of_nonneg (by omega)]; omega) | (rw [Int.tdiv_eq_ediv_of_nonneg (by omega)]; omega) | omega
  (try simp only [Act.put, List.setIfInBounds_toArray, List.set_cons_zero, List.set_cons_succ])
  refine wpAnyH_take (i := 2) (v := (.pointer (some ⟨b, 0, none⟩))) rfl (by kernel_rfl) (by kernel_rfl) (by kernel_rfl) (fun _ _ _ h => h) (Or.inl ⟨by rfl, ?_⟩) (by assumption) ?_
  · intro w' hSw
    (try dsimp only at hSw)
    go_simp <;> first | exact i64_in (by omega) (by omega) | exact u32_in (by omega) (by omega) | exact u32_add _ _ | (rw [Int.tmod_eq_emod_of_nonneg (by omega)]; omega) | (rw [Int.tdiv_eq_ediv_of_nonneg (by omega)]; omega) | omega
  (try simp only [Act.put, List.setIfInBounds_toArray, List.set_cons_zero, List.set_cons_succ])
  refine wpAnyH_take (i := 3) (v := (.pointer (some ⟨b, 0, none⟩))) rfl (by kernel_rfl) (by kernel_rfl) (by kernel_rfl) (fun _ _ _ h => h) (Or.inl ⟨by rfl, ?_⟩) (by assumption) ?_
  · intro w' hSw
    (try dsimp only at hSw)
    go_simp <;> first | exact i64_in (by omega) (by omega) | exact u32_in (by omega) (by omega) | exact u32_add _ _ | (rw [Int.tmod_eq_emod_of_nonneg (by omega)]; omega) | (rw [Int.tdiv_eq_ediv_of_nonneg (by omega)]; omega) | omega
  (try simp only [Act.put, List.setIfInBounds_toArray, List.set_cons_zero, List.set_cons_succ])
  refine wpAnyH_take (i := 5) (v := (.pointer (some ⟨b, 0, none⟩))) rfl (by kernel_rfl) (by kernel_rfl) (by kernel_rfl) (fun _ _ _ h => h) (Or.inl ⟨by rfl, ?_⟩) (by assumption) ?_
  · intro w' hSw
    (try dsimp only at hSw)
    go_simp <;> first | exact i64_in (by omega) (by omega) | exact u32_in (by omega) (by omega) | exact u32_add _ _ | (rw [Int.tmod_eq_emod_of_nonneg (by omega)]; omega) | (rw [Int.tdiv_eq_ediv_of_nonneg (by omega)]; omega) | omega
  (try simp only [Act.put, List.setIfInBounds_toArray, List.set_cons_zero, List.set_cons_succ])
  refine wpAnyH_take (i := 6) (v := (.pointer (some ⟨b, 0, none⟩))) rfl (by kernel_rfl) (by kernel_rfl) (by kernel_rfl) (fun _ _ _ h => h) (Or.inl ⟨by rfl, ?_⟩) (by assumption) ?_
  · intro w' hSw
    (try dsimp only at hSw)
    go_simp <;> first | exact i64_in (by omega) (by omega) | exact u32_in (by omega) (by omega) | exact u32_add _ _ | (rw [Int.tmod_eq_emod_of_nonneg (by omega)]; omega) | (rw [Int.tdiv_eq_ediv_of_nonneg (by omega)]; omega) | omega
  (try simp only [Act.put, List.setIfInBounds_toArray, List.set_cons_zero, List.set_cons_succ])
  refine wpAnyH_take (i := 7) (v := (.pointer (some ⟨b, 5, none⟩))) rfl (by kernel_rfl) (by kernel_rfl) (by kernel_rfl) (fun _ _ _ h => h) (Or.inl ⟨by rfl, ?_⟩) (by assumption) ?_
  · intro w' hSw
    (try dsimp only at hSw)
    go_simp <;> first | exact i64_in (by omega) (by omega) | exact u32_in (by omega) (by omega) | exact u32_add _ _ | (rw [Int.tmod_eq_emod_of_nonneg (by omega)]; omega) | (rw [Int.tdiv_eq_ediv_of_nonneg (by omega)]; omega) | omega
  (try simp only [Act.put, List.setIfInBounds_toArray, List.set_cons_zero, List.set_cons_succ])
  refine wpAnyH_take (i := 8) (v := (.slice (some ⟨b, 5, none⟩) 64 64)) rfl (by kernel_rfl) (by kernel_rfl) (by kernel_rfl) (fun _ _ _ h => h) (Or.inl ⟨by rfl, ?_⟩) (by assumption) ?_
  · intro w' hSw
    (try dsimp only at hSw)
    go_simp <;> first | exact i64_in (by omega) (by omega) | exact u32_in (by omega) (by omega) | exact u32_add _ _ | (rw [Int.tmod_eq_emod_of_nonneg (by omega)]; omega) | (rw [Int.tdiv_eq_ediv_of_nonneg (by omega)]; omega) | omega
  (try simp only [Act.put, List.setIfInBounds_toArray, List.set_cons_zero, List.set_cons_succ])
  refine wpAnyH_take (i := 9) (v := (.string (strOf RR))) rfl (by kernel_rfl) (by kernel_rfl) (by kernel_rfl) (fun _ _ _ h => h) (Or.inl ⟨by rfl, ?_⟩) (by assumption) ?_
  · intro w' hSw
    (try dsimp only at hSw)
    (have hcv := HCV.out w' hSw; go_simp)
  (try simp only [Act.put, List.setIfInBounds_toArray, List.set_cons_zero, List.set_cons_succ])
  refine wpAnyH_ready (rs := [4]) (by kernel_rfl) (by simp) ?_
  refine AllReadyH.cons rfl (fun K hK => ?_) AllReadyH.nil
  go_simp
  refine hK.out _ _ hHeld (fun hHeld => ?_)
  clear hK K
  (try simp only [Act.put, List.setIfInBounds_toArray, List.set_cons_zero, List.set_cons_succ])
  refine wpAnyH_ready (rs := [10]) (by kernel_rfl) (by simp) ?_
  refine AllReadyH.cons rfl (fun K hK => ?_) AllReadyH.nil
  go_simp
  refine Calls.mono (HMX2.out _ (Below.refl _ W2).drew) ?_
  rintro e w9 ⟨rfl, hb9⟩
  have S0 := (hb9.cell (p := ⟨b, 0, none⟩) hbl.2).trans c0
  have S1 := (hb9.cell (p := ⟨b, 1, none⟩) hbl.2).trans c1
  have S2 := (hb9.cell (p := ⟨b, 2, none⟩) hbl.2).trans c2
  have S3 := (hb9.cell (p := ⟨b, 3, none⟩) hbl.2).trans c3
  have F9 : ∀ j, j < 69 → w9.frozen? ⟨b, j, none⟩ = false := fun j hj => (hb9.frozen (p := ⟨b, j, none⟩) hbl.2).trans (HE2.out.free j hj)
  have g0 := F9 0 (by omega)
  have g1 := F9 1 (by omega)
  have g2 := F9 2 (by omega)
  have g3 := F9 3 (by omega)
  clear F9
  have rg9 : w9.rangeAt b 5 (RR.map ub) := fun j v hv => (hb9.cell (p := ⟨b, 5 + j, none⟩) hbl.2).trans (rg2 j v hv)
  refine hK.out _ _ rg9 (fun hHeld => ?_)
  clear hK K
  (try simp only [Act.put, List.setIfInBounds_toArray, List.set_cons_zero, List.set_cons_succ])
  refine wpAnyH_take (i := 11) (v := (.pointer (some ⟨b, 0, none⟩))) rfl (by kernel_rfl) (by kernel_rfl) (by kernel_rfl) (fun _ _ _ h => h) (Or.inl ⟨by rfl, ?_⟩) (by assumption) ?_
  · intro w' hSw
    (try dsimp only at hSw)
    go_simp <;> first | exact i64_in (by omega) (by omega) | exact u32_in (by omega) (by omega) | exact u32_add _ _ | (rw [Int.tmod_eq_emod_of_nonneg (by omega)]; omega) | (rw [Int.tdiv_eq_ediv_of_nonneg (by omega)]; omega) | omega
  (try simp only [Act.put, List.setIfInBounds_toArray, List.set_cons_zero, List.set_cons_succ])
  refine wpAnyH_take (i := 12) (v := (.pointer (some ⟨b, 0, none⟩))) rfl (by kernel_rfl) (by kernel_rfl) (by kernel_rfl) (fun _ _ _ h => h) (Or.inl ⟨by rfl, ?_⟩) (by assumption) ?_
  · intro w' hSw
    (try dsimp only at hSw)
    go_simp <;> first | exact i64_in (by omega) (by omega) | exact u32_in (by omega) (by omega) | exact u32_add _ _ | (rw [Int.tmod_eq_emod_of_nonneg (by omega)]; omega) | (rw [Int.tdiv_eq_ediv_of_nonneg (by omega)]; omega) | omega
  (try simp only [Act.put, List.setIfInBounds_toArray, List.set_cons_zero, List.set_cons_succ])
  refine wpAnyH_ready (rs := [13]) (by kernel_rfl) (by simp) ?_
  refine AllReadyH.cons rfl (fun K hK => ?_) AllReadyH.nil
  go_simp
  have rg8 : (w9.setCells b 0 (qL (a1, b1, e1, d1))).rangeAt b 5 (RR.map ub) := World.rangeAt_setCells_apart rg9 _ _ _ (Or.inr (Or.inr (by simp [qL])))
  refine hK.out _ _ rg8 (fun hHeld => ?_)
  clear hK K
  (try simp only [Act.put, List.setIfInBounds_toArray, List.set_cons_zero, List.set_cons_succ])
  refine wpAnyH_done (by kernel_rfl) ?_ _
  have hE3 : Env b (w9.setCells b 0 (qL (a1, b1, e1, d1))) (a1, b1, e1, d1) (n + s.size) RR ex := (HE2.out.drew.below hb9).splice 0 _ (by simp [qL]) hRl hq14 (splice_words _ _ _ _ _)
  have hG3 : w.grownBy (w9.setCells b 0 (qL (a1, b1, e1, d1))) (some b) := grown_setCells (grown_trans (grown_drew HG2.out) (grown_below hb9)) _ _
  have HE3 := hide hE3
  have HG3 := hide hG3
  clear hE3 hG3 S0 S1 S2 S3 g0 g1 g2 g3 c0 c1 c2 c3 rg2 rg8 rg9 hHeld
  obtain ⟨T, hT⟩ : ∃ T, T = s.extract (64 - m) s.size := ⟨_, rfl⟩
  have hTs : T.size = s.size - (64 - m) := by rw [hT, ByteArray.size_extract]; omega
  have hTd : T.data.toList = s.data.toList.drop (64 - m) := by rw [hT, drop_data]
  go_wp2_with fail
  rw [← hT]
  have HTD := hide (And.intro hTs hTd)
  clear hT hTs hTd
  go_loopw [1] (fun dv wr => ∃ (k : Nat) (D : ByteArray), 64 * k + D.size = T.size ∧ dv = .string D ∧ D.data.toList = T.data.toList.drop (64 * k) ∧ Env b wr (blocksN (a1, b1, e1, d1) T.data.toList k) (n + s.size) RR ex ∧ w.grownBy wr (some b))
    (fun dv _ => lenS dv)
  case atStart => exact ⟨0, T, by omega, rfl, rfl, HE3.out, HG3.out⟩
  case round =>
    obtain ⟨k, D, hkD, rfl, hD, hE, hG⟩ := hrel
    have HD := hide hD
    have HE := hide hE
    have HG := hide hG
    clear hD
    by_cases hlt : 64 ≤ D.size
    · obtain ⟨c0, c1, c2, c3⟩ := hE.word
      have f0 := hE.free 0 (by omega)
      have f1 := hE.free 1 (by omega)
      have f2 := hE.free 2 (by omega)
      have f3 := hE.free 3 (by omega)
      have hbl := hE.blk
      have HMX : Hid (∀ w', Below wr.heap.size wr w' → Calls Tryz.prog 82 #[qV (blocksN (a1, b1, e1, d1) T.data.toList k), .string (D.extract 0 64)] w' fun e w'' => e = .returned (qV (blocksN (a1, b1, e1, d1) T.data.toList (k + 1))) ∧ Below w'.heap.size w' w'') := fun w' hb => by
        have := mixed_any (D.extract 0 64) (blocksN (a1, b1, e1, d1) T.data.toList k) w' (by rw [ByteArray.size_extract]; omega) HE.out.q4 (by have := hb.size; omega) (HE.out.below hb).sines (HE.out.below hb).turns
        rw [take_data, HD.out] at this
        exact this
      have HQ1 := hide (show Q4 (blocksN (a1, b1, e1, d1) T.data.toList (k + 1)) from mixN_lt _ _)
      clear hE hG
      obtain ⟨q1, hq1⟩ : ∃ q1, q1 = blocksN (a1, b1, e1, d1) T.data.toList (k + 1) := ⟨_, rfl⟩
      rw [← hq1] at HMX HQ1
      have HQE := hide hq1
      clear hq1
      generalize blocksN (a1, b1, e1, d1) T.data.toList k = q0 at *
      obtain ⟨a1, b1, e1, d1⟩ := q1
      obtain ⟨a0, b0, e0, d0⟩ := q0
      have HMX2 : Hid (∀ w', Below wr.heap.size wr w' → Calls Tryz.prog 82 #[.agg #[.int .u32 (a0 : Int), .int .u32 (b0 : Int), .int .u32 (e0 : Int), .int .u32 (d0 : Int)], .string (D.extract 0 64)] w' fun e w'' => e = .returned (.agg #[.int .u32 (a1 : Int), .int .u32 (b1 : Int), .int .u32 (e1 : Int), .int .u32 (d1 : Int)]) ∧ Below w'.heap.size w' w'') := HMX
      clear HMX
      have hle : (64 : Int) ≤ (D.size : Int) := by omega
      go_wp2_with fail
      refine wp_region_held_drew (S := fun _ => True) (by kernel_rfl) trivial (fun hHeld => ?_)
      refine wpAnyH_take (i := 0) (v := (.pointer (some ⟨b, 0, none⟩))) rfl (by kernel_rfl) (by kernel_rfl) (by kernel_rfl) (fun _ _ _ h => h) (Or.inl ⟨by rfl, ?_⟩) (by assumption) ?_
      · intro w' hSw
        (try dsimp only at hSw)
        go_simp <;> first | exact i64_in (by omega) (by omega) | exact u32_in (by omega) (by omega) | exact u32_add _ _ | (rw [Int.tmod_eq_emod_of_nonneg (by omega)]; omega) | (rw [Int.tdiv_eq_ediv_of_nonneg (by omega)]; omega) | omega
      (try simp only [Act.put, List.setIfInBounds_toArray, List.set_cons_zero, List.set_cons_succ])
      refine wpAnyH_take (i := 1) (v := (.pointer (some ⟨b, 0, none⟩))) rfl (by kernel_rfl) (by kernel_rfl) (by kernel_rfl) (fun _ _ _ h => h) (Or.inl ⟨by rfl, ?_⟩) (by assumption) ?_
      · intro w' hSw
        (try dsimp only at hSw)
        go_simp <;> first | exact i64_in (by omega) (by omega) | exact u32_in (by omega) (by omega) | exact u32_add _ _ | (rw [Int.tmod_eq_emod_of_nonneg (by omega)]; omega) | (rw [Int.tdiv_eq_ediv_of_nonneg (by omega)]; omega) | omega
      (try simp only [Act.put, List.setIfInBounds_toArray, List.set_cons_zero, List.set_cons_succ])
      refine wpAnyH_take (i := 2) (v := (.pointer (some ⟨b, 0, none⟩))) rfl (by kernel_rfl) (by kernel_rfl) (by kernel_rfl) (fun _ _ _ h => h) (Or.inl ⟨by rfl, ?_⟩) (by assumption) ?_
      · intro w' hSw
        (try dsimp only at hSw)
        go_simp <;> first | exact i64_in (by omega) (by omega) | exact u32_in (by omega) (by omega) | exact u32_add _ _ | (rw [Int.tmod_eq_emod_of_nonneg (by omega)]; omega) | (rw [Int.tdiv_eq_ediv_of_nonneg (by omega)]; omega) | omega
      (try simp only [Act.put, List.setIfInBounds_toArray, List.set_cons_zero, List.set_cons_succ])
      refine wpAnyH_take (i := 3) (v := (.pointer (some ⟨b, 0, none⟩))) rfl (by kernel_rfl) (by kernel_rfl) (by kernel_rfl) (fun _ _ _ h => h) (Or.inl ⟨by rfl, ?_⟩) (by assumption) ?_
      · intro w' hSw
        (try dsimp only at hSw)
        go_simp <;> first | exact i64_in (by omega) (by omega) | exact u32_in (by omega) (by omega) | exact u32_add _ _ | (rw [Int.tmod_eq_emod_of_nonneg (by omega)]; omega) | (rw [Int.tdiv_eq_ediv_of_nonneg (by omega)]; omega) | omega
      (try simp only [Act.put, List.setIfInBounds_toArray, List.set_cons_zero, List.set_cons_succ])
      refine wpAnyH_take (i := 5) (v := (.string D)) rfl (by kernel_rfl) (by kernel_rfl) (by kernel_rfl) (fun _ _ _ h => h) (Or.inl ⟨by rfl, ?_⟩) (by assumption) ?_
      · intro w' hSw
        (try dsimp only at hSw)
        go_simp <;> first | exact i64_in (by omega) (by omega) | exact u32_in (by omega) (by omega) | exact u32_add _ _ | (rw [Int.tmod_eq_emod_of_nonneg (by omega)]; omega) | (rw [Int.tdiv_eq_ediv_of_nonneg (by omega)]; omega) | omega
      (try simp only [Act.put, List.setIfInBounds_toArray, List.set_cons_zero, List.set_cons_succ])
      refine wpAnyH_take (i := 6) (v := (.string (D.extract 0 64))) rfl (by kernel_rfl) (by kernel_rfl) (by kernel_rfl) (fun _ _ _ h => h) (Or.inl ⟨by rfl, ?_⟩) (by assumption) ?_
      · intro w' hSw
        (try dsimp only at hSw)
        go_simp <;> first | exact i64_in (by omega) (by omega) | exact u32_in (by omega) (by omega) | exact u32_add _ _ | (rw [Int.tmod_eq_emod_of_nonneg (by omega)]; omega) | (rw [Int.tdiv_eq_ediv_of_nonneg (by omega)]; omega) | omega
      (try simp only [Act.put, List.setIfInBounds_toArray, List.set_cons_zero, List.set_cons_succ])
      refine wpAnyH_ready (rs := [4]) (by kernel_rfl) (by simp) ?_
      refine AllReadyH.cons rfl (fun K hK => ?_) AllReadyH.nil
      go_simp
      refine hK.out _ _ trivial (fun hHeld => ?_)
      clear hK K
      (try simp only [Act.put, List.setIfInBounds_toArray, List.set_cons_zero, List.set_cons_succ])
      refine wpAnyH_ready (rs := [7]) (by kernel_rfl) (by simp) ?_
      refine AllReadyH.cons rfl (fun K hK => ?_) AllReadyH.nil
      go_simp
      refine Calls.mono (HMX2.out _ (Below.refl _ wr).drew) ?_
      rintro e w9 ⟨rfl, hb9⟩
      have S0 := (hb9.cell (p := ⟨b, 0, none⟩) hbl.2).trans c0
      have S1 := (hb9.cell (p := ⟨b, 1, none⟩) hbl.2).trans c1
      have S2 := (hb9.cell (p := ⟨b, 2, none⟩) hbl.2).trans c2
      have S3 := (hb9.cell (p := ⟨b, 3, none⟩) hbl.2).trans c3
      have F9 : ∀ j, j < 69 → w9.frozen? ⟨b, j, none⟩ = false := fun j hj => (hb9.frozen (p := ⟨b, j, none⟩) hbl.2).trans (HE.out.free j hj)
      have g0 := F9 0 (by omega)
      have g1 := F9 1 (by omega)
      have g2 := F9 2 (by omega)
      have g3 := F9 3 (by omega)
      clear F9
      refine hK.out _ _ trivial (fun hHeld => ?_)
      clear hK K
      (try simp only [Act.put, List.setIfInBounds_toArray, List.set_cons_zero, List.set_cons_succ])
      refine wpAnyH_take (i := 8) (v := (.pointer (some ⟨b, 0, none⟩))) rfl (by kernel_rfl) (by kernel_rfl) (by kernel_rfl) (fun _ _ _ h => h) (Or.inl ⟨by rfl, ?_⟩) (by assumption) ?_
      · intro w' hSw
        (try dsimp only at hSw)
        go_simp <;> first | exact i64_in (by omega) (by omega) | exact u32_in (by omega) (by omega) | exact u32_add _ _ | (rw [Int.tmod_eq_emod_of_nonneg (by omega)]; omega) | (rw [Int.tdiv_eq_ediv_of_nonneg (by omega)]; omega) | omega
      (try simp only [Act.put, List.setIfInBounds_toArray, List.set_cons_zero, List.set_cons_succ])
      refine wpAnyH_take (i := 9) (v := (.pointer (some ⟨b, 0, none⟩))) rfl (by kernel_rfl) (by kernel_rfl) (by kernel_rfl) (fun _ _ _ h => h) (Or.inl ⟨by rfl, ?_⟩) (by assumption) ?_
      · intro w' hSw
        (try dsimp only at hSw)
        go_simp <;> first | exact i64_in (by omega) (by omega) | exact u32_in (by omega) (by omega) | exact u32_add _ _ | (rw [Int.tmod_eq_emod_of_nonneg (by omega)]; omega) | (rw [Int.tdiv_eq_ediv_of_nonneg (by omega)]; omega) | omega
      (try simp only [Act.put, List.setIfInBounds_toArray, List.set_cons_zero, List.set_cons_succ])
      refine wpAnyH_ready (rs := [10]) (by kernel_rfl) (by simp) ?_
      refine AllReadyH.cons rfl (fun K hK => ?_) AllReadyH.nil
      go_simp
      refine hK.out _ _ trivial (fun hHeld => ?_)
      clear hK K
      (try simp only [Act.put, List.setIfInBounds_toArray, List.set_cons_zero, List.set_cons_succ])
      refine wpAnyH_done (by kernel_rfl) ?_ _
      have hE9 : Env b (w9.setCells b 0 (qL (a1, b1, e1, d1))) (a1, b1, e1, d1) (n + s.size) RR ex := (HE.out.drew.below hb9).splice 0 _ (by simp [qL]) HE.out.len HQ1.out (splice_words _ _ _ _ _)
      have hG9 : w.grownBy (w9.setCells b 0 (qL (a1, b1, e1, d1))) (some b) := grown_setCells (grown_trans (grown_drew HG.out) (grown_below hb9)) _ _
      have HE9 := hide hE9
      have HG9 := hide hG9
      clear hE9 hG9 S0 S1 S2 S3 g0 g1 g2 g3
      go_wp2
      go_roundw
      case rel => exact ⟨k + 1, D.extract 64 D.size, by rw [ByteArray.size_extract]; omega, rfl, by rw [drop_data, HD.out, List.drop_drop]; rfl, HQE.out ▸ HE9.out, HG9.out⟩
      case measure => simp [lenS]; omega
    · have hk : k = T.size / 64 := by omega
      have hlt' : (D.size : Int) < 64 := by omega
      subst hk
      have hlen := HE.out.len
      have hth : wr.there b 5 (Nat.min D.size 64) := fun j hj => by
        have := HE.out.there (5 + j) (by have : Nat.min D.size 64 ≤ 64 := Nat.min_le_right _ _; omega)
        rwa [Nat.zero_add] at this
      have hmin : Nat.min D.size 64 = D.size := Nat.min_eq_left (by omega)
      have hcp := run_copy_str (P := Tryz.prog) wr 156 9 3 5 b 5 64 64 D Tryz.underlying156 size5 hth
      rw [hmin, List.take_of_length_le (by rw [size_data]; exact Nat.le_refl _), HD.out] at hcp
      have hdl : ((T.data.toList.drop (64 * (T.size / 64)))).length = D.size := by rw [← HD.out, size_data]
      have hE9 : Env b (wr.setCells b 5 ((T.data.toList.drop (64 * (T.size / 64))).map ub)) (blocksN (a1, b1, e1, d1) T.data.toList (T.size / 64)) (n + s.size) (over RR 0 (T.data.toList.drop (64 * (T.size / 64)))) ex :=
        HE.out.splice 5 _ (by rw [List.length_map, hdl]; omega) (by rw [over_len (by rw [hdl]; omega)]; exact hlen) HE.out.q4 (splice_rest _ _ 0 _ _ _ (by rw [hdl]; omega))
      have hG9 : w.grownBy (wr.setCells b 5 ((T.data.toList.drop (64 * (T.size / 64))).map ub)) (some b) := grown_setCells HG.out _ _
      have HE9 := hide hE9
      have HG9 := hide hG9
      clear hE9 hG9 hE hG hdl hmin hth
      obtain ⟨LL, hLL⟩ : ∃ LL, LL = T.data.toList.drop (64 * (T.size / 64)) := ⟨_, rfl⟩
      rw [← hLL] at hcp HE9 HG9
      have HLL := hide hLL
      clear hLL
      go_wp2
      go_end0
      exact ⟨rfl, by rw [← HM.out, ← HDT.out, ← HRR.out, ← HQQ.out, ← HTD.out.2]; unfold tailQ tailR; rw [← HQE.out, size_data, ← HLL.out]; exact HE9.out, HG9.out⟩
end Go.Proofs.YtndfhpfhgdamgaaGreatDoor
