import Derived.Test.YthlpklkdpggmkaaDoorGFdRefR
namespace Go.Proofs.YthlpklkdpggmkaaDoor
open Go.RowKit
theorem strOf_app (a b : List UInt8) : strOf a ++ strOf b = strOf (a ++ b) := by
  have : ∀ x y : ByteArray, x.data.toList = y.data.toList → x = y := fun x y h => by rw [← strOf_toList x, h, strOf_toList]
  apply this
  rw [ByteArray.data_append, Array.toList_append]
  rfl
theorem mostK_num (k i : Nat) : mostK k i ≤ 9007199254740992 := by
  unfold mostK
  split
  · unfold mostF; split <;> omega
  · omega
theorem letL_at (k q : Nat) (h : q < (bodyF k).length) : (letL k)[q]'(by unfold letL; rw [List.length_map]; exact h) = letF (bodyF k)[q] := by simp [letL]
set_option maxHeartbeats 8000000 in
set_option maxRecDepth 100000 in
set_option linter.unusedSimpArgs false in
theorem rbody_any (m : MM) (k : Nat) (h16 : k ≤ 16) (hk : m.kind = (k : Int)) (hf : ∀ i, i < 10 → fitAt m k i = true) (w : World) (hT : TabR w) :
    Calls Tryd.prog 26 #[.agg (msgV m)] w fun e w' => e = .returned (.string (strOf (bodyL m))) ∧ Below w.heap.size w w' := by
  obtain ⟨W0, hW0⟩ : ∃ W0, W0 = w.alloc (.cells (msgV m) 26) := ⟨_, rfl⟩
  have b0 : Below w.heap.size w W0 := by rw [hW0]; exact (Below.refl _ w).alloc (Nat.le_refl _) _
  have s0 : w.heap.size < W0.heap.size := by rw [hW0]; simp
  have KM : Hid (∀ w', Below W0.heap.size W0 w' → w'.cell? ⟨w.heap.size, 0, none⟩ = some (.int .i64 (k : Int)) ∧ w'.cell? ⟨w.heap.size, 1, none⟩ = some (.int .i64 m.n0) ∧ w'.cell? ⟨w.heap.size, 2, none⟩ = some (.int .i64 m.n1) ∧ w'.cell? ⟨w.heap.size, 3, none⟩ = some (.int .i64 m.n2) ∧ w'.cell? ⟨w.heap.size, 4, none⟩ = some (.int .i64 m.n3) ∧ w'.cell? ⟨w.heap.size, 5, none⟩ = some (.int .i64 m.n4) ∧ w'.cell? ⟨w.heap.size, 6, none⟩ = some (.int .i64 m.n5) ∧ w'.cell? ⟨w.heap.size, 7, none⟩ = some (.int .i64 m.n6) ∧ w'.cell? ⟨w.heap.size, 8, none⟩ = some (.int .i64 m.n7) ∧ w'.cell? ⟨w.heap.size, 9, none⟩ = some (.string m.key) ∧ w'.cell? ⟨w.heap.size, 10, none⟩ = some (.string m.val)) := fun w' hb => by
    rw [hb.cell (by exact s0), hb.cell (by exact s0), hb.cell (by exact s0), hb.cell (by exact s0), hb.cell (by exact s0), hb.cell (by exact s0), hb.cell (by exact s0), hb.cell (by exact s0), hb.cell (by exact s0), hb.cell (by exact s0), hb.cell (by exact s0), hW0, ← hk]
    exact ⟨by simp [msgV], by simp [msgV], by simp [msgV], by simp [msgV], by simp [msgV], by simp [msgV], by simp [msgV], by simp [msgV], by simp [msgV], by simp [msgV], by simp [msgV]⟩
  have z := (hT.below b0) k h16
  have hkk : (k : Int) < 17 := by omega
  have hlen := bodyF_len k h16
  have hlt := bodyF_lt k h16
  obtain ⟨S, hS⟩ : ∃ S, S = strOf (letL k) := ⟨_, rfl⟩
  rw [← hS] at z
  have hsd : S.data.toList = letL k := by rw [hS, strOf_data]
  have hsz : S.size = (bodyF k).length := by rw [hS, strOf_size]; unfold letL; rw [List.length_map]
  have eb : (bodyF k).flatMap (fldL m) = bodyL m := by unfold bodyL; rw [hk]; rfl
  have EB := hide eb
  have c0 := (KM.out _ (Below.refl _ _)).1
  have B0 := hide b0
  clear hS b0 eb hT
  go_enter Tryd.func26, Tryd.ntmps26
  go_upto_region 1 with fail
  rw [← hW0]
  clear hW0
  go_wp2_with fail
  clear z c0
  go_loopw [4, 5, 6] (fun b i _ wr => ∃ q : Nat, q ≤ S.size ∧ i = .int .i64 (q : Int) ∧ b = .string (strOf (((bodyF k).take q).flatMap (fldL m))) ∧ Below W0.heap.size W0 wr) (fun _ i _ _ => S.size - (intOf i).toNat)
  case atStart => exact ⟨0, Nat.zero_le _, rfl, rfl, Below.refl _ _⟩
  case round =>
    obtain ⟨q, hq, rfl, rfl, hB⟩ := hrel
    by_cases hql : q < S.size
    case neg =>
      obtain rfl : q = S.size := by omega
      rw [List.take_of_length_le (by omega), EB.out]
      have FIN := hide (B0.out.trans (hB.mono B0.out.size))
      clear hB
      go_wp2_with fail
      go_ret
      exact ⟨rfl, FIN.out⟩
    case pos =>
      have hqb : q < (bodyF k).length := by omega
      have hfi := hlt _ (List.getElem_mem hqb)
      have IXS : Hid (∀ w', (Instr.index 9 (.string S) (.int .i64 (q : Int))).run Tryd.prog w' = .ok (.int .u8 ((letF (bodyF k)[q]).toNat : Int)) w') := fun w' => by
        have hx : S[q] = letF (bodyF k)[q] := by
          have : S[q] = S.data.toList[q]'(by rw [size_data]; exact hql) := rfl
          rw [this, ← letL_at k q hqb]; simp only [hsd]
        rw [← hx]; exact ix_str w' S q hql
      have HS := hide (flat_step m (bodyF k) q hqb)
      have HL := flat_len (m := m) (k := k) ((bodyF k).take q) (fun i hi => hf i (hlt i (List.mem_of_mem_take hi)).2)
      have htl : ((bodyF k).take q).length ≤ 6 := by rw [List.length_take]; omega
      have hff := hf _ hfi.2
      generalize (bodyF k)[q] = fi at *
      generalize ((bodyF k).take q).flatMap (fldL m) = L at *
      have zL : (strOf L).size ≤ 30000 := by rw [strOf_size]; omega
      obtain ⟨c0, c1, c2, c3, c4, c5, c6, c7, c8, c9, c10⟩ := KM.out _ hB
      have FB : Hid (∀ w', Below wr.heap.size wr w' → Below W0.heap.size W0 w') := fun w' h => hB.trans (h.mono hB.size)
      have hqi : (q : Int) < (S.size : Int) := by omega
      have fz := fit_at hff
      have ft := txt_le hff
      clear hff HL htl hB
      have hall : fi = 3 ∨ fi = 4 ∨ fi = 5 ∨ fi = 6 ∨ fi = 7 ∨ fi = 8 ∨ fi = 9 := by omega
      rcases hall with rfl | rfl | rfl | rfl | rfl | rfl | rfl
      · have hxs : ∀ w', (Instr.index 9 (.string S) (.int .i64 (q : Int))).run Tryd.prog w' = .ok (.int .u8 69) w' := fun w' => IXS.out w'
        obtain ⟨N, hN⟩ : ∃ N : Nat, m.n3 = (N : Int) := ⟨_, (Int.toNat_of_nonneg fz.1).symm⟩
        have hNb : N < 9223372036854775808 := by have h1 : m.n3 ≤ (mostK k 3 : Int) := fz.2.1; have h2 : mostK k 3 ≤ 9007199254740992 := mostK_num k 3; omega
        have C := hide (digits_any N 8 (by omega) hNb wr)
        have EF : Hid (fldL m 3 = dig 8 N) := by show dig 8 (m.n3).toNat = _; rw [hN, Int.toNat_natCast]
        rw [hN] at c4
        have zF : (strOf (dig 8 N)).size = 8 := by rw [strOf_size, dig_len]
        clear fz ft IXS hN
        go_wp2_with fail
        refine Calls.mono C.out ?_
        rintro e w2 ⟨rfl, b2⟩
        have B2 := hide (FB.out _ b2)
        clear b2 C FB
        go_wp2_with fail
        go_roundw
        case rel => exact ⟨q + 1, by omega, by go_num, by rw [HS.out, EF.out, ← strOf_app], B2.out⟩
        case measure => simp [intOf]; omega
      · have hxs : ∀ w', (Instr.index 9 (.string S) (.int .i64 (q : Int))).run Tryd.prog w' = .ok (.int .u8 83) w' := fun w' => IXS.out w'
        obtain ⟨N, hN⟩ : ∃ N : Nat, m.n4 = (N : Int) := ⟨_, (Int.toNat_of_nonneg fz.1).symm⟩
        have hNb : N < 9223372036854775808 := by have h1 : m.n4 ≤ (mostK k 4 : Int) := fz.2.1; have h2 : mostK k 4 ≤ 9007199254740992 := mostK_num k 4; omega
        have C := hide (digits_any N 8 (by omega) hNb wr)
        have EF : Hid (fldL m 4 = dig 8 N) := by show dig 8 (m.n4).toNat = _; rw [hN, Int.toNat_natCast]
        rw [hN] at c5
        have zF : (strOf (dig 8 N)).size = 8 := by rw [strOf_size, dig_len]
        clear fz ft IXS hN
        go_wp2_with fail
        refine Calls.mono C.out ?_
        rintro e w2 ⟨rfl, b2⟩
        have B2 := hide (FB.out _ b2)
        clear b2 C FB
        go_wp2_with fail
        go_roundw
        case rel => exact ⟨q + 1, by omega, by go_num, by rw [HS.out, EF.out, ← strOf_app], B2.out⟩
        case measure => simp [intOf]; omega
      · have hxs : ∀ w', (Instr.index 9 (.string S) (.int .i64 (q : Int))).run Tryd.prog w' = .ok (.int .u8 86) w' := fun w' => IXS.out w'
        obtain ⟨N, hN⟩ : ∃ N : Nat, m.n5 = (N : Int) := ⟨_, (Int.toNat_of_nonneg fz.1).symm⟩
        have hNb : N < 9223372036854775808 := by have h1 : m.n5 ≤ (mostK k 5 : Int) := fz.2.1; have h2 : mostK k 5 ≤ 9007199254740992 := mostK_num k 5; omega
        have C := hide (digits_any N 8 (by omega) hNb wr)
        have EF : Hid (fldL m 5 = dig 8 N) := by show dig 8 (m.n5).toNat = _; rw [hN, Int.toNat_natCast]
        rw [hN] at c6
        have zF : (strOf (dig 8 N)).size = 8 := by rw [strOf_size, dig_len]
        clear fz ft IXS hN
        go_wp2_with fail
        refine Calls.mono C.out ?_
        rintro e w2 ⟨rfl, b2⟩
        have B2 := hide (FB.out _ b2)
        clear b2 C FB
        go_wp2_with fail
        go_roundw
        case rel => exact ⟨q + 1, by omega, by go_num, by rw [HS.out, EF.out, ← strOf_app], B2.out⟩
        case measure => simp [intOf]; omega
      · have hxs : ∀ w', (Instr.index 9 (.string S) (.int .i64 (q : Int))).run Tryd.prog w' = .ok (.int .u8 80) w' := fun w' => IXS.out w'
        obtain ⟨N, hN⟩ : ∃ N : Nat, m.n6 = (N : Int) := ⟨_, (Int.toNat_of_nonneg fz.1).symm⟩
        have hNb : N < 9223372036854775808 := by have h1 : m.n6 ≤ (mostK k 6 : Int) := fz.2.1; have h2 : mostK k 6 ≤ 9007199254740992 := mostK_num k 6; omega
        have C := hide (digits_any N 8 (by omega) hNb wr)
        have EF : Hid (fldL m 6 = dig 8 N) := by show dig 8 (m.n6).toNat = _; rw [hN, Int.toNat_natCast]
        rw [hN] at c7
        have zF : (strOf (dig 8 N)).size = 8 := by rw [strOf_size, dig_len]
        clear fz ft IXS hN
        go_wp2_with fail
        refine Calls.mono C.out ?_
        rintro e w2 ⟨rfl, b2⟩
        have B2 := hide (FB.out _ b2)
        clear b2 C FB
        go_wp2_with fail
        go_roundw
        case rel => exact ⟨q + 1, by omega, by go_num, by rw [HS.out, EF.out, ← strOf_app], B2.out⟩
        case measure => simp [intOf]; omega
      · have hxs : ∀ w', (Instr.index 9 (.string S) (.int .i64 (q : Int))).run Tryd.prog w' = .ok (.int .u8 67) w' := fun w' => IXS.out w'
        obtain ⟨N, hN⟩ : ∃ N : Nat, m.n7 = (N : Int) := ⟨_, (Int.toNat_of_nonneg fz.1).symm⟩
        have hNb : N < 9223372036854775808 := by have h1 : m.n7 ≤ (mostK k 7 : Int) := fz.2.1; have h2 : mostK k 7 ≤ 9007199254740992 := mostK_num k 7; omega
        have C := hide (digits_any N 2 (by omega) hNb wr)
        have EF : Hid (fldL m 7 = dig 2 N) := by show dig 2 (m.n7).toNat = _; rw [hN, Int.toNat_natCast]
        rw [hN] at c8
        have zF : (strOf (dig 2 N)).size = 2 := by rw [strOf_size, dig_len]
        clear fz ft IXS hN
        go_wp2_with fail
        refine Calls.mono C.out ?_
        rintro e w2 ⟨rfl, b2⟩
        have B2 := hide (FB.out _ b2)
        clear b2 C FB
        go_wp2_with fail
        go_roundw
        case rel => exact ⟨q + 1, by omega, by go_num, by rw [HS.out, EF.out, ← strOf_app], B2.out⟩
        case measure => simp [intOf]; omega
      · have hxs : ∀ w', (Instr.index 9 (.string S) (.int .i64 (q : Int))).run Tryd.prog w' = .ok (.int .u8 75) w' := fun w' => IXS.out w'
        have ft' : m.key.size ≤ 4096 := ft
        have C := hide (digits_any m.key.size 2 (by omega) (by omega) wr.drew)
        have EF : Hid (fldL m 8 = dig 2 m.key.size ++ m.key.data.toList) := rfl
        have zF : (strOf (dig 2 m.key.size)).size = 2 := by rw [strOf_size, dig_len]
        have ES : Hid (strOf (dig 2 m.key.size) ++ m.key = strOf (dig 2 m.key.size ++ m.key.data.toList)) := by show _ = _; rw [← strOf_app, strOf_toList]
        have CELL : Hid (∀ w', Below wr.heap.size wr w' → w'.cell? ⟨w.heap.size, 9, none⟩ = some (.string m.key)) := fun w' hb => (hb.cell (by exact World.block_lt_of_cell? wr _ c9)).trans c9
        clear fz ft IXS
        go_wp2_with fail
        refine wp_region_held_drew (S := fun w' => w'.cell? ⟨w.heap.size, 9, none⟩ = some (.string m.key)) (by kernel_rfl) c9 (fun hHeld => ?_)
        refine wpAnyH_take (i := 0) (v := (.pointer (some ⟨w.heap.size, 9, none⟩))) rfl (by kernel_rfl) (by kernel_rfl) (by kernel_rfl) (fun _ _ _ h => h) (Or.inl ⟨by rfl, ?_⟩) (by assumption) ?_
        · intro w' hSw
          (try dsimp only at hSw)
          go_simp <;> first | exact i64_in (by omega) (by omega) | exact u32_in (by omega) (by omega) | exact u32_add _ _ | (rw [Int.tmod_eq_emod_of_nonneg (by omega)]; omega) | (rw [Int.tdiv_eq_ediv_of_nonneg (by omega)]; omega) | omega
        (try simp only [Act.put, List.setIfInBounds_toArray, List.set_cons_zero, List.set_cons_succ])
        refine wpAnyH_take (i := 1) (v := (.string m.key)) rfl (by kernel_rfl) (by kernel_rfl) (by kernel_rfl) (fun _ _ _ h => h) (Or.inl ⟨by rfl, ?_⟩) (by assumption) ?_
        · intro w' hSw
          (try dsimp only at hSw)
          go_simp
        (try simp only [Act.put, List.setIfInBounds_toArray, List.set_cons_zero, List.set_cons_succ])
        refine wpAnyH_take (i := 2) (v := (.int .i64 (m.key.size : Int))) rfl (by kernel_rfl) (by kernel_rfl) (by kernel_rfl) (fun _ _ _ h => h) (Or.inl ⟨by rfl, ?_⟩) (by assumption) ?_
        · intro w' hSw
          (try dsimp only at hSw)
          go_simp <;> first | exact i64_in (by omega) (by omega) | exact u32_in (by omega) (by omega) | exact u32_add _ _ | (rw [Int.tmod_eq_emod_of_nonneg (by omega)]; omega) | (rw [Int.tdiv_eq_ediv_of_nonneg (by omega)]; omega) | omega
        (try simp only [Act.put, List.setIfInBounds_toArray, List.set_cons_zero, List.set_cons_succ])
        refine wpAnyH_take (i := 4) (v := (.pointer (some ⟨w.heap.size, 9, none⟩))) rfl (by kernel_rfl) (by kernel_rfl) (by kernel_rfl) (fun _ _ _ h => h) (Or.inl ⟨by rfl, ?_⟩) (by assumption) ?_
        · intro w' hSw
          (try dsimp only at hSw)
          go_simp <;> first | exact i64_in (by omega) (by omega) | exact u32_in (by omega) (by omega) | exact u32_add _ _ | (rw [Int.tmod_eq_emod_of_nonneg (by omega)]; omega) | (rw [Int.tdiv_eq_ediv_of_nonneg (by omega)]; omega) | omega
        (try simp only [Act.put, List.setIfInBounds_toArray, List.set_cons_zero, List.set_cons_succ])
        refine wpAnyH_take (i := 5) (v := (.string m.key)) rfl (by kernel_rfl) (by kernel_rfl) (by kernel_rfl) (fun _ _ _ h => h) (Or.inl ⟨by rfl, ?_⟩) (by assumption) ?_
        · intro w' hSw
          (try dsimp only at hSw)
          go_simp
        (try simp only [Act.put, List.setIfInBounds_toArray, List.set_cons_zero, List.set_cons_succ])
        refine wpAnyH_ready (rs := [3]) (by kernel_rfl) (by simp) ?_
        refine AllReadyH.cons rfl (fun K hK => ?_) AllReadyH.nil
        go_simp
        refine Calls.mono C.out ?_
        rintro e w2 ⟨rfl, b2⟩
        have b2' : Below wr.heap.size wr w2 := ((Below.refl _ wr).drew).trans b2
        have B2 := hide (FB.out _ b2')
        have CC2 := hide (CELL.out _ b2')
        clear b2 b2' C FB CELL
        generalize strOf (dig 2 m.key.size) = DX at *
        refine hK.out _ _ (CC2.out) (fun hHeld => ?_)
        clear hK
        (try simp only [Act.put, List.setIfInBounds_toArray, List.set_cons_zero, List.set_cons_succ])
        refine wpAnyH_take (i := 6) (v := (.string (DX ++ m.key))) rfl (by kernel_rfl) (by kernel_rfl) (by kernel_rfl) (fun _ _ _ h => h) (Or.inl ⟨by rfl, ?_⟩) (by assumption) ?_
        · intro w' hSw
          (try dsimp only at hSw)
          (go_simp; first | omega | (rw [if_neg (by (try simp only [ByteArray.size_append]); omega)]; rfl))
        (try simp only [Act.put, List.setIfInBounds_toArray, List.set_cons_zero, List.set_cons_succ])
        refine wpAnyH_ready (rs := [7]) (by kernel_rfl) (by simp) ?_
        refine AllReadyH.cons rfl (fun K hK => ?_) AllReadyH.nil
        go_simp
        refine hK.out _ _ (CC2.out) (fun hHeld => ?_)
        clear hK
        (try simp only [Act.put, List.setIfInBounds_toArray, List.set_cons_zero, List.set_cons_succ])
        refine wpAnyH_done (by kernel_rfl) ?_ _
        clear hHeld
        have zD : (DX ++ m.key).size ≤ 5000 := by rw [ByteArray.size_append]; omega
        have HD := hide (rfl : DX ++ m.key = DX ++ m.key)
        generalize hDD : DX ++ m.key = DD at *
        go_wp2_with fail
        go_roundw
        case rel => exact ⟨q + 1, by omega, by go_num, by rw [HS.out, EF.out, ← strOf_app, ← ES.out], B2.out⟩
        case measure => simp [intOf]; omega
      · have hxs : ∀ w', (Instr.index 9 (.string S) (.int .i64 (q : Int))).run Tryd.prog w' = .ok (.int .u8 87) w' := fun w' => IXS.out w'
        have ft' : m.val.size ≤ 4096 := ft
        have C := hide (digits_any m.val.size 4 (by omega) (by omega) wr.drew)
        have EF : Hid (fldL m 9 = dig 4 m.val.size ++ m.val.data.toList) := rfl
        have zF : (strOf (dig 4 m.val.size)).size = 4 := by rw [strOf_size, dig_len]
        have ES : Hid (strOf (dig 4 m.val.size) ++ m.val = strOf (dig 4 m.val.size ++ m.val.data.toList)) := by show _ = _; rw [← strOf_app, strOf_toList]
        have CELL : Hid (∀ w', Below wr.heap.size wr w' → w'.cell? ⟨w.heap.size, 10, none⟩ = some (.string m.val)) := fun w' hb => (hb.cell (by exact World.block_lt_of_cell? wr _ c10)).trans c10
        clear fz ft IXS
        go_wp2_with fail
        refine wp_region_held_drew (S := fun w' => w'.cell? ⟨w.heap.size, 10, none⟩ = some (.string m.val)) (by kernel_rfl) c10 (fun hHeld => ?_)
        refine wpAnyH_take (i := 0) (v := (.pointer (some ⟨w.heap.size, 10, none⟩))) rfl (by kernel_rfl) (by kernel_rfl) (by kernel_rfl) (fun _ _ _ h => h) (Or.inl ⟨by rfl, ?_⟩) (by assumption) ?_
        · intro w' hSw
          (try dsimp only at hSw)
          go_simp <;> first | exact i64_in (by omega) (by omega) | exact u32_in (by omega) (by omega) | exact u32_add _ _ | (rw [Int.tmod_eq_emod_of_nonneg (by omega)]; omega) | (rw [Int.tdiv_eq_ediv_of_nonneg (by omega)]; omega) | omega
        (try simp only [Act.put, List.setIfInBounds_toArray, List.set_cons_zero, List.set_cons_succ])
        refine wpAnyH_take (i := 1) (v := (.string m.val)) rfl (by kernel_rfl) (by kernel_rfl) (by kernel_rfl) (fun _ _ _ h => h) (Or.inl ⟨by rfl, ?_⟩) (by assumption) ?_
        · intro w' hSw
          (try dsimp only at hSw)
          go_simp
        (try simp only [Act.put, List.setIfInBounds_toArray, List.set_cons_zero, List.set_cons_succ])
        refine wpAnyH_take (i := 2) (v := (.int .i64 (m.val.size : Int))) rfl (by kernel_rfl) (by kernel_rfl) (by kernel_rfl) (fun _ _ _ h => h) (Or.inl ⟨by rfl, ?_⟩) (by assumption) ?_
        · intro w' hSw
          (try dsimp only at hSw)
          go_simp <;> first | exact i64_in (by omega) (by omega) | exact u32_in (by omega) (by omega) | exact u32_add _ _ | (rw [Int.tmod_eq_emod_of_nonneg (by omega)]; omega) | (rw [Int.tdiv_eq_ediv_of_nonneg (by omega)]; omega) | omega
        (try simp only [Act.put, List.setIfInBounds_toArray, List.set_cons_zero, List.set_cons_succ])
        refine wpAnyH_take (i := 4) (v := (.pointer (some ⟨w.heap.size, 10, none⟩))) rfl (by kernel_rfl) (by kernel_rfl) (by kernel_rfl) (fun _ _ _ h => h) (Or.inl ⟨by rfl, ?_⟩) (by assumption) ?_
        · intro w' hSw
          (try dsimp only at hSw)
          go_simp <;> first | exact i64_in (by omega) (by omega) | exact u32_in (by omega) (by omega) | exact u32_add _ _ | (rw [Int.tmod_eq_emod_of_nonneg (by omega)]; omega) | (rw [Int.tdiv_eq_ediv_of_nonneg (by omega)]; omega) | omega
        (try simp only [Act.put, List.setIfInBounds_toArray, List.set_cons_zero, List.set_cons_succ])
        refine wpAnyH_take (i := 5) (v := (.string m.val)) rfl (by kernel_rfl) (by kernel_rfl) (by kernel_rfl) (fun _ _ _ h => h) (Or.inl ⟨by rfl, ?_⟩) (by assumption) ?_
        · intro w' hSw
          (try dsimp only at hSw)
          go_simp
        (try simp only [Act.put, List.setIfInBounds_toArray, List.set_cons_zero, List.set_cons_succ])
        refine wpAnyH_ready (rs := [3]) (by kernel_rfl) (by simp) ?_
        refine AllReadyH.cons rfl (fun K hK => ?_) AllReadyH.nil
        go_simp
        refine Calls.mono C.out ?_
        rintro e w2 ⟨rfl, b2⟩
        have b2' : Below wr.heap.size wr w2 := ((Below.refl _ wr).drew).trans b2
        have B2 := hide (FB.out _ b2')
        have CC2 := hide (CELL.out _ b2')
        clear b2 b2' C FB CELL
        generalize strOf (dig 4 m.val.size) = DX at *
        refine hK.out _ _ (CC2.out) (fun hHeld => ?_)
        clear hK
        (try simp only [Act.put, List.setIfInBounds_toArray, List.set_cons_zero, List.set_cons_succ])
        refine wpAnyH_take (i := 6) (v := (.string (DX ++ m.val))) rfl (by kernel_rfl) (by kernel_rfl) (by kernel_rfl) (fun _ _ _ h => h) (Or.inl ⟨by rfl, ?_⟩) (by assumption) ?_
        · intro w' hSw
          (try dsimp only at hSw)
          (go_simp; first | omega | (rw [if_neg (by (try simp only [ByteArray.size_append]); omega)]; rfl))
        (try simp only [Act.put, List.setIfInBounds_toArray, List.set_cons_zero, List.set_cons_succ])
        refine wpAnyH_ready (rs := [7]) (by kernel_rfl) (by simp) ?_
        refine AllReadyH.cons rfl (fun K hK => ?_) AllReadyH.nil
        go_simp
        refine hK.out _ _ (CC2.out) (fun hHeld => ?_)
        clear hK
        (try simp only [Act.put, List.setIfInBounds_toArray, List.set_cons_zero, List.set_cons_succ])
        refine wpAnyH_done (by kernel_rfl) ?_ _
        clear hHeld
        have zD : (DX ++ m.val).size ≤ 5000 := by rw [ByteArray.size_append]; omega
        have HD := hide (rfl : DX ++ m.val = DX ++ m.val)
        generalize hDD : DX ++ m.val = DD at *
        go_wp2_with fail
        go_roundw
        case rel => exact ⟨q + 1, by omega, by go_num, by rw [HS.out, EF.out, ← strOf_app, ← ES.out], B2.out⟩
        case measure => simp [intOf]; omega
end Go.Proofs.YthlpklkdpggmkaaDoor
