import Derived.Test.YtgdjfocnaapooaaDoorGFsFirst
namespace Go.Proofs.YtgdjfocnaapooaaDoor
open Go.RowKit
theorem fitAt_head (m : MM) (k i : Nat) (h : i < 3) : fitAt m k i = (decide (0 ≤ m.num i) && decide (m.num i ≤ (mostF i : Int))) := by
  have e : mostK k i = mostF i := by unfold mostK; rw [if_pos (Or.inl h)]
  have t : m.txt i = ⟨#[]⟩ := by
    have : i = 0 ∨ i = 1 ∨ i = 2 := by omega
    rcases this with rfl | rfl | rfl <;> rfl
  unfold fitAt
  rw [e, t, decide_eq_true (show (⟨#[]⟩ : ByteArray).size ≤ mostF i from Nat.zero_le _), Bool.and_true]
theorem fitAt_num (m : MM) (k i : Nat) (h16 : k ≤ 16) (h3 : 3 ≤ i) (h7 : i ≤ 7) : fitAt m k i = fitsN (decide (letF i ∈ letL k)) (m.num i) (mostF i : Int) := by
  have t : m.txt i = ⟨#[]⟩ := by
    have : i = 3 ∨ i = 4 ∨ i = 5 ∨ i = 6 ∨ i = 7 := by omega
    rcases this with rfl | rfl | rfl | rfl | rfl <;> rfl
  have hm := letF_mem k h16 i (by omega) h3
  unfold fitAt fitsN
  rw [t, decide_eq_true (show (⟨#[]⟩ : ByteArray).size ≤ mostK k i from Nat.zero_le _), Bool.and_true]
  unfold mostK
  by_cases hb : i ∈ bodyF k
  · rw [if_pos (Or.inr hb), decide_eq_true (hm.2 hb), if_pos rfl]
  · rw [if_neg (fun x => x.elim (fun y => by omega) hb), decide_eq_false (fun h => hb (hm.1 h)), if_neg (by simp), Bool.eq_iff_iff]
    simp only [Bool.and_eq_true, decide_eq_true_eq]
    omega
theorem fitAt_txt (m : MM) (k i : Nat) (h16 : k ≤ 16) (h8 : i = 8 ∨ i = 9) : fitAt m k i = fitsT (decide (letF i ∈ letL k)) (m.txt i).size (mostF i) := by
  have t : m.num i = 0 := by rcases h8 with rfl | rfl <;> rfl
  have hm := letF_mem k h16 i (by omega) (by omega)
  unfold fitAt fitsT
  rw [t, decide_eq_true (show (0 : Int) ≤ 0 by omega), decide_eq_true (show (0 : Int) ≤ (mostK k i : Int) by omega), Bool.true_and, Bool.true_and]
  unfold mostK
  by_cases hb : i ∈ bodyF k
  · rw [if_pos (Or.inr hb), decide_eq_true (hm.2 hb), if_pos rfl]
  · rw [if_neg (fun x => x.elim (fun y => by omega) hb), decide_eq_false (fun h => hb (hm.1 h)), if_neg (by simp)]
    exact decide_eq_decide.2 (by omega)
def headB (m : MM) : Bool := (decide (0 ≤ m.n0) && decide (m.n0 ≤ 65535)) && ((decide (0 ≤ m.n1) && decide (m.n1 ≤ 65535)) && (decide (0 ≤ m.n2) && decide (m.n2 ≤ 9007199254740992)))
theorem fitM_eq (m : MM) (k : Nat) (h16 : k ≤ 16) (hk : m.kind = (k : Int)) : fitM m = (headB m && (fitsN (decide ((86 : UInt8) ∈ letL k)) m.n5 9007199254740992 && fitsN (decide ((80 : UInt8) ∈ letL k)) m.n6 9007199254740992 && fitsN (decide ((69 : UInt8) ∈ letL k)) m.n3 9007199254740992 && fitsN (decide ((83 : UInt8) ∈ letL k)) m.n4 9007199254740992 && fitsN (decide ((67 : UInt8) ∈ letL k)) m.n7 65535 && fitsT (decide ((75 : UInt8) ∈ letL k)) m.key.size 255 && fitsT (decide ((87 : UInt8) ∈ letL k)) m.val.size 4096)) := by
  have e : fitM m = (fitAt m k 0 && (fitAt m k 1 && (fitAt m k 2 && (fitAt m k 3 && (fitAt m k 4 && (fitAt m k 5 && (fitAt m k 6 && (fitAt m k 7 && (fitAt m k 8 && fitAt m k 9))))))))) := by
    unfold fitM; rw [hk]
    simp [List.range, List.range.loop]
  have a0 : fitAt m k 0 = (decide (0 ≤ m.n0) && decide (m.n0 ≤ 65535)) := fitAt_head m k 0 (by omega)
  have a1 : fitAt m k 1 = (decide (0 ≤ m.n1) && decide (m.n1 ≤ 65535)) := fitAt_head m k 1 (by omega)
  have a2 : fitAt m k 2 = (decide (0 ≤ m.n2) && decide (m.n2 ≤ 9007199254740992)) := fitAt_head m k 2 (by omega)
  have a3 : fitAt m k 3 = fitsN (decide ((69 : UInt8) ∈ letL k)) m.n3 9007199254740992 := fitAt_num m k 3 h16 (by omega) (by omega)
  have a4 : fitAt m k 4 = fitsN (decide ((83 : UInt8) ∈ letL k)) m.n4 9007199254740992 := fitAt_num m k 4 h16 (by omega) (by omega)
  have a5 : fitAt m k 5 = fitsN (decide ((86 : UInt8) ∈ letL k)) m.n5 9007199254740992 := fitAt_num m k 5 h16 (by omega) (by omega)
  have a6 : fitAt m k 6 = fitsN (decide ((80 : UInt8) ∈ letL k)) m.n6 9007199254740992 := fitAt_num m k 6 h16 (by omega) (by omega)
  have a7 : fitAt m k 7 = fitsN (decide ((67 : UInt8) ∈ letL k)) m.n7 65535 := fitAt_num m k 7 h16 (by omega) (by omega)
  have a8 : fitAt m k 8 = fitsT (decide ((75 : UInt8) ∈ letL k)) m.key.size 255 := fitAt_txt m k 8 h16 (Or.inl rfl)
  have a9 : fitAt m k 9 = fitsT (decide ((87 : UInt8) ∈ letL k)) m.val.size 4096 := fitAt_txt m k 9 h16 (Or.inr rfl)
  rw [e, a0, a1, a2, a3, a4, a5, a6, a7, a8, a9]
  unfold headB
  generalize (decide (0 ≤ m.n0) && decide (m.n0 ≤ 65535)) = x0
  generalize (decide (0 ≤ m.n1) && decide (m.n1 ≤ 65535)) = x1
  generalize (decide (0 ≤ m.n2) && decide (m.n2 ≤ 9007199254740992)) = x2
  ac_rfl
set_option maxHeartbeats 4000000 in
set_option maxRecDepth 100000 in
theorem valid_no (m : MM) (w : World) (h : headB m = false) :
    Calls Tryd.prog 55 #[.agg (msgV m)] w fun e w' => e = .returned (.bool false) ∧ Below w.heap.size w w' := by
  obtain ⟨W0, hW0⟩ : ∃ W0, W0 = w.alloc (.cells (msgV m) 27) := ⟨_, rfl⟩
  have b0 : Below w.heap.size w W0 := by rw [hW0]; exact (Below.refl _ w).alloc (Nat.le_refl _) _
  have c0 : W0.cell? ⟨w.heap.size, 0, none⟩ = some (.int .i64 m.kind) := by rw [hW0]; simp [msgV]
  have c1 : W0.cell? ⟨w.heap.size, 1, none⟩ = some (.int .i64 m.n0) := by rw [hW0]; simp [msgV]
  have c2 : W0.cell? ⟨w.heap.size, 2, none⟩ = some (.int .i64 m.n1) := by rw [hW0]; simp [msgV]
  have c3 : W0.cell? ⟨w.heap.size, 3, none⟩ = some (.int .i64 m.n2) := by rw [hW0]; simp [msgV]
  have c4 : W0.cell? ⟨w.heap.size, 4, none⟩ = some (.int .i64 m.n3) := by rw [hW0]; simp [msgV]
  have c5 : W0.cell? ⟨w.heap.size, 5, none⟩ = some (.int .i64 m.n4) := by rw [hW0]; simp [msgV]
  have c6 : W0.cell? ⟨w.heap.size, 6, none⟩ = some (.int .i64 m.n5) := by rw [hW0]; simp [msgV]
  have c7 : W0.cell? ⟨w.heap.size, 7, none⟩ = some (.int .i64 m.n6) := by rw [hW0]; simp [msgV]
  have c8 : W0.cell? ⟨w.heap.size, 8, none⟩ = some (.int .i64 m.n7) := by rw [hW0]; simp [msgV]
  have c9 : W0.cell? ⟨w.heap.size, 9, none⟩ = some (.string m.key) := by rw [hW0]; simp [msgV]
  have c10 : W0.cell? ⟨w.heap.size, 10, none⟩ = some (.string m.val) := by rw [hW0]; simp [msgV]
  by_cases h1 : m.n0 < 0
  case pos =>
    go_enter Tryd.func55, Tryd.ntmps55
    go_upto_region 1 with fail
    rw [← hW0]
    clear hW0
    go_wp2_with fail
    go_ret
    exact ⟨rfl, b0⟩
  case neg =>
  by_cases h2 : 65535 < m.n0
  case pos =>
    go_enter Tryd.func55, Tryd.ntmps55
    go_upto_region 1 with fail
    rw [← hW0]
    clear hW0
    go_wp2_with fail
    go_ret
    exact ⟨rfl, b0⟩
  case neg =>
  by_cases h3 : m.n1 < 0
  case pos =>
    go_enter Tryd.func55, Tryd.ntmps55
    go_upto_region 1 with fail
    rw [← hW0]
    clear hW0
    go_wp2_with fail
    go_ret
    exact ⟨rfl, b0⟩
  case neg =>
  by_cases h4 : 65535 < m.n1
  case pos =>
    go_enter Tryd.func55, Tryd.ntmps55
    go_upto_region 1 with fail
    rw [← hW0]
    clear hW0
    go_wp2_with fail
    go_ret
    exact ⟨rfl, b0⟩
  case neg =>
  by_cases h5 : m.n2 < 0
  case pos =>
    go_enter Tryd.func55, Tryd.ntmps55
    go_upto_region 1 with fail
    rw [← hW0]
    clear hW0
    go_wp2_with fail
    go_ret
    exact ⟨rfl, b0⟩
  case neg =>
  by_cases h6 : 9007199254740992 < m.n2
  case pos =>
    go_enter Tryd.func55, Tryd.ntmps55
    go_upto_region 1 with fail
    rw [← hW0]
    clear hW0
    go_wp2_with fail
    go_ret
    exact ⟨rfl, b0⟩
  case neg =>
  exact absurd h (by unfold headB; rw [decide_eq_true (by omega), decide_eq_true (by omega), decide_eq_true (by omega), decide_eq_true (by omega), decide_eq_true (by omega), decide_eq_true (by omega)]; simp)
set_option maxHeartbeats 4000000 in
set_option maxRecDepth 100000 in
theorem valid_ok (m : MM) (k : Nat) (h16 : k ≤ 16) (hk : m.kind = (k : Int)) (w : World) (hT : TabR w) (h : headB m = true) :
    Calls Tryd.prog 55 #[.agg (msgV m)] w fun e w' => e = .returned (.bool (fitM m)) ∧ Below w.heap.size w w' := by
  rw [fitM_eq m k h16 hk, h, Bool.true_and]
  obtain ⟨W0, hW0⟩ : ∃ W0, W0 = w.alloc (.cells (msgV m) 27) := ⟨_, rfl⟩
  have b0 : Below w.heap.size w W0 := by rw [hW0]; exact (Below.refl _ w).alloc (Nat.le_refl _) _
  have c0 : W0.cell? ⟨w.heap.size, 0, none⟩ = some (.int .i64 (k : Int)) := by rw [hW0, ← hk]; simp [msgV]
  have c1 : W0.cell? ⟨w.heap.size, 1, none⟩ = some (.int .i64 m.n0) := by rw [hW0]; simp [msgV]
  have c2 : W0.cell? ⟨w.heap.size, 2, none⟩ = some (.int .i64 m.n1) := by rw [hW0]; simp [msgV]
  have c3 : W0.cell? ⟨w.heap.size, 3, none⟩ = some (.int .i64 m.n2) := by rw [hW0]; simp [msgV]
  have c4 : W0.cell? ⟨w.heap.size, 4, none⟩ = some (.int .i64 m.n3) := by rw [hW0]; simp [msgV]
  have c5 : W0.cell? ⟨w.heap.size, 5, none⟩ = some (.int .i64 m.n4) := by rw [hW0]; simp [msgV]
  have c6 : W0.cell? ⟨w.heap.size, 6, none⟩ = some (.int .i64 m.n5) := by rw [hW0]; simp [msgV]
  have c7 : W0.cell? ⟨w.heap.size, 7, none⟩ = some (.int .i64 m.n6) := by rw [hW0]; simp [msgV]
  have c8 : W0.cell? ⟨w.heap.size, 8, none⟩ = some (.int .i64 m.n7) := by rw [hW0]; simp [msgV]
  have c9 : W0.cell? ⟨w.heap.size, 9, none⟩ = some (.string m.key) := by rw [hW0]; simp [msgV]
  have c10 : W0.cell? ⟨w.heap.size, 10, none⟩ = some (.string m.val) := by rw [hW0]; simp [msgV]
  have hT0 := hT.below b0
  have CV : Hid (Calls Tryd.prog 70 #[.int .i64 (k : Int), .int .u8 86, .int .i64 m.n5, .int .i64 9007199254740992] W0 fun e w' => e = .returned (.bool (fitsN (decide ((86 : UInt8) ∈ letL k)) m.n5 9007199254740992)) ∧ W0 = w') := fits_any k h16 86 m.n5 9007199254740992 W0 hT0
  have CP : Hid (Calls Tryd.prog 70 #[.int .i64 (k : Int), .int .u8 80, .int .i64 m.n6, .int .i64 9007199254740992] W0 fun e w' => e = .returned (.bool (fitsN (decide ((80 : UInt8) ∈ letL k)) m.n6 9007199254740992)) ∧ W0 = w') := fits_any k h16 80 m.n6 9007199254740992 W0 hT0
  have CE : Hid (Calls Tryd.prog 70 #[.int .i64 (k : Int), .int .u8 69, .int .i64 m.n3, .int .i64 9007199254740992] W0 fun e w' => e = .returned (.bool (fitsN (decide ((69 : UInt8) ∈ letL k)) m.n3 9007199254740992)) ∧ W0 = w') := fits_any k h16 69 m.n3 9007199254740992 W0 hT0
  have CS : Hid (Calls Tryd.prog 70 #[.int .i64 (k : Int), .int .u8 83, .int .i64 m.n4, .int .i64 9007199254740992] W0 fun e w' => e = .returned (.bool (fitsN (decide ((83 : UInt8) ∈ letL k)) m.n4 9007199254740992)) ∧ W0 = w') := fits_any k h16 83 m.n4 9007199254740992 W0 hT0
  have CC : Hid (Calls Tryd.prog 70 #[.int .i64 (k : Int), .int .u8 67, .int .i64 m.n7, .int .i64 65535] W0 fun e w' => e = .returned (.bool (fitsN (decide ((67 : UInt8) ∈ letL k)) m.n7 65535)) ∧ W0 = w') := fits_any k h16 67 m.n7 65535 W0 hT0
  have CK : Hid (Calls Tryd.prog 71 #[.int .i64 (k : Int), .int .u8 75, .string m.key, .int .i64 255] W0 fun e w' => e = .returned (.bool (fitsT (decide ((75 : UInt8) ∈ letL k)) m.key.size 255)) ∧ W0 = w') := textFits_any k h16 75 m.key 255 W0 hT0
  have CW : Hid (Calls Tryd.prog 71 #[.int .i64 (k : Int), .int .u8 87, .string m.val, .int .i64 4096] W0 fun e w' => e = .returned (.bool (fitsT (decide ((87 : UInt8) ∈ letL k)) m.val.size 4096)) ∧ W0 = w') := textFits_any k h16 87 m.val 4096 W0 hT0
  generalize fitsN (decide ((86 : UInt8) ∈ letL k)) m.n5 9007199254740992 = b1 at *
  generalize fitsN (decide ((80 : UInt8) ∈ letL k)) m.n6 9007199254740992 = b2 at *
  generalize fitsN (decide ((69 : UInt8) ∈ letL k)) m.n3 9007199254740992 = b3 at *
  generalize fitsN (decide ((83 : UInt8) ∈ letL k)) m.n4 9007199254740992 = b4 at *
  generalize fitsN (decide ((67 : UInt8) ∈ letL k)) m.n7 65535 = b5 at *
  generalize fitsT (decide ((75 : UInt8) ∈ letL k)) m.key.size 255 = b6 at *
  generalize fitsT (decide ((87 : UInt8) ∈ letL k)) m.val.size 4096 = b7 at *
  unfold headB at h
  simp only [Bool.and_eq_true, decide_eq_true_eq] at h
  obtain ⟨⟨g1, g2⟩, ⟨g3, g4⟩, g5, g6⟩ := h
  have d1 : ¬ m.n0 < 0 := by omega
  have d2 : ¬ 65535 < m.n0 := by omega
  have d3 : ¬ m.n1 < 0 := by omega
  have d4 : ¬ 65535 < m.n1 := by omega
  have d5 : ¬ m.n2 < 0 := by omega
  have d6 : ¬ 9007199254740992 < m.n2 := by omega
  clear g1 g2 g3 g4 g5 g6 hT hT0
  go_enter Tryd.func55, Tryd.ntmps55
  go_upto_region 1 with fail
  rw [← hW0]
  clear hW0
  go_wp2_with fail
  refine Calls.mono CV.out ?_
  rintro e w1 ⟨rfl, rfl⟩
  go_wp2_with fail
  refine Calls.mono CP.out ?_
  rintro e w1 ⟨rfl, rfl⟩
  go_wp2_with fail
  refine Calls.mono CE.out ?_
  rintro e w1 ⟨rfl, rfl⟩
  go_wp2_with fail
  refine Calls.mono CS.out ?_
  rintro e w1 ⟨rfl, rfl⟩
  go_wp2_with fail
  refine Calls.mono CC.out ?_
  rintro e w1 ⟨rfl, rfl⟩
  go_wp2_with fail
  refine Calls.mono CK.out ?_
  rintro e w1 ⟨rfl, rfl⟩
  go_wp2_with fail
  refine Calls.mono CW.out ?_
  rintro e w1 ⟨rfl, rfl⟩
  go_upto_region 10 with fail
  cases b1 with
  | false =>
    go_wp2_with fail
    go_ret
    exact ⟨by first | rfl | simp, b0⟩
  | true =>
    cases b2 with
    | false =>
      go_wp2_with fail
      go_ret
      exact ⟨by first | rfl | simp, b0⟩
    | true =>
      cases b3 with
      | false =>
        go_wp2_with fail
        go_ret
        exact ⟨by first | rfl | simp, b0⟩
      | true =>
        cases b4 with
        | false =>
          go_wp2_with fail
          go_ret
          exact ⟨by first | rfl | simp, b0⟩
        | true =>
          cases b5 with
          | false =>
            go_wp2_with fail
            go_ret
            exact ⟨by first | rfl | simp, b0⟩
          | true =>
            cases b6 with
            | false =>
              go_wp2_with fail
              go_ret
              exact ⟨by first | rfl | simp, b0⟩
            | true =>
              cases b7 with
              | false =>
                go_wp2_with fail
                go_ret
                exact ⟨by first | rfl | simp, b0⟩
              | true =>
                go_wp2_with fail
                go_ret
                exact ⟨by first | rfl | simp, b0⟩
end Go.Proofs.YtgdjfocnaapooaaDoor
namespace Go.Proofs.YtgdjfocnaapooaaDoor
open Go.RowKit
theorem strOf_app (a b : List UInt8) : strOf a ++ strOf b = strOf (a ++ b) := by
  have : ∀ x y : ByteArray, x.data.toList = y.data.toList → x = y := fun x y h => by rw [← strOf_toList x, h, strOf_toList]
  apply this
  rw [ByteArray.data_append, Array.toList_append]
  rfl
theorem mostK_num (k i : Nat) : mostK k i ≤ 9007199254740992 := by
  unfold mostK
  split
  · unfold mostF; split <;> omega
  · omega
theorem letL_at (k q : Nat) (h : q < (bodyF k).length) : (letL k)[q]'(by unfold letL; rw [List.length_map]; exact h) = letF (bodyF k)[q] := by simp [letL]
set_option maxHeartbeats 8000000 in
set_option maxRecDepth 100000 in
set_option linter.unusedSimpArgs false in
theorem rbody_any (m : MM) (k : Nat) (h16 : k ≤ 16) (hk : m.kind = (k : Int)) (hf : ∀ i, i < 10 → fitAt m k i = true) (w : World) (hT : TabR w) :
    Calls Tryd.prog 56 #[.agg (msgV m)] w fun e w' => e = .returned (.string (strOf (bodyL m))) ∧ Below w.heap.size w w' := by
  obtain ⟨W0, hW0⟩ : ∃ W0, W0 = w.alloc (.cells (msgV m) 27) := ⟨_, rfl⟩
  have b0 : Below w.heap.size w W0 := by rw [hW0]; exact (Below.refl _ w).alloc (Nat.le_refl _) _
  have s0 : w.heap.size < W0.heap.size := by rw [hW0]; simp
  have KM : Hid (∀ w', Below W0.heap.size W0 w' → w'.cell? ⟨w.heap.size, 0, none⟩ = some (.int .i64 (k : Int)) ∧ w'.cell? ⟨w.heap.size, 1, none⟩ = some (.int .i64 m.n0) ∧ w'.cell? ⟨w.heap.size, 2, none⟩ = some (.int .i64 m.n1) ∧ w'.cell? ⟨w.heap.size, 3, none⟩ = some (.int .i64 m.n2) ∧ w'.cell? ⟨w.heap.size, 4, none⟩ = some (.int .i64 m.n3) ∧ w'.cell? ⟨w.heap.size, 5, none⟩ = some (.int .i64 m.n4) ∧ w'.cell? ⟨w.heap.size, 6, none⟩ = some (.int .i64 m.n5) ∧ w'.cell? ⟨w.heap.size, 7, none⟩ = some (.int .i64 m.n6) ∧ w'.cell? ⟨w.heap.size, 8, none⟩ = some (.int .i64 m.n7) ∧ w'.cell? ⟨w.heap.size, 9, none⟩ = some (.string m.key) ∧ w'.cell? ⟨w.heap.size, 10, none⟩ = some (.string m.val)) := fun w' hb => by
    rw [hb.cell (by exact s0), hb.cell (by exact s0), hb.cell (by exact s0), hb.cell (by exact s0), hb.cell (by exact s0), hb.cell (by exact s0), hb.cell (by exact s0), hb.cell (by exact s0), hb.cell (by exact s0), hb.cell (by exact s0), hb.cell (by exact s0), hW0, ← hk]
    exact ⟨by simp [msgV], by simp [msgV], by simp [msgV], by simp [msgV], by simp [msgV], by simp [msgV], by simp [msgV], by simp [msgV], by simp [msgV], by simp [msgV], by simp [msgV]⟩
  have z := (hT.below b0) k h16
  have hkk : (k : Int) < 17 := by omega
  have hlen := bodyF_len k h16
  have hlt := bodyF_lt k h16
  obtain ⟨S, hS⟩ : ∃ S, S = strOf (letL k) := ⟨_, rfl⟩
  rw [← hS] at z
  have hsd : S.data.toList = letL k := by rw [hS, strOf_data]
  have hsz : S.size = (bodyF k).length := by rw [hS, strOf_size]; unfold letL; rw [List.length_map]
  have eb : (bodyF k).flatMap (fldL m) = bodyL m := by unfold bodyL; rw [hk]; rfl
  have EB := hide eb
  have c0 := (KM.out _ (Below.refl _ _)).1
  have B0 := hide b0
  clear hS b0 eb hT
  go_enter Tryd.func56, Tryd.ntmps56
  go_upto_region 1 with fail
  rw [← hW0]
  clear hW0
  go_wp2_with fail
  clear z c0
  go_loopw [4, 5, 6] (fun b i _ wr => ∃ q : Nat, q ≤ S.size ∧ i = .int .i64 (q : Int) ∧ b = .string (strOf (((bodyF k).take q).flatMap (fldL m))) ∧ Below W0.heap.size W0 wr) (fun _ i _ _ => S.size - (intOf i).toNat)
  case atStart => exact ⟨0, Nat.zero_le _, rfl, rfl, Below.refl _ _⟩
  case round =>
    obtain ⟨q, hq, rfl, rfl, hB⟩ := hrel
    by_cases hql : q < S.size
    case neg =>
      obtain rfl : q = S.size := by omega
      rw [List.take_of_length_le (by omega), EB.out]
      have FIN := hide (B0.out.trans (hB.mono B0.out.size))
      clear hB
      go_wp2_with fail
      go_ret
      exact ⟨rfl, FIN.out⟩
    case pos =>
      have hqb : q < (bodyF k).length := by omega
      have hfi := hlt _ (List.getElem_mem hqb)
      have IXS : Hid (∀ w', (Instr.index 9 (.string S) (.int .i64 (q : Int))).run Tryd.prog w' = .ok (.int .u8 ((letF (bodyF k)[q]).toNat : Int)) w') := fun w' => by
        have hx : S[q] = letF (bodyF k)[q] := by
          have : S[q] = S.data.toList[q]'(by rw [size_data]; exact hql) := rfl
          rw [this, ← letL_at k q hqb]; simp only [hsd]
        rw [← hx]; exact ix_str w' S q hql
      have HS := hide (flat_step m (bodyF k) q hqb)
      have HL := flat_len (m := m) (k := k) ((bodyF k).take q) (fun i hi => hf i (hlt i (List.mem_of_mem_take hi)).2)
      have htl : ((bodyF k).take q).length ≤ 6 := by rw [List.length_take]; omega
      have hff := hf _ hfi.2
      generalize (bodyF k)[q] = fi at *
      generalize ((bodyF k).take q).flatMap (fldL m) = L at *
      have zL : (strOf L).size ≤ 30000 := by rw [strOf_size]; omega
      obtain ⟨c0, c1, c2, c3, c4, c5, c6, c7, c8, c9, c10⟩ := KM.out _ hB
      have FB : Hid (∀ w', Below wr.heap.size wr w' → Below W0.heap.size W0 w') := fun w' h => hB.trans (h.mono hB.size)
      have hqi : (q : Int) < (S.size : Int) := by omega
      have fz := fit_at hff
      have ft := txt_le hff
      clear hff HL htl hB
      have hall : fi = 3 ∨ fi = 4 ∨ fi = 5 ∨ fi = 6 ∨ fi = 7 ∨ fi = 8 ∨ fi = 9 := by omega
      rcases hall with rfl | rfl | rfl | rfl | rfl | rfl | rfl
      · have hxs : ∀ w', (Instr.index 9 (.string S) (.int .i64 (q : Int))).run Tryd.prog w' = .ok (.int .u8 69) w' := fun w' => IXS.out w'
        obtain ⟨N, hN⟩ : ∃ N : Nat, m.n3 = (N : Int) := ⟨_, (Int.toNat_of_nonneg fz.1).symm⟩
        have hNb : N < 9223372036854775808 := by have h1 : m.n3 ≤ (mostK k 3 : Int) := fz.2.1; have h2 : mostK k 3 ≤ 9007199254740992 := mostK_num k 3; omega
        have C := hide (digits_any N 8 (by omega) hNb wr)
        have EF : Hid (fldL m 3 = dig 8 N) := by show dig 8 (m.n3).toNat = _; rw [hN, Int.toNat_natCast]
        rw [hN] at c4
        have zF : (strOf (dig 8 N)).size = 8 := by rw [strOf_size, dig_len]
        clear fz ft IXS hN
        go_wp2_with fail
        refine Calls.mono C.out ?_
        rintro e w2 ⟨rfl, b2⟩
        have B2 := hide (FB.out _ b2)
        clear b2 C FB
        go_wp2_with fail
        go_roundw
        case rel => exact ⟨q + 1, by omega, by go_num, by rw [HS.out, EF.out, ← strOf_app], B2.out⟩
        case measure => simp [intOf]; omega
      · have hxs : ∀ w', (Instr.index 9 (.string S) (.int .i64 (q : Int))).run Tryd.prog w' = .ok (.int .u8 83) w' := fun w' => IXS.out w'
        obtain ⟨N, hN⟩ : ∃ N : Nat, m.n4 = (N : Int) := ⟨_, (Int.toNat_of_nonneg fz.1).symm⟩
        have hNb : N < 9223372036854775808 := by have h1 : m.n4 ≤ (mostK k 4 : Int) := fz.2.1; have h2 : mostK k 4 ≤ 9007199254740992 := mostK_num k 4; omega
        have C := hide (digits_any N 8 (by omega) hNb wr)
        have EF : Hid (fldL m 4 = dig 8 N) := by show dig 8 (m.n4).toNat = _; rw [hN, Int.toNat_natCast]
        rw [hN] at c5
        have zF : (strOf (dig 8 N)).size = 8 := by rw [strOf_size, dig_len]
        clear fz ft IXS hN
        go_wp2_with fail
        refine Calls.mono C.out ?_
        rintro e w2 ⟨rfl, b2⟩
        have B2 := hide (FB.out _ b2)
        clear b2 C FB
        go_wp2_with fail
        go_roundw
        case rel => exact ⟨q + 1, by omega, by go_num, by rw [HS.out, EF.out, ← strOf_app], B2.out⟩
        case measure => simp [intOf]; omega
      · have hxs : ∀ w', (Instr.index 9 (.string S) (.int .i64 (q : Int))).run Tryd.prog w' = .ok (.int .u8 86) w' := fun w' => IXS.out w'
        obtain ⟨N, hN⟩ : ∃ N : Nat, m.n5 = (N : Int) := ⟨_, (Int.toNat_of_nonneg fz.1).symm⟩
        have hNb : N < 9223372036854775808 := by have h1 : m.n5 ≤ (mostK k 5 : Int) := fz.2.1; have h2 : mostK k 5 ≤ 9007199254740992 := mostK_num k 5; omega
        have C := hide (digits_any N 8 (by omega) hNb wr)
        have EF : Hid (fldL m 5 = dig 8 N) := by show dig 8 (m.n5).toNat = _; rw [hN, Int.toNat_natCast]
        rw [hN] at c6
        have zF : (strOf (dig 8 N)).size = 8 := by rw [strOf_size, dig_len]
        clear fz ft IXS hN
        go_wp2_with fail
        refine Calls.mono C.out ?_
        rintro e w2 ⟨rfl, b2⟩
        have B2 := hide (FB.out _ b2)
        clear b2 C FB
        go_wp2_with fail
        go_roundw
        case rel => exact ⟨q + 1, by omega, by go_num, by rw [HS.out, EF.out, ← strOf_app], B2.out⟩
        case measure => simp [intOf]; omega
      · have hxs : ∀ w', (Instr.index 9 (.string S) (.int .i64 (q : Int))).run Tryd.prog w' = .ok (.int .u8 80) w' := fun w' => IXS.out w'
        obtain ⟨N, hN⟩ : ∃ N : Nat, m.n6 = (N : Int) := ⟨_, (Int.toNat_of_nonneg fz.1).symm⟩
        have hNb : N < 9223372036854775808 := by have h1 : m.n6 ≤ (mostK k 6 : Int) := fz.2.1; have h2 : mostK k 6 ≤ 9007199254740992 := mostK_num k 6; omega
        have C := hide (digits_any N 8 (by omega) hNb wr)
        have EF : Hid (fldL m 6 = dig 8 N) := by show dig 8 (m.n6).toNat = _; rw [hN, Int.toNat_natCast]
        rw [hN] at c7
        have zF : (strOf (dig 8 N)).size = 8 := by rw [strOf_size, dig_len]
        clear fz ft IXS hN
        go_wp2_with fail
        refine Calls.mono C.out ?_
        rintro e w2 ⟨rfl, b2⟩
        have B2 := hide (FB.out _ b2)
        clear b2 C FB
        go_wp2_with fail
        go_roundw
        case rel => exact ⟨q + 1, by omega, by go_num, by rw [HS.out, EF.out, ← strOf_app], B2.out⟩
        case measure => simp [intOf]; omega
      · have hxs : ∀ w', (Instr.index 9 (.string S) (.int .i64 (q : Int))).run Tryd.prog w' = .ok (.int .u8 67) w' := fun w' => IXS.out w'
        obtain ⟨N, hN⟩ : ∃ N : Nat, m.n7 = (N : Int) := ⟨_, (Int.toNat_of_nonneg fz.1).symm⟩
        have hNb : N < 9223372036854775808 := by have h1 : m.n7 ≤ (mostK k 7 : Int) := fz.2.1; have h2 : mostK k 7 ≤ 9007199254740992 := mostK_num k 7; omega
        have C := hide (digits_any N 2 (by omega) hNb wr)
        have EF : Hid (fldL m 7 = dig 2 N) := by show dig 2 (m.n7).toNat = _; rw [hN, Int.toNat_natCast]
        rw [hN] at c8
        have zF : (strOf (dig 2 N)).size = 2 := by rw [strOf_size, dig_len]
        clear fz ft IXS hN
        go_wp2_with fail
        refine Calls.mono C.out ?_
        rintro e w2 ⟨rfl, b2⟩
        have B2 := hide (FB.out _ b2)
        clear b2 C FB
        go_wp2_with fail
        go_roundw
        case rel => exact ⟨q + 1, by omega, by go_num, by rw [HS.out, EF.out, ← strOf_app], B2.out⟩
        case measure => simp [intOf]; omega
      · have hxs : ∀ w', (Instr.index 9 (.string S) (.int .i64 (q : Int))).run Tryd.prog w' = .ok (.int .u8 75) w' := fun w' => IXS.out w'
        have ft' : m.key.size ≤ 4096 := ft
        have C := hide (digits_any m.key.size 2 (by omega) (by omega) wr.drew)
        have EF : Hid (fldL m 8 = dig 2 m.key.size ++ m.key.data.toList) := rfl
        have zF : (strOf (dig 2 m.key.size)).size = 2 := by rw [strOf_size, dig_len]
        have ES : Hid (strOf (dig 2 m.key.size) ++ m.key = strOf (dig 2 m.key.size ++ m.key.data.toList)) := by show _ = _; rw [← strOf_app, strOf_toList]
        have CELL : Hid (∀ w', Below wr.heap.size wr w' → w'.cell? ⟨w.heap.size, 9, none⟩ = some (.string m.key)) := fun w' hb => (hb.cell (by exact World.block_lt_of_cell? wr _ c9)).trans c9
        clear fz ft IXS
        go_wp2_with fail
        refine wp_region_held_drew (S := fun w' => w'.cell? ⟨w.heap.size, 9, none⟩ = some (.string m.key)) (by kernel_rfl) c9 (fun hHeld => ?_)
        refine wpAnyH_take (i := 0) (v := (.pointer (some ⟨w.heap.size, 9, none⟩))) rfl (by kernel_rfl) (by kernel_rfl) (by kernel_rfl) (fun _ _ _ h => h) (Or.inl ⟨by rfl, ?_⟩) (by assumption) ?_
        · intro w' hSw
          (try dsimp only at hSw)
          go_simp <;> first | exact i64_in (by omega) (by omega) | exact u32_in (by omega) (by omega) | exact u32_add _ _ | (rw [Int.tmod_eq_emod_of_nonneg (by omega)]; omega) | (rw [Int.tdiv_eq_ediv_of_nonneg (by omega)]; omega) | omega
        (try simp only [Act.put, List.setIfInBounds_toArray, List.set_cons_zero, List.set_cons_succ])
        refine wpAnyH_take (i := 1) (v := (.string m.key)) rfl (by kernel_rfl) (by kernel_rfl) (by kernel_rfl) (fun _ _ _ h => h) (Or.inl ⟨by rfl, ?_⟩) (by assumption) ?_
        · intro w' hSw
          (try dsimp only at hSw)
          go_simp
        (try simp only [Act.put, List.setIfInBounds_toArray, List.set_cons_zero, List.set_cons_succ])
        refine wpAnyH_take (i := 2) (v := (.int .i64 (m.key.size : Int))) rfl (by kernel_rfl) (by kernel_rfl) (by kernel_rfl) (fun _ _ _ h => h) (Or.inl ⟨by rfl, ?_⟩) (by assumption) ?_
        · intro w' hSw
          (try dsimp only at hSw)
          go_simp <;> first | exact i64_in (by omega) (by omega) | exact u32_in (by omega) (by omega) | exact u32_add _ _ | (rw [Int.tmod_eq_emod_of_nonneg (by omega)]; omega) | (rw [Int.tdiv_eq_ediv_of_nonneg (by omega)]; omega) | omega
        (try simp only [Act.put, List.setIfInBounds_toArray, List.set_cons_zero, List.set_cons_succ])
        refine wpAnyH_take (i := 4) (v := (.pointer (some ⟨w.heap.size, 9, none⟩))) rfl (by kernel_rfl) (by kernel_rfl) (by kernel_rfl) (fun _ _ _ h => h) (Or.inl ⟨by rfl, ?_⟩) (by assumption) ?_
        · intro w' hSw
          (try dsimp only at hSw)
          go_simp <;> first | exact i64_in (by omega) (by omega) | exact u32_in (by omega) (by omega) | exact u32_add _ _ | (rw [Int.tmod_eq_emod_of_nonneg (by omega)]; omega) | (rw [Int.tdiv_eq_ediv_of_nonneg (by omega)]; omega) | omega
        (try simp only [Act.put, List.setIfInBounds_toArray, List.set_cons_zero, List.set_cons_succ])
        refine wpAnyH_take (i := 5) (v := (.string m.key)) rfl (by kernel_rfl) (by kernel_rfl) (by kernel_rfl) (fun _ _ _ h => h) (Or.inl ⟨by rfl, ?_⟩) (by assumption) ?_
        · intro w' hSw
          (try dsimp only at hSw)
          go_simp
        (try simp only [Act.put, List.setIfInBounds_toArray, List.set_cons_zero, List.set_cons_succ])
        refine wpAnyH_ready (rs := [3]) (by kernel_rfl) (by simp) ?_
        refine AllReadyH.cons rfl (fun K hK => ?_) AllReadyH.nil
        go_simp
        refine Calls.mono C.out ?_
        rintro e w2 ⟨rfl, b2⟩
        have b2' : Below wr.heap.size wr w2 := ((Below.refl _ wr).drew).trans b2
        have B2 := hide (FB.out _ b2')
        have CC2 := hide (CELL.out _ b2')
        clear b2 b2' C FB CELL
        generalize strOf (dig 2 m.key.size) = DX at *
        refine hK.out _ _ (CC2.out) (fun hHeld => ?_)
        clear hK
        (try simp only [Act.put, List.setIfInBounds_toArray, List.set_cons_zero, List.set_cons_succ])
        refine wpAnyH_take (i := 6) (v := (.string (DX ++ m.key))) rfl (by kernel_rfl) (by kernel_rfl) (by kernel_rfl) (fun _ _ _ h => h) (Or.inl ⟨by rfl, ?_⟩) (by assumption) ?_
        · intro w' hSw
          (try dsimp only at hSw)
          (go_simp; first | omega | (rw [if_neg (by (try simp only [ByteArray.size_append]); omega)]; rfl))
        (try simp only [Act.put, List.setIfInBounds_toArray, List.set_cons_zero, List.set_cons_succ])
        refine wpAnyH_ready (rs := [7]) (by kernel_rfl) (by simp) ?_
        refine AllReadyH.cons rfl (fun K hK => ?_) AllReadyH.nil
        go_simp
        refine hK.out _ _ (CC2.out) (fun hHeld => ?_)
        clear hK
        (try simp only [Act.put, List.setIfInBounds_toArray, List.set_cons_zero, List.set_cons_succ])
        refine wpAnyH_done (by kernel_rfl) ?_ _
        clear hHeld
        have zD : (DX ++ m.key).size ≤ 5000 := by rw [ByteArray.size_append]; omega
        have HD := hide (rfl : DX ++ m.key = DX ++ m.key)
        generalize hDD : DX ++ m.key = DD at *
        go_wp2_with fail
        go_roundw
        case rel => exact ⟨q + 1, by omega, by go_num, by rw [HS.out, EF.out, ← strOf_app, ← ES.out], B2.out⟩
        case measure => simp [intOf]; omega
      · have hxs : ∀ w', (Instr.index 9 (.string S) (.int .i64 (q : Int))).run Tryd.prog w' = .ok (.int .u8 87) w' := fun w' => IXS.out w'
        have ft' : m.val.size ≤ 4096 := ft
        have C := hide (digits_any m.val.size 4 (by omega) (by omega) wr.drew)
        have EF : Hid (fldL m 9 = dig 4 m.val.size ++ m.val.data.toList) := rfl
        have zF : (strOf (dig 4 m.val.size)).size = 4 := by rw [strOf_size, dig_len]
        have ES : Hid (strOf (dig 4 m.val.size) ++ m.val = strOf (dig 4 m.val.size ++ m.val.data.toList)) := by show _ = _; rw [← strOf_app, strOf_toList]
        have CELL : Hid (∀ w', Below wr.heap.size wr w' → w'.cell? ⟨w.heap.size, 10, none⟩ = some (.string m.val)) := fun w' hb => (hb.cell (by exact World.block_lt_of_cell? wr _ c10)).trans c10
        clear fz ft IXS
        go_wp2_with fail
        refine wp_region_held_drew (S := fun w' => w'.cell? ⟨w.heap.size, 10, none⟩ = some (.string m.val)) (by kernel_rfl) c10 (fun hHeld => ?_)
        refine wpAnyH_take (i := 0) (v := (.pointer (some ⟨w.heap.size, 10, none⟩))) rfl (by kernel_rfl) (by kernel_rfl) (by kernel_rfl) (fun _ _ _ h => h) (Or.inl ⟨by rfl, ?_⟩) (by assumption) ?_
        · intro w' hSw
          (try dsimp only at hSw)
          go_simp <;> first | exact i64_in (by omega) (by omega) | exact u32_in (by omega) (by omega) | exact u32_add _ _ | (rw [Int.tmod_eq_emod_of_nonneg (by omega)]; omega) | (rw [Int.tdiv_eq_ediv_of_nonneg (by omega)]; omega) | omega
        (try simp only [Act.put, List.setIfInBounds_toArray, List.set_cons_zero, List.set_cons_succ])
        refine wpAnyH_take (i := 1) (v := (.string m.val)) rfl (by kernel_rfl) (by kernel_rfl) (by kernel_rfl) (fun _ _ _ h => h) (Or.inl ⟨by rfl, ?_⟩) (by assumption) ?_
        · intro w' hSw
          (try dsimp only at hSw)
          go_simp
        (try simp only [Act.put, List.setIfInBounds_toArray, List.set_cons_zero, List.set_cons_succ])
        refine wpAnyH_take (i := 2) (v := (.int .i64 (m.val.size : Int))) rfl (by kernel_rfl) (by kernel_rfl) (by kernel_rfl) (fun _ _ _ h => h) (Or.inl ⟨by rfl, ?_⟩) (by assumption) ?_
        · intro w' hSw
          (try dsimp only at hSw)
          go_simp <;> first | exact i64_in (by omega) (by omega) | exact u32_in (by omega) (by omega) | exact u32_add _ _ | (rw [Int.tmod_eq_emod_of_nonneg (by omega)]; omega) | (rw [Int.tdiv_eq_ediv_of_nonneg (by omega)]; omega) | omega
        (try simp only [Act.put, List.setIfInBounds_toArray, List.set_cons_zero, List.set_cons_succ])
        refine wpAnyH_take (i := 4) (v := (.pointer (some ⟨w.heap.size, 10, none⟩))) rfl (by kernel_rfl) (by kernel_rfl) (by kernel_rfl) (fun _ _ _ h => h) (Or.inl ⟨by rfl, ?_⟩) (by assumption) ?_
        · intro w' hSw
          (try dsimp only at hSw)
          go_simp <;> first | exact i64_in (by omega) (by omega) | exact u32_in (by omega) (by omega) | exact u32_add _ _ | (rw [Int.tmod_eq_emod_of_nonneg (by omega)]; omega) | (rw [Int.tdiv_eq_ediv_of_nonneg (by omega)]; omega) | omega
        (try simp only [Act.put, List.setIfInBounds_toArray, List.set_cons_zero, List.set_cons_succ])
        refine wpAnyH_take (i := 5) (v := (.string m.val)) rfl (by kernel_rfl) (by kernel_rfl) (by kernel_rfl) (fun _ _ _ h => h) (Or.inl ⟨by rfl, ?_⟩) (by assumption) ?_
        · intro w' hSw
          (try dsimp only at hSw)
          go_simp
        (try simp only [Act.put, List.setIfInBounds_toArray, List.set_cons_zero, List.set_cons_succ])
        refine wpAnyH_ready (rs := [3]) (by kernel_rfl) (by simp) ?_
        refine AllReadyH.cons rfl (fun K hK => ?_) AllReadyH.nil
        go_simp
        refine Calls.mono C.out ?_
        rintro e w2 ⟨rfl, b2⟩
        have b2' : Below wr.heap.size wr w2 := ((Below.refl _ wr).drew).trans b2
        have B2 := hide (FB.out _ b2')
        have CC2 := hide (CELL.out _ b2')
        clear b2 b2' C FB CELL
        generalize strOf (dig 4 m.val.size) = DX at *
        refine hK.out _ _ (CC2.out) (fun hHeld => ?_)
        clear hK
        (try simp only [Act.put, List.setIfInBounds_toArray, List.set_cons_zero, List.set_cons_succ])
        refine wpAnyH_take (i := 6) (v := (.string (DX ++ m.val))) rfl (by kernel_rfl) (by kernel_rfl) (by kernel_rfl) (fun _ _ _ h => h) (Or.inl ⟨by rfl, ?_⟩) (by assumption) ?_
        · intro w' hSw
          (try dsimp only at hSw)
          (go_simp; first | omega | (rw [if_neg (by (try simp only [ByteArray.size_append]); omega)]; rfl))
        (try simp only [Act.put, List.setIfInBounds_toArray, List.set_cons_zero, List.set_cons_succ])
        refine wpAnyH_ready (rs := [7]) (by kernel_rfl) (by simp) ?_
        refine AllReadyH.cons rfl (fun K hK => ?_) AllReadyH.nil
        go_simp
        refine hK.out _ _ (CC2.out) (fun hHeld => ?_)
        clear hK
        (try simp only [Act.put, List.setIfInBounds_toArray, List.set_cons_zero, List.set_cons_succ])
        refine wpAnyH_done (by kernel_rfl) ?_ _
        clear hHeld
        have zD : (DX ++ m.val).size ≤ 5000 := by rw [ByteArray.size_append]; omega
        have HD := hide (rfl : DX ++ m.val = DX ++ m.val)
        generalize hDD : DX ++ m.val = DD at *
        go_wp2_with fail
        go_roundw
        case rel => exact ⟨q + 1, by omega, by go_num, by rw [HS.out, EF.out, ← strOf_app, ← ES.out], B2.out⟩
        case measure => simp [intOf]; omega
end Go.Proofs.YtgdjfocnaapooaaDoor
