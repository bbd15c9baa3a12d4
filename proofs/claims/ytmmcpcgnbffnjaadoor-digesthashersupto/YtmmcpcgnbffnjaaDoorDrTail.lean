import Derived.Test.YtmmcpcgnbffnjaaDoorDrTold
import Derived.Lib.SmallJoins
namespace Go.Proofs.YtmmcpcgnbffnjaaDoor
open Go.RowKit
def lenV : Value → Nat | .slice _ l _ => l | _ => 0
theorem rep_snoc (z : Nat) : List.replicate (z + 1) (0 : UInt8) = List.replicate z 0 ++ [0] := by rw [List.replicate_succ']
theorem pow_shift (n k : Nat) : n / 2 ^ (8 * (k + 1)) = n / 2 ^ (8 * k) / 256 := by
  rw [show 8 * (k + 1) = 8 * k + 8 by omega, Nat.pow_add, Nat.div_div_eq_div_mul]
theorem one_cellR {x : Value} (hx : x.oneCell' = true) : ∀ u ∈ [x], u.oneCell' = true := by
  intro u hu; simp at hu; subst hu; exact hx
theorem own_new (w : World) (x : Value) (ty : TypeId) : (w.alloc (.cells #[x] ty)).ownsRow w.heap.size ty 1 (.slice (some ⟨w.heap.size, 0, none⟩) 1 1) 1 [x] :=
  ⟨rfl, Or.inr ⟨w.heap.size, 1, #[x], rfl, Nat.le_refl _, heap_newR w _, Nat.le_refl _, by unfold maxLen; omega, rfl, rfl⟩⟩
set_option maxHeartbeats 2000000 in
set_option maxRecDepth 100000 in
theorem rtail_any (n : Nat) (hn : n ≤ 1099511627776) (w : World) : Calls Tryd.prog 20 #[.int .i64 (n : Int)] w fun e w' => e = .returned (.string (strOf (padL n))) ∧ Below w.heap.size w w' := by
  obtain ⟨i0, hi, hz0, hz1, hz2⟩ := info_parts info5
  go_enter Tryd.func20, Tryd.ntmps20
  go_wp2_with fail
  go_loopw [3] (fun v wr => ∃ z : Nat, z ≤ zerosN n ∧ wr.ownsRow w.heap.size 5 1 v (1 + z) (([128] ++ List.replicate z 0 : List UInt8).map ub) ∧ Below w.heap.size w wr) (fun v _ => 1 + zerosN n - lenV v)
  case atStart => exact ⟨0, Nat.zero_le _, own_new w _ _, (Below.refl _ w).alloc (Nat.le_refl _) _⟩
  case round =>
    obtain ⟨z, hz, hown, hnx⟩ := hrel
    obtain ⟨g, cap, rfl⟩ := Joins.ownsRow_form hown (by omega)
    have hsize := hnx.size
    have hzz : zerosN n = (119 - n % 64) % 64 := rfl
    by_cases hlt : z < zerosN n
    · have hne : (((n : Int) + (1 + (z : Int))) % 64 != 56) = true := by
        have : ¬ ((n : Int) + (1 + (z : Int))) % 64 = 56 := by omega
        simpa using this
      have hS : (([128] ++ List.replicate (z + 1) 0 : List UInt8).map ub) = (([128] ++ List.replicate z 0 : List UInt8).map ub) ++ [.int .u8 0] := by
        rw [rep_snoc, ← List.append_assoc, List.map_append]; rfl
      have HS := hide hS
      have HZ := hide hzz
      clear hS hzz
      have hz64 : zerosN n < 64 := by rw [HZ.out]; omega
      go_wp2_with (at_builtin; refine wpList_append_own _ rfl _ _ 60 rfl w.heap.size 5 i0 (.int .u8 0) 1 1 Tryd.underlying60 hi hz0 hz1 hz2 rfl (by decide) _ _ _ rfl (hown.alloc _) ⟨wr.heap.size, 0, none⟩ 1 1 [.int .u8 0] rfl rfl (cell_one_new _ _ _) (one_cellR rfl) (by unfold maxLen; omega) (by omega) (by simp; omega) ?_; intro v3 w3 hown3 hgrow3 hnil3)
      go_roundw
      case rel => exact ⟨z + 1, by omega, by rw [HS.out]; exact hown3, (hnx.alloc hsize _).grown hgrow3 (by simp; omega) (fun j hj => (hown.lt j hj).1)⟩
      case measure =>
        obtain ⟨g3, c3, rfl⟩ := Joins.ownsRow_form hown3 (by omega)
        simp [lenV]; omega
    · obtain rfl : z = zerosN n := by omega
      have hne : (((n : Int) + (1 + (zerosN n : Int))) % 64 != 56) = false := by
        have : ((n : Int) + (1 + (zerosN n : Int))) % 64 = 56 := by omega
        simpa using this
      have hz64 : zerosN n < 64 := by omega
      have HO := hide hown
      have HX := hide hnx
      clear hown hnx hzz hz hlt
      obtain ⟨Z, hZ⟩ : ∃ Z, Z = zerosN n := ⟨_, rfl⟩
      have HZ := hide hZ
      rw [← hZ] at hne hz64 HO ⊢
      clear hZ
      go_wp2_with fail
      clear hne
      go_loopw [3, 4, 5] (fun v bt i wq => ∃ k : Nat, k ≤ 8 ∧ i = .int .i64 k ∧ bt = .int .i64 ((if k = 0 then n else n * 8 / 2 ^ (8 * k) : Nat) : Int) ∧ wq.ownsRow w.heap.size 5 1 v (1 + Z + k) (([128] ++ List.replicate Z 0 ++ lowL (n * 8) k : List UInt8).map ub) ∧ Below w.heap.size w wq) (fun _ _ i _ => 8 - (intOf i).toNat)
      case atStart => exact ⟨0, by omega, rfl, rfl, by simpa [lowL] using HO.out, HX.out⟩
      case round =>
        clear HO HX
        obtain ⟨k, hk, rfl, rfl, hown, hnx⟩ := hrel
        have hsize := hnx.size
        by_cases hlt : k < 8
        · have hS : (([128] ++ List.replicate Z 0 ++ lowL (n * 8) (k + 1) : List UInt8).map ub) = (([128] ++ List.replicate Z 0 ++ lowL (n * 8) k : List UInt8).map ub) ++ [.int .u8 ((n * 8 / 2 ^ (8 * k) % 256 : Nat) : Int)] := by
            rw [lowL_succ, ← List.append_assoc, List.map_append]
            have : (UInt8.ofNat (n * 8 / 2 ^ (8 * k) % 256)).toNat = n * 8 / 2 ^ (8 * k) % 256 := by rw [UInt8.toNat_ofNat']; omega
            simp [ub, this]
          have HS := hide hS
          clear hS
          have HN := hide (pow_shift (n * 8) k)
          by_cases hk0 : k = 0
          · have hk1 : ((k : Int) == 0) = true := by rw [hk0]; rfl
            have e1 : n * 8 / 2 ^ (8 * k) = n * 8 := by rw [hk0]; simp
            rw [e1] at HS HN
            obtain ⟨V, hV⟩ : ∃ V, V = n * 8 % 256 := ⟨_, rfl⟩
            rw [← hV] at HS
            have hV8 : V < 256 := by omega
            have hb1 : (n : Int) % 32 * 8 = (V : Int) := by omega
            have hb2 : (n : Int) / 32 = ((n * 8 / 256 : Nat) : Int) := by omega
            have HB2 := hide hb2
            clear hV hb2 e1
            rw [if_pos hk0]
            clear hk0
            go_wp2_with (at_builtin; refine wpList_append_own _ rfl _ _ 60 rfl w.heap.size 5 i0 (.int .u8 0) 1 1 Tryd.underlying60 hi hz0 hz1 hz2 rfl (by decide) _ _ _ rfl (hown.alloc _) ⟨wr.heap.size, 0, none⟩ 1 1 [.int .u8 (V : Int)] rfl rfl (cell_one_new _ _ _) (one_cellR rfl) (by unfold maxLen; omega) (by omega) (by simp; omega) ?_; intro v3 w3 hown3 hgrow3 hnil3)
            go_roundw
            case rel => exact ⟨k + 1, by omega, by go_num, by rw [if_neg (by omega), HN.out, ← HB2.out], by rw [HS.out]; exact hown3, (hnx.alloc hsize _).grown hgrow3 (by simp; omega) (fun j hj => (hown.lt j hj).1)⟩
            case measure => simp [intOf]; omega
          · rw [if_neg hk0]
            have hk1 : ((k : Int) == 0) = false := by simp; omega
            obtain ⟨M, hM⟩ : ∃ M, M = n * 8 / 2 ^ (8 * k) := ⟨_, rfl⟩
            have hMl : M ≤ n * 8 := by rw [hM]; exact Nat.div_le_self _ _
            rw [← hM] at HS HN ⊢
            clear hM
            obtain ⟨V, hV⟩ : ∃ V, V = M % 256 := ⟨_, rfl⟩
            rw [← hV] at HS
            have hV8 : V < 256 := by omega
            have hb1 : (M : Int) % 256 = (V : Int) := by omega
            clear hV
            go_wp2_with (at_builtin; refine wpList_append_own _ rfl _ _ 60 rfl w.heap.size 5 i0 (.int .u8 0) 1 1 Tryd.underlying60 hi hz0 hz1 hz2 rfl (by decide) _ _ _ rfl (hown.alloc _) ⟨wr.heap.size, 0, none⟩ 1 1 [.int .u8 (V : Int)] rfl rfl (cell_one_new _ _ _) (one_cellR rfl) (by unfold maxLen; omega) (by omega) (by simp; omega) ?_; intro v3 w3 hown3 hgrow3 hnil3)
            go_roundw
            case rel => exact ⟨k + 1, by omega, by go_num, by rw [if_neg (by omega), HN.out]; go_num, by rw [HS.out]; exact hown3, (hnx.alloc hsize _).grown hgrow3 (by simp; omega) (fun j hj => (hown.lt j hj).1)⟩
            case measure => simp [intOf]; omega
        · obtain rfl : k = 8 := by omega
          have hP : padL n = [128] ++ List.replicate Z 0 ++ lowL (n * 8) 8 := by unfold padL; rw [HZ.out]
          have hlen : ([128] ++ List.replicate Z 0 ++ lowL (n * 8) 8 : List UInt8).length = 1 + Z + 8 := by simp [lowL_len]; omega
          rw [← hlen, ← hP] at hown
          clear hlen hP
          have hcv := own_conv (P := Tryd.prog) (src := 60) (dst := 9) hown rfl Tryd.underlying60 Tryd.underlying5 Tryd.underlying9
          go_wp2
          go_ret
          exact ⟨rfl, hnx⟩
end Go.Proofs.YtmmcpcgnbffnjaaDoor
