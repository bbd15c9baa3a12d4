import Derived.Test.YtmmcpcgnbffnjaaDoorDqPlays
namespace Go.Proofs.YtmmcpcgnbffnjaaDoor
open Go.RowKit
abbrev DO := Int × Int × ByteArray
def sumS (l : List DO) : Nat := (l.map (fun o => o.2.2.size)).sum
theorem sumS_take (l : List DO) (j : Nat) (h : j < l.length) : sumS (l.take (j + 1)) = sumS (l.take j) + l[j].2.2.size := by
  unfold sumS
  rw [List.take_succ_eq_append_getElem h, List.map_append, List.sum_append]
  simp
theorem sumS_le (l : List DO) (j : Nat) : sumS (l.take j) ≤ sumS l := by
  unfold sumS
  conv => rhs; rw [← List.take_append_drop j l]
  rw [List.map_append, List.sum_append]
  omega
/-- the bench as it begins -/
theorem bench_new (W : World) (hT : Tabs W) (W0 : World) (h : W0 = W.alloc (.cells #[.pointer none, .pointer none, .pointer none, .pointer none, .string ⟨#[]⟩, .string ⟨#[]⟩, .string ⟨#[]⟩, .string ⟨#[]⟩, .bool false, .bool false, .bool false, .bool false] 29)) : Bench W0 (W.heap.size + 1) W.heap.size (fun _ => none) ∧ Below W.heap.size W W0 := by
  refine ⟨⟨hT.room, by omega, by rw [h]; simp, by rw [h]; simp, fun k hk => ?_, ⟨fun p _ x hx => (by cases hx), fun p q _ _ _ x y hx => (by cases hx)⟩⟩, by rw [h]; exact (Below.refl _ W).alloc (Nat.le_refl _) _⟩
  rw [h]
  have hk' : k = 0 ∨ k = 1 ∨ k = 2 ∨ k = 3 ∨ k = 4 ∨ k = 5 ∨ k = 6 ∨ k = 7 ∨ k = 8 ∨ k = 9 ∨ k = 10 ∨ k = 11 := by omega
  rcases hk' with rfl | rfl | rfl | rfl | rfl | rfl | rfl | rfl | rfl | rfl | rfl | rfl <;> exact ⟨by simp [bcell, cm], by simp⟩
theorem After.plays {W w : World} {B T : Nat} (h : After W w B T) (hT : Tabs W) (hR : RTabs W) (K A : Int) (S : ByteArray) (hTS : T + S.size ≤ 1099511620000) :
    Calls Tryd.prog 4 #[.pointer (some ⟨W.heap.size, 0, none⟩), .agg #[.int .i64 K, .int .i64 A, .string S]] w fun e w' => e = .returned (.bool true) ∧ After W w' B (T + S.size) := by
  obtain ⟨f, h1, h2, h3⟩ := h
  exact plays_any K A S B f W w h1 hT hR h3 T h2 hTS
set_option maxHeartbeats 4000000 in
set_option maxRecDepth 100000 in
set_option linter.unusedSimpArgs false in
/-- the law DigestHashers -/
theorem hashers_any (ao : Option Addr) (b off cap : Nat) (ops : List DO) (W : World) (hao : 0 < ops.length → ao = some ⟨b, off, none⟩) (hb : 0 < ops.length → b < W.heap.size)
    (hl : ∀ i (hi : i < ops.length), W.cell? ⟨b, off + i * 3, none⟩ = some (.int .i64 ops[i].1) ∧ W.cell? ⟨b, off + i * 3 + 1, none⟩ = some (.int .i64 ops[i].2.1) ∧ W.cell? ⟨b, off + i * 3 + 2, none⟩ = some (.string ops[i].2.2))
    (hlen : ops.length ≤ 1099511627776) (hs : sumS ops ≤ 1099511620000) (hT : Tabs W) (hR : RTabs W) :
    Calls Tryd.prog 3 #[.slice ao ops.length cap] W fun e w' => e = .returned (.bool true) ∧ Below W.heap.size W w' := by
  have HL := hide hl
  have HT := hide hT
  have HR := hide hR
  obtain ⟨W0, hW0⟩ : ∃ W0, W0 = W.alloc (.cells #[.pointer none, .pointer none, .pointer none, .pointer none, .string ⟨#[]⟩, .string ⟨#[]⟩, .string ⟨#[]⟩, .string ⟨#[]⟩, .bool false, .bool false, .bool false, .bool false] 29) := ⟨_, rfl⟩
  obtain ⟨n1, n2⟩ := bench_new W hT W0 hW0
  have A0 : Hid (After W W0 (W.heap.size + 1) 0) := ⟨_, n1, fun p x _ hx => (by cases hx), n2⟩
  have P0 := hide (A0.out.plays hT hR 1 0 ⟨#[]⟩ (show 0 + 0 ≤ 1099511620000 by omega))
  have e0 : (0 : Nat) + (⟨#[]⟩ : ByteArray).size = 0 := rfl
  rw [e0] at P0
  clear hl hT hR n1 n2 e0 A0
  go_enter Tryd.func3, Tryd.ntmps3
  go_wp2_with fail
  rw [← hW0]
  clear hW0
  refine Calls.mono P0.out ?_
  rintro e w1 ⟨rfl, a1⟩
  have A1 := hide a1
  clear a1 P0
  go_wp2_with fail
  go_loopw [4, 5] (fun k i wr => ∃ j : Nat, j ≤ ops.length ∧ i = .int .i64 (j : Int) ∧ k = .bool true ∧ After W wr (W.heap.size + 1) (sumS (ops.take j))) (fun _ i _ => ops.length - (intOf i).toNat)
  case atStart => exact ⟨0, Nat.zero_le _, rfl, rfl, A1.out⟩
  case round =>
    obtain ⟨j, hj, rfl, rfl, ha⟩ := hrel
    have HA := hide ha
    clear ha
    by_cases hlt : j < ops.length
    · obtain rfl := hao (by omega)
      have lt0 := hb (by omega)
      have hji : (j : Int) < (ops.length : Int) := by omega
      obtain ⟨_, _, _, hbw⟩ := HA.out
      obtain ⟨l0, l1, l2⟩ := HL.out j hlt
      rw [← hbw.cell (by exact lt0)] at l0 l1 l2
      have st := sumS_take ops j hlt
      have sl := sumS_le ops (j + 1)
      have PJ := hide (HA.out.plays HT.out HR.out ops[j].1 ops[j].2.1 ops[j].2.2 (by omega))
      rw [← st] at PJ
      clear hbw st sl
      generalize ops[j].1 = K at *
      generalize ops[j].2.1 = A at *
      generalize ops[j].2.2 = S at *
      go_wp2_with fail
      refine Calls.mono PJ.out ?_
      rintro e w3 ⟨rfl, a3⟩
      have A3 := hide a3
      clear a3 PJ
      go_wp2_with fail
      go_roundw
      case rel => exact ⟨j + 1, by omega, by go_num, rfl, A3.out⟩
      case measure => simp [intOf]; omega
    · obtain rfl : j = ops.length := by omega
      have hji : ¬ ((ops.length : Int) < (ops.length : Int)) := by omega
      rw [List.take_length] at HA
      go_wp2_with fail
      go_loopw [4, 6] (fun k i wr => ∃ q : Nat, 3 ≤ q ∧ q ≤ 6 ∧ i = .int .i64 (q : Int) ∧ k = .bool true ∧ After W wr (W.heap.size + 1) (sumS ops)) (fun _ i _ => 6 - (intOf i).toNat)
      case atStart => exact ⟨3, by omega, by omega, rfl, rfl, HA.out⟩
      case round =>
        obtain ⟨q, hq3, hq6, rfl, rfl, ha⟩ := hrel
        have HA2 := hide ha
        clear ha
        by_cases hq : q ≤ 5
        · have hqi : (q : Int) ≤ 5 := by omega
          have PJ := hide (HA2.out.plays HT.out HR.out (q : Int) 0 ⟨#[]⟩ (show sumS ops + 0 ≤ 1099511620000 by omega))
          have e0 : sumS ops + (⟨#[]⟩ : ByteArray).size = sumS ops := rfl
          rw [e0] at PJ
          clear e0
          go_wp2_with fail
          refine Calls.mono PJ.out ?_
          rintro e w3 ⟨rfl, a3⟩
          have A3 := hide a3
          clear a3 PJ
          go_wp2_with fail
          go_roundw
          case rel => exact ⟨q + 1, by omega, by omega, by go_num, rfl, A3.out⟩
          case measure => simp [intOf]; omega
        · have hqi : ¬ (q : Int) ≤ 5 := by omega
          go_wp2_with fail
          go_ret
          obtain ⟨_, _, _, hb3⟩ := HA2.out
          exact ⟨rfl, hb3⟩
end Go.Proofs.YtmmcpcgnbffnjaaDoor
