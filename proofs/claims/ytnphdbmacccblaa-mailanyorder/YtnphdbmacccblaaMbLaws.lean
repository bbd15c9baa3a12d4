import Derived.Test.YtnphdbmacccblaaMbUp
namespace Go.Proofs.Ytnphdbmacccblaa
open Go.RowKit
theorem fit0 (s : ByteArray) (n : Int) (hn : n < 100) (hs : s.size ≤ 100) : OpFit 0 n s := ⟨by omega, by omega, by omega, by omega⟩
set_option maxHeartbeats 8000000 in
set_option maxRecDepth 100000 in
set_option linter.unusedSimpArgs false in
set_option linter.unusedVariables false in
theorem mailMoves_any (lim : Int) (ao : Option Addr) (b o cap : Nat) (ys : List MO) (w : World) (hN : SpAt w ao b o ys) :
    Calls Try.prog 6 #[.int .i64 lim, .slice ao ys.length cap] w fun e w' => e = .returned (.bool true) ∧ Below w.heap.size w w' := by
  obtain ⟨WA, hWA⟩ : ∃ WA, WA = w.alloc (.cells #[.pointer none, .pointer none, .pointer none, .pointer none] 58) := ⟨_, rfl⟩
  obtain ⟨B, hB⟩ : ∃ B, B = w.heap.size := ⟨_, rfl⟩
  have HB := hide hB
  have A1 : Hid (BnB WA B (.pointer none) (.pointer none) (.pointer none) (.pointer none)) := by subst hWA; subst hB; exact heap_last w _
  have A2 : Hid (Below B w WA) := by subst hWA; subst hB; exact (Below.refl _ w).alloc (Nat.le_refl _) _
  have BG := hide (begins_any A1.out lim)
  have HN := hide hN
  have hlen := hN.len
  clear hN
  go_enter Try.func6, Try.ntmps6
  go_wp2_with fail
  rw [← hWA, ← hB]
  clear hWA hB
  refine Calls.mono BG.out ?_
  rintro e w1 ⟨rfl, bn1, kp1⟩
  have N1 := hide bn1
  have L1 : Hid (Below B w w1) := A2.out.trans ⟨kp1.os, kp1.tape, kp1.output, kp1.size, fun k hk => kp1.block k (by have := A2.out.size; have := HB.out; omega) (by omega)⟩
  clear bn1 kp1 BG A1 A2
  have UP := hide (upTo_any (cap := cap) N1.out L1.out HB.out HN.out 1 6)
  go_wp2_with fail
  refine Calls.mono UP.out ?_
  rintro e w2 ⟨rfl, bn, bl⟩
  have P0 := hide bn
  have L0 := hide bl
  clear bn bl UP N1 L1
  have PY0 := hide (plays_any P0.out (by omega) 7 0 0 0 ⟨#[]⟩ (fit0 _ _ (by omega) (by decide)))
  unfold opV at PY0
  go_wp2_with fail
  refine Calls.mono PY0.out ?_
  rintro e w3 ⟨rfl, bn, bl⟩
  have P1 := hide bn
  have L1 : Hid (Below B w w3) := L0.out.trans bl
  clear bn bl PY0
  have PY1 := hide (plays_any P1.out (by omega) 1 0 0 1 ⟨#[]⟩ (fit0 _ _ (by omega) (by decide)))
  unfold opV at PY1
  go_wp2_with fail
  refine Calls.mono PY1.out ?_
  rintro e w4 ⟨rfl, bn, bl⟩
  have P2 := hide bn
  have L2 : Hid (Below B w w4) := L1.out.trans bl
  clear bn bl PY1
  go_wp2_with fail
  go_ret
  have lz := L2.out
  rw [HB.out] at lz
  exact ⟨by simp, lz⟩
set_option maxHeartbeats 8000000 in
set_option maxRecDepth 100000 in
set_option linter.unusedSimpArgs false in
set_option linter.unusedVariables false in
theorem mailLooks_any (lim : Int) (ao : Option Addr) (b o cap : Nat) (ys : List MO) (w : World) (hN : SpAt w ao b o ys) :
    Calls Try.prog 7 #[.int .i64 lim, .slice ao ys.length cap] w fun e w' => e = .returned (.bool true) ∧ Below w.heap.size w w' := by
  obtain ⟨WA, hWA⟩ : ∃ WA, WA = w.alloc (.cells #[.pointer none, .pointer none, .pointer none, .pointer none] 58) := ⟨_, rfl⟩
  obtain ⟨B, hB⟩ : ∃ B, B = w.heap.size := ⟨_, rfl⟩
  have HB := hide hB
  have A1 : Hid (BnB WA B (.pointer none) (.pointer none) (.pointer none) (.pointer none)) := by subst hWA; subst hB; exact heap_last w _
  have A2 : Hid (Below B w WA) := by subst hWA; subst hB; exact (Below.refl _ w).alloc (Nat.le_refl _) _
  have BG := hide (begins_any A1.out lim)
  have HN := hide hN
  have hlen := hN.len
  clear hN
  go_enter Try.func7, Try.ntmps7
  go_wp2_with fail
  rw [← hWA, ← hB]
  clear hWA hB
  refine Calls.mono BG.out ?_
  rintro e w1 ⟨rfl, bn1, kp1⟩
  have N1 := hide bn1
  have L1 : Hid (Below B w w1) := A2.out.trans ⟨kp1.os, kp1.tape, kp1.output, kp1.size, fun k hk => kp1.block k (by have := A2.out.size; have := HB.out; omega) (by omega)⟩
  clear bn1 kp1 BG A1 A2
  have UP := hide (upTo_any (cap := cap) N1.out L1.out HB.out HN.out 7 9)
  go_wp2_with fail
  refine Calls.mono UP.out ?_
  rintro e w2 ⟨rfl, bn, bl⟩
  have P0 := hide bn
  have L0 := hide bl
  clear bn bl UP N1 L1
  have PY0 := hide (plays_any P0.out (by omega) 3 0 0 0 ⟨#[]⟩ (fit0 _ _ (by omega) (by decide)))
  unfold opV at PY0
  go_wp2_with fail
  refine Calls.mono PY0.out ?_
  rintro e w3 ⟨rfl, bn, bl⟩
  have P1 := hide bn
  have L1 : Hid (Below B w w3) := L0.out.trans bl
  clear bn bl PY0
  have PY1 := hide (plays_any P1.out (by omega) 1 0 2 2 ⟨#[108, 97, 115, 116]⟩ (fit0 _ _ (by omega) (by decide)))
  unfold opV at PY1
  go_wp2_with fail
  refine Calls.mono PY1.out ?_
  rintro e w4 ⟨rfl, bn, bl⟩
  have P2 := hide bn
  have L2 : Hid (Below B w w4) := L1.out.trans bl
  clear bn bl PY1
  have PY2 := hide (plays_any P2.out (by omega) 7 0 0 0 ⟨#[]⟩ (fit0 _ _ (by omega) (by decide)))
  unfold opV at PY2
  go_wp2_with fail
  refine Calls.mono PY2.out ?_
  rintro e w5 ⟨rfl, bn, bl⟩
  have P3 := hide bn
  have L3 : Hid (Below B w w5) := L2.out.trans bl
  clear bn bl PY2
  have PY3 := hide (plays_any P3.out (by omega) 8 0 0 0 ⟨#[]⟩ (fit0 _ _ (by omega) (by decide)))
  unfold opV at PY3
  go_wp2_with fail
  refine Calls.mono PY3.out ?_
  rintro e w6 ⟨rfl, bn, bl⟩
  have P4 := hide bn
  have L4 : Hid (Below B w w6) := L3.out.trans bl
  clear bn bl PY3
  have PY4 := hide (plays_any P4.out (by omega) 9 0 0 0 ⟨#[]⟩ (fit0 _ _ (by omega) (by decide)))
  unfold opV at PY4
  go_wp2_with fail
  refine Calls.mono PY4.out ?_
  rintro e w7 ⟨rfl, bn, bl⟩
  have P5 := hide bn
  have L5 : Hid (Below B w w7) := L4.out.trans bl
  clear bn bl PY4
  go_wp2_with fail
  go_ret
  have lz := L5.out
  rw [HB.out] at lz
  exact ⟨by simp, lz⟩
set_option maxHeartbeats 8000000 in
set_option maxRecDepth 100000 in
set_option linter.unusedSimpArgs false in
set_option linter.unusedVariables false in
theorem mailPlays_any (lim : Int) (ao : Option Addr) (b o cap : Nat) (ys : List MO) (w : World) (hN : SpAt w ao b o ys) :
    Calls Try.prog 8 #[.int .i64 lim, .slice ao ys.length cap] w fun e w' => e = .returned (.bool true) ∧ Below w.heap.size w w' := by
  obtain ⟨WA, hWA⟩ : ∃ WA, WA = w.alloc (.cells #[.pointer none, .pointer none, .pointer none, .pointer none] 58) := ⟨_, rfl⟩
  obtain ⟨B, hB⟩ : ∃ B, B = w.heap.size := ⟨_, rfl⟩
  have HB := hide hB
  have A1 : Hid (BnB WA B (.pointer none) (.pointer none) (.pointer none) (.pointer none)) := by subst hWA; subst hB; exact heap_last w _
  have A2 : Hid (Below B w WA) := by subst hWA; subst hB; exact (Below.refl _ w).alloc (Nat.le_refl _) _
  have BG := hide (begins_any A1.out lim)
  have HN := hide hN
  have hlen := hN.len
  clear hN
  go_enter Try.func8, Try.ntmps8
  go_wp2_with fail
  rw [← hWA, ← hB]
  clear hWA hB
  refine Calls.mono BG.out ?_
  rintro e w1 ⟨rfl, bn1, kp1⟩
  have N1 := hide bn1
  have L1 : Hid (Below B w w1) := A2.out.trans ⟨kp1.os, kp1.tape, kp1.output, kp1.size, fun k hk => kp1.block k (by have := A2.out.size; have := HB.out; omega) (by omega)⟩
  clear bn1 kp1 BG A1 A2
  have UP := hide (upTo_any (cap := cap) N1.out L1.out HB.out HN.out 1 9)
  go_wp2_with fail
  refine Calls.mono UP.out ?_
  rintro e w2 ⟨rfl, bn, bl⟩
  have P0 := hide bn
  have L0 := hide bl
  clear bn bl UP N1 L1
  have PY0 := hide (plays_any P0.out (by omega) 1 0 0 1 ⟨#[]⟩ (fit0 _ _ (by omega) (by decide)))
  unfold opV at PY0
  go_wp2_with fail
  refine Calls.mono PY0.out ?_
  rintro e w3 ⟨rfl, bn, bl⟩
  have P1 := hide bn
  have L1 : Hid (Below B w w3) := L0.out.trans bl
  clear bn bl PY0
  have PY1 := hide (plays_any P1.out (by omega) 7 0 0 0 ⟨#[]⟩ (fit0 _ _ (by omega) (by decide)))
  unfold opV at PY1
  go_wp2_with fail
  refine Calls.mono PY1.out ?_
  rintro e w4 ⟨rfl, bn, bl⟩
  have P2 := hide bn
  have L2 : Hid (Below B w w4) := L1.out.trans bl
  clear bn bl PY1
  go_wp2_with fail
  go_ret
  have lz := L2.out
  rw [HB.out] at lz
  exact ⟨by simp, lz⟩
end Go.Proofs.Ytnphdbmacccblaa
