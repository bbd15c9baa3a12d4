import Derived.Test.YtaclbffacnoddaaGreatDoorPaFit
import Derived.Test.YtaclbffacnoddaaGreatDoorDgHex
import Derived.Lib.AppendIntMem
namespace Go.Proofs.YtaclbffacnoddaaGreatDoor
open Go.RowKit Go.Shelf
def be4 (n : Nat) : List UInt8 := [UInt8.ofNat (n / 16777216), UInt8.ofNat (n / 65536), UInt8.ofNat (n / 256), UInt8.ofNat n]
theorem be4_conv (n : Nat) (h : n < 4294967296) (w : World) : (convert 87 9 (.slice (some ⟨w.heap.size, 0, none⟩) 4 4)).run Tryz.prog (w.alloc (.cells #[.int .u8 ((n : Int) / 16777216), .int .u8 ((n : Int) / 65536 % 256), .int .u8 ((n : Int) / 256 % 256), .int .u8 ((n : Int) % 256)] 5)) = .ok (.string (strOf (be4 n))) (w.alloc (.cells #[.int .u8 ((n : Int) / 16777216), .int .u8 ((n : Int) / 65536 % 256), .int .u8 ((n : Int) / 256 % 256), .int .u8 ((n : Int) % 256)] 5)) := by
  refine run_convert_bytes_back (P := Tryz.prog) _ 87 9 5 ⟨w.heap.size, 0, none⟩ 4 (be4 n) Tryz.underlying87 Tryz.underlying5 Tryz.underlying9 (fun j hj => ?_)
  match j, hj with
  | 0, _ => simp [be4, Addr.add]; omega
  | 1, _ => simp [be4, Addr.add]
  | 2, _ => simp [be4, Addr.add]
  | 3, _ => simp [be4, Addr.add]
set_option maxHeartbeats 2000000 in
set_option maxRecDepth 100000 in
theorem printSum_any (n : Nat) (h : n < 4294967296) (w : World) :
    Calls Tryz.prog 99 #[.int .i64 (n : Int)] w fun e w' => e = .returned (.string (strOf (hexL (be4 n)))) ∧ Below w.heap.size w w' := by
  have hc := be4_conv n h w
  have C := hide (hex_any (strOf (be4 n)) (w.alloc (.cells #[.int .u8 ((n : Int) / 16777216), .int .u8 ((n : Int) / 65536 % 256), .int .u8 ((n : Int) / 256 % 256), .int .u8 ((n : Int) % 256)] 5)) (by rw [strOf_size]; simp [be4]))
  rw [strOf_data] at C
  go_enter Tryz.func99, Tryz.ntmps99
  go_wp2_with fail
  refine Calls.mono C.out ?_
  rintro e w1 ⟨rfl, b1⟩
  have B1 := hide (((Below.refl w.heap.size w).alloc (Nat.le_refl _) _).trans (b1.mono (by simp)))
  clear b1 C hc
  go_wp2
  go_ret
  exact ⟨rfl, B1.out⟩
theorem below_grow (w : World) (k : Nat) (os : Array Obj) : Below w.heap.size w (Go.Sort.grow (w.drewN k) os) := ⟨rfl, rfl, rfl, by simp [Go.Sort.grow], fun i hi => by simp [Go.Sort.grow]; rw [Array.getElem?_append_left (by simpa using hi)]⟩
set_option maxHeartbeats 2000000 in
set_option maxRecDepth 100000 in
theorem print_num (n : Int) (t : ByteArray) (w : World) (h0 : -9223372036854775808 ≤ n) (h1 : n ≤ 9223372036854775807) (hP : Lib.TabIs Tryz.prog w "internal/strconv.uint64pow10" .u64 Lib.pow10Tab) :
    Calls Tryz.prog 75 #[.int .i64 0, .agg #[.int .i64 n, .string t]] w fun e w' => e = .returned (.string (strOf (Lib.itoa n))) ∧ Below w.heap.size w w' := by
  obtain ⟨W0, hW0⟩ : ∃ W0, W0 = w.alloc (.cells #[.int .i64 n, .string t] 72) := ⟨_, rfl⟩
  have b0 : Below w.heap.size w W0 := by rw [hW0]; exact (Below.refl _ w).alloc (Nat.le_refl _) _
  have C := hide (Tryz.strconv_Itoa n h0 h1 W0 (Lib.tabBelow_of_tabIs hP _ b0))
  have B0 := hide b0
  clear b0 hP
  go_enter Tryz.func75, Tryz.ntmps75
  go_wp2_with fail
  rw [← hW0]
  clear hW0
  refine Calls.mono C.out ?_
  rintro e w1 ⟨rfl, k, os, rfl⟩
  have B1 := hide (B0.out.trans ((below_grow W0 k os).mono B0.out.size))
  generalize Go.Sort.grow (W0.drewN k) os = w1 at *
  clear C
  go_wp2
  go_ret
  exact ⟨rfl, B1.out⟩
set_option maxHeartbeats 2000000 in
set_option maxRecDepth 100000 in
theorem print_sum (n : Nat) (h : n < 4294967296) (t : ByteArray) (w : World) :
    Calls Tryz.prog 75 #[.int .i64 1, .agg #[.int .i64 (n : Int), .string t]] w fun e w' => e = .returned (.string (strOf (hexL (be4 n)))) ∧ Below w.heap.size w w' := by
  obtain ⟨W0, hW0⟩ : ∃ W0, W0 = w.alloc (.cells #[.int .i64 (n : Int), .string t] 72) := ⟨_, rfl⟩
  have b0 : Below w.heap.size w W0 := by rw [hW0]; exact (Below.refl _ w).alloc (Nat.le_refl _) _
  have C := hide (printSum_any n h W0)
  have B0 := hide b0
  clear b0
  go_enter Tryz.func75, Tryz.ntmps75
  go_wp2_with fail
  rw [← hW0]
  clear hW0
  refine Calls.mono C.out ?_
  rintro e w1 ⟨rfl, b1⟩
  have B1 := hide (B0.out.trans (b1.mono B0.out.size))
  clear C b1
  go_wp2
  go_ret
  exact ⟨rfl, B1.out⟩
end Go.Proofs.YtaclbffacnoddaaGreatDoor
