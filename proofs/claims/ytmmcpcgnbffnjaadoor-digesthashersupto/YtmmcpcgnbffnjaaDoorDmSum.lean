import Derived.Test.YtmmcpcgnbffnjaaDoorDmSeen
import Derived.Test.YtmmcpcgnbffnjaaDoorDmShelf
namespace Go.Proofs.YtmmcpcgnbffnjaaDoor
open Go.RowKit
def zerosN (n : Nat) : Nat := (119 - n % 64) % 64
def padL (n : Nat) : List UInt8 := [128] ++ List.replicate (zerosN n) 0 ++ lowL (n * 8) 8
theorem padL_len (n : Nat) : (padL n).length = 9 + zerosN n := by simp [padL, lowL_len]; omega
theorem pad_whole (n : Nat) : (n + (padL n).length) % 64 = 0 ∧ 64 ≤ n + (padL n).length := by
  rw [padL_len]; unfold zerosN; omega
def tellQ (q : Q) : List UInt8 := [] ++ lowL q.1 4 ++ lowL q.2.1 4 ++ lowL q.2.2.1 4 ++ lowL q.2.2.2 4
/-- the MD5 of a text -/
def md5L (t : List UInt8) : List UInt8 := tellQ (blocksN Q0 (t ++ padL t.length) ((t.length + (padL t.length).length) / 64))
theorem repeat0 (c : Nat) : Lib.repeatL [0] c = List.replicate c (0 : UInt8) := by
  induction c with
  | zero => rfl
  | succ c ih => simp [Lib.repeatL, ih, List.replicate_succ]
def four (a b c d : Nat) : Nat → Nat
  | 0 => a
  | 1 => b
  | 2 => c
  | 3 => d
  | _ => 0
theorem four_lt (a b c d k : Nat) (ha : a < 4294967296) (hb : b < 4294967296) (hc : c < 4294967296) (hd : d < 4294967296) : four a b c d k < 4294967296 := by
  match k with
  | 0 => exact ha
  | 1 => exact hb
  | 2 => exact hc
  | 3 => exact hd
  | k + 4 => show 0 < _; omega
theorem idx4 (a b c d : Nat) (k : Nat) (hk : k < 4) (w : World) : (Instr.index 45 (.agg #[.int .u32 (a : Int), .int .u32 (b : Int), .int .u32 (c : Int), .int .u32 (d : Int)]) (.int .i64 (k : Int))).run Tryd.prog w = .ok (.int .u32 (four a b c d k : Int)) w := by
  rcases (show k = 0 ∨ k = 1 ∨ k = 2 ∨ k = 3 by omega) with rfl | rfl | rfl | rfl <;> kernel_rfl
def tellK (q : Q) : Nat → List UInt8
  | 0 => []
  | k + 1 => tellK q k ++ lowL (four q.1 q.2.1 q.2.2.1 q.2.2.2 k) 4
theorem tellK_succ (q : Q) (k : Nat) : tellK q (k + 1) = tellK q k ++ lowL (four q.1 q.2.1 q.2.2.1 q.2.2.2 k) 4 := rfl
theorem tellK_len (q : Q) (k : Nat) : (tellK q k).length = 4 * k := by
  induction k with
  | zero => rfl
  | succ k ih => rw [tellK_succ, List.length_append, ih, lowL_len]; omega
theorem strOf_append (a b : List UInt8) : strOf (a ++ b) = strOf a ++ strOf b := by
  have : (strOf a ++ strOf b).data.toList = a ++ b := by
    rw [ByteArray.data_append, Array.toList_append]; rfl
  rw [← strOf_toList (strOf a ++ strOf b), this]
theorem env_new {w : World} {q : Q} {n : Nat} {r : List UInt8} {ex : List Value} {ty : TypeId} (hr : r.length = 64) (hq : Q4 q) (hw : 3 ≤ w.heap.size) (hT1 : TabS 1 w) (hT2 : TabT 2 w) :
    Env w.heap.size (w.alloc (.cells (Cl q n r ex).toArray ty)) q n r ex := by
  have hb : (w.alloc (.cells (Cl q n r ex).toArray ty)).heap[w.heap.size]? = some (.cells (Cl q n r ex).toArray ty (0, 0)) := by
    show (w.heap.push _)[w.heap.size]? = _
    rw [Array.getElem?_push, if_pos rfl]
  have hB : Below w.heap.size w (w.alloc (.cells (Cl q n r ex).toArray ty)) := (Below.refl _ w).alloc (Nat.le_refl _) _
  refine ⟨fun j v hv => ?_, there_of_block hb 0 (by rw [List.size_toArray, Cl_len, hr]; omega), ⟨hw, by simp⟩, hr, hq, hT1.below hB (by omega), hT2.below hB (by omega)⟩
  rw [cell_of_row _ _ (0 + j) _ _ _ hb, Nat.zero_add]
  simpa using hv
set_option maxHeartbeats 2000000 in
set_option maxRecDepth 100000 in
theorem sum_any (q : Q) (n : Nat) (r t : List UInt8) (w : World) (hS : Seen q n r t) (hq : Q4 q) (hn : n ≤ 1099511627776) (hw : 3 ≤ w.heap.size) (hT1 : TabS 1 w) (hT2 : TabT 2 w) :
    Calls Tryd.prog 17 #[.agg (Cl q n r []).toArray] w fun e w' => e = .returned (.string (strOf (md5L t))) ∧ Below w.heap.size w w' := by
  have hE0 : Env w.heap.size (w.alloc (.cells (Cl q n r []).toArray 48)) q n r [] := env_new hS.len hq hw hT1 hT2
  have hB0 : Below w.heap.size w (w.alloc (.cells (Cl q n r []).toArray 48)) := (Below.refl _ w).alloc (Nat.le_refl _) _
  have HE0 := hide hE0
  have hlen : (Cl q n r []).length = 69 := by rw [Cl_len, hS.len]; rfl
  have hc4 : (Cl q n r [])[4]'(by rw [hlen]; omega) = .int .i64 (n : Int) := by simp [Cl, qL]
  have HS := hide hS
  have HB0 := hide hB0
  clear hE0 hB0 hS
  have CL8 : Hid (∀ w', Calls Tryd.prog 24 #[.int .u64 ((n : Int) * 8), .int .i64 8] w' fun e w'' => e = .returned (.string (strOf (lowL (n * 8) 8))) ∧ Below w'.heap.size w' w'') := fun w' => by
    have := low_any (n * 8) 8 (by omega) (by omega) w'
    rw [Int.natCast_mul] at this
    exact this
  generalize hCL : Cl q n r [] = CL at *
  have HCL := hide hCL
  clear hCL
  go_enter Tryd.func17, Tryd.ntmps17
  go_wp2_with fail
  refine Calls.mono (CL8.out _) ?_
  rintro e w1 ⟨rfl, hb1⟩
  have hE1 := HE0.out.below hb1
  have hB1 : Below w.heap.size w w1 := HB0.out.trans (hb1.mono (by simp))
  clear hb1 hc4 hlen
  have HE1 := hide hE1
  have HB1 := hide hB1
  have cn := hE1.count
  clear hE1 hB1 HE0 HB0
  have hz0 : ((119 - (n : Int) % 64) % 64) = (zerosN n : Int) := by unfold zerosN; omega
  obtain ⟨R, hR⟩ : ∃ R : ByteArray, R = ⟨(Lib.repeatL (ByteArray.mk #[0]).data.toList (zerosN n)).toArray⟩ := ⟨_, rfl⟩
  have hRd : R.data.toList = List.replicate (zerosN n) 0 := by rw [hR]; exact repeat0 (zerosN n)
  have hzl : zerosN n < 64 := by unfold zerosN; omega
  have hRs : R.size = zerosN n := by rw [← size_data, hRd, List.length_replicate]
  have CRP : Hid (∀ w', Calls Tryd.prog 25 #[.string ⟨#[0]⟩, .int .i64 (zerosN n : Int)] w' fun e w'' => e = .returned (.string R) ∧ Below w'.heap.size w' w'') := fun w' => by
    rw [hR]
    exact Tryd.strings_Repeat ⟨#[0]⟩ (zerosN n) w' (by omega) (by show 1 * _ ≤ _; omega)
  have HRD := hide hRd
  clear hR hRd
  obtain ⟨L, hL⟩ : ∃ L, L = strOf (lowL (n * 8) 8) := ⟨_, rfl⟩
  have hLs : L.size = 8 := by rw [hL, strOf_size, lowL_len]
  rw [← hL]
  have HL := hide hL
  clear hL
  have hPd : (⟨#[128]⟩ ++ R ++ L : ByteArray).data.toList = padL n := by
    rw [ByteArray.data_append, ByteArray.data_append, Array.toList_append, Array.toList_append, HRD.out, HL.out, strOf_data]
    rfl
  have hPs : (⟨#[128]⟩ ++ R ++ L : ByteArray).size = (padL n).length := by rw [← size_data, hPd]
  have h128 : (ByteArray.mk #[128]).size = 1 := rfl
  obtain ⟨P, hP⟩ : ∃ P : ByteArray, P = ⟨#[128]⟩ ++ R ++ L := ⟨_, rfl⟩
  rw [← hP] at hPd hPs
  have hPl := padL_len n
  generalize hz9 : zerosN n = Z at *
  have HPD := hide hPd
  have HPS := hide hPs
  have HPL := hide hPl
  clear hPd hPs hPl
  have hPs' : (⟨#[128]⟩ ++ R ++ L : ByteArray).size ≤ 9223372036854775807 := by rw [← hP, HPS.out, HPL.out]; omega
  have hPs2 : (⟨#[128]⟩ ++ R : ByteArray).size ≤ 9223372036854775807 := by rw [ByteArray.size_append, h128, hRs]; omega
  have HP := hide hP
  clear hP
  go_wp2_with fail
  refine Calls.mono (CRP.out _) ?_
  rintro e w2 ⟨rfl, hb2⟩
  have hE2 := HE1.out.below hb2
  have hB2 : Below w.heap.size w w2 := HB1.out.trans (hb2.mono HB1.out.size)
  have HE2 := hide hE2
  have HB2 := hide hB2
  clear hb2 hE2 hB2 cn HE1 HB1
  go_wp2_with fail
  rw [← HP.out]
  refine Calls.mono (write_seen w.heap.size n q r t [] P w2 HE2.out HS.out hn (by rw [HPS.out, HPL.out]; omega)) ?_
  rintro e w3 ⟨rfl, ⟨q3, r3, hE3, hS3⟩, hg3⟩
  have hB3 : Below w.heap.size w w3 := HB2.out.grown hg3 HB2.out.size (fun j hj => by cases hj; exact Nat.le_refl _)
  have hq3 : q3 = blocksN Q0 (t ++ padL n) ((n + (padL n).length) / 64) := by
    have := hS3.words (by have := (pad_whole n).2; rw [HPS.out]; exact this)
    rw [HPD.out, HPS.out] at this
    exact this
  have HQ3 : Hid (md5L t = tellQ q3) := by
    show md5L t = tellQ q3
    unfold md5L
    rw [← HS.out.num, ← hq3]
  have h4 := hE3.q4
  have hbl := hE3.blk
  obtain ⟨c0, c1, c2, c3⟩ := hE3.word
  have HB3 := hide hB3
  clear hE3 hS3 hg3 hB3 hq3 HE2 HB2
  obtain ⟨a0, b0, e0, d0⟩ := q3
  obtain ⟨l0, l1, l2, l3⟩ := h4
  simp only at c0 c1 c2 c3 l0 l1 l2 l3
  go_wp2_with fail
  go_loopw [5, 26] (fun o i wr => ∃ k : Nat, k ≤ 4 ∧ i = .int .i64 k ∧ o = .string (strOf (tellK (a0, b0, e0, d0) k)) ∧ Below w.heap.size w wr) (fun _ i _ => 4 - (intOf i).toNat)
  case atStart => exact ⟨0, by omega, rfl, rfl, HB3.out⟩
  case round =>
    clear c0 c1 c2 c3
    obtain ⟨k, hk, rfl, rfl, hnx⟩ := hrel
    have hsize := hnx.size
    by_cases hlt : k < 4
    · have hix := fun w' => idx4 a0 b0 e0 d0 k hlt w'
      have hv := four_lt a0 b0 e0 d0 k l0 l1 l2 l3
      have hT := tellK_succ (a0, b0, e0, d0) k
      have hTl := tellK_len (a0, b0, e0, d0) k
      obtain ⟨V, hV⟩ : ∃ V, V = four a0 b0 e0 d0 k := ⟨_, rfl⟩
      rw [← hV] at hix hv
      have CL4 : Hid (∀ w', Calls Tryd.prog 24 #[.int .u64 (V : Int), .int .i64 4] w' fun e w'' => e = .returned (.string (strOf (lowL V 4))) ∧ Below w'.heap.size w' w'') := fun w' => low_any V 4 (by omega) (by omega) w'
      have HT : Hid (strOf (tellK (a0, b0, e0, d0) k) ++ strOf (lowL V 4) = strOf (tellK (a0, b0, e0, d0) (k + 1))) := by
        show _ = _
        rw [hT, hV]
        exact (strOf_append _ _).symm
      have s1 : (strOf (tellK (a0, b0, e0, d0) k)).size = 4 * k := by rw [strOf_size, hTl]
      have s2 : (strOf (lowL V 4)).size = 4 := by rw [strOf_size, lowL_len]
      clear hT hTl hV
      generalize strOf (tellK (a0, b0, e0, d0) k) = O at *
      generalize strOf (lowL V 4) = OV at *
      go_wp2_with (go_at_call 24; refine Calls.mono (CL4.out _) ?_; rintro e w9 ⟨rfl, hb9⟩)
      go_roundw
      case rel => exact ⟨k + 1, by omega, by go_num, by rw [HT.out], hnx.trans (hb9.mono hsize)⟩
      case measure => simp [intOf]; omega
    · obtain rfl : k = 4 := by omega
      go_wp2
      go_ret
      exact ⟨by rw [HQ3.out]; rfl, hnx⟩
end Go.Proofs.YtmmcpcgnbffnjaaDoor
