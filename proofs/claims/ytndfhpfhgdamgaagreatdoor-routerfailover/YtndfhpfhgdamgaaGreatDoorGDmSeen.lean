import Derived.Test.YtndfhpfhgdamgaaGreatDoorDmWrA
import Derived.Test.YtndfhpfhgdamgaaGreatDoorDmWrB
import Derived.Shelf.Strings.Builder1
import Derived.Shelf.Strings.Builder2
import Derived.Shelf.Bits.Mul64
import Derived.Shelf.Strings.Repeat
import Derived.Test.YtndfhpfhgdamgaaGreatDoorProg
import Derived.Test.YtndfhpfhgdamgaaGreatDoorGGmTake
namespace Go.Proofs.YtndfhpfhgdamgaaGreatDoor
open Go.RowKit
theorem blocksN_add (q : Q) (l : List UInt8) (j k : Nat) : blocksN q l (j + k) = blocksN (blocksN q l j) (l.drop (64 * j)) k := by
  induction k with
  | zero => rfl
  | succ k ih =>
    show mixN (blocksN q l (j + k)) ((l.drop (64 * (j + k))).take 64) = mixN (blocksN (blocksN q l j) (l.drop (64 * j)) k) (((l.drop (64 * j)).drop (64 * k)).take 64)
    rw [ih, List.drop_drop, Nat.mul_add]
theorem blocksN_append (q : Q) (l m : List UInt8) (k : Nat) (h : 64 * k ≤ l.length) : blocksN q (l ++ m) k = blocksN q l k := by
  induction k with
  | zero => rfl
  | succ k ih =>
    show mixN (blocksN q (l ++ m) k) (((l ++ m).drop (64 * k)).take 64) = mixN (blocksN q l k) ((l.drop (64 * k)).take 64)
    rw [ih (by omega), List.drop_append_of_le_length (by omega), List.take_append_of_le_length (by rw [List.length_drop]; omega)]
/-- a running that has seen t -/
structure Seen (q : Q) (n : Nat) (r t : List UInt8) : Prop where
  num : n = t.length
  len : r.length = 64
  words : 64 ≤ n → q = blocksN Q0 t (n / 64)
  rest : r.take (n % 64) = t.drop (64 * (n / 64))
theorem Seen.start {q : Q} {n : Nat} {r t : List UInt8} (h : Seen q n r t) : (if n < 64 then Q0 else q) = blocksN Q0 t (n / 64) := by
  by_cases hn : n < 64
  · rw [if_pos hn, show n / 64 = 0 by omega]; rfl
  · rw [if_neg hn]; exact h.words (by omega)
theorem seen_a {q : Q} {n : Nat} {r t l : List UInt8} (h : Seen q n r t) (hk : n % 64 = 0) :
    Seen (blocksN (if n < 64 then Q0 else q) l (l.length / 64)) (n + l.length) (over r 0 (l.drop (64 * (l.length / 64)))) (t ++ l) := by
  have hn := h.num
  have hl := h.len
  have hd : (t ++ l).drop (64 * (n / 64)) = l := by
    rw [List.drop_append_of_le_length (by omega), List.drop_eq_nil_of_le (by omega)]; rfl
  have hdl : (l.drop (64 * (l.length / 64))).length = l.length % 64 := by rw [List.length_drop]; omega
  refine ⟨by rw [List.length_append, hn], by rw [over_len (by rw [hdl]; omega)]; exact hl, fun _ => ?_, ?_⟩
  · rw [h.start, show (n + l.length) / 64 = n / 64 + l.length / 64 by omega, blocksN_add, hd, blocksN_append _ _ _ _ (by omega)]
  · rw [show (n + l.length) / 64 = n / 64 + l.length / 64 by omega, Nat.mul_add, ← List.drop_drop, hd]
    unfold over
    rw [List.take_zero, List.nil_append, show (n + l.length) % 64 = (l.drop (64 * (l.length / 64))).length by rw [hdl]; omega, List.take_append_of_le_length (Nat.le_refl _), List.take_of_length_le (Nat.le_refl _)]
theorem over_take {r l : List UInt8} {k : Nat} (hk : k ≤ r.length) : (over r k l).take (k + l.length) = r.take k ++ l := by
  unfold over
  rw [List.take_append_of_le_length (by simp; omega), List.take_of_length_le (by simp; omega)]
theorem seen_b {q : Q} {n : Nat} {r t l : List UInt8} (h : Seen q n r t) (hsm : n % 64 + l.length < 64) :
    Seen (if n < 64 then Q0 else q) (n + l.length) (over r (n % 64) l) (t ++ l) := by
  have hn := h.num
  have hl := h.len
  refine ⟨by rw [List.length_append, hn], by rw [over_len (by omega)]; exact hl, fun _ => ?_, ?_⟩
  · rw [h.start, show (n + l.length) / 64 = n / 64 by omega, blocksN_append _ _ _ _ (by omega)]
  · rw [show (n + l.length) % 64 = n % 64 + l.length by omega, over_take (by omega), h.rest, show (n + l.length) / 64 = n / 64 by omega, List.drop_append_of_le_length (by omega)]
theorem seen_c {q : Q} {n : Nat} {r t l : List UInt8} (h : Seen q n r t) (hk : 0 < n % 64) (hsm : 64 ≤ n % 64 + l.length) :
    Seen (tailQ (if n < 64 then Q0 else q) (over r (n % 64) (l.take (64 - n % 64))) (l.drop (64 - n % 64))) (n + l.length) (tailR (over r (n % 64) (l.take (64 - n % 64))) (l.drop (64 - n % 64))) (t ++ l) := by
  have hn := h.num
  have hl := h.len
  have htl : (l.take (64 - n % 64)).length = 64 - n % 64 := by rw [List.length_take]; omega
  have hr1 : over r (n % 64) (l.take (64 - n % 64)) = ((t ++ l).drop (64 * (n / 64))).take 64 := by
    have := over_take (r := r) (l := l.take (64 - n % 64)) (k := n % 64) (by omega)
    rw [htl, List.take_of_length_le (by rw [over_len (by rw [htl]; omega)]; omega)] at this
    have e1 : (t.drop (64 * (n / 64))).take 64 = t.drop (64 * (n / 64)) := List.take_of_length_le (by rw [List.length_drop]; omega)
    have e2 : 64 - (t.drop (64 * (n / 64))).length = 64 - n % 64 := by rw [List.length_drop]; omega
    rw [this, h.rest, List.drop_append_of_le_length (by omega), List.take_append, e1, e2]
  have hd : (t ++ l).drop (64 * (n / 64 + 1)) = l.drop (64 - n % 64) := by
    rw [List.drop_append, List.drop_eq_nil_of_le (by omega), List.nil_append]
    congr 1
    omega
  have hq1 : mixN (if n < 64 then Q0 else q) (over r (n % 64) (l.take (64 - n % 64))) = blocksN Q0 (t ++ l) (n / 64 + 1) := by
    rw [h.start, hr1, ← blocksN_append Q0 t l _ (by omega)]
    rfl
  have hl1 : (l.drop (64 - n % 64)).length = l.length - (64 - n % 64) := List.length_drop
  have hdl : ((l.drop (64 - n % 64)).drop (64 * ((l.drop (64 - n % 64)).length / 64))).length = (n + l.length) % 64 := by rw [List.length_drop, hl1]; omega
  have hdiv : (n + l.length) / 64 = n / 64 + 1 + (l.drop (64 - n % 64)).length / 64 := by rw [hl1]; omega
  have hol : (over r (n % 64) (l.take (64 - n % 64))).length = 64 := by rw [over_len (by rw [htl]; omega)]; exact hl
  refine ⟨by rw [List.length_append, hn], ?_, fun _ => ?_, ?_⟩
  · unfold tailR; rw [over_len (by rw [hdl, hol]; omega)]; exact hol
  · unfold tailQ
    have := blocksN_add Q0 (t ++ l) (n / 64 + 1) ((l.drop (64 - n % 64)).length / 64)
    rw [hd] at this
    rw [hq1, hdiv, this]
  · unfold tailR over
    rw [List.take_zero, List.nil_append, ← hdl, List.take_append_of_le_length (Nat.le_refl _), List.take_of_length_le (Nat.le_refl _), hdiv, Nat.mul_add, ← List.drop_drop, hd]
/-- running.write -/
theorem write_seen (b n : Nat) (q : Q) (r t : List UInt8) (ex : List Value) (s : ByteArray) (w : World) (hE : Env b w q n r ex) (hS : Seen q n r t) (hn : n ≤ 1099511627776) (hs : s.size ≤ 1099511627776) :
    Calls Tryz.prog 66 #[.pointer (some ⟨b, 0, none⟩), .string s] w fun e w' => e = .returned (.tuple #[]) ∧ (∃ q' r', Env b w' q' (n + s.size) r' ex ∧ Seen q' (n + s.size) r' (t ++ s.data.toList)) ∧ w.grownBy w' (some b) := by
  have hsz := size_data s
  have A := fun hk => seen_a (l := s.data.toList) hS hk
  have B := fun hk => seen_b (l := s.data.toList) hS hk
  have C := fun hk hm => seen_c (l := s.data.toList) hS hk hm
  rw [hsz] at A B C
  by_cases h64 : n < 64
  · simp only [if_pos h64] at A B C
    by_cases hk : n % 64 = 0
    · exact (write_a0 b n q r ex s w hE hn hs h64 hk).mono fun e w' h => ⟨h.1, ⟨_, _, h.2.1, A hk⟩, h.2.2⟩
    · by_cases hm : n % 64 + s.size < 64
      · exact (write_b0 b n q r ex s w hE hn hs h64 (by omega) hm).mono fun e w' h => ⟨h.1, ⟨_, _, h.2.1, B hm⟩, h.2.2⟩
      · exact (write_c0 b n q r ex s w hE hn hs h64 (by omega) (by omega)).mono fun e w' h => ⟨h.1, ⟨_, _, h.2.1, C (by omega) (by omega)⟩, h.2.2⟩
  · simp only [if_neg h64] at A B C
    by_cases hk : n % 64 = 0
    · exact (write_a b n q r ex s w hE hn hs (by omega) hk).mono fun e w' h => ⟨h.1, ⟨_, _, h.2.1, A hk⟩, h.2.2⟩
    · by_cases hm : n % 64 + s.size < 64
      · exact (write_b b n q r ex s w hE hn hs (by omega) (by omega) hm).mono fun e w' h => ⟨h.1, ⟨_, _, h.2.1, B hm⟩, h.2.2⟩
      · exact (write_c b n q r ex s w hE hn hs (by omega) (by omega) (by omega)).mono fun e w' h => ⟨h.1, ⟨_, _, h.2.1, C (by omega) (by omega)⟩, h.2.2⟩
end Go.Proofs.YtndfhpfhgdamgaaGreatDoor
namespace Go.Proofs
open Go.Shelf Go.RowKit
def Tryz.lays105_ren : Go.Shelf.Ren := ⟨fun | 105 => 84 | 212 => 92 | 99 => 95 | 165 => 96 | 166 => 97 | 170 => 98 | 169 => 99 | 263 => 115 | 264 => 116 | 206 => 117 | 240 => 118 | 241 => 119 | 276 => 128 | 277 => 129 | n => n, fun | 9 => 9 | 3 => 3 | 4 => 4 | 20 => 20 | 0 => 0 | 46 => 133 | 109 => 168 | 5 => 5 | 72 => 179 | 76 => 183 | 51 => 125 | 146 => 197 | 53 => 159 | 148 => 199 | 70 => 177 | 37 => 156 | 75 => 182 | 127 => 170 | 164 => 207 | 80 => 132 | n => n, fun | n => n⟩
theorem Tryz.lays105 : Go.Proofs.Lays.n105 Tryz.prog Tryz.lays105_ren := {
  mixed := by kernel_rfl
  f99 := Tryz.func95.trans (congrArg some (by kernel_rfl))
  f105 := Tryz.func84.trans (congrArg some (by kernel_rfl))
  f165 := Tryz.func96.trans (congrArg some (by kernel_rfl))
  f166 := Tryz.func97.trans (congrArg some (by kernel_rfl))
  f169 := Tryz.func99.trans (congrArg some (by kernel_rfl))
  f170 := Tryz.func98.trans (congrArg some (by kernel_rfl))
  f206 := Tryz.func117.trans (congrArg some (by kernel_rfl))
  f212 := Tryz.func92.trans (congrArg some (by kernel_rfl))
  f240 := Tryz.func118.trans (congrArg some (by kernel_rfl))
  f241 := Tryz.func119.trans (congrArg some (by kernel_rfl))
  f263 := Tryz.func115.trans (congrArg some (by kernel_rfl))
  f264 := Tryz.func116.trans (congrArg some (by kernel_rfl))
  f276 := Tryz.func128.trans (congrArg some (by kernel_rfl))
  f277 := Tryz.func129.trans (congrArg some (by kernel_rfl))
  t0 := Tryz.underlying0
  a0 := Tryz.isAgg0
  z0 := Tryz.sizeOf0
  v0 := Tryz.zeroValue0
  t3 := Tryz.underlying3
  a3 := Tryz.isAgg3
  z3 := Tryz.sizeOf3
  v3 := Tryz.zeroValue3
  t4 := Tryz.underlying4
  a4 := Tryz.isAgg4
  z4 := Tryz.sizeOf4
  v4 := Tryz.zeroValue4
  t5 := Tryz.underlying5
  a5 := Tryz.isAgg5
  z5 := Tryz.sizeOf5
  v5 := Tryz.zeroValue5
  t9 := Tryz.underlying9
  a9 := Tryz.isAgg9
  z9 := Tryz.sizeOf9
  v9 := Tryz.zeroValue9
  t20 := Tryz.underlying20
  a20 := Tryz.isAgg20
  z20 := Tryz.sizeOf20
  v20 := Tryz.zeroValue20
  t37 := Tryz.underlying156
  a37 := Tryz.isAgg156
  z37 := Tryz.sizeOf156
  v37 := Tryz.zeroValue156
  t46 := Tryz.underlying133
  a46 := Tryz.isAgg133
  z46 := Tryz.sizeOf133
  v46 := Tryz.zeroValue133
  t51 := Tryz.underlying125
  a51 := Tryz.isAgg125
  z51 := Tryz.sizeOf125
  v51 := Tryz.zeroValue125
  t53 := Tryz.underlying159
  a53 := Tryz.isAgg159
  z53 := Tryz.sizeOf159
  v53 := Tryz.zeroValue159
  t70 := Tryz.underlying177
  a70 := Tryz.isAgg177
  z70 := Tryz.sizeOf177
  v70 := Tryz.zeroValue177
  t72 := Tryz.underlying179
  a72 := Tryz.isAgg179
  z72 := Tryz.sizeOf179
  v72 := Tryz.zeroValue179
  t75 := Tryz.underlying182
  a75 := Tryz.isAgg182
  z75 := Tryz.sizeOf182
  v75 := Tryz.zeroValue182
  t76 := Tryz.underlying183
  a76 := Tryz.isAgg183
  z76 := Tryz.sizeOf183
  v76 := Tryz.zeroValue183
  t109 := Tryz.underlying168
  a109 := Tryz.isAgg168
  z109 := Tryz.sizeOf168
  v109 := Tryz.zeroValue168
  t127 := Tryz.underlying170
  a127 := Tryz.isAgg170
  z127 := Tryz.sizeOf170
  v127 := Tryz.zeroValue170
  t146 := Tryz.underlying197
  a146 := Tryz.isAgg197
  z146 := Tryz.sizeOf197
  v146 := Tryz.zeroValue197
  t148 := Tryz.underlying199
  a148 := Tryz.isAgg199
  z148 := Tryz.sizeOf199
  v148 := Tryz.zeroValue199
  t164 := Tryz.underlying207
  a164 := Tryz.isAgg207
  z164 := Tryz.sizeOf207
  v164 := Tryz.zeroValue207 }
theorem Tryz.Builder_Extra_105 : Builder.Extra Tryz.prog Tryz.lays105_ren := {
  sizeBuilder := by kernel_rfl
  liesBuilder := by kernel_rfl
  t5 := Tryz.underlying5
  a5 := Tryz.isAgg5
  z5 := Tryz.sizeOf5
  v5 := Tryz.zeroValue5
  infoByte := by kernel_rfl
  cellsByte := by kernel_rfl
  sizeByte := by kernel_rfl
  neB5 := by decide }
theorem Tryz.strings_Repeat (s : ByteArray) (c : Nat) (w : World) (hc : c ≤ 9223372036854775807) (hlen : s.size * c ≤ 140737488355328) :
    Calls Tryz.prog 84 #[.string s, .int .i64 c] w fun e w' => e = .returned (.string ⟨(Lib.repeatL s.data.toList c).toArray⟩) ∧ Below w.heap.size w w' := Any.strings_Repeat Tryz.lays105 Tryz.Builder_Extra_105 s c w hc hlen
end Go.Proofs
namespace Go.Proofs.YtndfhpfhgdamgaaGreatDoor
open Go.RowKit
def zerosN (n : Nat) : Nat := (119 - n % 64) % 64
def padL (n : Nat) : List UInt8 := [128] ++ List.replicate (zerosN n) 0 ++ lowL (n * 8) 8
theorem padL_len (n : Nat) : (padL n).length = 9 + zerosN n := by simp [padL, lowL_len]; omega
theorem pad_whole (n : Nat) : (n + (padL n).length) % 64 = 0 ∧ 64 ≤ n + (padL n).length := by
  rw [padL_len]; unfold zerosN; omega
def tellQ (q : Q) : List UInt8 := [] ++ lowL q.1 4 ++ lowL q.2.1 4 ++ lowL q.2.2.1 4 ++ lowL q.2.2.2 4
/-- the MD5 of a text -/
def md5L (t : List UInt8) : List UInt8 := tellQ (blocksN Q0 (t ++ padL t.length) ((t.length + (padL t.length).length) / 64))
theorem repeat0 (c : Nat) : Lib.repeatL [0] c = List.replicate c (0 : UInt8) := by
  induction c with
  | zero => rfl
  | succ c ih => simp [Lib.repeatL, ih, List.replicate_succ]
def four (a b c d : Nat) : Nat → Nat
  | 0 => a
  | 1 => b
  | 2 => c
  | 3 => d
  | _ => 0
theorem four_lt (a b c d k : Nat) (ha : a < 4294967296) (hb : b < 4294967296) (hc : c < 4294967296) (hd : d < 4294967296) : four a b c d k < 4294967296 := by
  match k with
  | 0 => exact ha
  | 1 => exact hb
  | 2 => exact hc
  | 3 => exact hd
  | k + 4 => show 0 < _; omega
theorem idx4 (a b c d : Nat) (k : Nat) (hk : k < 4) (w : World) : (Instr.index 127 (.agg #[.int .u32 (a : Int), .int .u32 (b : Int), .int .u32 (c : Int), .int .u32 (d : Int)]) (.int .i64 (k : Int))).run Tryz.prog w = .ok (.int .u32 (four a b c d k : Int)) w := by
  rcases (show k = 0 ∨ k = 1 ∨ k = 2 ∨ k = 3 by omega) with rfl | rfl | rfl | rfl <;> kernel_rfl
def tellK (q : Q) : Nat → List UInt8
  | 0 => []
  | k + 1 => tellK q k ++ lowL (four q.1 q.2.1 q.2.2.1 q.2.2.2 k) 4
theorem tellK_succ (q : Q) (k : Nat) : tellK q (k + 1) = tellK q k ++ lowL (four q.1 q.2.1 q.2.2.1 q.2.2.2 k) 4 := rfl
theorem tellK_len (q : Q) (k : Nat) : (tellK q k).length = 4 * k := by
  induction k with
  | zero => rfl
  | succ k ih => rw [tellK_succ, List.length_append, ih, lowL_len]; omega
theorem strOf_append (a b : List UInt8) : strOf (a ++ b) = strOf a ++ strOf b := by
  have : (strOf a ++ strOf b).data.toList = a ++ b := by
    rw [ByteArray.data_append, Array.toList_append]; rfl
  rw [← strOf_toList (strOf a ++ strOf b), this]
theorem env_new {w : World} {q : Q} {n : Nat} {r : List UInt8} {ex : List Value} {ty : TypeId} (hr : r.length = 64) (hq : Q4 q) (hw : 3 ≤ w.heap.size) (hT1 : TabS 0 w) (hT2 : TabT 1 w) :
    Env w.heap.size (w.alloc (.cells (Cl q n r ex).toArray ty)) q n r ex := by
  have hb : (w.alloc (.cells (Cl q n r ex).toArray ty)).heap[w.heap.size]? = some (.cells (Cl q n r ex).toArray ty (0, 0)) := by
    show (w.heap.push _)[w.heap.size]? = _
    rw [Array.getElem?_push, if_pos rfl]
  have hB : Below w.heap.size w (w.alloc (.cells (Cl q n r ex).toArray ty)) := (Below.refl _ w).alloc (Nat.le_refl _) _
  refine ⟨fun j v hv => ?_, there_of_block hb 0 (by rw [List.size_toArray, Cl_len, hr]; omega), ⟨hw, by simp⟩, hr, hq, hT1.below hB (by omega), hT2.below hB (by omega)⟩
  rw [cell_of_row _ _ (0 + j) _ _ _ hb, Nat.zero_add]
  simpa using hv
set_option maxHeartbeats 2000000 in
set_option maxRecDepth 100000 in
theorem sum_any (q : Q) (n : Nat) (r t : List UInt8) (w : World) (hS : Seen q n r t) (hq : Q4 q) (hn : n ≤ 1099511627776) (hw : 3 ≤ w.heap.size) (hT1 : TabS 0 w) (hT2 : TabT 1 w) :
    Calls Tryz.prog 67 #[.agg (Cl q n r []).toArray] w fun e w' => e = .returned (.string (strOf (md5L t))) ∧ Below w.heap.size w w' := by
  have hE0 : Env w.heap.size (w.alloc (.cells (Cl q n r []).toArray 130)) q n r [] := env_new hS.len hq hw hT1 hT2
  have hB0 : Below w.heap.size w (w.alloc (.cells (Cl q n r []).toArray 130)) := (Below.refl _ w).alloc (Nat.le_refl _) _
  have HE0 := hide hE0
  have hlen : (Cl q n r []).length = 69 := by rw [Cl_len, hS.len]; rfl
  have hc4 : (Cl q n r [])[4]'(by rw [hlen]; omega) = .int .i64 (n : Int) := by simp [Cl, qL]
  have HS := hide hS
  have HB0 := hide hB0
  clear hE0 hB0 hS
  have CL8 : Hid (∀ w', Calls Tryz.prog 83 #[.int .u64 ((n : Int) * 8), .int .i64 8] w' fun e w'' => e = .returned (.string (strOf (lowL (n * 8) 8))) ∧ Below w'.heap.size w' w'') := fun w' => by
    have := low_any (n * 8) 8 (by omega) (by omega) w'
    rw [Int.natCast_mul] at this
    exact this
  generalize hCL : Cl q n r [] = CL at *
  have HCL := hide hCL
  clear hCL
  go_enter Tryz.func67, Tryz.ntmps67
  go_wp2_with fail
  refine Calls.mono (CL8.out _) ?_
  rintro e w1 ⟨rfl, hb1⟩
  have hE1 := HE0.out.below hb1
  have hB1 : Below w.heap.size w w1 := HB0.out.trans (hb1.mono (by simp))
  clear hb1 hc4 hlen
  have HE1 := hide hE1
  have HB1 := hide hB1
  have cn := hE1.count
  clear hE1 hB1 HE0 HB0
  have hz0 : ((119 - (n : Int) % 64) % 64) = (zerosN n : Int) := by unfold zerosN; omega
  obtain ⟨R, hR⟩ : ∃ R : ByteArray, R = ⟨(Lib.repeatL (ByteArray.mk #[0]).data.toList (zerosN n)).toArray⟩ := ⟨_, rfl⟩
  have hRd : R.data.toList = List.replicate (zerosN n) 0 := by rw [hR]; exact repeat0 (zerosN n)
  have hzl : zerosN n < 64 := by unfold zerosN; omega
  have hRs : R.size = zerosN n := by rw [← size_data, hRd, List.length_replicate]
  have CRP : Hid (∀ w', Calls Tryz.prog 84 #[.string ⟨#[0]⟩, .int .i64 (zerosN n : Int)] w' fun e w'' => e = .returned (.string R) ∧ Below w'.heap.size w' w'') := fun w' => by
    rw [hR]
    exact Tryz.strings_Repeat ⟨#[0]⟩ (zerosN n) w' (by omega) (by show 1 * _ ≤ _; omega)
  have HRD := hide hRd
  clear hR hRd
  obtain ⟨L, hL⟩ : ∃ L, L = strOf (lowL (n * 8) 8) := ⟨_, rfl⟩
  have hLs : L.size = 8 := by rw [hL, strOf_size, lowL_len]
  rw [← hL]
  have HL := hide hL
  clear hL
  have hPd : (⟨#[128]⟩ ++ R ++ L : ByteArray).data.toList = padL n := by
    rw [ByteArray.data_append, ByteArray.data_append, Array.toList_append, Array.toList_append, HRD.out, HL.out, strOf_data]
    rfl
  have hPs : (⟨#[128]⟩ ++ R ++ L : ByteArray).size = (padL n).length := by rw [← size_data, hPd]
  have h128 : (ByteArray.mk #[128]).size = 1 := rfl
  obtain ⟨P, hP⟩ : ∃ P : ByteArray, P = ⟨#[128]⟩ ++ R ++ L := ⟨_, rfl⟩
  rw [← hP] at hPd hPs
  have hPl := padL_len n
  generalize hz9 : zerosN n = Z at *
  have HPD := hide hPd
  have HPS := hide hPs
  have HPL := hide hPl
  clear hPd hPs hPl
  have hPs' : (⟨#[128]⟩ ++ R ++ L : ByteArray).size ≤ 9223372036854775807 := by rw [← hP, HPS.out, HPL.out]; omega
  have hPs2 : (⟨#[128]⟩ ++ R : ByteArray).size ≤ 9223372036854775807 := by rw [ByteArray.size_append, h128, hRs]; omega
  have HP := hide hP
  clear hP
  go_wp2_with fail
  refine Calls.mono (CRP.out _) ?_
  rintro e w2 ⟨rfl, hb2⟩
  have hE2 := HE1.out.below hb2
  have hB2 : Below w.heap.size w w2 := HB1.out.trans (hb2.mono HB1.out.size)
  have HE2 := hide hE2
  have HB2 := hide hB2
  clear hb2 hE2 hB2 cn HE1 HB1
  go_wp2_with fail
  rw [← HP.out]
  refine Calls.mono (write_seen w.heap.size n q r t [] P w2 HE2.out HS.out hn (by rw [HPS.out, HPL.out]; omega)) ?_
  rintro e w3 ⟨rfl, ⟨q3, r3, hE3, hS3⟩, hg3⟩
  have hB3 : Below w.heap.size w w3 := HB2.out.grown hg3 HB2.out.size (fun j hj => by cases hj; exact Nat.le_refl _)
  have hq3 : q3 = blocksN Q0 (t ++ padL n) ((n + (padL n).length) / 64) := by
    have := hS3.words (by have := (pad_whole n).2; rw [HPS.out]; exact this)
    rw [HPD.out, HPS.out] at this
    exact this
  have HQ3 : Hid (md5L t = tellQ q3) := by
    show md5L t = tellQ q3
    unfold md5L
    rw [← HS.out.num, ← hq3]
  have h4 := hE3.q4
  have hbl := hE3.blk
  obtain ⟨c0, c1, c2, c3⟩ := hE3.word
  have HB3 := hide hB3
  clear hE3 hS3 hg3 hB3 hq3 HE2 HB2
  obtain ⟨a0, b0, e0, d0⟩ := q3
  obtain ⟨l0, l1, l2, l3⟩ := h4
  simp only at c0 c1 c2 c3 l0 l1 l2 l3
  go_wp2_with fail
  go_loopw [5, 26] (fun o i wr => ∃ k : Nat, k ≤ 4 ∧ i = .int .i64 k ∧ o = .string (strOf (tellK (a0, b0, e0, d0) k)) ∧ Below w.heap.size w wr) (fun _ i _ => 4 - (intOf i).toNat)
  case atStart => exact ⟨0, by omega, rfl, rfl, HB3.out⟩
  case round =>
    clear c0 c1 c2 c3
    obtain ⟨k, hk, rfl, rfl, hnx⟩ := hrel
    have hsize := hnx.size
    by_cases hlt : k < 4
    · have hix := fun w' => idx4 a0 b0 e0 d0 k hlt w'
      have hv := four_lt a0 b0 e0 d0 k l0 l1 l2 l3
      have hT := tellK_succ (a0, b0, e0, d0) k
      have hTl := tellK_len (a0, b0, e0, d0) k
      obtain ⟨V, hV⟩ : ∃ V, V = four a0 b0 e0 d0 k := ⟨_, rfl⟩
      rw [← hV] at hix hv
      have CL4 : Hid (∀ w', Calls Tryz.prog 83 #[.int .u64 (V : Int), .int .i64 4] w' fun e w'' => e = .returned (.string (strOf (lowL V 4))) ∧ Below w'.heap.size w' w'') := fun w' => low_any V 4 (by omega) (by omega) w'
      have HT : Hid (strOf (tellK (a0, b0, e0, d0) k) ++ strOf (lowL V 4) = strOf (tellK (a0, b0, e0, d0) (k + 1))) := by
        show _ = _
        rw [hT, hV]
        exact (strOf_append _ _).symm
      have s1 : (strOf (tellK (a0, b0, e0, d0) k)).size = 4 * k := by rw [strOf_size, hTl]
      have s2 : (strOf (lowL V 4)).size = 4 := by rw [strOf_size, lowL_len]
      clear hT hTl hV
      generalize strOf (tellK (a0, b0, e0, d0) k) = O at *
      generalize strOf (lowL V 4) = OV at *
      go_wp2_with (go_at_call 83; refine Calls.mono (CL4.out _) ?_; rintro e w9 ⟨rfl, hb9⟩)
      go_roundw
      case rel => exact ⟨k + 1, by omega, by go_num, by rw [HT.out], hnx.trans (hb9.mono hsize)⟩
      case measure => simp [intOf]; omega
    · obtain rfl : k = 4 := by omega
      go_wp2
      go_ret
      exact ⟨by rw [HQ3.out]; rfl, hnx⟩
end Go.Proofs.YtndfhpfhgdamgaaGreatDoor
namespace Go.Proofs.YtndfhpfhgdamgaaGreatDoor
open Go.RowKit
/-- a list of texts in memory -/
def Lies (b off : Nat) (w : World) (xs : List ByteArray) : Prop := ∀ (j : Nat) x, xs[j]? = some x → w.cell? ⟨b, off + j, none⟩ = some (.string x)
def cat (xs : List ByteArray) : List UInt8 := (xs.map (·.data.toList)).flatten
theorem cat_snoc (xs : List ByteArray) (k : Nat) (h : k < xs.length) : cat (xs.take (k + 1)) = cat (xs.take k) ++ xs[k].data.toList := by
  unfold cat
  rw [List.take_succ_eq_append_getElem h, List.map_append, List.flatten_append]
  simp
theorem cat_nil : cat [] = [] := rfl
end Go.Proofs.YtndfhpfhgdamgaaGreatDoor
namespace Go.Proofs.YtndfhpfhgdamgaaGreatDoor
open Go.RowKit
theorem zero_run : Tryz.zeroCells130 = (Cl (0, 0, 0, 0) 0 (List.replicate 64 0) []).toArray := by kernel_rfl
theorem seen_new (q : Q) : Seen q 0 (List.replicate 64 0) [] := ⟨rfl, rfl, fun h => by omega, rfl⟩
theorem cat_take_le (xs : List ByteArray) (k : Nat) : (cat (xs.take k)).length ≤ (cat xs).length := by
  have : cat xs = cat (xs.take k) ++ cat (xs.drop k) := by
    unfold cat
    rw [← List.flatten_append, ← List.map_append, List.take_append_drop]
  rw [this, List.length_append]
  omega
theorem cat_mem {xs : List ByteArray} {k : Nat} (h : k < xs.length) : xs[k].size ≤ (cat xs).length := by
  have h1 := cat_take_le xs (k + 1)
  rw [cat_snoc xs k h, List.length_append, size_data] at h1
  omega
set_option maxHeartbeats 2000000 in
set_option maxRecDepth 100000 in
/-- digest.MD5 -/
theorem md5_any (ao : Option Addr) (b off cap : Nat) (xs : List ByteArray) (w : World) (hao : 0 < xs.length → ao = some ⟨b, off, none⟩) (hb : 0 < xs.length → b < w.heap.size) (hl : Lies b off w xs) (hlen : xs.length ≤ 1099511627776) (hs : (cat xs).length ≤ 1099511627776) (hw : 3 ≤ w.heap.size) (hT1 : TabS 0 w) (hT2 : TabT 1 w) :
    Calls Tryz.prog 34 #[.slice ao xs.length cap] w fun e w' => e = .returned (.string (strOf (md5L (cat xs)))) ∧ Below w.heap.size w w' := by
  have hE0 : Env w.heap.size (w.alloc (.cells Tryz.zeroCells130 130)) (0, 0, 0, 0) 0 (List.replicate 64 0) [] := by
    rw [zero_run]
    exact env_new rfl ⟨by decide, by decide, by decide, by decide⟩ hw hT1 hT2
  have hB0 : Below w.heap.size w (w.alloc (.cells Tryz.zeroCells130 130)) := (Below.refl _ w).alloc (Nat.le_refl _) _
  have HE0 := hide hE0
  have HB0 := hide hB0
  have HL := hide hl
  clear hE0 hB0 hl
  go_enter Tryz.func34, Tryz.ntmps34
  go_wp2_with fail
  go_loopw [8] (fun i wr => ∃ k : Nat, k ≤ xs.length ∧ i = .int .i64 k ∧ (∃ q n r, Env w.heap.size wr q n r [] ∧ Seen q n r (cat (xs.take k))) ∧ Below w.heap.size w wr) (fun i _ => xs.length - (intOf i).toNat)
  case atStart => exact ⟨0, Nat.zero_le _, rfl, ⟨_, _, _, HE0.out, seen_new _⟩, HB0.out⟩
  case round =>
    obtain ⟨k, hk, rfl, ⟨q, n, r, hE, hS⟩, hnx⟩ := hrel
    have hn : n ≤ 1099511627776 := by rw [hS.num]; exact Nat.le_trans (cat_take_le xs k) hs
    by_cases hlt : k < xs.length
    · obtain rfl := hao (by omega)
      have hb' := hb (by omega)
      have hc := (hnx.cell (p := ⟨b, off + k, none⟩) hb').trans (HL.out k _ (List.getElem?_eq_getElem hlt))
      have hx := cat_mem hlt
      have hS' := cat_snoc xs k hlt
      generalize xs[k] = X at *
      have C : Hid (Calls Tryz.prog 66 #[.pointer (some ⟨w.heap.size, 0, none⟩), .string X] wr fun e w' => e = .returned (.tuple #[]) ∧ (∃ q' r', Env w.heap.size w' q' (n + X.size) r' [] ∧ Seen q' (n + X.size) r' (cat (xs.take (k + 1)))) ∧ wr.grownBy w' (some w.heap.size)) := by
        rw [hS']
        exact write_seen w.heap.size n q r _ [] X wr hE hS hn (by omega)
      have HN := hide hnx
      clear hS' hE hS hnx
      go_wp2_with (go_at_call 66; refine Calls.mono C.out ?_; rintro e w9 ⟨rfl, ⟨q9, r9, hE9, hS9⟩, hg9⟩)
      go_roundw
      case rel => exact ⟨k + 1, by omega, by go_num, ⟨_, _, _, hE9, hS9⟩, HN.out.grown hg9 HN.out.size (fun j hj => by cases hj; exact Nat.le_refl _)⟩
      case measure => simp [intOf]; omega
    · obtain rfl : k = xs.length := by omega
      rw [List.take_of_length_le (Nat.le_refl _)] at hS
      have hR := hE.range
      have hCl : (Cl q n r []).length = 69 := by rw [Cl_len, hE.len]; rfl
      have C : Hid (Calls Tryz.prog 67 #[.agg (Cl q n r []).toArray] wr fun e w' => e = .returned (.string (strOf (md5L (cat xs)))) ∧ Below wr.heap.size wr w') :=
        sum_any q n r _ wr hS hE.q4 hn (by have := hnx.size; omega) hE.sines hE.turns
      have HN := hide hnx
      clear hE hS hnx
      generalize Cl q n r [] = CL at *
      go_wp2_with (first
        | (refine wpList_load_mid rfl 130 _ rfl w.heap.size 0 rfl CL _ hR Tryz.underlying130 rfl (by rw [hCl]; kernel_rfl) ?_)
        | (go_at_call 67; refine Calls.mono C.out ?_; rintro e w9 ⟨rfl, hb9⟩))
      go_ret
      exact ⟨rfl, HN.out.trans (hb9.mono HN.out.size)⟩
end Go.Proofs.YtndfhpfhgdamgaaGreatDoor
