import Derived.Test.YtghhejgmheejkaaDoorGFeFld
import Derived.Laws.OwnMore
import Derived.Lib.Split
import Derived.Deep.QuietTactic
import Derived.BigQuiet
import Derived.Deep.RegionHeld3
namespace Go.Proofs.YtghhejgmheejkaaDoor
open Go.RowKit
theorem fitM_all {m : MM} {k : Nat} (h : (List.range 10).all (fitAt m k) = true) : ∀ i, i < 10 → fitAt m k i = true := fun i hi => List.all_eq_true.1 h i (List.mem_range.2 hi)
theorem textL_len (m : MM) (k : Nat) (hk : m.kind = (k : Int)) (h16 : k ≤ 16) (hf : ∀ i, i < 10 → fitAt m k i = true) : (textL m).length ≤ 900000 := by
  have h1 := flat_len (m := m) (k := k) headF (fun i hi => hf i (by have := headF_lt i hi; omega))
  have h2 := flat_len (m := m) (k := k) (bodyF k) (fun i hi => hf i (bodyF_lt k h16 i hi).2)
  have h3 := bodyF_len k h16
  have e : bodyL m = (bodyF k).flatMap (fldL m) := by unfold bodyL; rw [hk]; rfl
  have h4 : headF.length = 3 := rfl
  unfold textL headL5
  rw [e]
  simp only [List.length_append, List.length_cons, List.length_nil, dig_len]
  omega
theorem msg_info : (Tryd.prog.info? 26).map (·.size) = some 11 := by kernel_rfl
theorem wpList_loadMsg {w : World} {ops : Array Oper} {rest : List Oper} {o : Oper} {a : Act} {Q : Exit → Act → World → Prop} (hgd : o.guard = none) (x : Operand) (ho : o.op = .load 26 x) (m : MM) (b : Nat) (hx : a.eval x = .pointer (some ⟨b, 0, none⟩)) (hO : w.heap[b]? = some (.cells (msgV m) 26))
    (h : wpList Tryd.prog ops Q rest (a.put o.dst (.agg (msgV m))) w) : wpList Tryd.prog ops Q (o :: rest) a w := by
  have hl : (Instr.loadAt 26 (.pointer (some ⟨b, 0, none⟩))).run Tryd.prog w = .ok (.agg (msgV m)) w := by
    simp only [Instr.loadAt, Instr.sureAddr, Sem.run_bind, Sem.run_pure, Result.andThen]
    exact run_loadVar_row _ _ 26 26 (msgV m) (0, 0) _ hO Tryd.underlying26 rfl msg_info
  refine wpList_plain hgd fun K hK => ?_
  unfold Oper.wp execOp
  simp only [ho, Sem.run_bind, Sem.run_pure, Result.andThen_ok, hx, hl]
  exact hK _ _ h
/-- what Encode answers -/
def encS (m : MM) : ByteArray := if 1 ≤ m.kind ∧ m.kind ≤ 16 then if fitM m = true then strOf (textL m) ++ strOf (le4 (crcN 0 (textL m))) else ⟨#[]⟩ else ⟨#[]⟩
def encE (m : MM) : Int := if 1 ≤ m.kind ∧ m.kind ≤ 16 then if fitM m = true then 0 else 50 else 53
set_option maxHeartbeats 4000000 in
set_option maxRecDepth 100000 in
/-- Encode -/
theorem encode_kind (m : MM) (w : World) (h : ¬ (1 ≤ m.kind ∧ m.kind ≤ 16)) :
    Calls Tryd.prog 8 #[.agg (msgV m)] w fun e w' => e = .returned (.tuple #[.string (encS m), .int .i64 (encE m)]) ∧ Below w.heap.size w w' := by
  have e1 : encS m = ⟨#[]⟩ := by unfold encS; rw [if_neg h]
  have e2 : encE m = 53 := by unfold encE; rw [if_neg h]
  rw [e1, e2]
  have C := hide (fun w' => isKind_any m.kind w')
  rw [decide_eq_false h] at C
  unfold msgV
  go_enter Tryd.func8, Tryd.ntmps8
  go_wp2_with fail
  refine Calls.mono (C.out _) ?_
  rintro x w1 ⟨rfl, rfl⟩
  go_wp2_with fail
  go_ret2
  exact ⟨rfl, (Below.refl _ w).alloc (Nat.le_refl _) _⟩
set_option maxHeartbeats 4000000 in
set_option maxRecDepth 100000 in
theorem encode_fit (m : MM) (k : Nat) (h1 : 1 ≤ k) (h16 : k ≤ 16) (hk : m.kind = (k : Int)) (w : World) (hT : TabF w) (h6 : 6 ≤ w.heap.size) (hT4 : Tab4 5 w) :
    Calls Tryd.prog 8 #[.agg (msgV m)] w fun e w' => e = .returned (.tuple #[.string (encS m), .int .i64 (encE m)]) ∧ Below w.heap.size w w' := by
  have C := hide (fun w' => isKind_any m.kind w')
  rw [decide_eq_true (by omega), hk] at C
  obtain ⟨W0, hW0⟩ : ∃ W0, W0 = w.alloc (.cells (msgV m) 26) := ⟨_, rfl⟩
  have b0 : Below w.heap.size w W0 := by rw [hW0]; exact (Below.refl _ w).alloc (Nat.le_refl _) _
  have hO0 : W0.heap[w.heap.size]? = some (.cells (msgV m) 26) := by rw [hW0]; exact heap_last w _
  have kd : W0.cell? ⟨w.heap.size, 0, none⟩ = some (.int .i64 (k : Int)) := by rw [hW0, ← hk]; simp [msgV]
  go_enter Tryd.func8, Tryd.ntmps8
  go_upto_region 1 with fail
  rw [← hW0]
  clear hW0
  go_wp2_with fail
  refine Calls.mono (C.out _) ?_
  rintro x w1 ⟨rfl, rfl⟩
  go_upto_region 3 with fail
  have CO := hide (cellsOf_any m W0)
  go_wp2_with (refine wpList_loadMsg rfl (.tmp 1) rfl m w.heap.size rfl hO0 ?_)
  refine Calls.mono CO.out ?_
  rintro x w2 ⟨rfl, b2⟩
  obtain ⟨W3, hW3⟩ : ∃ W3, W3 = w2.alloc (.cells (cellsV m) 45) := ⟨_, rfl⟩
  have r3 : Below w2.heap.size w2 W3 := by rw [hW3]; exact (Below.refl _ w2).alloc (Nat.le_refl _) _
  have hb3 : Below W0.heap.size W0 W3 := b2.trans (r3.mono b2.size)
  have hO3 : W3.heap[w2.heap.size]? = some (.cells (cellsV m) 45) := by rw [hW3]; exact heap_last w2 _
  have s0 := World.block_lt_of_cell? W0 _ kd
  have s3 : w2.heap.size < W3.heap.size := by rw [hW3]; simp
  have B3 := hide (b0.trans (hb3.mono b0.size))
  have KD : Hid (∀ w', Below W3.heap.size W3 w' → w'.cell? ⟨w.heap.size, 0, none⟩ = some (.int .i64 (k : Int))) := fun w' hb => (hb.cell (by exact Nat.lt_of_lt_of_le s0 hb3.size)).trans ((hb3.cell (by exact s0)).trans kd)
  have KO : Hid (∀ w', Below W3.heap.size W3 w' → w'.heap[w2.heap.size]? = some (.cells (cellsV m) 45)) := fun w' hb => (hb.block _ s3).trans hO3
  have FT := hide (fit_any m k h1 h16 W3 (hT.below B3.out))
  have kd3 := KD.out _ (Below.refl _ _)
  clear CO r3 hb3 b2 kd hO0 C b0
  go_upto_region 4 with (refine wpList_storeNew (w0 := w2) rfl (.tmp 4) (.tmp 11) rfl _ rfl rfl m rfl _ rfl rfl ?_)
  rw [← hW3]
  clear hW3
  go_wp2_with (refine wpList_loadAll rfl (.tmp 4) rfl m w2.heap.size rfl hO3 _ rfl ?_)
  refine Calls.mono FT.out ?_
  rintro x w4 ⟨rfl, b4⟩
  have eF : (List.range 10).all (fitAt m k) = fitM m := by unfold fitM; rw [hk]; rfl
  have B4 := hide (B3.out.trans (b4.mono B3.out.size))
  have R4 := hide b4
  have kd4 := KD.out _ b4
  have hO4 := KO.out _ b4
  clear b4 FT kd3 hO3
  have hkr : 1 ≤ m.kind ∧ m.kind ≤ 16 := by omega
  cases hfit : fitM m with
  | false =>
    have e1 : encS m = ⟨#[]⟩ := by unfold encS; rw [if_pos hkr, if_neg (by rw [hfit]; simp)]
    have e2 : encE m = 50 := by unfold encE; rw [if_pos hkr, if_neg (by rw [hfit]; simp)]
    rw [eF, hfit]
    have E1 := hide e1
    have E2 := hide e2
    clear e1 e2 eF
    go_wp2_with fail
    go_ret2
    exact ⟨by rw [E1.out, E2.out]; rfl, B4.out⟩
  | true =>
    have e1 : encS m = strOf (textL m) ++ strOf (le4 (crcN 0 (textL m))) := by unfold encS; rw [if_pos hkr, if_pos hfit]
    have e2 : encE m = 0 := by unfold encE; rw [if_pos hkr, if_pos hfit]
    have hfa := fitM_all (eF.trans hfit)
    have WR := hide (write_any m k h1 h16 hk hfa w4 (hT.below B4.out) (Nat.le_trans h6 B4.out.size))
    have hsz : (textL m).length ≤ 900000 := textL_len m k hk h16 hfa
    have SU : Hid (∀ w', Below w.heap.size w w' → Calls Tryd.prog 20 #[.string (strOf (textL m))] w' fun e w'' => e = .returned (.string (strOf (le4 (crcN 0 (textL m))))) ∧ Below w'.heap.size w' w'') := fun w' hb => sumOf_any (strOf (textL m)) (by rw [strOf_size]; omega) w' (fun j hj => (hb.cell (World.block_lt_of_cell? w _ (hT4 j hj))).trans (hT4 j hj))
    have z1 : (strOf (textL m)).size ≤ 900000 := by rw [strOf_size]; exact hsz
    have z2 : (strOf (le4 (crcN 0 (textL m)))).size = 4 := by rw [strOf_size]; rfl
    rw [eF, hfit]
    have E1 := hide e1
    have E2 := hide e2
    clear e1 e2 eF hfa hsz hT4
    go_wp2_with (refine wpList_loadAll rfl (.tmp 4) rfl m w2.heap.size rfl hO4 _ rfl ?_)
    refine Calls.mono WR.out ?_
    rintro x w5 ⟨rfl, b5⟩
    have B5 := hide (B4.out.trans (b5.mono B4.out.size))
    clear b5 WR
    have S5 := hide (SU.out _ B5.out)
    generalize strOf (textL m) = TX at *
    generalize strOf (le4 (crcN 0 (textL m))) = SX at *
    go_wp2_with fail
    refine Calls.mono S5.out ?_
    rintro x w6 ⟨rfl, b6⟩
    have B6 := hide (B5.out.trans (b6.mono B5.out.size))
    clear b6 S5 SU
    go_wp2_with fail
    go_ret2
    exact ⟨by rw [E1.out, E2.out]; rfl, B6.out⟩
end Go.Proofs.YtghhejgmheejkaaDoor
namespace Go.Proofs.YtghhejgmheejkaaDoor
open Go.RowKit
theorem info5j : (Tryd.prog.info? 5).map (fun i => (i.zero, i.size, i.bytes)) = some (some (.int .u8 0), 1, 1) := by kernel_rfl
theorem cat_take_len (xs : List ByteArray) (k : Nat) : (cat (xs.take k)).length ≤ (cat xs).length := by
  have : cat xs = cat (xs.take k) ++ cat (xs.drop k) := by
    unfold cat
    rw [← List.flatten_append, ← List.map_append, List.take_append_drop]
  rw [this, List.length_append]
  omega
theorem one_cell' {x : Value} (hx : x.oneCell' = true) : ∀ u ∈ [x], u.oneCell' = true := by
  intro u hu; simp at hu; subst hu; exact hx
/-- a text written over -/
def turnB (x : ByteArray) : ByteArray := if x.size = 0 then ⟨#[120]⟩ else strOf (UInt8.ofNat ((x.data.toList.getD 0 0).toNat ^^^ 1) :: x.data.toList.drop 1)
theorem bxor8 (a b : Nat) (ha : a < 256) (hb : b < 256) : bits .xor .u8 (a : Int) (b : Int) = ((a ^^^ b : Nat) : Int) := by
  have hx : a ^^^ b < 2 ^ 8 := Nat.xor_lt_two_pow (by omega) (by omega)
  have o : ∀ c : Nat, c < 256 → (BitVec.ofInt 8 (c : Int)).toNat = c := fun c hc => by
    rw [BitVec.ofInt_natCast, BitVec.toNat_ofNat]; exact Nat.mod_eq_of_lt (by omega)
  show IntKind.u8.wrap ((BitVec.ofInt 8 (a : Int) ^^^ BitVec.ofInt 8 (b : Int)).toNat : Int) = _
  rw [BitVec.toNat_xor, o a ha, o b hb]
  exact u8_in (by omega) (by omega)
/-- the list, its first k texts written over -/
def ovK (xs : List ByteArray) (k : Nat) : List ByteArray := (xs.take k).map turnB ++ xs.drop k
theorem ovK_len (xs : List ByteArray) (k : Nat) : (ovK xs k).length = xs.length := by simp [ovK]; omega
theorem ovK_get (xs : List ByteArray) (k : Nat) (h : k < xs.length) : (ovK xs k)[k]? = some xs[k] := by
  unfold ovK
  rw [List.getElem?_append_right (by simp; omega)]
  simp only [List.length_map, List.length_take, List.getElem?_drop]
  rw [show min k xs.length = k by omega, Nat.sub_self, Nat.add_zero, List.getElem?_eq_getElem h]
theorem ovK_set (xs : List ByteArray) (k : Nat) (h : k < xs.length) : (ovK xs k).set k (turnB xs[k]) = ovK xs (k + 1) := by
  unfold ovK
  have hl : ((xs.take k).map turnB).length = k := by simp; omega
  rw [List.set_append_right _ _ (by omega), hl, Nat.sub_self, List.drop_eq_getElem_cons h, List.set_cons_zero, List.take_succ_eq_append_getElem h, List.map_append, List.append_assoc]
  rfl
theorem byte_string (w : World) (V : Nat) (hV : V < 256) : (convert 56 9 (.slice (some ⟨w.heap.size, 0, none⟩) 1 1)).run Tryd.prog (w.alloc (.cells #[.int .u8 (V : Int)] 5)).drew = .ok (.string (strOf [UInt8.ofNat V])) (w.alloc (.cells #[.int .u8 (V : Int)] 5)).drew := by
  have := run_convert_bytes_back (P := Tryd.prog) (w.alloc (.cells #[.int .u8 (V : Int)] 5)).drew 56 9 5 ⟨w.heap.size, 0, none⟩ 1 [UInt8.ofNat V] Tryd.underlying56 Tryd.underlying5 Tryd.underlying9 (fun j hj => by
    obtain rfl : j = 0 := by simpa using hj
    have e : (UInt8.ofNat V).toNat = V := by rw [UInt8.toNat_ofNat']; omega
    simp [Addr.add, e])
  exact this
end Go.Proofs.YtghhejgmheejkaaDoor
namespace Go.Proofs.YtghhejgmheejkaaDoor
open Go.RowKit
theorem xor_div2 (a b : Nat) : (a ^^^ b) / 2 = a / 2 ^^^ b / 2 := by
  apply Nat.eq_of_testBit_eq
  intro i
  rw [Nat.testBit_div_two, Nat.testBit_xor, Nat.testBit_xor, Nat.testBit_div_two, Nat.testBit_div_two]
theorem xor_mod2 (a b : Nat) : (a ^^^ b) % 2 = (a % 2 + b % 2) % 2 := by
  have h := Nat.testBit_xor a b 0
  rw [Nat.testBit_zero, Nat.testBit_zero, Nat.testBit_zero] at h
  rcases Nat.mod_two_eq_zero_or_one a with ha | ha <;> rcases Nat.mod_two_eq_zero_or_one b with hb | hb <;> rcases Nat.mod_two_eq_zero_or_one (a ^^^ b) with hc | hc <;> simp [ha, hb, hc] at h ⊢
theorem xor_cancel (a b c : Nat) : (a ^^^ c) ^^^ (b ^^^ c) = a ^^^ b := by
  rw [Nat.xor_assoc, Nat.xor_comm b c, ← Nat.xor_assoc c c b, Nat.xor_self, Nat.zero_xor]
theorem stp_xor (a b : Nat) : stp (a ^^^ b) = stp a ^^^ stp b := by
  unfold stp
  rw [xor_div2, xor_mod2]
  rcases Nat.mod_two_eq_zero_or_one a with ha | ha <;> rcases Nat.mod_two_eq_zero_or_one b with hb | hb <;> simp only [ha, hb]
  · simp
  · simp [Nat.xor_assoc]
  · simp [Nat.xor_assoc, Nat.xor_comm (b / 2)]
  · simp [xor_cancel]
theorem stp_even (q : Nat) : stp (2 * q) = q := by unfold stp; rw [if_pos (by omega)]; omega
/-- so many steps -/
def stps : Nat → Nat → Nat
  | 0, w => w
  | n + 1, w => stps n (stp w)
theorem stps_xor (n a b : Nat) : stps n (a ^^^ b) = stps n a ^^^ stps n b := by
  induction n generalizing a b with
  | zero => rfl
  | succ n ih => show stps n (stp (a ^^^ b)) = _; rw [stp_xor, ih]; rfl
theorem stps_add (m n w : Nat) : stps (m + n) w = stps n (stps m w) := by
  induction m generalizing w with
  | zero => rw [Nat.zero_add]; rfl
  | succ m ih => rw [show m + 1 + n = (m + n) + 1 by omega]; exact ih (stp w)
theorem stps_comm (m n w : Nat) : stps m (stps n w) = stps n (stps m w) := by rw [← stps_add, ← stps_add, Nat.add_comm]
theorem stps_zero (n : Nat) : stps n 0 = 0 := by
  induction n with
  | zero => rfl
  | succ n ih => show stps n (stp 0) = 0; exact ih
theorem stps_pow (k q : Nat) : stps k (2 ^ k * q) = q := by
  induction k generalizing q with
  | zero => show 2 ^ 0 * q = q; simp
  | succ k ih =>
    show stps k (stp (2 ^ (k + 1) * q)) = q
    rw [show 2 ^ (k + 1) * q = 2 * (2 ^ k * q) by rw [Nat.pow_succ, Nat.mul_comm (2 ^ k) 2, Nat.mul_assoc], stp_even]
    exact ih q
theorem stp_lt {w : Nat} (h : w < 4294967296) : stp w < 4294967296 := by
  unfold stp
  split
  · omega
  · exact xor32_lt (by omega) (by omega)
theorem stps_lt (n : Nat) {w : Nat} (h : w < 4294967296) : stps n w < 4294967296 := by
  induction n generalizing w with
  | zero => exact h
  | succ n ih => exact ih (stp_lt h)
theorem xor_eq_zero' {a b : Nat} (h : a ^^^ b = 0) : a = b := by
  have := congrArg (· ^^^ b) h
  simp only [Nat.xor_assoc, Nat.xor_self, Nat.xor_zero, Nat.zero_xor] at this
  exact this
theorem stp_ne {w : Nat} (h : w < 4294967296) (h0 : w ≠ 0) : stp w ≠ 0 := by
  unfold stp
  split
  · omega
  · intro e
    have := xor_eq_zero' e
    omega
theorem stps_ne (n : Nat) {w : Nat} (h : w < 4294967296) (h0 : w ≠ 0) : stps n w ≠ 0 := by
  induction n generalizing w with
  | zero => exact h0
  | succ n ih => exact ih (stp_lt h) (stp_ne h h0)
/-- a high part and a low part, laid together -/
theorem xor_pow (m x b : Nat) (h : b < 2 ^ m) : (2 ^ m * x) ^^^ b = 2 ^ m * x + b := by
  apply Nat.eq_of_testBit_eq
  intro j
  rw [Nat.testBit_xor, Nat.testBit_two_pow_mul_add x h, Nat.testBit_two_pow_mul]
  by_cases hj : j < m
  · rw [if_pos hj]
    simp [show ¬ m ≤ j by omega]
  · rw [if_neg hj]
    have : b.testBit j = false := Nat.testBit_lt_two_pow (Nat.lt_of_lt_of_le h (Nat.pow_le_pow_right (by omega) (by omega)))
    simp [this, show m ≤ j by omega]
theorem nib_eq (w : Nat) : nib w = stps 4 w := by
  have e : w = (2 ^ 4 * (w / 16)) ^^^ (w % 16) := by rw [xor_pow 4 (w / 16) (w % 16) (by omega)]; omega
  have ht : ∀ r : Fin 16, stps 4 r.1 = t4 r.1 := by decide
  conv => rhs; rw [e, stps_xor, stps_pow, ht ⟨w % 16, by omega⟩]
  rfl
theorem crcB_eq (w b : Nat) : crcB w b = stps 8 (w ^^^ b) := by
  unfold crcB
  rw [nib_eq, nib_eq, ← stps_add]
/-- a text as a number, the lowest bit first -/
def numL : List UInt8 → Nat
  | [] => 0
  | b :: r => b.toNat + 256 * numL r
theorem crcW_num (d : Nat) (l : List UInt8) : crcW d l = stps (8 * l.length) (d ^^^ numL l) := by
  induction l generalizing d with
  | nil => show d = stps 0 (d ^^^ 0); rw [Nat.xor_zero]; rfl
  | cons b r ih =>
    show crcW (crcB d b.toNat) r = _
    have hb := b.toNat_lt
    have e : numL (b :: r) = (2 ^ 8 * numL r) ^^^ b.toNat := by
      rw [xor_pow 8 (numL r) b.toNat (by omega)]; show b.toNat + 256 * numL r = _; omega
    rw [ih, crcB_eq, e, List.length_cons, show 8 * (r.length + 1) = 8 + 8 * r.length by omega, stps_add]
    congr 1
    rw [Nat.xor_comm (2 ^ 8 * numL r), ← Nat.xor_assoc]
    conv => rhs; rw [stps_xor, stps_pow]
theorem crcW_lin (d e : Nat) (l : List UInt8) : crcW (d ^^^ e) l = crcW d l ^^^ stps (8 * l.length) e := by
  rw [crcW_num, crcW_num, ← stps_xor, Nat.xor_assoc, Nat.xor_assoc, Nat.xor_comm e]
theorem crcN_join (s : Nat) (l : List UInt8) : crcN s l = stps (8 * l.length) s ^^^ crcN 0 l := by
  unfold crcN
  rw [crcW_lin, Nat.xor_zero, ← Nat.xor_assoc, Nat.xor_comm]
/-- the sum of two texts -/
theorem crc_cat (x y : List UInt8) : crcN 0 (x ++ y) = stps (8 * y.length) (crcN 0 x) ^^^ crcN 0 y := by
  rw [crcN_append, crcN_join]
/-- the product, bit by bit from the highest -/
def pr (a b : Nat) : Nat → Nat
  | 0 => 0
  | k + 1 => if 2147483648 ≤ a * 2 ^ k % 4294967296 then pr a b k ^^^ stps k b else pr a b k
theorem pr_lt (a b k : Nat) (h : b < 4294967296) : pr a b k < 4294967296 := by
  induction k with
  | zero => show 0 < _; omega
  | succ k ih =>
    unfold pr
    split
    · exact xor32_lt ih (stps_lt k h)
    · exact ih
theorem pr_steps (a n b k : Nat) : pr a (stps n b) k = stps n (pr a b k) := by
  induction k with
  | zero => exact (stps_zero n).symm
  | succ k ih =>
    unfold pr
    split
    · rw [ih, stps_comm, ← stps_xor]
    · exact ih
theorem one_steps (k : Nat) (h : k ≤ 31) : stps k 2147483648 = 2 ^ (31 - k) := by
  have := stps_pow k (2 ^ (31 - k))
  rw [← Nat.pow_add, show k + (31 - k) = 31 by omega] at this
  exact this
theorem top_bit (a k : Nat) (hk : k ≤ 31) : (2147483648 ≤ a * 2 ^ k % 4294967296) ↔ (a / 2 ^ (31 - k)) % 2 = 1 := by
  have hP : 2 ^ (31 - k) * 2 ^ k = 2147483648 := by rw [← Nat.pow_add, show 31 - k + k = 31 by omega]
  have hp : 0 < 2 ^ k := Nat.pow_pos (by omega)
  have hq : 0 < 2 ^ (31 - k) := Nat.pow_pos (by omega)
  have e1 : a * 2 ^ k % 4294967296 = (a % (2 * 2 ^ (31 - k))) * 2 ^ k := by
    rw [show 4294967296 = (2 * 2 ^ (31 - k)) * 2 ^ k by rw [Nat.mul_assoc, hP], Nat.mul_mod_mul_right]
  rw [e1, ← hP]
  have e2 : a % (2 * 2 ^ (31 - k)) / 2 ^ (31 - k) = a / 2 ^ (31 - k) % 2 := by
    rw [Nat.mul_comm 2, Nat.mod_mul_right_div_self]
  rw [← e2]
  have hlt : a % (2 * 2 ^ (31 - k)) < 2 * 2 ^ (31 - k) := Nat.mod_lt _ (by omega)
  constructor
  · intro h
    have h1 : 2 ^ (31 - k) ≤ a % (2 * 2 ^ (31 - k)) := Nat.le_of_mul_le_mul_right h hp
    have h2 : 1 ≤ a % (2 * 2 ^ (31 - k)) / 2 ^ (31 - k) := (Nat.le_div_iff_mul_le hq).2 (by omega)
    have h3 : a % (2 * 2 ^ (31 - k)) / 2 ^ (31 - k) < 2 := Nat.div_lt_of_lt_mul (Nat.lt_of_lt_of_eq hlt (Nat.mul_comm _ _))
    omega
  · intro h
    apply Nat.mul_le_mul_right
    have := Nat.div_mul_le_self (a % (2 * 2 ^ (31 - k))) (2 ^ (31 - k))
    rw [h, Nat.one_mul] at this
    exact this
theorem pr_one (a k : Nat) (ha : a < 4294967296) (hk : k ≤ 32) : pr a 2147483648 k = 2 ^ (32 - k) * (a / 2 ^ (32 - k)) := by
  induction k with
  | zero => show 0 = 2 ^ 32 * (a / 2 ^ 32); rw [Nat.div_eq_of_lt ha]
  | succ k ih =>
    have ih := ih (by omega)
    have e32 : 2 ^ (32 - k) = 2 * 2 ^ (31 - k) := by rw [show 32 - k = (31 - k) + 1 by omega, Nat.pow_succ, Nat.mul_comm]
    have ea : a / 2 ^ (32 - k) = a / 2 ^ (31 - k) / 2 := by rw [e32, Nat.mul_comm, Nat.div_div_eq_div_mul]
    unfold pr
    rw [show 32 - (k + 1) = 31 - k by omega]
    have ih' : pr a 2147483648 k = 2 ^ (32 - k) * (a / 2 ^ (31 - k) / 2) := by rw [ih, ea]
    have hpos : 2 ^ (31 - k) < 2 ^ (32 - k) := by rw [e32]; have : 0 < 2 ^ (31 - k) := Nat.pow_pos (by omega); omega
    split
    · rename_i h
      rw [top_bit a k (by omega)] at h
      rw [ih', one_steps k (by omega), xor_pow (32 - k) _ _ hpos, e32]
      generalize a / 2 ^ (31 - k) = X at *
      generalize 2 ^ (31 - k) = P
      have : X = 2 * (X / 2) + 1 := by omega
      conv => rhs; rw [this]
      rw [Nat.mul_add, Nat.mul_one, ← Nat.mul_assoc, Nat.mul_comm P 2]
    · rename_i h
      rw [top_bit a k (by omega)] at h
      rw [ih', e32]
      generalize a / 2 ^ (31 - k) = X at *
      generalize 2 ^ (31 - k) = P
      have : X = 2 * (X / 2) := by omega
      conv => rhs; rw [this]
      rw [← Nat.mul_assoc, Nat.mul_comm P 2]
/-- a product with so many steps of one is so many steps -/
theorem pr_power (a n : Nat) (ha : a < 4294967296) : pr a (stps n 2147483648) 32 = stps n a := by
  rw [pr_steps, pr_one a 32 ha (by omega)]
  simp
theorem pr_stop (a b k : Nat) (h : a * 2 ^ k % 4294967296 = 0) (j : Nat) : pr a b (k + j) = pr a b k := by
  induction j with
  | zero => rfl
  | succ j ih =>
    have e : pr a b (k + (j + 1)) = if 2147483648 ≤ a * 2 ^ (k + j) % 4294967296 then pr a b (k + j) ^^^ stps (k + j) b else pr a b (k + j) := rfl
    rw [e, if_neg, ih]
    rw [Nat.pow_add, ← Nat.mul_assoc, Nat.mul_mod, h, Nat.zero_mul, Nat.zero_mod]
    omega
theorem band_top (x : Nat) (h : x < 4294967296) : x &&& 2147483648 = if 2147483648 ≤ x then 2147483648 else 0 := by
  rw [show (2147483648 : Nat) = 2 ^ 31 from rfl]
  have hb : x.testBit 31 = decide (2 ^ 31 ≤ x) := by
    by_cases hx : 2 ^ 31 ≤ x
    · rw [decide_eq_true hx, Nat.testBit_eq_decide_div_mod_eq, decide_eq_true_eq]
      have : x / 2 ^ 31 = 1 := by omega
      omega
    · rw [decide_eq_false hx]
      exact Nat.testBit_lt_two_pow (by omega)
  apply Nat.eq_of_testBit_eq
  intro i
  rw [Nat.testBit_and, Nat.testBit_two_pow]
  by_cases hi : 31 = i
  · subst hi
    by_cases hx : 2 ^ 31 ≤ x
    · rw [hb, if_pos hx]
      rw [decide_eq_true hx, Nat.testBit_two_pow_self]
      rfl
    · rw [hb, if_neg hx]
      simp [hx]
  · split
    · rw [Nat.testBit_two_pow]; simp [hi]
    · simp [hi]
end Go.Proofs.YtghhejgmheejkaaDoor
namespace Go.Proofs.YtghhejgmheejkaaDoor
open Go.RowKit
theorem info9 : (Tryd.prog.info? 9).map (fun i => (i.zero, i.size, i.bytes)) = some (some (.string ByteArray.empty), 1, 16) := by kernel_rfl
theorem bxor64 (a b : Nat) (ha : a < 4294967296) (hb : b < 4294967296) : bits .xor .i64 (a : Int) (b : Int) = ((a ^^^ b : Nat) : Int) := by
  have hx : a ^^^ b < 2 ^ 32 := Nat.xor_lt_two_pow (by omega) (by omega)
  have o : ∀ c : Nat, c < 4294967296 → (BitVec.ofInt 64 (c : Int)).toNat = c := fun c hc => by
    rw [BitVec.ofInt_natCast, BitVec.toNat_ofNat]; exact Nat.mod_eq_of_lt (by omega)
  show IntKind.i64.wrap ((BitVec.ofInt 64 (a : Int) ^^^ BitVec.ofInt 64 (b : Int)).toNat : Int) = _
  rw [BitVec.toNat_xor, o a ha, o b hb]
  generalize a ^^^ b = c at *
  simp [IntKind.wrap, IntKind.signed, IntKind.bits]
  omega
set_option maxRecDepth 100000 in
/-- the document's step -/
theorem rstep_any (n : Nat) (hn : n < 4294967296) (w : World) :
    Calls Tryd.prog 48 #[.int .i64 (n : Int)] w fun e w' => e = .returned (.int .i64 (stp n : Int)) ∧ w = w' := by
  by_cases h2 : n % 2 = 0
  · have hq : ((n : Int) % 2 == 0) = true := by rw [show (n : Int) % 2 = 0 by omega]; rfl
    have hr : Hid ((n : Int) / 2 = (stp n : Int)) := by show _ = _; unfold stp; rw [if_pos h2]; omega
    go_enter Tryd.func48, Tryd.ntmps48
    go_wp2
    go_ret
    exact ⟨by rw [← hr.out]; rfl, rfl⟩
  · have hq : ((n : Int) % 2 == 0) = false := by rw [show (n : Int) % 2 = 1 by omega]; rfl
    have hx : bits .xor .i64 ((n : Int) / 2) 3988292384 = (stp n : Int) := by
      have := bxor64 (n / 2) 3988292384 (by omega) (by omega)
      rw [show ((n / 2 : Nat) : Int) = (n : Int) / 2 by omega] at this
      unfold stp
      rw [if_neg h2]
      exact this
    go_enter Tryd.func48, Tryd.ntmps48
    go_wp2
    go_ret
    exact ⟨rfl, rfl⟩
theorem stps_succ (k w : Nat) : stps (k + 1) w = stp (stps k w) := by rw [stps_add]; rfl
set_option maxHeartbeats 1000000 in
set_option maxRecDepth 100000 in
/-- the document's CRC -/
theorem rcrc_any (s : ByteArray) (w : World) (hs : s.size ≤ 9223372036854775807) :
    Calls Tryd.prog 40 #[.string s] w fun e w' => e = .returned (.int .i64 (crcN 0 s.data.toList : Int)) ∧ w = w' := by
  go_enter Tryd.func40, Tryd.ntmps40
  go_wp2
  go_loop [3, 4] (fun v i => ∃ k : Nat, k ≤ s.size ∧ i = .int .i64 k ∧ v = .int .i64 (crcW 4294967295 (s.data.toList.take k) : Int)) (fun _ i => s.size - (intOf i).toNat)
  case atStart => exact ⟨0, Nat.zero_le _, rfl, rfl⟩
  case round =>
    obtain ⟨k, hk, rfl, rfl⟩ := hrel
    have hW4 : crcW 4294967295 (s.data.toList.take k) < 4294967296 := crcW_lt _ (by omega)
    by_cases hlt : k < s.size
    · have hS := crcW_snoc 4294967295 s.data.toList k (by rw [size_data]; exact hlt)
      have hxs := fun w' => ix_str w' s k hlt
      rw [show s.data.toList[k]'(by rw [size_data]; exact hlt) = s[k] from rfl, crcB_eq] at hS
      have hX0 : s[k].toNat < 256 := s[k].toNat_lt
      generalize s[k].toNat = X at *
      have HS := hide hS
      clear hS
      generalize crcW 4294967295 (s.data.toList.take k) = W at *
      have h1 := bxor64 W X hW4 (by omega)
      have h1l : W ^^^ X < 4294967296 := xor32_lt hW4 (by omega)
      generalize W ^^^ X = Y at *
      go_wp2_with fail
      go_loop [3, 5] (fun v j => ∃ r : Nat, r ≤ 8 ∧ j = .int .i64 r ∧ v = .int .i64 (stps r Y : Int)) (fun _ j => 8 - (intOf j).toNat)
      case atStart => exact ⟨0, by omega, rfl, rfl⟩
      case round =>
        obtain ⟨r, hr, rfl, rfl⟩ := hrel
        have hYl := stps_lt r h1l
        have hY1 := stps_succ r Y
        have HY := hide hY1
        clear hY1
        by_cases hr8 : r < 8
        · generalize stps r Y = Z at *
          go_wp2_with (go_at_call 48; refine Calls.mono (rstep_any _ hYl _) ?_; rintro e wx ⟨rfl, rfl⟩)
          go_round
          case rel => exact ⟨r + 1, by omega, by go_num, by rw [HY.out]⟩
          case measure => simp [intOf]; omega
        · obtain rfl : r = 8 := by omega
          go_wp2_with fail
          go_round
          case rel => exact ⟨k + 1, by omega, by go_num, by rw [HS.out]⟩
          case measure => simp [intOf]; omega
    · obtain rfl : k = s.size := by omega
      rw [List.take_of_length_le (by simp)] at hW4 ⊢
      have hx : bits .xor .i64 (crcW 4294967295 s.data.toList : Int) 4294967295 = ((crcW 4294967295 s.data.toList ^^^ 4294967295 : Nat) : Int) := bxor64 _ 4294967295 hW4 (by omega)
      have HF : Hid (crcN 0 s.data.toList = crcW 4294967295 s.data.toList ^^^ 4294967295) := by show _ = _; unfold crcN; rw [Nat.xor_zero, Nat.xor_comm]
      generalize crcW 4294967295 s.data.toList ^^^ 4294967295 = Z at *
      go_wp2
      go_ret
      exact ⟨by rw [HF.out]; rfl, rfl⟩
/-- a list of the call's own -/
def OL (lo : Nat) (w : World) (v : Value) (xs : List ByteArray) : Prop :=
  (xs = [] ∧ v = .slice none 0 0) ∨ ∃ g c, lo ≤ g ∧ 0 < xs.length ∧ v = .slice (some ⟨g, 0, none⟩) xs.length c ∧ g < w.heap.size ∧ w.ownsRow lo 9 1 v xs.length (xs.map Value.string)
theorem OL_of {wr : World} {base : Nat} {ys : List ByteArray} {v : Value} (h : wr.ownsRow base 9 1 v ys.length (ys.map Value.string)) (hnil : ys = [] → v = .slice none 0 0) : OL base wr v ys := by
  by_cases h0 : ys = []
  · exact Or.inl ⟨h0, hnil h0⟩
  · have hpos : 0 < ys.length := List.length_pos_iff.2 h0
    rcases h.2 with ⟨_, hz⟩ | ⟨g, cap, cur, hv, hg, hblk, hn, hc, hcs, htake⟩
    · omega
    · refine Or.inr ⟨g, cap, hg, hpos, hv, ?_, h⟩
      rcases Nat.lt_or_ge g wr.heap.size with h' | h'
      · exact h'
      · rw [Array.getElem?_eq_none h'] at hblk; simp at hblk
theorem own_lies {w : World} {base g c : Nat} {xs : List ByteArray} (h : w.ownsRow base 9 1 (.slice (some ⟨g, 0, none⟩) xs.length c) xs.length (xs.map Value.string)) : Lies g 0 w xs := by
  intro j x hx
  have hj := (List.getElem?_eq_some_iff.1 hx).1
  rw [Nat.zero_add, h.cellAt j (by omega)]
  simp [hx]
theorem turnB_size (x : ByteArray) : (turnB x).size ≤ x.size + 1 := by
  unfold turnB
  split
  · show 1 ≤ _; omega
  · rw [strOf_size, List.length_cons, List.length_drop, size_data]; omega
theorem cat_turn (xs : List ByteArray) : (cat (xs.map turnB)).length ≤ (cat xs).length + xs.length := by
  induction xs with
  | nil => simp [cat]
  | cons a t ih =>
    have e1 : cat ((a :: t).map turnB) = (turnB a).data.toList ++ cat (t.map turnB) := by simp [cat]
    have e2 : cat (a :: t) = a.data.toList ++ cat t := by simp [cat]
    have := turnB_size a
    rw [e1, e2, List.length_append, List.length_append, size_data, size_data, List.length_cons]
    omega
theorem mem_catj {xs : List ByteArray} {x : ByteArray} (h : x ∈ xs) : x.size ≤ (cat xs).length := by
  obtain ⟨k, hk, rfl⟩ := List.getElem_of_mem h
  have h1 := cat_take_len xs (k + 1)
  rw [cat_snoc xs k hk, List.length_append, size_data] at h1
  omega
end Go.Proofs.YtghhejgmheejkaaDoor
namespace Go.Proofs.YtghhejgmheejkaaDoor
open Go.RowKit
def letF : Nat → UInt8
  | 3 => 69 | 4 => 83 | 5 => 86 | 6 => 80 | 7 => 67 | 8 => 75 | 9 => 87 | _ => 0
def letL (k : Nat) : List UInt8 := (bodyF k).map letF
/-- the document's table -/
def TabR (w : World) : Prop := ∀ k, k ≤ 16 → w.cell? ⟨4, k, none⟩ = some (.string (strOf (letL k)))
theorem TabR.below {w w' : World} (h : TabR w) (hb : Below w.heap.size w w') : TabR w' := fun k hk => (hb.cell (World.block_lt_of_cell? w _ (h k hk))).trans (h k hk)
theorem letL_len (k : Nat) (h : k ≤ 16) : (letL k).length ≤ 6 := by unfold letL; rw [List.length_map]; exact bodyF_len k h
theorem letF_memF : ∀ k : Fin 17, ∀ i : Fin 10, 3 ≤ i.1 → (letF i.1 ∈ letL k.1 ↔ i.1 ∈ bodyF k.1) := by decide +kernel
theorem letF_mem (k : Nat) (hk : k ≤ 16) (i : Nat) (hi : i < 10) (h3 : 3 ≤ i) : letF i ∈ letL k ↔ i ∈ bodyF k := letF_memF ⟨k, by omega⟩ ⟨i, hi⟩ h3
set_option maxHeartbeats 1000000 in
set_option maxRecDepth 100000 in
/-- has -/
theorem has_any (k : Nat) (h16 : k ≤ 16) (b : UInt8) (w : World) (hT : TabR w) :
    Calls Tryd.prog 47 #[.int .i64 (k : Int), .int .u8 (b.toNat : Int)] w fun e w' => e = .returned (.bool (decide (b ∈ letL k))) ∧ w = w' := by
  have z := hT k h16
  have hkk : (k : Int) < 17 := by omega
  have hlen := letL_len k h16
  obtain ⟨R, hR⟩ : ∃ R : Bool, R = decide (b ∈ letL k) := ⟨_, rfl⟩
  rw [← hR]
  have HR := hide hR
  clear hR hT
  obtain ⟨S, hS⟩ : ∃ S, S = strOf (letL k) := ⟨_, rfl⟩
  rw [← hS] at z
  have hsd : S.data.toList = letL k := by rw [hS, strOf_data]
  have hsz : S.size = (letL k).length := by rw [hS, strOf_size]
  clear hS
  go_enter Tryd.func47, Tryd.ntmps47
  go_wp2
  go_loop [6] (fun v => ∃ q : Nat, q ≤ S.size ∧ v = .int .i64 q ∧ Hid (b ∉ (letL k).take q)) (fun v => S.size - (intOf v).toNat)
  case atStart => exact ⟨0, Nat.zero_le _, rfl, by simp [Hid]⟩
  case round =>
    obtain ⟨q, hq, rfl, hA⟩ := hrel
    by_cases hlt : q < S.size
    · have hxs : ∀ w', (Instr.index 9 (.string S) (.int .i64 (q : Int))).run Tryd.prog w' = .ok (.int .u8 (S[q].toNat : Int)) w' := fun w' => ix_str w' S q hlt
      have hx : S[q] = (letL k)[q]'(by omega) := by
        have : S[q] = S.data.toList[q]'(by rw [size_data]; exact hlt) := rfl
        rw [this]; simp only [hsd]
      have HT := hide (List.take_succ_eq_append_getElem (i := q) (l := letL k) (by omega))
      have HM := hide (List.getElem_mem (l := letL k) (n := q) (by omega))
      rw [← hx] at HT HM
      clear hx
      generalize S[q] = c at *
      by_cases hc : c = b
      · subst hc
        go_wp2
        go_ret
        exact ⟨ret_bool (by rw [HR.out, decide_eq_true HM.out]), rfl⟩
      · have hc' : ¬ (c.toNat : Int) = (b.toNat : Int) := fun h => hc (UInt8.toNat_inj.1 (by omega))
        go_wp2
        go_round
        case rel => exact ⟨q + 1, by omega, by go_num, by show b ∉ _; rw [HT.out]; intro hm; rcases List.mem_append.1 hm with hm | hm; exact hA.out hm; simp at hm; exact hc hm.symm⟩
        case measure => simp [intOf]; omega
    · obtain rfl : q = S.size := by omega
      have hA' := hA.out
      rw [List.take_of_length_le (by omega)] at hA'
      have HA := hide hA'
      clear hA' hA
      go_wp2
      go_ret
      exact ⟨ret_bool (by rw [HR.out, decide_eq_false HA.out]), rfl⟩
def fitsN (h : Bool) (n most : Int) : Bool := if h then decide (0 ≤ n) && decide (n ≤ most) else decide (n = 0)
set_option maxHeartbeats 1000000 in
set_option maxRecDepth 100000 in
/-- fits -/
theorem fits_any (k : Nat) (h16 : k ≤ 16) (b : UInt8) (n most : Int) (w : World) (hT : TabR w) :
    Calls Tryd.prog 38 #[.int .i64 (k : Int), .int .u8 (b.toNat : Int), .int .i64 n, .int .i64 most] w fun e w' => e = .returned (.bool (fitsN (decide (b ∈ letL k)) n most)) ∧ w = w' := by
  have C := hide (has_any k h16 b w hT)
  cases hh : decide (b ∈ letL k) with
  | false =>
    rw [hh] at C
    have hR : fitsN false n most = (n == 0) := by unfold fitsN; simp; rfl
    rw [hR]
    go_enter Tryd.func38, Tryd.ntmps38
    go_wp2_with fail
    refine Calls.mono C.out ?_
    rintro e w1 ⟨rfl, rfl⟩
    go_wp2_with fail
    go_ret
    exact ⟨rfl, rfl⟩
  | true =>
    rw [hh] at C
    by_cases h0 : 0 ≤ n
    · by_cases h1 : n ≤ most
      · have hR := hide (show fitsN true n most = true by unfold fitsN; rw [if_pos rfl, decide_eq_true h0, decide_eq_true h1]; rfl)
        go_enter Tryd.func38, Tryd.ntmps38
        go_wp2_with fail
        refine Calls.mono C.out ?_
        rintro e w1 ⟨rfl, rfl⟩
        go_wp2_with fail
        go_ret
        exact ⟨ret_bool hR.out.symm, rfl⟩
      · have hR := hide (show fitsN true n most = false by unfold fitsN; rw [if_pos rfl, decide_eq_false h1, Bool.and_false])
        have HD := hide (decide_eq_false h1)
        go_enter Tryd.func38, Tryd.ntmps38
        go_wp2_with fail
        refine Calls.mono C.out ?_
        rintro e w1 ⟨rfl, rfl⟩
        go_wp2_with fail
        go_ret
        exact ⟨ret_bool (by rw [hR.out]; first | rfl | exact HD.out), rfl⟩
    · have hR := hide (show fitsN true n most = false by unfold fitsN; rw [if_pos rfl, decide_eq_false h0, Bool.false_and])
      go_enter Tryd.func38, Tryd.ntmps38
      go_wp2_with fail
      refine Calls.mono C.out ?_
      rintro e w1 ⟨rfl, rfl⟩
      go_wp2_with fail
      go_ret
      exact ⟨ret_bool hR.out.symm, rfl⟩
def fitsT (h : Bool) (n most : Nat) : Bool := if h then decide (n ≤ most) else decide (n = 0)
set_option maxHeartbeats 1000000 in
set_option maxRecDepth 100000 in
/-- textFits -/
theorem textFits_any (k : Nat) (h16 : k ≤ 16) (b : UInt8) (s : ByteArray) (most : Nat) (w : World) (hT : TabR w) :
    Calls Tryd.prog 39 #[.int .i64 (k : Int), .int .u8 (b.toNat : Int), .string s, .int .i64 (most : Int)] w fun e w' => e = .returned (.bool (fitsT (decide (b ∈ letL k)) s.size most)) ∧ w = w' := by
  have C := hide (has_any k h16 b w hT)
  cases hh : decide (b ∈ letL k) with
  | false =>
    rw [hh] at C
    have hR : fitsT false s.size most = s.toList.isEmpty := by
      unfold fitsT
      rw [ByteArray.toList_eq, ← size_data s]
      cases s.data.toList <;> simp
    rw [hR]
    go_enter Tryd.func39, Tryd.ntmps39
    go_wp2_with fail
    refine Calls.mono C.out ?_
    rintro e w1 ⟨rfl, rfl⟩
    go_wp2_with fail
    go_ret
    exact ⟨rfl, rfl⟩
  | true =>
    rw [hh] at C
    have hR : fitsT true s.size most = decide (s.size ≤ most) := by
      unfold fitsT
      rw [if_pos rfl]
    rw [hR]
    go_enter Tryd.func39, Tryd.ntmps39
    go_wp2_with fail
    refine Calls.mono C.out ?_
    rintro e w1 ⟨rfl, rfl⟩
    go_wp2_with fail
    go_ret
    exact ⟨rfl, rfl⟩
end Go.Proofs.YtghhejgmheejkaaDoor
namespace Go.Proofs.YtghhejgmheejkaaDoor
open Go.RowKit
theorem rep_set (n : Nat) (v : Value) (l : List Value) (h : 0 < n) : (List.replicate n (Value.int .u8 0) ++ l).set (n - 1) v = List.replicate (n - 1) (Value.int .u8 0) ++ v :: l := by
  obtain ⟨k, rfl⟩ : ∃ k, n = k + 1 := ⟨n - 1, by omega⟩
  rw [List.replicate_succ', List.append_assoc]
  simp
theorem rep_at (n : Nat) (l : List Value) (h : 0 < n) : (List.replicate n (Value.int .u8 0) ++ l)[n - 1]? = some (.int .u8 0) := by
  rw [List.getElem?_append_left (by simp; omega), List.getElem?_replicate, if_pos (by omega)]
theorem div_pow (N k : Nat) : N / 256 ^ k / 256 = N / 256 ^ (k + 1) := by rw [Nat.div_div_eq_div_mul, Nat.pow_succ]
set_option maxHeartbeats 2000000 in
set_option maxRecDepth 100000 in
/-- digits -/
theorem digits_any (N wd : Nat) (hw : wd ≤ 8) (hN : N < 9223372036854775808) (w : World) :
    Calls Tryd.prog 27 #[.int .i64 (N : Int), .int .i64 (wd : Int)] w fun e w' => e = .returned (.string (strOf (dig wd N))) ∧ Below w.heap.size w w' := by
  obtain ⟨i0, hi, hz0, hz1, hz2⟩ := info_partsF info5
  go_enter Tryd.func27, Tryd.ntmps27
  go_wp2_with (at_make; refine wpList_make_full _ rfl _ _ 56 rfl w.heap.size 5 i0 (.int .u8 0) 1 Tryd.underlying56 hi hz0 hz1 _ _ _ _ wd rfl rfl (by omega) (by omega) (by rw [hz2]; omega) (by unfold maxLen; omega) (Nat.le_refl _) ?_)
  intro w1 hown1 hgrow1
  have hb1 : Below w.heap.size w w1 := (Below.refl _ w).grown hgrow1 (Nat.le_refl _) (by simp)
  rw [toList_madeCells_one] at hown1
  go_wp2
  go_loopw [0, 6] (fun n i wr => ∃ k : Nat, k ≤ wd ∧ i = .int .i64 k ∧ n = .int .i64 ((N / 256 ^ k : Nat) : Int) ∧ wr.ownsRow w.heap.size 5 1 (.slice (some ⟨w.heap.size, 0, none⟩) wd wd) wd (List.replicate (wd - k) (Value.int .u8 0) ++ (dig k N).map ub) ∧ Below w.heap.size w wr) (fun _ i _ => wd - (intOf i).toNat)
  case atStart => exact ⟨0, Nat.zero_le _, rfl, by simp, by simpa [dig] using hown1, hb1⟩
  case round =>
    obtain ⟨k, hk, rfl, rfl, hown, hnx⟩ := hrel
    by_cases hlt : k < wd
    · have hX : N / 256 ^ k < 9223372036854775808 := Nat.lt_of_le_of_lt (Nat.div_le_self _ _) hN
      have HD := hide (div_pow N k)
      have HC := hide (dig_cons k N)
      have hc1 := hown.cellAt (wd - 1 - k) (by omega)
      rw [show wd - 1 - k = wd - k - 1 by omega, rep_at (wd - k) _ (by omega)] at hc1
      have hc2 := hown.frozenAt (wd - k - 1)
      have HS := hide (fun v => hown.stored (wd - k - 1) v)
      have HQ := hide (fun v => rep_set (wd - k) v ((dig k N).map ub) (by omega))
      generalize hXX : N / 256 ^ k = X at *
      have hb8 := u8_nat X
      have e1 : (wd : Int) - 1 - (k : Int) = ((wd - k - 1 : Nat) : Int) := by omega
      have e2 : (wd - k - 1 : Nat) < wd := by omega
      have HN := hide hnx
      clear hown hnx
      have EV := hide (show Value.int .u8 ((X : Int) % 256) = ub (UInt8.ofNat X) by unfold ub; rw [UInt8.toNat_ofNat']; congr 1)
      go_wp2_with fail
      refine ⟨⟨k + 1, by omega, by go_num, by rw [← HD.out]; rfl, ?_, HN.out.setCell (Nat.le_refl _) _⟩, by simp [intOf]; omega⟩
      have st := (HS.out (.int .u8 ((X : Int) % 256))).1
      rw [HQ.out] at st
      rw [HC.out, List.map_cons, ← EV.out, show wd - (k + 1) = wd - k - 1 by omega]
      exact st
    · obtain rfl : k = wd := by omega
      rw [Nat.sub_self, List.replicate_zero, List.nil_append] at hown
      have hcv : (convert 56 9 (.slice (some ⟨w.heap.size, 0, none⟩) k k)).run Tryd.prog wr = .ok (.string (strOf (dig k N))) wr := own_conv hown (dig_len k N).symm Tryd.underlying56 Tryd.underlying5 Tryd.underlying9
      clear hown
      go_wp2_with fail
      go_ret
      exact ⟨rfl, hnx⟩
set_option maxHeartbeats 1000000 in
set_option maxRecDepth 100000 in
/-- sum -/
theorem rsum_any (s : ByteArray) (hs : s.size ≤ 1000000) (w : World) :
    Calls Tryd.prog 28 #[.string s] w fun e w' => e = .returned (.string (strOf (le4 (crcN 0 s.data.toList)))) ∧ Below w.heap.size w w' := by
  have C := hide (rcrc_any s w (by omega))
  have hc : crcN 0 s.data.toList < 4294967296 := crcN_lt _ (by omega)
  generalize crcN 0 s.data.toList = c at *
  have ea : (#[.int .u8 ((c : Int) % 256), .int .u8 ((c : Int) / 256 % 256), .int .u8 ((c : Int) / 65536 % 256), .int .u8 ((c : Int) / 16777216 % 256)] : Array Value).toList = (le4 c).map ub := by
    simp only [le4, ub, List.map_cons, List.map_nil, UInt8.toNat_ofNat']
    rw [show ((c : Int) % 256) = ((c % 2 ^ 8 : Nat) : Int) by omega, show ((c : Int) / 256 % 256) = ((c / 256 % 2 ^ 8 : Nat) : Int) by omega, show ((c : Int) / 65536 % 256) = ((c / 65536 % 2 ^ 8 : Nat) : Int) by omega, show ((c : Int) / 16777216 % 256) = ((c / 16777216 % 2 ^ 8 : Nat) : Int) by omega]
  have hcv := own_conv (P := Tryd.prog) (dst := 9) (ea ▸ World.ownsRow_lit (base := w.heap.size) (e := 5) (size := 1) w #[.int .u8 ((c : Int) % 256), .int .u8 ((c : Int) / 256 % 256), .int .u8 ((c : Int) / 65536 % 256), .int .u8 ((c : Int) / 16777216 % 256)] 4 (Nat.le_refl _) (by unfold maxLen; omega) rfl) rfl Tryd.underlying56 Tryd.underlying5 Tryd.underlying9
  clear ea
  go_enter Tryd.func28, Tryd.ntmps28
  go_wp2_with fail
  refine Calls.mono C.out ?_
  rintro e w1 ⟨rfl, rfl⟩
  go_wp2_with fail
  go_ret
  exact ⟨rfl, (Below.refl _ _).alloc (Nat.le_refl _) _⟩
end Go.Proofs.YtghhejgmheejkaaDoor
namespace Go.Proofs.YtghhejgmheejkaaDoor
open Go.RowKit
theorem fitAt_head (m : MM) (k i : Nat) (h : i < 3) : fitAt m k i = (decide (0 ≤ m.num i) && decide (m.num i ≤ (mostF i : Int))) := by
  have e : mostK k i = mostF i := by unfold mostK; rw [if_pos (Or.inl h)]
  have t : m.txt i = ⟨#[]⟩ := by
    have : i = 0 ∨ i = 1 ∨ i = 2 := by omega
    rcases this with rfl | rfl | rfl <;> rfl
  unfold fitAt
  rw [e, t, decide_eq_true (show (⟨#[]⟩ : ByteArray).size ≤ mostF i from Nat.zero_le _), Bool.and_true]
theorem fitAt_num (m : MM) (k i : Nat) (h16 : k ≤ 16) (h3 : 3 ≤ i) (h7 : i ≤ 7) : fitAt m k i = fitsN (decide (letF i ∈ letL k)) (m.num i) (mostF i : Int) := by
  have t : m.txt i = ⟨#[]⟩ := by
    have : i = 3 ∨ i = 4 ∨ i = 5 ∨ i = 6 ∨ i = 7 := by omega
    rcases this with rfl | rfl | rfl | rfl | rfl <;> rfl
  have hm := letF_mem k h16 i (by omega) h3
  unfold fitAt fitsN
  rw [t, decide_eq_true (show (⟨#[]⟩ : ByteArray).size ≤ mostK k i from Nat.zero_le _), Bool.and_true]
  unfold mostK
  by_cases hb : i ∈ bodyF k
  · rw [if_pos (Or.inr hb), decide_eq_true (hm.2 hb), if_pos rfl]
  · rw [if_neg (fun x => x.elim (fun y => by omega) hb), decide_eq_false (fun h => hb (hm.1 h)), if_neg (by simp), Bool.eq_iff_iff]
    simp only [Bool.and_eq_true, decide_eq_true_eq]
    omega
theorem fitAt_txt (m : MM) (k i : Nat) (h16 : k ≤ 16) (h8 : i = 8 ∨ i = 9) : fitAt m k i = fitsT (decide (letF i ∈ letL k)) (m.txt i).size (mostF i) := by
  have t : m.num i = 0 := by rcases h8 with rfl | rfl <;> rfl
  have hm := letF_mem k h16 i (by omega) (by omega)
  unfold fitAt fitsT
  rw [t, decide_eq_true (show (0 : Int) ≤ 0 by omega), decide_eq_true (show (0 : Int) ≤ (mostK k i : Int) by omega), Bool.true_and, Bool.true_and]
  unfold mostK
  by_cases hb : i ∈ bodyF k
  · rw [if_pos (Or.inr hb), decide_eq_true (hm.2 hb), if_pos rfl]
  · rw [if_neg (fun x => x.elim (fun y => by omega) hb), decide_eq_false (fun h => hb (hm.1 h)), if_neg (by simp)]
    exact decide_eq_decide.2 (by omega)
def headB (m : MM) : Bool := (decide (0 ≤ m.n0) && decide (m.n0 ≤ 65535)) && ((decide (0 ≤ m.n1) && decide (m.n1 ≤ 65535)) && (decide (0 ≤ m.n2) && decide (m.n2 ≤ 9007199254740992)))
theorem fitM_eq (m : MM) (k : Nat) (h16 : k ≤ 16) (hk : m.kind = (k : Int)) : fitM m = (headB m && (fitsN (decide ((86 : UInt8) ∈ letL k)) m.n5 9007199254740992 && fitsN (decide ((80 : UInt8) ∈ letL k)) m.n6 9007199254740992 && fitsN (decide ((69 : UInt8) ∈ letL k)) m.n3 9007199254740992 && fitsN (decide ((83 : UInt8) ∈ letL k)) m.n4 9007199254740992 && fitsN (decide ((67 : UInt8) ∈ letL k)) m.n7 65535 && fitsT (decide ((75 : UInt8) ∈ letL k)) m.key.size 255 && fitsT (decide ((87 : UInt8) ∈ letL k)) m.val.size 4096)) := by
  have e : fitM m = (fitAt m k 0 && (fitAt m k 1 && (fitAt m k 2 && (fitAt m k 3 && (fitAt m k 4 && (fitAt m k 5 && (fitAt m k 6 && (fitAt m k 7 && (fitAt m k 8 && fitAt m k 9))))))))) := by
    unfold fitM; rw [hk]
    simp [List.range, List.range.loop]
  have a0 : fitAt m k 0 = (decide (0 ≤ m.n0) && decide (m.n0 ≤ 65535)) := fitAt_head m k 0 (by omega)
  have a1 : fitAt m k 1 = (decide (0 ≤ m.n1) && decide (m.n1 ≤ 65535)) := fitAt_head m k 1 (by omega)
  have a2 : fitAt m k 2 = (decide (0 ≤ m.n2) && decide (m.n2 ≤ 9007199254740992)) := fitAt_head m k 2 (by omega)
  have a3 : fitAt m k 3 = fitsN (decide ((69 : UInt8) ∈ letL k)) m.n3 9007199254740992 := fitAt_num m k 3 h16 (by omega) (by omega)
  have a4 : fitAt m k 4 = fitsN (decide ((83 : UInt8) ∈ letL k)) m.n4 9007199254740992 := fitAt_num m k 4 h16 (by omega) (by omega)
  have a5 : fitAt m k 5 = fitsN (decide ((86 : UInt8) ∈ letL k)) m.n5 9007199254740992 := fitAt_num m k 5 h16 (by omega) (by omega)
  have a6 : fitAt m k 6 = fitsN (decide ((80 : UInt8) ∈ letL k)) m.n6 9007199254740992 := fitAt_num m k 6 h16 (by omega) (by omega)
  have a7 : fitAt m k 7 = fitsN (decide ((67 : UInt8) ∈ letL k)) m.n7 65535 := fitAt_num m k 7 h16 (by omega) (by omega)
  have a8 : fitAt m k 8 = fitsT (decide ((75 : UInt8) ∈ letL k)) m.key.size 255 := fitAt_txt m k 8 h16 (Or.inl rfl)
  have a9 : fitAt m k 9 = fitsT (decide ((87 : UInt8) ∈ letL k)) m.val.size 4096 := fitAt_txt m k 9 h16 (Or.inr rfl)
  rw [e, a0, a1, a2, a3, a4, a5, a6, a7, a8, a9]
  unfold headB
  generalize (decide (0 ≤ m.n0) && decide (m.n0 ≤ 65535)) = x0
  generalize (decide (0 ≤ m.n1) && decide (m.n1 ≤ 65535)) = x1
  generalize (decide (0 ≤ m.n2) && decide (m.n2 ≤ 9007199254740992)) = x2
  ac_rfl
set_option maxHeartbeats 4000000 in
set_option maxRecDepth 100000 in
theorem valid_no (m : MM) (w : World) (h : headB m = false) :
    Calls Tryd.prog 25 #[.agg (msgV m)] w fun e w' => e = .returned (.bool false) ∧ Below w.heap.size w w' := by
  obtain ⟨W0, hW0⟩ : ∃ W0, W0 = w.alloc (.cells (msgV m) 26) := ⟨_, rfl⟩
  have b0 : Below w.heap.size w W0 := by rw [hW0]; exact (Below.refl _ w).alloc (Nat.le_refl _) _
  have c0 : W0.cell? ⟨w.heap.size, 0, none⟩ = some (.int .i64 m.kind) := by rw [hW0]; simp [msgV]
  have c1 : W0.cell? ⟨w.heap.size, 1, none⟩ = some (.int .i64 m.n0) := by rw [hW0]; simp [msgV]
  have c2 : W0.cell? ⟨w.heap.size, 2, none⟩ = some (.int .i64 m.n1) := by rw [hW0]; simp [msgV]
  have c3 : W0.cell? ⟨w.heap.size, 3, none⟩ = some (.int .i64 m.n2) := by rw [hW0]; simp [msgV]
  have c4 : W0.cell? ⟨w.heap.size, 4, none⟩ = some (.int .i64 m.n3) := by rw [hW0]; simp [msgV]
  have c5 : W0.cell? ⟨w.heap.size, 5, none⟩ = some (.int .i64 m.n4) := by rw [hW0]; simp [msgV]
  have c6 : W0.cell? ⟨w.heap.size, 6, none⟩ = some (.int .i64 m.n5) := by rw [hW0]; simp [msgV]
  have c7 : W0.cell? ⟨w.heap.size, 7, none⟩ = some (.int .i64 m.n6) := by rw [hW0]; simp [msgV]
  have c8 : W0.cell? ⟨w.heap.size, 8, none⟩ = some (.int .i64 m.n7) := by rw [hW0]; simp [msgV]
  have c9 : W0.cell? ⟨w.heap.size, 9, none⟩ = some (.string m.key) := by rw [hW0]; simp [msgV]
  have c10 : W0.cell? ⟨w.heap.size, 10, none⟩ = some (.string m.val) := by rw [hW0]; simp [msgV]
  by_cases h1 : m.n0 < 0
  case pos =>
    go_enter Tryd.func25, Tryd.ntmps25
    go_upto_region 1 with fail
    rw [← hW0]
    clear hW0
    go_wp2_with fail
    go_ret
    exact ⟨rfl, b0⟩
  case neg =>
  by_cases h2 : 65535 < m.n0
  case pos =>
    go_enter Tryd.func25, Tryd.ntmps25
    go_upto_region 1 with fail
    rw [← hW0]
    clear hW0
    go_wp2_with fail
    go_ret
    exact ⟨rfl, b0⟩
  case neg =>
  by_cases h3 : m.n1 < 0
  case pos =>
    go_enter Tryd.func25, Tryd.ntmps25
    go_upto_region 1 with fail
    rw [← hW0]
    clear hW0
    go_wp2_with fail
    go_ret
    exact ⟨rfl, b0⟩
  case neg =>
  by_cases h4 : 65535 < m.n1
  case pos =>
    go_enter Tryd.func25, Tryd.ntmps25
    go_upto_region 1 with fail
    rw [← hW0]
    clear hW0
    go_wp2_with fail
    go_ret
    exact ⟨rfl, b0⟩
  case neg =>
  by_cases h5 : m.n2 < 0
  case pos =>
    go_enter Tryd.func25, Tryd.ntmps25
    go_upto_region 1 with fail
    rw [← hW0]
    clear hW0
    go_wp2_with fail
    go_ret
    exact ⟨rfl, b0⟩
  case neg =>
  by_cases h6 : 9007199254740992 < m.n2
  case pos =>
    go_enter Tryd.func25, Tryd.ntmps25
    go_upto_region 1 with fail
    rw [← hW0]
    clear hW0
    go_wp2_with fail
    go_ret
    exact ⟨rfl, b0⟩
  case neg =>
  exact absurd h (by unfold headB; rw [decide_eq_true (by omega), decide_eq_true (by omega), decide_eq_true (by omega), decide_eq_true (by omega), decide_eq_true (by omega), decide_eq_true (by omega)]; simp)
set_option maxHeartbeats 4000000 in
set_option maxRecDepth 100000 in
theorem valid_ok (m : MM) (k : Nat) (h16 : k ≤ 16) (hk : m.kind = (k : Int)) (w : World) (hT : TabR w) (h : headB m = true) :
    Calls Tryd.prog 25 #[.agg (msgV m)] w fun e w' => e = .returned (.bool (fitM m)) ∧ Below w.heap.size w w' := by
  rw [fitM_eq m k h16 hk, h, Bool.true_and]
  obtain ⟨W0, hW0⟩ : ∃ W0, W0 = w.alloc (.cells (msgV m) 26) := ⟨_, rfl⟩
  have b0 : Below w.heap.size w W0 := by rw [hW0]; exact (Below.refl _ w).alloc (Nat.le_refl _) _
  have c0 : W0.cell? ⟨w.heap.size, 0, none⟩ = some (.int .i64 (k : Int)) := by rw [hW0, ← hk]; simp [msgV]
  have c1 : W0.cell? ⟨w.heap.size, 1, none⟩ = some (.int .i64 m.n0) := by rw [hW0]; simp [msgV]
  have c2 : W0.cell? ⟨w.heap.size, 2, none⟩ = some (.int .i64 m.n1) := by rw [hW0]; simp [msgV]
  have c3 : W0.cell? ⟨w.heap.size, 3, none⟩ = some (.int .i64 m.n2) := by rw [hW0]; simp [msgV]
  have c4 : W0.cell? ⟨w.heap.size, 4, none⟩ = some (.int .i64 m.n3) := by rw [hW0]; simp [msgV]
  have c5 : W0.cell? ⟨w.heap.size, 5, none⟩ = some (.int .i64 m.n4) := by rw [hW0]; simp [msgV]
  have c6 : W0.cell? ⟨w.heap.size, 6, none⟩ = some (.int .i64 m.n5) := by rw [hW0]; simp [msgV]
  have c7 : W0.cell? ⟨w.heap.size, 7, none⟩ = some (.int .i64 m.n6) := by rw [hW0]; simp [msgV]
  have c8 : W0.cell? ⟨w.heap.size, 8, none⟩ = some (.int .i64 m.n7) := by rw [hW0]; simp [msgV]
  have c9 : W0.cell? ⟨w.heap.size, 9, none⟩ = some (.string m.key) := by rw [hW0]; simp [msgV]
  have c10 : W0.cell? ⟨w.heap.size, 10, none⟩ = some (.string m.val) := by rw [hW0]; simp [msgV]
  have hT0 := hT.below b0
  have CV : Hid (Calls Tryd.prog 38 #[.int .i64 (k : Int), .int .u8 86, .int .i64 m.n5, .int .i64 9007199254740992] W0 fun e w' => e = .returned (.bool (fitsN (decide ((86 : UInt8) ∈ letL k)) m.n5 9007199254740992)) ∧ W0 = w') := fits_any k h16 86 m.n5 9007199254740992 W0 hT0
  have CP : Hid (Calls Tryd.prog 38 #[.int .i64 (k : Int), .int .u8 80, .int .i64 m.n6, .int .i64 9007199254740992] W0 fun e w' => e = .returned (.bool (fitsN (decide ((80 : UInt8) ∈ letL k)) m.n6 9007199254740992)) ∧ W0 = w') := fits_any k h16 80 m.n6 9007199254740992 W0 hT0
  have CE : Hid (Calls Tryd.prog 38 #[.int .i64 (k : Int), .int .u8 69, .int .i64 m.n3, .int .i64 9007199254740992] W0 fun e w' => e = .returned (.bool (fitsN (decide ((69 : UInt8) ∈ letL k)) m.n3 9007199254740992)) ∧ W0 = w') := fits_any k h16 69 m.n3 9007199254740992 W0 hT0
  have CS : Hid (Calls Tryd.prog 38 #[.int .i64 (k : Int), .int .u8 83, .int .i64 m.n4, .int .i64 9007199254740992] W0 fun e w' => e = .returned (.bool (fitsN (decide ((83 : UInt8) ∈ letL k)) m.n4 9007199254740992)) ∧ W0 = w') := fits_any k h16 83 m.n4 9007199254740992 W0 hT0
  have CC : Hid (Calls Tryd.prog 38 #[.int .i64 (k : Int), .int .u8 67, .int .i64 m.n7, .int .i64 65535] W0 fun e w' => e = .returned (.bool (fitsN (decide ((67 : UInt8) ∈ letL k)) m.n7 65535)) ∧ W0 = w') := fits_any k h16 67 m.n7 65535 W0 hT0
  have CK : Hid (Calls Tryd.prog 39 #[.int .i64 (k : Int), .int .u8 75, .string m.key, .int .i64 255] W0 fun e w' => e = .returned (.bool (fitsT (decide ((75 : UInt8) ∈ letL k)) m.key.size 255)) ∧ W0 = w') := textFits_any k h16 75 m.key 255 W0 hT0
  have CW : Hid (Calls Tryd.prog 39 #[.int .i64 (k : Int), .int .u8 87, .string m.val, .int .i64 4096] W0 fun e w' => e = .returned (.bool (fitsT (decide ((87 : UInt8) ∈ letL k)) m.val.size 4096)) ∧ W0 = w') := textFits_any k h16 87 m.val 4096 W0 hT0
  generalize fitsN (decide ((86 : UInt8) ∈ letL k)) m.n5 9007199254740992 = b1 at *
  generalize fitsN (decide ((80 : UInt8) ∈ letL k)) m.n6 9007199254740992 = b2 at *
  generalize fitsN (decide ((69 : UInt8) ∈ letL k)) m.n3 9007199254740992 = b3 at *
  generalize fitsN (decide ((83 : UInt8) ∈ letL k)) m.n4 9007199254740992 = b4 at *
  generalize fitsN (decide ((67 : UInt8) ∈ letL k)) m.n7 65535 = b5 at *
  generalize fitsT (decide ((75 : UInt8) ∈ letL k)) m.key.size 255 = b6 at *
  generalize fitsT (decide ((87 : UInt8) ∈ letL k)) m.val.size 4096 = b7 at *
  unfold headB at h
  simp only [Bool.and_eq_true, decide_eq_true_eq] at h
  obtain ⟨⟨g1, g2⟩, ⟨g3, g4⟩, g5, g6⟩ := h
  have d1 : ¬ m.n0 < 0 := by omega
  have d2 : ¬ 65535 < m.n0 := by omega
  have d3 : ¬ m.n1 < 0 := by omega
  have d4 : ¬ 65535 < m.n1 := by omega
  have d5 : ¬ m.n2 < 0 := by omega
  have d6 : ¬ 9007199254740992 < m.n2 := by omega
  clear g1 g2 g3 g4 g5 g6 hT hT0
  go_enter Tryd.func25, Tryd.ntmps25
  go_upto_region 1 with fail
  rw [← hW0]
  clear hW0
  go_wp2_with fail
  refine Calls.mono CV.out ?_
  rintro e w1 ⟨rfl, rfl⟩
  go_wp2_with fail
  refine Calls.mono CP.out ?_
  rintro e w1 ⟨rfl, rfl⟩
  go_wp2_with fail
  refine Calls.mono CE.out ?_
  rintro e w1 ⟨rfl, rfl⟩
  go_wp2_with fail
  refine Calls.mono CS.out ?_
  rintro e w1 ⟨rfl, rfl⟩
  go_wp2_with fail
  refine Calls.mono CC.out ?_
  rintro e w1 ⟨rfl, rfl⟩
  go_wp2_with fail
  refine Calls.mono CK.out ?_
  rintro e w1 ⟨rfl, rfl⟩
  go_wp2_with fail
  refine Calls.mono CW.out ?_
  rintro e w1 ⟨rfl, rfl⟩
  go_upto_region 10 with fail
  cases b1 with
  | false =>
    go_wp2_with fail
    go_ret
    exact ⟨by first | rfl | simp, b0⟩
  | true =>
    cases b2 with
    | false =>
      go_wp2_with fail
      go_ret
      exact ⟨by first | rfl | simp, b0⟩
    | true =>
      cases b3 with
      | false =>
        go_wp2_with fail
        go_ret
        exact ⟨by first | rfl | simp, b0⟩
      | true =>
        cases b4 with
        | false =>
          go_wp2_with fail
          go_ret
          exact ⟨by first | rfl | simp, b0⟩
        | true =>
          cases b5 with
          | false =>
            go_wp2_with fail
            go_ret
            exact ⟨by first | rfl | simp, b0⟩
          | true =>
            cases b6 with
            | false =>
              go_wp2_with fail
              go_ret
              exact ⟨by first | rfl | simp, b0⟩
            | true =>
              cases b7 with
              | false =>
                go_wp2_with fail
                go_ret
                exact ⟨by first | rfl | simp, b0⟩
              | true =>
                go_wp2_with fail
                go_ret
                exact ⟨by first | rfl | simp, b0⟩
end Go.Proofs.YtghhejgmheejkaaDoor
