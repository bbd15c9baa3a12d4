import Derived.Test.YtfpalfpfijcpbaaGreatDoorGPaIdx
import Derived.Test.YtfpalfpfijcpbaaGreatDoorGPaWrit
import Derived.Test.YtfpalfpfijcpbaaGreatDoorGPaShape
namespace Go.Proofs.YtfpalfpfijcpbaaGreatDoor
open Go.RowKit Go.Shelf
/-- all blocks but one are as they were -/
structure Kb (R : Nat) (w w' : World) : Prop where
  os : w'.os = w.os
  tape : w'.tape = w.tape
  output : w'.output = w.output
  size : w.heap.size ≤ w'.heap.size
  block : ∀ i, i < w.heap.size → i ≠ R → w'.heap[i]? = w.heap[i]?
theorem Kb.refl (R : Nat) (w : World) : Kb R w w := ⟨rfl, rfl, rfl, Nat.le_refl _, fun _ _ _ => rfl⟩
theorem Kb.trans {R : Nat} {a b c : World} (h : Kb R a b) (k : Kb R b c) : Kb R a c := ⟨k.os.trans h.os, k.tape.trans h.tape, k.output.trans h.output, Nat.le_trans h.size k.size, fun i hi hn => (k.block i (Nat.lt_of_lt_of_le hi h.size) hn).trans (h.block i hi hn)⟩
theorem Kb.of {R : Nat} {w w' : World} (h : Below w.heap.size w w') : Kb R w w' := ⟨h.os, h.tape, h.output, h.size, fun i hi _ => h.block i hi⟩
theorem Kb.cell {R : Nat} {w w' : World} (h : Kb R w w') {b o : Nat} (hb : b < w.heap.size) (hn : b ≠ R) : w'.cell? ⟨b, o, none⟩ = w.cell? ⟨b, o, none⟩ := by
  simp only [World.cell?, h.block b hb hn]
theorem Kb.frozen {R : Nat} {w w' : World} (h : Kb R w w') {b o : Nat} (hb : b < w.heap.size) (hn : b ≠ R) : w'.frozen? ⟨b, o, none⟩ = w.frozen? ⟨b, o, none⟩ := by
  simp only [World.frozen?, h.block b hb hn]
theorem Kb.below {R B : Nat} {w0 w w' : World} (h : Kb R w w') (hb : Below B w0 w) (hB : B ≤ R) (hs : B ≤ w.heap.size) : Below B w0 w' := ⟨h.os.trans hb.os, h.tape.trans hb.tape, h.output.trans hb.output, Nat.le_trans hb.size h.size, fun i hi => (h.block i (by omega) (by omega)).trans (hb.block i hi)⟩
theorem Kb.set (R o : Nat) (w : World) (v : Value) : Kb R w (w.setCell ⟨R, o, none⟩ v) := ⟨rfl, rfl, rfl, by simp, fun i hi hn => Below.heap_setCell _ _ _ _ hn⟩
/-- a reader in memory -/
def RdAt (R : Nat) (tx : ByteArray) (at' : Nat) (w : World) : Prop := w.cell? ⟨R, 0, none⟩ = some (.string tx) ∧ w.cell? ⟨R, 1, none⟩ = some (.int .i64 (at' : Int)) ∧ w.frozen? ⟨R, 1, none⟩ = false
theorem RdAt.lt {R : Nat} {tx : ByteArray} {a : Nat} {w : World} (h : RdAt R tx a w) : R < w.heap.size := lt_of_cell? h.1
theorem RdAt.below {R : Nat} {tx : ByteArray} {a : Nat} {w w' : World} (h : RdAt R tx a w) (hb : Below w.heap.size w w') : RdAt R tx a w' := by
  have hl := h.lt
  exact ⟨by rw [hb.cell (by exact hl)]; exact h.1, by rw [hb.cell (by exact hl)]; exact h.2.1, by rw [hb.frozen (by exact hl)]; exact h.2.2⟩
theorem RdAt.set {R : Nat} {tx : ByteArray} {a : Nat} {w : World} (h : RdAt R tx a w) (b : Nat) : RdAt R tx b (w.setCell ⟨R, 1, none⟩ (.int .i64 (b : Int))) := by
  refine ⟨?_, ?_, ?_⟩
  · exact (World.cell?_setCell_other w _ _ _ (by simp)).trans h.1
  · exact World.cell?_setCell_same w _ _ h.2.1
  · rw [World.frozen?_setCell]; exact h.2.2
def isSep (c : UInt8) : Bool := ([32, 10] : List UInt8).contains c
/-- what stands ahead of the next blank or line feed -/
def wordL (l : List UInt8) : List UInt8 := l.takeWhile fun c => !isSep c
theorem wordL_le (l : List UInt8) : (wordL l).length ≤ l.length := by unfold wordL; exact (List.takeWhile_sublist _).length_le
theorem indexAny_word : ∀ l : List UInt8, (Lib.indexAny l [32, 10] = -1 ∧ wordL l = l) ∨ (∃ k : Nat, Lib.indexAny l [32, 10] = (k : Int) ∧ k ≤ l.length ∧ wordL l = l.take k)
  | [] => .inl ⟨rfl, rfl⟩
  | c :: r => by
    unfold wordL at *
    by_cases h : ([32, 10] : List UInt8).contains c = true
    · refine .inr ⟨0, ?_, Nat.zero_le _, ?_⟩
      · rw [Lib.indexAny, if_pos h]; rfl
      · rw [List.takeWhile_cons, if_neg (by unfold isSep; rw [h]; simp)]; rfl
    · have h2 : (!isSep c) = true := by unfold isSep; simpa using h
      rcases indexAny_word r with ⟨a, b⟩ | ⟨k, a, b, d⟩
      · refine .inl ⟨?_, ?_⟩
        · rw [Lib.indexAny, if_neg h, a]; rfl
        · rw [List.takeWhile_cons, if_pos h2]; unfold wordL at b; rw [b]
      · refine .inr ⟨k + 1, ?_, by simpa using b, ?_⟩
        · rw [Lib.indexAny, if_neg h, a, if_neg (by simp)]; rfl
        · rw [List.takeWhile_cons, if_pos h2]; unfold wordL at d; rw [d]; rfl
def restS (tx : ByteArray) (a : Nat) : ByteArray := tx.extract a tx.size
theorem restS_data (tx : ByteArray) (a : Nat) : (restS tx a).data.toList = tx.data.toList.drop a := by
  unfold restS
  rw [Lib.extract_data, List.take_of_length_le (by rw [List.length_drop, size_data]; omega)]
theorem restS_size (tx : ByteArray) (a : Nat) : (restS tx a).size = tx.size - a := by unfold restS; rw [ByteArray.size_extract]; omega
set_option maxHeartbeats 1000000 in
set_option maxRecDepth 100000 in
theorem rest_any (R : Nat) (tx : ByteArray) (a : Nat) (w : World) (h : RdAt R tx a w) (ha : a ≤ tx.size) :
    Calls Tryz.prog 111 #[.pointer (some ⟨R, 0, none⟩)] w fun e w' => e = .returned (.string (restS tx a)) ∧ ∃ n, w' = w.drewN n := by
  obtain ⟨h1, h2, h3⟩ := h
  go_enter Tryz.func111, Tryz.ntmps111
  go_wp2_with fail
  go_quiet (fail)
  go_wp2_with fail
  go_ret
  exact ⟨rfl, _, rfl⟩
theorem RdAt.drewN {R : Nat} {tx : ByteArray} {a : Nat} {w : World} (h : RdAt R tx a w) (n : Nat) : RdAt R tx a (w.drewN n) := h
theorem kb_drewN (R : Nat) (w : World) (n : Nat) : Kb R w (w.drewN n) := Kb.of (below_drewN (Below.refl _ w) n)
/-- does the word stand there -/
def pfx (wd : ByteArray) (l : List UInt8) : Bool := wd.data.toList.isPrefixOf l
/-- the place behind it, if it does -/
def skA (wd tx : ByteArray) (a : Nat) : Nat := if pfx wd (tx.data.toList.drop a) then a + wd.size else a
theorem pfx_len {wd tx : ByteArray} {a : Nat} (ha : a ≤ tx.size) (hp : pfx wd (tx.data.toList.drop a) = true) : a + wd.size ≤ tx.size := by
  have := (List.isPrefixOf_iff_prefix.1 hp).length_le
  rw [List.length_drop, size_data, size_data] at this
  omega
theorem skA_le {wd tx : ByteArray} {a : Nat} (ha : a ≤ tx.size) : skA wd tx a ≤ tx.size := by
  unfold skA; split
  · exact pfx_len ha ‹_›
  · exact ha
set_option maxHeartbeats 1000000 in
set_option maxRecDepth 100000 in
theorem skip_any (R : Nat) (tx wd : ByteArray) (a : Nat) (w : World) (h : RdAt R tx a w) (ha : a ≤ tx.size) (hs : tx.size < 9223372036854775808) :
    Calls Tryz.prog 47 #[.pointer (some ⟨R, 0, none⟩), .string wd] w fun e w' => e = .returned (.bool (pfx wd (tx.data.toList.drop a))) ∧ RdAt R tx (skA wd tx a) w' ∧ Kb R w w' := by
  have C1 := hide (rest_any R tx a w h ha)
  have C2 := hide (fun w' => Tryz.strings_HasPrefix (restS tx a) wd w')
  have H := hide h
  have e1 : Lib.hasPrefix (restS tx a).data.toList wd.data.toList = pfx wd (tx.data.toList.drop a) := by unfold Lib.hasPrefix pfx; rw [restS_data]
  rw [e1] at C2
  clear h e1
  obtain ⟨A, hA⟩ : ∃ A, A = skA wd tx a := ⟨_, rfl⟩
  rw [← hA]
  cases hp : pfx wd (tx.data.toList.drop a) with
  | false =>
    rw [hp] at C2
    have HA : Hid (A = a) := by show _ = _; rw [hA]; unfold skA; rw [hp]; rfl
    clear hA
    go_enter Tryz.func47, Tryz.ntmps47
    go_wp2_with fail
    refine Calls.mono C1.out ?_
    rintro e w1 ⟨rfl, n, rfl⟩
    go_wp2_with fail
    refine Calls.mono (C2.out _) ?_
    rintro e w2 ⟨rfl, rfl⟩
    go_wp2_with fail
    go_ret
    exact ⟨rfl, by rw [HA.out]; exact H.out.drewN n, kb_drewN R w n⟩
  | true =>
    rw [hp] at C2
    have HA : Hid (A = a + wd.size) := by show _ = _; rw [hA]; unfold skA; rw [hp]; rfl
    have hl := pfx_len ha hp
    clear hA
    go_enter Tryz.func47, Tryz.ntmps47
    go_wp2_with fail
    refine Calls.mono C1.out ?_
    rintro e w1 ⟨rfl, n, rfl⟩
    go_wp2_with fail
    refine Calls.mono (C2.out _) ?_
    rintro e w2 ⟨rfl, rfl⟩
    have H1 := hide (H.out.drewN n)
    have K1 := hide (kb_drewN R w n)
    obtain ⟨h1, h2, h3⟩ := H1.out
    have R1 := hide (H1.out.set (a + wd.size))
    clear C1 C2 H
    generalize w.drewN n = w1 at *
    go_wp2_with fail
    go_ret
    refine ⟨rfl, ?_, K1.out.trans (Kb.set R 1 _ _)⟩
    rw [HA.out]
    exact R1.out
set_option maxHeartbeats 1000000 in
set_option maxRecDepth 100000 in
theorem take_any (R : Nat) (tx : ByteArray) (a : Nat) (w : World) (h : RdAt R tx a w) (ha : a ≤ tx.size) (hs : tx.size < 9223372036854775808) :
    Calls Tryz.prog 114 #[.pointer (some ⟨R, 0, none⟩)] w fun e w' => e = .returned (.string (strOf (wordL (tx.data.toList.drop a)))) ∧ RdAt R tx (a + (wordL (tx.data.toList.drop a)).length) w' ∧ Kb R w w' := by
  have C1 := hide (rest_any R tx a w h ha)
  have C2 := hide (fun w' => indexAny_any (restS tx a) w' (by rw [restS_size]; omega))
  have H := hide h
  have hz := restS_size tx a
  have HD := hide (restS_data tx a)
  clear h
  rcases indexAny_word (restS tx a).data.toList with ⟨i1, i2⟩ | ⟨k, i1, i2, i3⟩
  · rw [i1] at C2
    have E1 : Hid (strOf (wordL (tx.data.toList.drop a)) = restS tx a) := by show _ = _; rw [← HD.out, i2]; exact strOf_toList _
    have E2 : Hid ((wordL (tx.data.toList.drop a)).length = (restS tx a).size) := by show _ = _; rw [← HD.out, i2, size_data]
    clear i1 i2
    generalize restS tx a = X at *
    go_enter Tryz.func114, Tryz.ntmps114
    go_wp2_with fail
    refine Calls.mono C1.out ?_
    rintro e w1 ⟨rfl, n, rfl⟩
    go_wp2_with fail
    refine Calls.mono (C2.out _) ?_
    rintro e w2 ⟨rfl, b2⟩
    have H1 := hide (H.out.drewN n |>.below b2)
    have K1 := hide ((kb_drewN R w n).trans (Kb.of b2))
    obtain ⟨h1, h2, h3⟩ := H1.out
    have R1 := hide (H1.out.set (a + X.size))
    have hz2 : a + X.size ≤ 9223372036854775807 := by omega
    clear b2 C1 C2 H hz
    go_wp2_with fail
    go_ret
    exact ⟨congrArg (fun z => Ending.returned (.string z)) E1.out.symm, by rw [E2.out]; exact R1.out, K1.out.trans (Kb.set R 1 _ _)⟩
  · rw [i1] at C2
    have E1 : Hid (strOf (wordL (tx.data.toList.drop a)) = (restS tx a).extract 0 k) := by
      show _ = _
      rw [← HD.out, i3, ← strOf_toList ((restS tx a).extract 0 k), Lib.extract_data, List.drop_zero, Nat.sub_zero]
    rw [size_data] at i2
    have E2 : Hid ((wordL (tx.data.toList.drop a)).length = k) := by show _ = _; rw [← HD.out, i3, List.length_take, size_data]; omega
    have hzz : ((restS tx a).extract 0 k).size = k := by rw [ByteArray.size_extract]; omega
    clear i1 i3
    generalize restS tx a = X at *
    go_enter Tryz.func114, Tryz.ntmps114
    go_wp2_with fail
    refine Calls.mono C1.out ?_
    rintro e w1 ⟨rfl, n, rfl⟩
    go_wp2_with fail
    refine Calls.mono (C2.out _) ?_
    rintro e w2 ⟨rfl, b2⟩
    have H1 := hide (H.out.drewN n |>.below b2)
    have K1 := hide ((kb_drewN R w n).trans (Kb.of b2))
    obtain ⟨h1, h2, h3⟩ := H1.out
    have R1 := hide (H1.out.set (a + k))
    have hz2 : a + k ≤ 9223372036854775807 := by omega
    clear b2 C1 C2 H hz
    go_wp2_with fail
    go_ret
    exact ⟨congrArg (fun z => Ending.returned (.string z)) E1.out.symm, by rw [E2.out]; exact R1.out, K1.out.trans (Kb.set R 1 _ _)⟩
end Go.Proofs.YtfpalfpfijcpbaaGreatDoor
namespace Go.Proofs.YtfpalfpfijcpbaaGreatDoor
open Go.RowKit Go.Shelf
def isDig (c : UInt8) : Bool := decide (48 ≤ c.toNat) && decide (c.toNat ≤ 57)
def valD (l : List UInt8) : Nat := l.foldl (fun n c => 10 * n + (c.toNat - 48)) 0
def zeroHd (l : List UInt8) : Bool := l.head? == some 48 && !(l == [48])
def numOk (l : List UInt8) : Bool := !l.isEmpty && decide (l.length ≤ 16) && !zeroHd l && l.all isDig
def numV (l : List UInt8) : Nat := if numOk l then valD l else 0
theorem valD_snoc (l : List UInt8) (c : UInt8) : valD (l ++ [c]) = 10 * valD l + (c.toNat - 48) := by unfold valD; rw [List.foldl_append]; rfl
theorem valD_lt (s : List UInt8) : ∀ k, k ≤ s.length → (s.take k).all isDig = true → valD (s.take k) < 10 ^ k
  | 0, _, _ => by simp [valD]
  | k + 1, hk, h => by
    rw [List.take_succ_eq_append_getElem (by omega), List.all_append, Bool.and_eq_true] at h
    have := valD_lt s k (by omega) h.1
    have hc : isDig s[k] = true := by simpa using h.2
    unfold isDig at hc
    simp at hc
    rw [List.take_succ_eq_append_getElem (by omega), valD_snoc, Nat.pow_succ]
    omega
theorem numOk_false_dig {s : ByteArray} {k : Nat} (h : k < s.size) (hd : isDig s[k] = false) : numOk s.data.toList = false := by
  unfold numOk
  have : s.data.toList.all isDig = false := by
    rw [List.all_eq_false]
    exact ⟨s[k], by have : s[k] = s.data.toList[k]'(by simpa using h) := rfl; rw [this]; exact List.getElem_mem _, by rw [hd]; simp⟩
  rw [this, Bool.and_false]
theorem ret_tup {a b : Int} {c d : Bool} (h1 : a = b) (h2 : c = d) : Ending.returned (.tuple #[.int .i64 a, .bool c]) = .returned (.tuple #[.int .i64 b, .bool d]) := by rw [h1, h2]
theorem numOk_bad {l : List UInt8} (h : numOk l = false) : Ending.returned (.tuple #[.int .i64 0, .bool false]) = .returned (.tuple #[.int .i64 (numV l : Int), .bool (numOk l)]) := by
  unfold numV; rw [h]; rfl
theorem toList_data (s : ByteArray) : s.toList = s.data.toList := ByteArray.toList_eq s
set_option maxHeartbeats 4000000 in
set_option maxRecDepth 100000 in
theorem readNumber_any (s : ByteArray) (w : World) (hs : s.size < 9223372036854775808) :
    Calls Tryz.prog 155 #[.string s, .int .i64 16] w fun e w' => e = .returned (.tuple #[.int .i64 (numV s.data.toList : Int), .bool (numOk s.data.toList)]) ∧ Below w.heap.size w w' := by
  by_cases h0 : s.size = 0
  · have e0 : s.data.toList = [] := List.length_eq_zero_iff.1 (by rw [size_data]; exact h0)
    have HB := hide (numOk_bad (l := s.data.toList) (by rw [e0]; rfl))
    have e1 : s.toList.isEmpty = true := by rw [toList_data, e0]; rfl
    clear e0
    go_enter Tryz.func155, Tryz.ntmps155
    go_wp2_with fail
    go_ret2
    exact ⟨HB.out, Below.refl _ _⟩
  have e1 : s.toList.isEmpty = false := by
    rw [toList_data, List.isEmpty_eq_false_iff]
    intro h; apply h0; rw [← size_data, h]; rfl
  by_cases h16 : 16 < s.size
  · have HB := hide (numOk_bad (l := s.data.toList) (by unfold numOk; rw [decide_eq_false (by rw [size_data]; omega)]; simp))
    have e2 : (16 : Int) < (s.size : Int) := by omega
    go_enter Tryz.func155, Tryz.ntmps155
    go_wp2_with fail
    go_ret2
    exact ⟨HB.out, Below.refl _ _⟩
  have e2 : ¬ (16 : Int) < (s.size : Int) := by omega
  have hp : 0 < s.size := by omega
  have hx0 : ∀ w', (Instr.index 9 (.string s) (.int .i64 0)).run Tryz.prog w' = .ok (.int .u8 ((s[0]'hp).toNat : Int)) w' := fun w' => ix_str w' s 0 hp
  have hhd : s.data.toList.head? = some (s[0]'hp) := by
    rw [List.head?_eq_getElem?]; exact Lib.data_getElem? s 0 hp
  have hd48 : ((s[0]'hp) = 48 ↔ (((s[0]'hp).toNat : Int) = 48)) := by
    constructor
    · intro h; rw [h]; rfl
    · intro h; rw [← UInt8.toNat_inj]; show _ = 48; omega
  generalize hc0 : (s[0]'hp) = c0 at *
  by_cases hz : zeroHd s.data.toList = true
  · have HB := hide (numOk_bad (l := s.data.toList) (by unfold numOk; rw [hz]; simp))
    unfold zeroHd at hz
    rw [hhd, Bool.and_eq_true] at hz
    have e3 : (c0.toNat : Int) = 48 := hd48.1 (by simpa using hz.1)
    have e4 : (s.toList == [48]) = false := by rw [toList_data]; simpa using hz.2
    clear hz hhd hd48
    go_enter Tryz.func155, Tryz.ntmps155
    go_wp2_with fail
    go_ret2
    exact ⟨HB.out, Below.refl _ _⟩
  have hz' : ((c0.toNat : Int) == 48) = false ∨ ((c0.toNat : Int) = 48 ∧ (s.toList == [48]) = true) := by
    unfold zeroHd at hz
    rw [hhd] at hz
    by_cases q : c0 = 48
    · refine .inr ⟨hd48.1 q, ?_⟩
      rw [toList_data]
      simpa [q] using hz
    · refine .inl ?_
      rw [beq_eq_false_iff_ne]
      exact fun e => q (hd48.2 e)
  have OK : Hid (s.data.toList.all isDig = true → numOk s.data.toList = true) := fun h => by
    unfold numOk
    rw [h, decide_eq_true (by rw [size_data]; omega)]
    rw [toList_data] at e1
    simp only [Bool.not_eq_true] at hz
    rw [e1, hz]; rfl
  clear hhd hd48 hz
  rcases hz' with e3 | ⟨e3, e4⟩
  all_goals
    go_enter Tryz.func155, Tryz.ntmps155
    go_wp2_with fail
    go_loopw [6, 7, 27] (fun n _ v wr => ∃ k : Nat, k ≤ s.size ∧ v = .int .i64 k ∧ n = .int .i64 (valD (s.data.toList.take k) : Int) ∧ Hid ((s.data.toList.take k).all isDig = true ∧ Below w.heap.size w wr)) (fun _ _ v _ => s.size - (intOf v).toNat)
    case atStart => exact ⟨0, Nat.zero_le _, rfl, rfl, rfl, Below.refl _ _⟩
    case round =>
      obtain ⟨k, hk, rfl, rfl, H⟩ := hrel
      have hV := valD_lt s.data.toList k (by rw [size_data]; exact hk) H.out.1
      have hV2 : valD (s.data.toList.take k) < 10000000000000000 := Nat.lt_of_lt_of_le hV (Nat.le_trans (Nat.pow_le_pow_right (by omega) (show k ≤ 16 by omega)) (by decide))
      by_cases hlt : k < s.size
      · have hxs : ∀ w', (Instr.index 9 (.string s) (.int .i64 (k : Int))).run Tryz.prog w' = .ok (.int .u8 (s[k].toNat : Int)) w' := fun w' => ix_str w' s k hlt
        have hsn : valD (s.data.toList.take (k + 1)) = 10 * valD (s.data.toList.take k) + (s[k].toNat - 48) := by
          rw [List.take_succ_eq_append_getElem (by simpa using hlt), valD_snoc]; rfl
        have hal : (s.data.toList.take (k + 1)).all isDig = ((s.data.toList.take k).all isDig && isDig s[k]) := by
          rw [List.take_succ_eq_append_getElem (by simpa using hlt), List.all_append]; simp; rfl
        have HB : Hid (isDig s[k] = false → _) := fun h => numOk_bad (numOk_false_dig hlt h)
        have hdg : isDig s[k] = (decide (48 ≤ s[k].toNat) && decide (s[k].toNat ≤ 57)) := rfl
        have HSN := hide hsn
        have HAL := hide hal
        have HDG := hide hdg
        clear hsn hal hdg hV
        generalize s[k] = c at *
        generalize valD (s.data.toList.take k) = V at *
        by_cases hd1 : c.toNat < 48
        · have e5 : (c.toNat : Int) < 48 := by omega
          have E5 := hide (HB.out (by rw [HDG.out, decide_eq_false (by omega)]; rfl))
          clear HB
          go_wp2_with fail
          go_ret2
          exact ⟨E5.out, H.out.2⟩
        · by_cases hd2 : 57 < c.toNat
          · have e5 : ¬ (c.toNat : Int) < 48 := by omega
            have e6 : (57 : Int) < (c.toNat : Int) := by omega
            have E5 := hide (HB.out (by rw [HDG.out, decide_eq_false (p := c.toNat ≤ 57) (by omega), Bool.and_false]))
            clear HB
            go_wp2_with fail
            go_ret2
            exact ⟨E5.out, H.out.2⟩
          · have e5 : ¬ (c.toNat : Int) < 48 := by omega
            have e6 : ¬ (57 : Int) < (c.toNat : Int) := by omega
            go_wp2_with fail
            refine ⟨⟨k + 1, by omega, by go_num, ?_, ?_, H.out.2⟩, by simp [intOf]; omega⟩
            · rw [HSN.out]; congr 1; omega
            · rw [HAL.out, H.out.1, HDG.out, decide_eq_true (by omega), decide_eq_true (by omega)]; rfl
      · obtain rfl : k = s.size := by omega
        have H1 := H.out.1
        rw [List.take_of_length_le (by simp)] at H1 ⊢
        have E5 : Hid (numOk s.data.toList = true ∧ numV s.data.toList = valD s.data.toList) := ⟨OK.out H1, by unfold numV; rw [OK.out H1]; rfl⟩
        clear H1 hV hV2
        go_wp2_with fail
        go_ret2
        exact ⟨ret_tup (by rw [E5.out.2]) E5.out.1.symm, H.out.2⟩
end Go.Proofs.YtfpalfpfijcpbaaGreatDoor
namespace Go.Proofs.YtfpalfpfijcpbaaGreatDoor
open Go.RowKit
/-- what half answers -/
def halfV (c : UInt8) : Int × Bool := match unhd c with | some x => ((x : Int), true) | none => (0, false)
theorem half_tuple {a b : Int} {p q : Bool} (h : (a, p) = (b, q)) : Ending.returned (.tuple #[.int .u8 a, .bool p]) = .returned (.tuple #[.int .u8 b, .bool q]) := by
  injection h with h1 h2; rw [h1, h2]
theorem halfV_dig {c : UInt8} (h0 : (48 : Int) ≤ (c.toNat : Int)) (h1 : (c.toNat : Int) ≤ 57) : halfV c = ((c.toNat : Int) - 48, true) := by
  unfold halfV unhd
  rw [if_pos ⟨by omega, by omega⟩]
  show (((c.toNat - 48 : Nat) : Int), true) = _
  rw [show ((c.toNat - 48 : Nat) : Int) = (c.toNat : Int) - 48 by omega]
theorem halfV_let {c : UInt8} (h0 : (97 : Int) ≤ (c.toNat : Int)) (h1 : (c.toNat : Int) ≤ 102) : halfV c = ((c.toNat : Int) - 97 + 10, true) := by
  unfold halfV unhd
  rw [if_neg (by omega), if_pos ⟨by omega, by omega⟩]
  show (((c.toNat - 87 : Nat) : Int), true) = _
  rw [show ((c.toNat - 87 : Nat) : Int) = (c.toNat : Int) - 97 + 10 by omega]
theorem halfV_no {c : UInt8} (h0 : ¬ (48 ≤ c.toNat ∧ c.toNat ≤ 57)) (h1 : ¬ (97 ≤ c.toNat ∧ c.toNat ≤ 102)) : halfV c = (0, false) := by
  unfold halfV unhd
  rw [if_neg h0, if_neg h1]
set_option maxRecDepth 100000 in
theorem half_any (c : UInt8) (w : World) :
    Calls Tryz.prog 191 #[.int .u8 (c.toNat : Int)] w fun e w' => e = .returned (.tuple #[.int .u8 (halfV c).1, .bool (halfV c).2]) ∧ w = w' := by
  have hb : (c.toNat : Int) < 256 := by have := c.toNat_lt; omega
  have hb0 : (0 : Int) ≤ (c.toNat : Int) := by omega
  go_enter Tryz.func191, Tryz.ntmps191
  go_wp2
  all_goals go_ret2
  all_goals refine ⟨half_tuple ?_, rfl⟩
  all_goals first
    | (rw [halfV_dig (by omega) (by omega)]; done)
    | (rw [halfV_let (by omega) (by omega)]; done)
    | (rw [halfV_no (by omega) (by omega)]; done)
    | skip
/-- what digit answers -/
def digitV (c : UInt8) : Int := match unhd c with | some x => (x : Int) | none => -1
theorem digitV_hit {c : UInt8} {k : Nat} (hk : k < 16) (h : hd k = c) : digitV c = (k : Int) := by
  have := unhd_hd ⟨k, hk⟩
  rw [h] at this
  unfold digitV
  rw [this]
theorem digitV_none {c : UInt8} (h : ∀ j, j < 16 → hd j ≠ c) : digitV c = -1 := by
  unfold digitV
  cases hx : unhd c with
  | none => rfl
  | some x => exact absurd (hd_unhd hx) (h x (unhd_lt hx))
theorem halfV_some {c : UInt8} (h : (halfV c).2 = true) : ∃ x, unhd c = some x ∧ (halfV c).1 = (x : Int) ∧ x < 16 := by
  unfold halfV at *
  cases hx : unhd c with
  | none => rw [hx] at h; simp at h
  | some x => exact ⟨x, rfl, rfl, unhd_lt hx⟩
theorem halfV_none {c : UInt8} (h : (halfV c).2 = false) : unhd c = none := by
  unfold halfV at *
  cases hx : unhd c with
  | none => rfl
  | some x => rw [hx] at h; simp at h
theorem halfV_cases (c : UInt8) : (unhd c = none ∧ halfV c = (0, false)) ∨ ∃ x, unhd c = some x ∧ x < 16 ∧ halfV c = ((x : Int), true) := by
  unfold halfV
  cases hx : unhd c with
  | none => exact Or.inl ⟨rfl, rfl⟩
  | some x => exact Or.inr ⟨x, rfl, unhd_lt hx, rfl⟩
theorem cell_at_end {t : List UInt8} {k n : Nat} {z : Value} (hl : t.length = k) (hn : 0 < n) : (t.map ub ++ List.replicate n z)[k]? = some z := by
  rw [List.getElem?_append_right (by simp; omega)]
  simp [hl, hn]
theorem row_set {t : List UInt8} {k N : Nat} (hl : t.length = k) (hn : k < N) (x y : Nat) (hx : x < 16) (hy : y < 16) :
    (t.map ub ++ List.replicate (N - k) (Value.int .u8 0)).set k (.int .u8 (16 * (x : Int) + y)) = (t ++ [UInt8.ofNat (16 * x + y)]).map ub ++ List.replicate (N - (k + 1)) (Value.int .u8 0) := by
  obtain ⟨m, hm⟩ : ∃ m, N - k = m + 1 := ⟨N - k - 1, by omega⟩
  rw [hm, show N - (k + 1) = m by omega, List.set_append_right _ _ (by simp; omega)]
  have e : ub (UInt8.ofNat (16 * x + y)) = .int .u8 (16 * (x : Int) + y) := by
    unfold ub
    rw [UInt8.toNat_ofNat', Nat.mod_eq_of_lt (by omega)]
    norm_cast
  rw [List.map_append, List.map_cons, e]
  simp [hl, List.replicate_succ]
theorem unbad {l : List UInt8} (h : unhexL l = none) : Ending.returned (.tuple #[.string ⟨#[]⟩, .int .i64 20]) = .returned (.tuple #[.string (unS l), .int .i64 (unE l)]) := by
  unfold unS unE; rw [h]; rfl
theorem ungood {l t : List UInt8} (h : unhexL l = some t) : Ending.returned (.tuple #[.string (strOf t), .int .i64 0]) = .returned (.tuple #[.string (unS l), .int .i64 (unE l)]) := by
  unfold unS unE; rw [h]; rfl
set_option maxHeartbeats 1000000 in
set_option maxRecDepth 100000 in
theorem unhex_even (s : ByteArray) (w : World) (hs : s.size ≤ 1099511627776) (he : s.size % 2 = 0) :
    Calls Tryz.prog 172 #[.string s] w fun e w' => e = .returned (.tuple #[.string (unS s.data.toList), .int .i64 (unE s.data.toList)]) ∧ Below w.heap.size w w' := by
  obtain ⟨i0, hi, hz0, hz1, hz2⟩ := info_parts info5
  have hq : ((s.size : Int) % 2 != 0) = false := by rw [show (s.size : Int) % 2 = 0 by omega]; rfl
  obtain ⟨N, hN⟩ : ∃ N, s.size = 2 * N := ⟨s.size / 2, by omega⟩
  go_enter Tryz.func172, Tryz.ntmps172
  go_wp2_with (at_make; refine wpList_make_full _ rfl _ _ 101 rfl w.heap.size 5 i0 (.int .u8 0) 1 Tryz.underlying101 hi hz0 hz1 _ _ _ _ N rfl rfl (by omega) (by omega) (by rw [hz2]; omega) (by unfold maxLen; omega) (Nat.le_refl _) ?_)
  intro w1 hown1 hgrow1
  have hb1 : Below w.heap.size w w1 := (Below.refl _ w).grown hgrow1 (Nat.le_refl _) (by simp)
  rw [toList_madeCells_one] at hown1
  go_wp2
  go_loopw [20] (fun i wr => ∃ (k : Nat) (t : List UInt8), k ≤ N ∧ i = .int .i64 k ∧ unhexL (s.data.toList.take (2 * k)) = some t ∧
      wr.ownsRow w.heap.size 5 1 (.slice (some ⟨w.heap.size, 0, none⟩) N N) N (t.map ub ++ List.replicate (N - k) (Value.int .u8 0)) ∧ Below w.heap.size w wr)
    (fun i _ => N - (intOf i).toNat)
  case atStart => exact ⟨0, [], Nat.zero_le _, rfl, rfl, by simpa using hown1, hb1⟩
  case round =>
    obtain ⟨k, t, hk, rfl, ht, hown, hnx⟩ := hrel
    have hsize := hnx.size
    have hlen : t.length = k := by have := unhex_len ht; rw [List.length_take, size_data] at this; omega
    have HT := hide ht
    have HL := hide hlen
    clear ht hlen
    by_cases hlt : k < N
    · have h2 : 2 * k < s.size := by omega
      have h3 : 2 * k + 1 < s.size := by omega
      obtain ⟨X, hX⟩ : ∃ X, X = s[2 * k] := ⟨_, rfl⟩
      obtain ⟨Y, hY⟩ : ∃ Y, Y = s[2 * k + 1] := ⟨_, rfl⟩
      have hx1 : ∀ w', (Instr.index 9 (.string s) (.int .i64 (2 * (k : Int)))).run Tryz.prog w' = .ok (.int .u8 (X.toNat : Int)) w' := fun w' => by
        have := ix_str w' s (2 * k) h2
        rw [hX]
        rwa [show ((2 * k : Nat) : Int) = 2 * (k : Int) by omega] at this
      have hy1 : ∀ w', (Instr.index 9 (.string s) (.int .i64 (2 * (k : Int) + 1))).run Tryz.prog w' = .ok (.int .u8 (Y.toNat : Int)) w' := fun w' => by
        have := ix_str w' s (2 * k + 1) h3
        rw [hY]
        rwa [show ((2 * k + 1 : Nat) : Int) = 2 * (k : Int) + 1 by omega] at this
      have HX := hide hX
      have HY := hide hY
      clear hX hY
      have hc1 := hown.cellAt k (by omega)
      rw [cell_at_end HL.out (by omega)] at hc1
      have hc2 := hown.frozenAt k
      have bad : (unhd X = none ∨ unhd Y = none) → unhexL s.data.toList = none := fun h => unhex_bad s.data.toList k (by rw [size_data]; exact h3) (by
        rw [show s.data.toList[2 * k]'(by rw [size_data]; exact h2) = X from HX.out.symm, show s.data.toList[2 * k + 1]'(by rw [size_data]; exact h3) = Y from HY.out.symm]; exact h)
      have BAD := hide bad
      clear bad
      rcases halfV_cases X with ⟨hx, hxv⟩ | ⟨x, hx, hx16, hxv⟩
      · have F := hide (unbad (BAD.out (Or.inl hx)))
        clear hx
        go_wp2_with (go_at_call 191; refine (half_any _ _).mono ?_; rintro e w' ⟨rfl, rfl⟩)
        go_ret2
        exact ⟨F.out, hnx⟩
      · rcases halfV_cases Y with ⟨hy, hyv⟩ | ⟨y, hy, hy16, hyv⟩
        · have F := hide (unbad (BAD.out (Or.inr hy)))
          clear hx hy
          go_wp2_with (go_at_call 191; refine (half_any _ _).mono ?_; rintro e w' ⟨rfl, rfl⟩)
          go_ret2
          exact ⟨F.out, hnx⟩
        · have STEP := hide (unhex_step s.data.toList k (by rw [size_data]; exact h3) HT.out (by rw [show s.data.toList[2 * k]'(by rw [size_data]; exact h2) = X from HX.out.symm]; exact hx) (by rw [show s.data.toList[2 * k + 1]'(by rw [size_data]; exact h3) = Y from HY.out.symm]; exact hy))
          clear hx hy
          go_wp2_with (go_at_call 191; refine (half_any _ _).mono ?_; rintro e w' ⟨rfl, rfl⟩)
          go_roundw
          case rel =>
            refine ⟨k + 1, t ++ [UInt8.ofNat (16 * x + y)], by omega, by go_num, STEP.out, ?_, ?_⟩
            · have := hown.stored k (.int .u8 (16 * (x : Int) + y))
              rw [row_set HL.out (by omega) x y hx16 hy16] at this
              exact this.1
            · exact hnx.setCell (by simp) _
          case measure => simp [intOf]; omega
    · obtain rfl : k = N := by omega
      have hall : s.data.toList.take (2 * k) = s.data.toList := List.take_of_length_le (by rw [size_data]; omega)
      rw [Nat.sub_self, List.replicate_zero, List.append_nil] at hown
      have hc := own_conv (P := Tryz.prog) (src := 101) (dst := 9) hown HL.out.symm Tryz.underlying101 Tryz.underlying5 Tryz.underlying9
      have F := hide (ungood (by have := HT.out; rwa [hall] at this))
      clear hall
      go_wp2
      go_ret2
      exact ⟨F.out, hnx⟩
set_option maxRecDepth 100000 in
theorem unhex_oddc (s : ByteArray) (w : World) (hs : s.size ≤ 1099511627776) (he : s.size % 2 = 1) :
    Calls Tryz.prog 172 #[.string s] w fun e w' => e = .returned (.tuple #[.string (unS s.data.toList), .int .i64 (unE s.data.toList)]) ∧ Below w.heap.size w w' := by
  have hq : ((s.size : Int) % 2 != 0) = true := by rw [show (s.size : Int) % 2 = 1 by omega]; rfl
  have F := hide (unbad (unhex_odd s.data.toList (by rw [size_data]; exact he)))
  go_enter Tryz.func172, Tryz.ntmps172
  go_wp2
  go_ret2
  exact ⟨F.out, Below.refl _ _⟩
/-- digest.Unhex -/
theorem unhex_any (s : ByteArray) (w : World) (hs : s.size ≤ 1099511627776) :
    Calls Tryz.prog 172 #[.string s] w fun e w' => e = .returned (.tuple #[.string (unS s.data.toList), .int .i64 (unE s.data.toList)]) ∧ Below w.heap.size w w' := by
  rcases Nat.mod_two_eq_zero_or_one s.size with h | h
  · exact unhex_even s w hs h
  · exact unhex_oddc s w hs h
end Go.Proofs.YtfpalfpfijcpbaaGreatDoor
