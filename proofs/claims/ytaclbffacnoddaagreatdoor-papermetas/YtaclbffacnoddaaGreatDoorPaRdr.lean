import Derived.Test.YtaclbffacnoddaaGreatDoorPaIdx
import Derived.Test.YtaclbffacnoddaaGreatDoorPart9
namespace Go.Proofs.YtaclbffacnoddaaGreatDoor
open Go.RowKit Go.Shelf
/-- all blocks but one are as they were -/
structure Kb (R : Nat) (w w' : World) : Prop where
  os : w'.os = w.os
  tape : w'.tape = w.tape
  output : w'.output = w.output
  size : w.heap.size ≤ w'.heap.size
  block : ∀ i, i < w.heap.size → i ≠ R → w'.heap[i]? = w.heap[i]?
theorem Kb.refl (R : Nat) (w : World) : Kb R w w := ⟨rfl, rfl, rfl, Nat.le_refl _, fun _ _ _ => rfl⟩
theorem Kb.trans {R : Nat} {a b c : World} (h : Kb R a b) (k : Kb R b c) : Kb R a c := ⟨k.os.trans h.os, k.tape.trans h.tape, k.output.trans h.output, Nat.le_trans h.size k.size, fun i hi hn => (k.block i (Nat.lt_of_lt_of_le hi h.size) hn).trans (h.block i hi hn)⟩
theorem Kb.of {R : Nat} {w w' : World} (h : Below w.heap.size w w') : Kb R w w' := ⟨h.os, h.tape, h.output, h.size, fun i hi _ => h.block i hi⟩
theorem Kb.cell {R : Nat} {w w' : World} (h : Kb R w w') {b o : Nat} (hb : b < w.heap.size) (hn : b ≠ R) : w'.cell? ⟨b, o, none⟩ = w.cell? ⟨b, o, none⟩ := by
  simp only [World.cell?, h.block b hb hn]
theorem Kb.frozen {R : Nat} {w w' : World} (h : Kb R w w') {b o : Nat} (hb : b < w.heap.size) (hn : b ≠ R) : w'.frozen? ⟨b, o, none⟩ = w.frozen? ⟨b, o, none⟩ := by
  simp only [World.frozen?, h.block b hb hn]
theorem Kb.below {R B : Nat} {w0 w w' : World} (h : Kb R w w') (hb : Below B w0 w) (hB : B ≤ R) (hs : B ≤ w.heap.size) : Below B w0 w' := ⟨h.os.trans hb.os, h.tape.trans hb.tape, h.output.trans hb.output, Nat.le_trans hb.size h.size, fun i hi => (h.block i (by omega) (by omega)).trans (hb.block i hi)⟩
theorem Kb.set (R o : Nat) (w : World) (v : Value) : Kb R w (w.setCell ⟨R, o, none⟩ v) := ⟨rfl, rfl, rfl, by simp, fun i hi hn => Below.heap_setCell _ _ _ _ hn⟩
/-- a reader in memory -/
def RdAt (R : Nat) (tx : ByteArray) (at' : Nat) (w : World) : Prop := w.cell? ⟨R, 0, none⟩ = some (.string tx) ∧ w.cell? ⟨R, 1, none⟩ = some (.int .i64 (at' : Int)) ∧ w.frozen? ⟨R, 1, none⟩ = false
theorem RdAt.lt {R : Nat} {tx : ByteArray} {a : Nat} {w : World} (h : RdAt R tx a w) : R < w.heap.size := lt_of_cell? h.1
theorem RdAt.below {R : Nat} {tx : ByteArray} {a : Nat} {w w' : World} (h : RdAt R tx a w) (hb : Below w.heap.size w w') : RdAt R tx a w' := by
  have hl := h.lt
  exact ⟨by rw [hb.cell (by exact hl)]; exact h.1, by rw [hb.cell (by exact hl)]; exact h.2.1, by rw [hb.frozen (by exact hl)]; exact h.2.2⟩
theorem RdAt.set {R : Nat} {tx : ByteArray} {a : Nat} {w : World} (h : RdAt R tx a w) (b : Nat) : RdAt R tx b (w.setCell ⟨R, 1, none⟩ (.int .i64 (b : Int))) := by
  refine ⟨?_, ?_, ?_⟩
  · exact (World.cell?_setCell_other w _ _ _ (by simp)).trans h.1
  · exact World.cell?_setCell_same w _ _ h.2.1
  · rw [World.frozen?_setCell]; exact h.2.2
def isSep (c : UInt8) : Bool := ([32, 10] : List UInt8).contains c
/-- what stands ahead of the next blank or line feed -/
def wordL (l : List UInt8) : List UInt8 := l.takeWhile fun c => !isSep c
theorem wordL_le (l : List UInt8) : (wordL l).length ≤ l.length := by unfold wordL; exact (List.takeWhile_sublist _).length_le
theorem indexAny_word : ∀ l : List UInt8, (Lib.indexAny l [32, 10] = -1 ∧ wordL l = l) ∨ (∃ k : Nat, Lib.indexAny l [32, 10] = (k : Int) ∧ k ≤ l.length ∧ wordL l = l.take k)
  | [] => .inl ⟨rfl, rfl⟩
  | c :: r => by
    unfold wordL at *
    by_cases h : ([32, 10] : List UInt8).contains c = true
    · refine .inr ⟨0, ?_, Nat.zero_le _, ?_⟩
      · rw [Lib.indexAny, if_pos h]; rfl
      · rw [List.takeWhile_cons, if_neg (by unfold isSep; rw [h]; simp)]; rfl
    · have h2 : (!isSep c) = true := by unfold isSep; simpa using h
      rcases indexAny_word r with ⟨a, b⟩ | ⟨k, a, b, d⟩
      · refine .inl ⟨?_, ?_⟩
        · rw [Lib.indexAny, if_neg h, a]; rfl
        · rw [List.takeWhile_cons, if_pos h2]; unfold wordL at b; rw [b]
      · refine .inr ⟨k + 1, ?_, by simpa using b, ?_⟩
        · rw [Lib.indexAny, if_neg h, a, if_neg (by simp)]; rfl
        · rw [List.takeWhile_cons, if_pos h2]; unfold wordL at d; rw [d]; rfl
def restS (tx : ByteArray) (a : Nat) : ByteArray := tx.extract a tx.size
theorem restS_data (tx : ByteArray) (a : Nat) : (restS tx a).data.toList = tx.data.toList.drop a := by
  unfold restS
  rw [Lib.extract_data, List.take_of_length_le (by rw [List.length_drop, size_data]; omega)]
theorem restS_size (tx : ByteArray) (a : Nat) : (restS tx a).size = tx.size - a := by unfold restS; rw [ByteArray.size_extract]; omega
set_option maxHeartbeats 1000000 in
set_option maxRecDepth 100000 in
theorem rest_any (R : Nat) (tx : ByteArray) (a : Nat) (w : World) (h : RdAt R tx a w) (ha : a ≤ tx.size) :
    Calls Tryz.prog 88 #[.pointer (some ⟨R, 0, none⟩)] w fun e w' => e = .returned (.string (restS tx a)) ∧ ∃ n, w' = w.drewN n := by
  obtain ⟨h1, h2, h3⟩ := h
  go_enter Tryz.func88, Tryz.ntmps88
  go_wp2_with fail
  go_quiet (fail)
  go_wp2_with fail
  go_ret
  exact ⟨rfl, _, rfl⟩
theorem RdAt.drewN {R : Nat} {tx : ByteArray} {a : Nat} {w : World} (h : RdAt R tx a w) (n : Nat) : RdAt R tx a (w.drewN n) := h
theorem kb_drewN (R : Nat) (w : World) (n : Nat) : Kb R w (w.drewN n) := Kb.of (below_drewN (Below.refl _ w) n)
/-- does the word stand there -/
def pfx (wd : ByteArray) (l : List UInt8) : Bool := wd.data.toList.isPrefixOf l
/-- the place behind it, if it does -/
def skA (wd tx : ByteArray) (a : Nat) : Nat := if pfx wd (tx.data.toList.drop a) then a + wd.size else a
theorem pfx_len {wd tx : ByteArray} {a : Nat} (ha : a ≤ tx.size) (hp : pfx wd (tx.data.toList.drop a) = true) : a + wd.size ≤ tx.size := by
  have := (List.isPrefixOf_iff_prefix.1 hp).length_le
  rw [List.length_drop, size_data, size_data] at this
  omega
theorem skA_le {wd tx : ByteArray} {a : Nat} (ha : a ≤ tx.size) : skA wd tx a ≤ tx.size := by
  unfold skA; split
  · exact pfx_len ha ‹_›
  · exact ha
set_option maxHeartbeats 1000000 in
set_option maxRecDepth 100000 in
theorem skip_any (R : Nat) (tx wd : ByteArray) (a : Nat) (w : World) (h : RdAt R tx a w) (ha : a ≤ tx.size) (hs : tx.size < 9223372036854775808) :
    Calls Tryz.prog 49 #[.pointer (some ⟨R, 0, none⟩), .string wd] w fun e w' => e = .returned (.bool (pfx wd (tx.data.toList.drop a))) ∧ RdAt R tx (skA wd tx a) w' ∧ Kb R w w' := by
  have C1 := hide (rest_any R tx a w h ha)
  have C2 := hide (fun w' => Tryz.strings_HasPrefix (restS tx a) wd w')
  have H := hide h
  have e1 : Lib.hasPrefix (restS tx a).data.toList wd.data.toList = pfx wd (tx.data.toList.drop a) := by unfold Lib.hasPrefix pfx; rw [restS_data]
  rw [e1] at C2
  clear h e1
  obtain ⟨A, hA⟩ : ∃ A, A = skA wd tx a := ⟨_, rfl⟩
  rw [← hA]
  cases hp : pfx wd (tx.data.toList.drop a) with
  | false =>
    rw [hp] at C2
    have HA : Hid (A = a) := by show _ = _; rw [hA]; unfold skA; rw [hp]; rfl
    clear hA
    go_enter Tryz.func49, Tryz.ntmps49
    go_wp2_with fail
    refine Calls.mono C1.out ?_
    rintro e w1 ⟨rfl, n, rfl⟩
    go_wp2_with fail
    refine Calls.mono (C2.out _) ?_
    rintro e w2 ⟨rfl, rfl⟩
    go_wp2_with fail
    go_ret
    exact ⟨rfl, by rw [HA.out]; exact H.out.drewN n, kb_drewN R w n⟩
  | true =>
    rw [hp] at C2
    have HA : Hid (A = a + wd.size) := by show _ = _; rw [hA]; unfold skA; rw [hp]; rfl
    have hl := pfx_len ha hp
    clear hA
    go_enter Tryz.func49, Tryz.ntmps49
    go_wp2_with fail
    refine Calls.mono C1.out ?_
    rintro e w1 ⟨rfl, n, rfl⟩
    go_wp2_with fail
    refine Calls.mono (C2.out _) ?_
    rintro e w2 ⟨rfl, rfl⟩
    have H1 := hide (H.out.drewN n)
    have K1 := hide (kb_drewN R w n)
    obtain ⟨h1, h2, h3⟩ := H1.out
    have R1 := hide (H1.out.set (a + wd.size))
    clear C1 C2 H
    generalize w.drewN n = w1 at *
    go_wp2_with fail
    go_ret
    refine ⟨rfl, ?_, K1.out.trans (Kb.set R 1 _ _)⟩
    rw [HA.out]
    exact R1.out
set_option maxHeartbeats 1000000 in
set_option maxRecDepth 100000 in
theorem take_any (R : Nat) (tx : ByteArray) (a : Nat) (w : World) (h : RdAt R tx a w) (ha : a ≤ tx.size) (hs : tx.size < 9223372036854775808) :
    Calls Tryz.prog 91 #[.pointer (some ⟨R, 0, none⟩)] w fun e w' => e = .returned (.string (strOf (wordL (tx.data.toList.drop a)))) ∧ RdAt R tx (a + (wordL (tx.data.toList.drop a)).length) w' ∧ Kb R w w' := by
  have C1 := hide (rest_any R tx a w h ha)
  have C2 := hide (fun w' => indexAny_any (restS tx a) w' (by rw [restS_size]; omega))
  have H := hide h
  have hz := restS_size tx a
  have HD := hide (restS_data tx a)
  clear h
  rcases indexAny_word (restS tx a).data.toList with ⟨i1, i2⟩ | ⟨k, i1, i2, i3⟩
  · rw [i1] at C2
    have E1 : Hid (strOf (wordL (tx.data.toList.drop a)) = restS tx a) := by show _ = _; rw [← HD.out, i2]; exact strOf_toList _
    have E2 : Hid ((wordL (tx.data.toList.drop a)).length = (restS tx a).size) := by show _ = _; rw [← HD.out, i2, size_data]
    clear i1 i2
    generalize restS tx a = X at *
    go_enter Tryz.func91, Tryz.ntmps91
    go_wp2_with fail
    refine Calls.mono C1.out ?_
    rintro e w1 ⟨rfl, n, rfl⟩
    go_wp2_with fail
    refine Calls.mono (C2.out _) ?_
    rintro e w2 ⟨rfl, b2⟩
    have H1 := hide (H.out.drewN n |>.below b2)
    have K1 := hide ((kb_drewN R w n).trans (Kb.of b2))
    obtain ⟨h1, h2, h3⟩ := H1.out
    have R1 := hide (H1.out.set (a + X.size))
    have hz2 : a + X.size ≤ 9223372036854775807 := by omega
    clear b2 C1 C2 H hz
    go_wp2_with fail
    go_ret
    exact ⟨congrArg (fun z => Ending.returned (.string z)) E1.out.symm, by rw [E2.out]; exact R1.out, K1.out.trans (Kb.set R 1 _ _)⟩
  · rw [i1] at C2
    have E1 : Hid (strOf (wordL (tx.data.toList.drop a)) = (restS tx a).extract 0 k) := by
      show _ = _
      rw [← HD.out, i3, ← strOf_toList ((restS tx a).extract 0 k), Lib.extract_data, List.drop_zero, Nat.sub_zero]
    rw [size_data] at i2
    have E2 : Hid ((wordL (tx.data.toList.drop a)).length = k) := by show _ = _; rw [← HD.out, i3, List.length_take, size_data]; omega
    have hzz : ((restS tx a).extract 0 k).size = k := by rw [ByteArray.size_extract]; omega
    clear i1 i3
    generalize restS tx a = X at *
    go_enter Tryz.func91, Tryz.ntmps91
    go_wp2_with fail
    refine Calls.mono C1.out ?_
    rintro e w1 ⟨rfl, n, rfl⟩
    go_wp2_with fail
    refine Calls.mono (C2.out _) ?_
    rintro e w2 ⟨rfl, b2⟩
    have H1 := hide (H.out.drewN n |>.below b2)
    have K1 := hide ((kb_drewN R w n).trans (Kb.of b2))
    obtain ⟨h1, h2, h3⟩ := H1.out
    have R1 := hide (H1.out.set (a + k))
    have hz2 : a + k ≤ 9223372036854775807 := by omega
    clear b2 C1 C2 H hz
    go_wp2_with fail
    go_ret
    exact ⟨congrArg (fun z => Ending.returned (.string z)) E1.out.symm, by rw [E2.out]; exact R1.out, K1.out.trans (Kb.set R 1 _ _)⟩
end Go.Proofs.YtaclbffacnoddaaGreatDoor
