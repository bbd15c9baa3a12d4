import Derived.Test.YtgdopepghmjopaaGreatDoorPaShelf
import Derived.Test.YtgdopepghmjopaaGreatDoorGPaBuild
import Derived.Laws.RangeAny
import Derived.Deep.LoopGhost
import Derived.Deep.QuietTactic
import Derived.BigQuiet
import Derived.Deep.WholeRow
import Derived.Deep.RegionHeld3
import Derived.Test.YtgdopepghmjopaaGreatDoorGPaWrit
namespace Go.Proofs.YtgdopepghmjopaaGreatDoor
open Go.RowKit Go.Shelf
def seps : ByteArray := ⟨#[32, 10]⟩
/-- what a rune above ASCII takes of a text: bytes above ASCII -/
theorem decode_span (s : ByteArray) (pos : Nat) (h : pos < s.size) (ha : 128 ≤ (s[pos]'h).toNat) : pos + (Utf8.decode s pos).2 ≤ s.size ∧ ∀ j, j < (Utf8.decode s pos).2 → 128 ≤ (s.get! (pos + j)).toNat := by
  have hn : ¬ (s[pos]'h).toNat < 128 := by omega
  have h0 : 128 ≤ (s.get! (pos + 0)).toNat := by rw [get_at s pos h]; exact ha
  have one : pos + 1 ≤ s.size ∧ ∀ j, j < 1 → 128 ≤ (s.get! (pos + j)).toNat := ⟨by omega, fun j hj => by rw [show j = 0 by omega]; exact h0⟩
  unfold Utf8.decode
  simp only [get_at s pos h, hn, if_false]
  split
  · rename_i c1
    simp only [Bool.and_eq_true, beq_iff_eq, decide_eq_true_eq] at c1
    split
    · refine ⟨by omega, fun j hj => ?_⟩
      match j, hj with
      | 0, _ => exact h0
      | 1, _ => omega
    · exact one
  · split
    · rename_i c1
      simp only [Bool.and_eq_true, beq_iff_eq, decide_eq_true_eq] at c1
      split
      · refine ⟨by omega, fun j hj => ?_⟩
        match j, hj with
        | 0, _ => exact h0
        | 1, _ => omega
        | 2, _ => omega
      · exact one
    · split
      · rename_i c1
        simp only [Bool.and_eq_true, beq_iff_eq, decide_eq_true_eq] at c1
        split
        · refine ⟨by omega, fun j hj => ?_⟩
          match j, hj with
          | 0, _ => exact h0
          | 1, _ => omega
          | 2, _ => omega
          | 3, _ => omega
        · exact one
      · exact one
set_option maxHeartbeats 4000000 in
set_option maxRecDepth 100000 in
theorem indexRune_err (w : World) :
    Calls Tryz.prog 114 #[.string ⟨#[32, 10]⟩, .int .i32 65533] w fun e w' => e = .returned (.int .i64 (-1)) ∧ Below w.heap.size w w' := by
  have n0 : ∀ ty, (Instr.next (.pointer (some ⟨w.heap.size, 0, none⟩)) true ty).run Tryz.prog (w.iter ⟨#[32, 10]⟩ 0) = .ok (.tuple #[.bool true, .int .i64 0, .int .i32 32]) (w.iter ⟨#[32, 10]⟩ 1) := fun ty => run_next_ascii w ⟨#[32, 10]⟩ 0 ty (by decide) (by decide)
  have n1 : ∀ ty, (Instr.next (.pointer (some ⟨w.heap.size, 0, none⟩)) true ty).run Tryz.prog (w.iter ⟨#[32, 10]⟩ 1) = .ok (.tuple #[.bool true, .int .i64 1, .int .i32 10]) (w.iter ⟨#[32, 10]⟩ 2) := fun ty => run_next_ascii w ⟨#[32, 10]⟩ 1 ty (by decide) (by decide)
  have n2 := fun ty => run_next_end (P := Tryz.prog) w ⟨#[32, 10]⟩ 2 ty (by decide)
  go_enter Tryz.func114, Tryz.ntmps114
  go_wp2_with fail
  refine wp_loop_rounds 3 ?_
  rw [rounds_succ]
  go_wp2
  rw [rounds_succ]
  go_wp2
  rw [rounds_succ]
  go_wp2
  go_ret
  exact ⟨rfl, (Below.refl _ _).alloc (Nat.le_refl _) _⟩
set_option maxHeartbeats 4000000 in
set_option maxRecDepth 100000 in
set_option linter.unusedSimpArgs false in
theorem indexRune_val (r : Int) (h : 128 ≤ r) (h2 : r ≤ 2147483647) (hne : (r == 65533) = false) (hv : Lib.validRune r = true) (w : World) :
    Calls Tryz.prog 114 #[.string ⟨#[32, 10]⟩, .int .i32 r] w fun e w' => e = .returned (.int .i64 (-1)) ∧ Below w.heap.size w w' := by
  have C := hide (Tryz.utf8_ValidRune r w)
  rw [hv] at C
  have hvv : Utf8.valid r = true := by
    unfold Lib.validRune at hv
    unfold Utf8.valid
    simp at hv ⊢
    omega
  obtain ⟨e1, e2, e3⟩ := encode_facts r hvv h
  have hge : ¬ r < 128 := by omega
  by_cases e4 : (Utf8.encode r).size = 2
  · have e7 : 1 < (Utf8.encode r).size := by omega
    have hx : ∀ w', (Instr.index 9 (.string (Utf8.encode r)) (.int .i64 1)).run Tryz.prog w' = .ok (.int .u8 (((Utf8.encode r)[1]'e7).toNat : Int)) w' := fun w' => ix_str w' (Utf8.encode r) 1 e7
    have e5 := e3 (by omega)
    have e6 : 128 ≤ ((Utf8.encode r)[1]'e7).toNat := by simpa [e4] using e5
    generalize ((Utf8.encode r)[1]'e7).toNat = B at *
    have hB : ¬ ((10 : Int) = (B : Int)) := by omega
    have hB2 : ((10 : Int) == (B : Int)) = false := by simpa using hB
    have hB3 : ((((⟨#[32, 10]⟩ : ByteArray)[1]'(by decide)).toNat : Int) != (B : Int)) = true := by show ((10 : Int) != _) = true; simpa using hB
    have D : Hid (∀ w', Calls Tryz.prog 118 #[.string ⟨#[]⟩, .int .u8 (B : Int)] w' fun e w'' => e = .returned (.int .i64 (-1)) ∧ w'' = w') := fun w' => (Tryz.strings_IndexByte ⟨#[]⟩ (B : Int) w').mono fun e w'' ⟨h1, h2⟩ => ⟨by rw [h1]; rfl, h2⟩
    have e8 : ((Utf8.encode r).size : Int) = 2 := by omega
    clear e3 e5
    go_enter Tryz.func114, Tryz.ntmps114
    go_wp2_with fail
    refine Calls.mono C.out ?_
    rintro e w1 ⟨rfl, rfl⟩
    go_wp2_with fail
    go_step3
    go_wp2_with fail
    refine wp_loop_rounds 1 ?_
    rw [rounds_succ]
    go_wp2_with fail
    go_step3
    go_wp2_with fail
    go_quiet (fail)
    have BW := hide (below_drewN (Below.refl w1.heap.size w1) nq)
    generalize w1.drewN nq = w3 at *
    go_wp2_with fail
    refine wp_region_held_drew (S := fun _ => True) (by kernel_rfl) trivial (fun hHeld => ?_)
    refine wpAnyH_take (i := 0) (v := (.string ⟨#[32, 10]⟩)) rfl (by kernel_rfl) (by kernel_rfl) (by kernel_rfl) (fun _ _ _ h => h) (Or.inl ⟨by rfl, ?_⟩) (by assumption) ?_
    · intro w' hSw
      (try dsimp only at hSw)
      go_simp <;> first | exact i64_in (by omega) (by omega) | exact u32_in (by omega) (by omega) | exact u32_add _ _ | (rw [Int.tmod_eq_emod_of_nonneg (by omega)]; omega) | (rw [Int.tdiv_eq_ediv_of_nonneg (by omega)]; omega) | omega
    (try simp only [Act.put, List.setIfInBounds_toArray, List.set_cons_zero, List.set_cons_succ])
    refine wpAnyH_take (i := 1) (v := (.int .i64 1)) rfl (by kernel_rfl) (by kernel_rfl) (by kernel_rfl) (fun _ _ _ h => h) (Or.inl ⟨by rfl, ?_⟩) (by assumption) ?_
    · intro w' hSw
      (try dsimp only at hSw)
      go_simp <;> first | exact i64_in (by omega) (by omega) | exact u32_in (by omega) (by omega) | exact u32_add _ _ | (rw [Int.tmod_eq_emod_of_nonneg (by omega)]; omega) | (rw [Int.tdiv_eq_ediv_of_nonneg (by omega)]; omega) | omega
    (try simp only [Act.put, List.setIfInBounds_toArray, List.set_cons_zero, List.set_cons_succ])
    refine wpAnyH_take (i := 2) (v := (.int .i64 2)) rfl (by kernel_rfl) (by kernel_rfl) (by kernel_rfl) (fun _ _ _ h => h) (Or.inl ⟨by rfl, ?_⟩) (by assumption) ?_
    · intro w' hSw
      (try dsimp only at hSw)
      (go_simp; rfl)
    (try simp only [Act.put, List.setIfInBounds_toArray, List.set_cons_zero, List.set_cons_succ])
    refine wpAnyH_take (i := 3) (v := (.string ⟨#[]⟩)) rfl (by kernel_rfl) (by kernel_rfl) (by kernel_rfl) (fun _ _ _ h => h) (Or.inl ⟨by rfl, ?_⟩) (by assumption) ?_
    · intro w' hSw
      (try dsimp only at hSw)
      (rw [show (⟨#[]⟩ : ByteArray) = (⟨#[32, 10]⟩ : ByteArray).extract 2 2 from rfl]; go_simp)
    (try simp only [Act.put, List.setIfInBounds_toArray, List.set_cons_zero, List.set_cons_succ])
    refine wpAnyH_take (i := 4) (v := (.string (Utf8.encode r))) rfl (by kernel_rfl) (by kernel_rfl) (by kernel_rfl) (fun _ _ _ h => h) (Or.inl ⟨by rfl, ?_⟩) (by assumption) ?_
    · intro w' hSw
      (try dsimp only at hSw)
      go_simp <;> first | exact i64_in (by omega) (by omega) | exact u32_in (by omega) (by omega) | exact u32_add _ _ | (rw [Int.tmod_eq_emod_of_nonneg (by omega)]; omega) | (rw [Int.tdiv_eq_ediv_of_nonneg (by omega)]; omega) | omega
    (try simp only [Act.put, List.setIfInBounds_toArray, List.set_cons_zero, List.set_cons_succ])
    refine wpAnyH_take (i := 5) (v := (.int .i64 1)) rfl (by kernel_rfl) (by kernel_rfl) (by kernel_rfl) (fun _ _ _ h => h) (Or.inl ⟨by rfl, ?_⟩) (by assumption) ?_
    · intro w' hSw
      (try dsimp only at hSw)
      go_simp <;> first | exact i64_in (by omega) (by omega) | exact u32_in (by omega) (by omega) | exact u32_add _ _ | (rw [Int.tmod_eq_emod_of_nonneg (by omega)]; omega) | (rw [Int.tdiv_eq_ediv_of_nonneg (by omega)]; omega) | omega
    (try simp only [Act.put, List.setIfInBounds_toArray, List.set_cons_zero, List.set_cons_succ])
    refine wpAnyH_take (i := 6) (v := (.int .u8 (B : Int))) rfl (by kernel_rfl) (by kernel_rfl) (by kernel_rfl) (fun _ _ _ h => h) (Or.inl ⟨by rfl, ?_⟩) (by assumption) ?_
    · intro w' hSw
      (try dsimp only at hSw)
      go_simp <;> first | exact i64_in (by omega) (by omega) | exact u32_in (by omega) (by omega) | exact u32_add _ _ | (rw [Int.tmod_eq_emod_of_nonneg (by omega)]; omega) | (rw [Int.tdiv_eq_ediv_of_nonneg (by omega)]; omega) | omega
    (try simp only [Act.put, List.setIfInBounds_toArray, List.set_cons_zero, List.set_cons_succ])
    refine wpAnyH_ready (rs := [7]) (by kernel_rfl) (by simp) ?_
    refine AllReadyH.cons rfl (fun K hK => ?_) AllReadyH.nil
    go_simp
    refine Calls.mono (D.out _) ?_
    rintro e w2 ⟨rfl, rfl⟩
    refine hK.out _ _ (trivial) (fun hHeld => ?_)
    clear hK
    (try simp only [Act.put, List.setIfInBounds_toArray, List.set_cons_zero, List.set_cons_succ])
    refine wpAnyH_ready (rs := [8]) (by kernel_rfl) (by simp) ?_
    refine AllReadyH.cons rfl (fun K hK => ?_) AllReadyH.nil
    go_simp
    refine hK.out _ _ (trivial) (fun hHeld => ?_)
    clear hK
    (try simp only [Act.put, List.setIfInBounds_toArray, List.set_cons_zero, List.set_cons_succ])
    refine wpAnyH_done (by kernel_rfl) ?_ _
    go_wp2_with fail
    rw [Exit.noGoto_ret]
    go_wp2_with fail
    rw [Exit.noGoto_ret]
    go_ret
    exact ⟨rfl, BW.out.drew⟩
  · have e7 : 2 < (Utf8.encode r).size := by omega
    have e8 : ¬ ((Utf8.encode r).size : Int) - 1 < 2 := by omega
    clear e3
    go_enter Tryz.func114, Tryz.ntmps114
    go_wp2_with fail
    refine Calls.mono C.out ?_
    rintro e w1 ⟨rfl, rfl⟩
    go_wp2_with fail
    go_step3
    go_wp2_with fail
    refine wp_loop_rounds 1 ?_
    rw [rounds_succ]
    go_wp2_with fail
    rw [Exit.noGoto_ret]
    go_ret
    exact ⟨rfl, Below.refl _ _⟩
set_option maxHeartbeats 4000000 in
set_option maxRecDepth 100000 in
theorem indexRune_inv (r : Int) (h : 128 ≤ r) (hne : (r == 65533) = false) (hv : Lib.validRune r = false) (w : World) :
    Calls Tryz.prog 114 #[.string ⟨#[32, 10]⟩, .int .i32 r] w fun e w' => e = .returned (.int .i64 (-1)) ∧ Below w.heap.size w w' := by
  have C := hide (Tryz.utf8_ValidRune r w)
  rw [hv] at C
  have hge : ¬ r < 128 := by omega
  go_enter Tryz.func114, Tryz.ntmps114
  go_wp2_with fail
  refine Calls.mono C.out ?_
  rintro e w1 ⟨rfl, rfl⟩
  go_wp2_with fail
  go_ret
  exact ⟨rfl, Below.refl _ _⟩
/-- of the two separators: none is a rune above ASCII -/
theorem indexRune_hi (r : Int) (h : 128 ≤ r) (h2 : r ≤ 2147483647) (w : World) :
    Calls Tryz.prog 114 #[.string ⟨#[32, 10]⟩, .int .i32 r] w fun e w' => e = .returned (.int .i64 (-1)) ∧ Below w.heap.size w w' := by
  by_cases h1 : r = 65533
  · subst h1; exact indexRune_err w
  · cases hv : Lib.validRune r with
    | true => exact indexRune_val r h h2 (by simpa using h1) hv w
    | false => exact indexRune_inv r h (by simpa using h1) hv w
theorem get_bang (s : ByteArray) (k : Nat) (h : k < s.size) : s.get! k = s[k] := by
  simp [ByteArray.get!, getElem!_pos, h]
  rfl
theorem noAny_span {s : ByteArray} {i n : Nat} (h : Lib.NoAny s.data.toList [32, 10] i) (hn : ∀ j, j < n → 128 ≤ (s.get! (i + j)).toNat) (hs : i + n ≤ s.size) : Lib.NoAny s.data.toList [32, 10] (i + n) := fun j b hj hb => by
  rcases Nat.lt_or_ge j i with q | q
  · exact h j b q hb
  · have := hn (j - i) (by omega)
    rw [show i + (j - i) = j by omega, get_bang s j (by omega)] at this
    have e : s.data.toList[j]? = some s[j] := Lib.data_getElem? s j (by omega)
    rw [e] at hb
    injection hb with hb
    subst hb
    have h1 : s[j] ≠ 32 := fun e => by rw [e] at this; simp at this
    have h2 : s[j] ≠ 10 := fun e => by rw [e] at this; simp at this
    simp [h1, h2]
set_option maxHeartbeats 4000000 in
set_option maxRecDepth 100000 in
/-- strings.IndexAny of the two separators, of a short text, whatever its bytes -/
theorem indexAny_short (s : ByteArray) (w : World) (h8 : s.size ≤ 8) :
    Calls Tryz.prog 104 #[.string s, .string ⟨#[32, 10]⟩] w fun e w' => e = .returned (.int .i64 (Lib.indexAny s.data.toList [32, 10])) ∧ Below w.heap.size w w' := by
  have h8z : decide ((8 : Int) < (s.size : Int)) = false := decide_eq_false (by omega)
  have A := hide (fun w' => Tryz.strings_shouldUseASCIISet s.size w')
  go_enter Tryz.func104, Tryz.ntmps104
  go_wp2_with fail
  refine Calls.mono (A.out _) ?_
  rintro e w1 ⟨rfl, rfl⟩
  rw [h8z]
  go_wp2_with fail
  go_loopw [9, 10] (fun _ _ wr => ∃ pos, pos ≤ s.size ∧ Hid (wr.heap[w1.heap.size]? = some (.stringIter s pos) ∧ Below w1.heap.size w1 wr ∧ Lib.NoAny s.data.toList [32, 10] pos)) (fun _ _ wr => s.size - wr.iterPos w1.heap.size)
  case atStart => exact ⟨0, Nat.zero_le _, World.iter_heap _ _ _, (Below.refl _ _).alloc (Nat.le_refl _) _, Lib.NoAny.zero _ _⟩
  case round =>
    obtain ⟨pos, hp, H⟩ := hrel
    obtain ⟨H1, H2, H3⟩ := H.out
    have HP : Hid (wr.iterPos w1.heap.size = pos) := by show _ = _; simp [World.iterPos, H1]
    by_cases hlt : pos < s.size
    · by_cases ha : (s[pos]'hlt).toNat < 128
      · have hnx := fun ty => Lib.run_next_ascii_at (P := Tryz.prog) wr w1.heap.size s pos ty H1 hlt ha
        obtain ⟨wi, hwi⟩ : ∃ wi, wi = wr.iterAt w1.heap.size s (pos + 1) := ⟨_, rfl⟩
        rw [← hwi] at hnx
        have K1 : Hid (wi.heap[w1.heap.size]? = some (.stringIter s (pos + 1))) := by show _ = _; rw [hwi]; exact Lib.iterAt_heap wr _ s pos (pos + 1) H1
        have K2 := hide (show Below w1.heap.size w1 wi by rw [hwi]; exact Lib.below_iterAt H2 (Nat.le_refl _) s (pos + 1))
        have hxl : Hid (s.data.toList[pos]? = some s[pos]) := Lib.data_getElem? s pos hlt
        have C := hide (Tryz.strings_IndexRune_ascii ⟨#[32, 10]⟩ s[pos].toNat wi (by omega) (by omega))
        rw [show ((s[pos].toNat : Int)).toNat.toUInt8 = s[pos] by simp] at C
        have HC := hide (Lib.contains_iff_indexByte [32, 10] s[pos])
        have HH : Hid (∀ b : UInt8, s.data.toList[pos]? = some b → (([32, 10] : List UInt8).contains b = true → Lib.indexAny s.data.toList [32, 10] = pos) ∧ (([32, 10] : List UInt8).contains b = false → Lib.NoAny s.data.toList [32, 10] (pos + 1))) := fun b hb => ⟨fun hc => Lib.indexAny_hit H3 hb hc, fun hc => H3.succ hb hc⟩
        generalize s[pos] = c at *
        clear H H1 H2 H3 hwi
        by_cases hi : (0 : Int) ≤ Lib.indexByte [32, 10] c
        · have e1 := (HH.out c hxl.out).1 (by rw [HC.out]; exact decide_eq_true hi)
          have E1 := hide e1
          clear e1
          go_wp2_with fail
          refine Calls.mono C.out ?_
          rintro e w2 ⟨rfl, rfl⟩
          go_wp2_with fail
          go_ret
          exact ⟨congrArg (fun z => Ending.returned (.int .i64 z)) E1.out.symm, K2.out⟩
        · have E1 := hide ((HH.out c hxl.out).2 (by rw [HC.out]; exact decide_eq_false hi))
          go_wp2_with fail
          refine Calls.mono C.out ?_
          rintro e w2 ⟨rfl, rfl⟩
          go_wp2_with fail
          go_roundw
          case rel => exact ⟨pos + 1, by omega, K1.out, K2.out, E1.out⟩
          case measure => rw [HP.out]; simp [World.iterPos, K1.out]; omega
      · have hnx := fun ty => Lib.run_next_any_at (P := Tryz.prog) wr w1.heap.size s pos ty H1 hlt
        obtain ⟨d1, d2⟩ := decode_high s pos hlt (by omega)
        have d3 := decode_le s pos
        obtain ⟨d4, d5⟩ := decode_span s pos hlt (by omega)
        have E1 := hide (noAny_span H3 d5 d4)
        generalize (Utf8.decode s pos).1 = R at *
        generalize (Utf8.decode s pos).2 = N at *
        obtain ⟨wi, hwi⟩ : ∃ wi, wi = wr.iterAt w1.heap.size s (pos + N) := ⟨_, rfl⟩
        rw [← hwi] at hnx
        have K1 : Hid (wi.heap[w1.heap.size]? = some (.stringIter s (pos + N))) := by show _ = _; rw [hwi]; exact Lib.iterAt_heap wr _ s pos (pos + N) H1
        have K2 := hide (show Below w1.heap.size w1 wi by rw [hwi]; exact Lib.below_iterAt H2 (Nat.le_refl _) s (pos + N))
        have C := hide (indexRune_hi (R : Int) (by omega) (by omega) wi)
        have hz : w1.heap.size < wi.heap.size := (Array.getElem?_eq_some_iff.1 K1.out).1
        clear H H1 H2 H3 hwi d5
        go_wp2_with fail
        refine Calls.mono C.out ?_
        rintro e w2 ⟨rfl, b2⟩
        have K3 : Hid (w2.heap[w1.heap.size]? = some (.stringIter s (pos + N))) := by show _ = _; rw [b2.block _ hz]; exact K1.out
        have K4 := hide (K2.out.trans (b2.mono K2.out.size))
        clear b2 C
        go_wp2_with fail
        go_roundw
        case rel => exact ⟨pos + N, by omega, K3.out, K4.out, E1.out⟩
        case measure => rw [HP.out]; simp [World.iterPos, K3.out]; omega
    · obtain rfl : pos = s.size := by omega
      have hnx := fun ty => Lib.run_next_end_at (P := Tryz.prog) wr w1.heap.size s s.size ty H1 hlt
      have e1 := Lib.indexAny_none (s := s.data.toList) (chars := [32, 10]) (by rw [size_data]; exact H3)
      have E1 := hide e1
      have K2 := hide H2
      clear H H1 H2 H3 e1
      go_wp2_with fail
      go_ret
      exact ⟨congrArg (fun z => Ending.returned (.int .i64 z)) E1.out.symm, K2.out⟩
set_option maxHeartbeats 8000000 in
set_option maxRecDepth 100000 in
/-- strings.IndexAny of the two separators, of a long text, whatever its length -/
theorem indexAny_long (s : ByteArray) (w : World) (h8 : 8 < s.size) (hs : s.size < 9223372036854775808) :
    Calls Tryz.prog 104 #[.string s, .string ⟨#[32, 10]⟩] w fun e w' => e = .returned (.int .i64 (Lib.indexAny s.data.toList [32, 10])) ∧ Below w.heap.size w w' := by
  have h8z : decide ((8 : Int) < (s.size : Int)) = true := decide_eq_true (by omega)
  have A := hide (fun w' => Tryz.strings_shouldUseASCIISet s.size w')
  have M := hide (Tryz.strings_makeASCIISet (fun w => by kernel_rfl) ⟨#[32, 10]⟩ w (by decide) (by
    intro j b hb
    match j, hb with
    | 0, hb => simp at hb; subst hb; decide
    | 1, hb => simp at hb; subst hb; decide))
  have hsz : (Lib.setCells [32, 10]).size = 256 := Lib.setCells_size _
  have hone := hide (Lib.setCells_one [32, 10])
  have hat := hide (Lib.setCells_at [32, 10])
  rw [show (⟨#[32, 10]⟩ : ByteArray).data.toList = [32, 10] from rfl] at M
  have hi119 : (Tryz.prog.info? 140).map (·.size) = some 256 := by kernel_rfl
  obtain ⟨S, hS⟩ : ∃ S, S = Lib.setCells [32, 10] := ⟨_, rfl⟩
  rw [← hS] at M hsz hone hat
  obtain ⟨W1, hW1⟩ : ∃ W1, W1 = w.alloc (.cells S 140) := ⟨_, rfl⟩
  obtain ⟨W2, hW2⟩ : ∃ W2, W2 = W1.alloc (.cells S 140) := ⟨_, rfl⟩
  rw [← hW1] at M
  have hsc : (storeCells ⟨W1.heap.size, 0, none⟩ S.toList 0).run Tryz.prog (W1.alloc (.cells (Array.replicate 256 (.bool false)) 140)) = .ok () W2 := by
    rw [hW2]
    exact run_storeCells_new (P := Tryz.prog) W1 140 (Array.replicate 256 (.bool false)) S (by rw [hsz]; exact hi119) (by rw [hsz, Array.size_replicate]) hone.out
  have HC : Hid (∀ x : UInt8, W2.cell? ⟨W1.heap.size, x.toNat, none⟩ = some (.bool (([32, 10] : List UInt8).contains x))) := fun x => by
    rw [hW2, World.cell?_alloc_at _ _ _ _ (by simp), hat.out]
  have HB : Hid (Below w.heap.size w W2) := by
    show Below _ _ _
    rw [hW2, hW1]
    exact ((Below.refl _ _).alloc (Nat.le_refl _) _).alloc (by simp) _
  have HS := hide hsc
  have HZ := hide hsz
  clear hsc hone hat hi119 hW2 hW1 hsz hS
  go_enter Tryz.func104, Tryz.ntmps104
  go_wp2_with fail
  refine Calls.mono (A.out _) ?_
  rintro e w1 ⟨rfl, rfl⟩
  rw [h8z]
  go_wp2_with fail
  refine Calls.mono M.out ?_
  rintro e w1 ⟨rfl, rfl⟩
  go_wp2_with fail
  rw [show Tryz.zeroCells140 = Array.replicate 256 (.bool false) by kernel_rfl, HS.out]
  simp only [Result.andThen]
  rw [Oper.upon_skip]
  go_wp2_with fail
  clear M HS
  go_loopg [8] s.size (fun g s8 wx => ∃ i : Nat, i + g = s.size ∧ s8 = .int .i64 i ∧ wx = W2 ∧ Hid (Lib.NoAny s.data.toList [32, 10] i))
  case atStart => exact ⟨0, by omega, rfl, rfl, Lib.NoAny.zero _ _⟩
  case round =>
    obtain ⟨i, hig, rfl, rfl, HN⟩ := hrel
    cases gk with
    | zero =>
      obtain rfl : i = s.size := by omega
      have hiz : ¬ ((s.size : Int) < (s.size : Int)) := by omega
      have E1 := hide (Lib.indexAny_none (s := s.data.toList) (chars := [32, 10]) (by rw [size_data]; exact HN.out))
      go_wp2_with fail
      go_ret
      exact ⟨congrArg (fun z => Ending.returned (.int .i64 z)) E1.out.symm, HB.out⟩
    | succ g =>
      have hi : i < s.size := by omega
      have hiz : (i : Int) < (s.size : Int) := by omega
      obtain ⟨x, hx⟩ : ∃ x : UInt8, s[i]'hi = x := ⟨_, rfl⟩
      have Hx : Hid (s.data.toList[i]? = some x) := by show _ = _; rw [← hx]; exact Lib.data_getElem? s i hi
      cases hin : ([32, 10] : List UInt8).contains x
      · have E1 := hide (HN.out.succ Hx.out hin)
        have C := hide (Tryz.asciiSet_contains w1.heap.size x false wr (by rw [HC.out, hin]))
        go_wp2_with fail
        refine Calls.mono C.out ?_
        rintro e w2 ⟨rfl, rfl⟩
        go_wp2_with fail
        go_roundg g
        case measure => omega
        case rel => exact ⟨i + 1, by omega, by first | rfl | simp, rfl, E1.out⟩
      · have E1 := hide (Lib.indexAny_hit HN.out Hx.out hin)
        have C := hide (Tryz.asciiSet_contains w1.heap.size x true wr (by rw [HC.out, hin]))
        go_wp2_with fail
        refine Calls.mono C.out ?_
        rintro e w2 ⟨rfl, rfl⟩
        go_wp2_with fail
        go_ret
        exact ⟨congrArg (fun z => Ending.returned (.int .i64 z)) E1.out.symm, HB.out⟩
/-- strings.IndexAny of the two separators -/
theorem indexAny_any (s : ByteArray) (w : World) (hs : s.size < 9223372036854775808) :
    Calls Tryz.prog 104 #[.string s, .string ⟨#[32, 10]⟩] w fun e w' => e = .returned (.int .i64 (Lib.indexAny s.data.toList [32, 10])) ∧ Below w.heap.size w w' := by
  by_cases h8 : s.size ≤ 8
  · exact indexAny_short s w h8
  · exact indexAny_long s w (by omega) hs
end Go.Proofs.YtgdopepghmjopaaGreatDoor
namespace Go.Proofs.YtgdopepghmjopaaGreatDoor
open Go.RowKit Go.Shelf
/-- all blocks but one are as they were -/
structure Kb (R : Nat) (w w' : World) : Prop where
  os : w'.os = w.os
  tape : w'.tape = w.tape
  output : w'.output = w.output
  size : w.heap.size ≤ w'.heap.size
  block : ∀ i, i < w.heap.size → i ≠ R → w'.heap[i]? = w.heap[i]?
theorem Kb.refl (R : Nat) (w : World) : Kb R w w := ⟨rfl, rfl, rfl, Nat.le_refl _, fun _ _ _ => rfl⟩
theorem Kb.trans {R : Nat} {a b c : World} (h : Kb R a b) (k : Kb R b c) : Kb R a c := ⟨k.os.trans h.os, k.tape.trans h.tape, k.output.trans h.output, Nat.le_trans h.size k.size, fun i hi hn => (k.block i (Nat.lt_of_lt_of_le hi h.size) hn).trans (h.block i hi hn)⟩
theorem Kb.of {R : Nat} {w w' : World} (h : Below w.heap.size w w') : Kb R w w' := ⟨h.os, h.tape, h.output, h.size, fun i hi _ => h.block i hi⟩
theorem Kb.cell {R : Nat} {w w' : World} (h : Kb R w w') {b o : Nat} (hb : b < w.heap.size) (hn : b ≠ R) : w'.cell? ⟨b, o, none⟩ = w.cell? ⟨b, o, none⟩ := by
  simp only [World.cell?, h.block b hb hn]
theorem Kb.frozen {R : Nat} {w w' : World} (h : Kb R w w') {b o : Nat} (hb : b < w.heap.size) (hn : b ≠ R) : w'.frozen? ⟨b, o, none⟩ = w.frozen? ⟨b, o, none⟩ := by
  simp only [World.frozen?, h.block b hb hn]
theorem Kb.below {R B : Nat} {w0 w w' : World} (h : Kb R w w') (hb : Below B w0 w) (hB : B ≤ R) (hs : B ≤ w.heap.size) : Below B w0 w' := ⟨h.os.trans hb.os, h.tape.trans hb.tape, h.output.trans hb.output, Nat.le_trans hb.size h.size, fun i hi => (h.block i (by omega) (by omega)).trans (hb.block i hi)⟩
theorem Kb.set (R o : Nat) (w : World) (v : Value) : Kb R w (w.setCell ⟨R, o, none⟩ v) := ⟨rfl, rfl, rfl, by simp, fun i hi hn => Below.heap_setCell _ _ _ _ hn⟩
/-- a reader in memory -/
def RdAt (R : Nat) (tx : ByteArray) (at' : Nat) (w : World) : Prop := w.cell? ⟨R, 0, none⟩ = some (.string tx) ∧ w.cell? ⟨R, 1, none⟩ = some (.int .i64 (at' : Int)) ∧ w.frozen? ⟨R, 1, none⟩ = false
theorem RdAt.lt {R : Nat} {tx : ByteArray} {a : Nat} {w : World} (h : RdAt R tx a w) : R < w.heap.size := lt_of_cell? h.1
theorem RdAt.below {R : Nat} {tx : ByteArray} {a : Nat} {w w' : World} (h : RdAt R tx a w) (hb : Below w.heap.size w w') : RdAt R tx a w' := by
  have hl := h.lt
  exact ⟨by rw [hb.cell (by exact hl)]; exact h.1, by rw [hb.cell (by exact hl)]; exact h.2.1, by rw [hb.frozen (by exact hl)]; exact h.2.2⟩
theorem RdAt.set {R : Nat} {tx : ByteArray} {a : Nat} {w : World} (h : RdAt R tx a w) (b : Nat) : RdAt R tx b (w.setCell ⟨R, 1, none⟩ (.int .i64 (b : Int))) := by
  refine ⟨?_, ?_, ?_⟩
  · exact (World.cell?_setCell_other w _ _ _ (by simp)).trans h.1
  · exact World.cell?_setCell_same w _ _ h.2.1
  · rw [World.frozen?_setCell]; exact h.2.2
def isSep (c : UInt8) : Bool := ([32, 10] : List UInt8).contains c
/-- what stands ahead of the next blank or line feed -/
def wordL (l : List UInt8) : List UInt8 := l.takeWhile fun c => !isSep c
theorem wordL_le (l : List UInt8) : (wordL l).length ≤ l.length := by unfold wordL; exact (List.takeWhile_sublist _).length_le
theorem indexAny_word : ∀ l : List UInt8, (Lib.indexAny l [32, 10] = -1 ∧ wordL l = l) ∨ (∃ k : Nat, Lib.indexAny l [32, 10] = (k : Int) ∧ k ≤ l.length ∧ wordL l = l.take k)
  | [] => .inl ⟨rfl, rfl⟩
  | c :: r => by
    unfold wordL at *
    by_cases h : ([32, 10] : List UInt8).contains c = true
    · refine .inr ⟨0, ?_, Nat.zero_le _, ?_⟩
      · rw [Lib.indexAny, if_pos h]; rfl
      · rw [List.takeWhile_cons, if_neg (by unfold isSep; rw [h]; simp)]; rfl
    · have h2 : (!isSep c) = true := by unfold isSep; simpa using h
      rcases indexAny_word r with ⟨a, b⟩ | ⟨k, a, b, d⟩
      · refine .inl ⟨?_, ?_⟩
        · rw [Lib.indexAny, if_neg h, a]; rfl
        · rw [List.takeWhile_cons, if_pos h2]; unfold wordL at b; rw [b]
      · refine .inr ⟨k + 1, ?_, by simpa using b, ?_⟩
        · rw [Lib.indexAny, if_neg h, a, if_neg (by simp)]; rfl
        · rw [List.takeWhile_cons, if_pos h2]; unfold wordL at d; rw [d]; rfl
def restS (tx : ByteArray) (a : Nat) : ByteArray := tx.extract a tx.size
theorem restS_data (tx : ByteArray) (a : Nat) : (restS tx a).data.toList = tx.data.toList.drop a := by
  unfold restS
  rw [Lib.extract_data, List.take_of_length_le (by rw [List.length_drop, size_data]; omega)]
theorem restS_size (tx : ByteArray) (a : Nat) : (restS tx a).size = tx.size - a := by unfold restS; rw [ByteArray.size_extract]; omega
set_option maxHeartbeats 1000000 in
set_option maxRecDepth 100000 in
theorem rest_any (R : Nat) (tx : ByteArray) (a : Nat) (w : World) (h : RdAt R tx a w) (ha : a ≤ tx.size) :
    Calls Tryz.prog 85 #[.pointer (some ⟨R, 0, none⟩)] w fun e w' => e = .returned (.string (restS tx a)) ∧ ∃ n, w' = w.drewN n := by
  obtain ⟨h1, h2, h3⟩ := h
  go_enter Tryz.func85, Tryz.ntmps85
  go_wp2_with fail
  go_quiet (fail)
  go_wp2_with fail
  go_ret
  exact ⟨rfl, _, rfl⟩
theorem RdAt.drewN {R : Nat} {tx : ByteArray} {a : Nat} {w : World} (h : RdAt R tx a w) (n : Nat) : RdAt R tx a (w.drewN n) := h
theorem kb_drewN (R : Nat) (w : World) (n : Nat) : Kb R w (w.drewN n) := Kb.of (below_drewN (Below.refl _ w) n)
/-- does the word stand there -/
def pfx (wd : ByteArray) (l : List UInt8) : Bool := wd.data.toList.isPrefixOf l
/-- the place behind it, if it does -/
def skA (wd tx : ByteArray) (a : Nat) : Nat := if pfx wd (tx.data.toList.drop a) then a + wd.size else a
theorem pfx_len {wd tx : ByteArray} {a : Nat} (ha : a ≤ tx.size) (hp : pfx wd (tx.data.toList.drop a) = true) : a + wd.size ≤ tx.size := by
  have := (List.isPrefixOf_iff_prefix.1 hp).length_le
  rw [List.length_drop, size_data, size_data] at this
  omega
theorem skA_le {wd tx : ByteArray} {a : Nat} (ha : a ≤ tx.size) : skA wd tx a ≤ tx.size := by
  unfold skA; split
  · exact pfx_len ha ‹_›
  · exact ha
set_option maxHeartbeats 1000000 in
set_option maxRecDepth 100000 in
theorem skip_any (R : Nat) (tx wd : ByteArray) (a : Nat) (w : World) (h : RdAt R tx a w) (ha : a ≤ tx.size) (hs : tx.size < 9223372036854775808) :
    Calls Tryz.prog 61 #[.pointer (some ⟨R, 0, none⟩), .string wd] w fun e w' => e = .returned (.bool (pfx wd (tx.data.toList.drop a))) ∧ RdAt R tx (skA wd tx a) w' ∧ Kb R w w' := by
  have C1 := hide (rest_any R tx a w h ha)
  have C2 := hide (fun w' => Tryz.strings_HasPrefix (restS tx a) wd w')
  have H := hide h
  have e1 : Lib.hasPrefix (restS tx a).data.toList wd.data.toList = pfx wd (tx.data.toList.drop a) := by unfold Lib.hasPrefix pfx; rw [restS_data]
  rw [e1] at C2
  clear h e1
  obtain ⟨A, hA⟩ : ∃ A, A = skA wd tx a := ⟨_, rfl⟩
  rw [← hA]
  cases hp : pfx wd (tx.data.toList.drop a) with
  | false =>
    rw [hp] at C2
    have HA : Hid (A = a) := by show _ = _; rw [hA]; unfold skA; rw [hp]; rfl
    clear hA
    go_enter Tryz.func61, Tryz.ntmps61
    go_wp2_with fail
    refine Calls.mono C1.out ?_
    rintro e w1 ⟨rfl, n, rfl⟩
    go_wp2_with fail
    refine Calls.mono (C2.out _) ?_
    rintro e w2 ⟨rfl, rfl⟩
    go_wp2_with fail
    go_ret
    exact ⟨rfl, by rw [HA.out]; exact H.out.drewN n, kb_drewN R w n⟩
  | true =>
    rw [hp] at C2
    have HA : Hid (A = a + wd.size) := by show _ = _; rw [hA]; unfold skA; rw [hp]; rfl
    have hl := pfx_len ha hp
    clear hA
    go_enter Tryz.func61, Tryz.ntmps61
    go_wp2_with fail
    refine Calls.mono C1.out ?_
    rintro e w1 ⟨rfl, n, rfl⟩
    go_wp2_with fail
    refine Calls.mono (C2.out _) ?_
    rintro e w2 ⟨rfl, rfl⟩
    have H1 := hide (H.out.drewN n)
    have K1 := hide (kb_drewN R w n)
    obtain ⟨h1, h2, h3⟩ := H1.out
    have R1 := hide (H1.out.set (a + wd.size))
    clear C1 C2 H
    generalize w.drewN n = w1 at *
    go_wp2_with fail
    go_ret
    refine ⟨rfl, ?_, K1.out.trans (Kb.set R 1 _ _)⟩
    rw [HA.out]
    exact R1.out
set_option maxHeartbeats 1000000 in
set_option maxRecDepth 100000 in
theorem take_any (R : Nat) (tx : ByteArray) (a : Nat) (w : World) (h : RdAt R tx a w) (ha : a ≤ tx.size) (hs : tx.size < 9223372036854775808) :
    Calls Tryz.prog 88 #[.pointer (some ⟨R, 0, none⟩)] w fun e w' => e = .returned (.string (strOf (wordL (tx.data.toList.drop a)))) ∧ RdAt R tx (a + (wordL (tx.data.toList.drop a)).length) w' ∧ Kb R w w' := by
  have C1 := hide (rest_any R tx a w h ha)
  have C2 := hide (fun w' => indexAny_any (restS tx a) w' (by rw [restS_size]; omega))
  have H := hide h
  have hz := restS_size tx a
  have HD := hide (restS_data tx a)
  clear h
  rcases indexAny_word (restS tx a).data.toList with ⟨i1, i2⟩ | ⟨k, i1, i2, i3⟩
  · rw [i1] at C2
    have E1 : Hid (strOf (wordL (tx.data.toList.drop a)) = restS tx a) := by show _ = _; rw [← HD.out, i2]; exact strOf_toList _
    have E2 : Hid ((wordL (tx.data.toList.drop a)).length = (restS tx a).size) := by show _ = _; rw [← HD.out, i2, size_data]
    clear i1 i2
    generalize restS tx a = X at *
    go_enter Tryz.func88, Tryz.ntmps88
    go_wp2_with fail
    refine Calls.mono C1.out ?_
    rintro e w1 ⟨rfl, n, rfl⟩
    go_wp2_with fail
    refine Calls.mono (C2.out _) ?_
    rintro e w2 ⟨rfl, b2⟩
    have H1 := hide (H.out.drewN n |>.below b2)
    have K1 := hide ((kb_drewN R w n).trans (Kb.of b2))
    obtain ⟨h1, h2, h3⟩ := H1.out
    have R1 := hide (H1.out.set (a + X.size))
    have hz2 : a + X.size ≤ 9223372036854775807 := by omega
    clear b2 C1 C2 H hz
    go_wp2_with fail
    go_ret
    exact ⟨congrArg (fun z => Ending.returned (.string z)) E1.out.symm, by rw [E2.out]; exact R1.out, K1.out.trans (Kb.set R 1 _ _)⟩
  · rw [i1] at C2
    have E1 : Hid (strOf (wordL (tx.data.toList.drop a)) = (restS tx a).extract 0 k) := by
      show _ = _
      rw [← HD.out, i3, ← strOf_toList ((restS tx a).extract 0 k), Lib.extract_data, List.drop_zero, Nat.sub_zero]
    rw [size_data] at i2
    have E2 : Hid ((wordL (tx.data.toList.drop a)).length = k) := by show _ = _; rw [← HD.out, i3, List.length_take, size_data]; omega
    have hzz : ((restS tx a).extract 0 k).size = k := by rw [ByteArray.size_extract]; omega
    clear i1 i3
    generalize restS tx a = X at *
    go_enter Tryz.func88, Tryz.ntmps88
    go_wp2_with fail
    refine Calls.mono C1.out ?_
    rintro e w1 ⟨rfl, n, rfl⟩
    go_wp2_with fail
    refine Calls.mono (C2.out _) ?_
    rintro e w2 ⟨rfl, b2⟩
    have H1 := hide (H.out.drewN n |>.below b2)
    have K1 := hide ((kb_drewN R w n).trans (Kb.of b2))
    obtain ⟨h1, h2, h3⟩ := H1.out
    have R1 := hide (H1.out.set (a + k))
    have hz2 : a + k ≤ 9223372036854775807 := by omega
    clear b2 C1 C2 H hz
    go_wp2_with fail
    go_ret
    exact ⟨congrArg (fun z => Ending.returned (.string z)) E1.out.symm, by rw [E2.out]; exact R1.out, K1.out.trans (Kb.set R 1 _ _)⟩
end Go.Proofs.YtgdopepghmjopaaGreatDoor
