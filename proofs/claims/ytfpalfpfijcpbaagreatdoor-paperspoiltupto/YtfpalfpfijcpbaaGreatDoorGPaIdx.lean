import Derived.Test.YtfpalfpfijcpbaaGreatDoorPaShelf
import Derived.Test.YtfpalfpfijcpbaaGreatDoorGDgPlain
import Derived.Laws.RangeAny
import Derived.Deep.LoopGhost
import Derived.Deep.QuietTactic
import Derived.BigQuiet
import Derived.Deep.WholeRow
import Derived.Deep.RegionHeld3
import Derived.Shelf.Strings.BuilderK
import Derived.Test.YtfpalfpfijcpbaaGreatDoorProg
import Derived.Outline
import Derived.Deep.MidRow
import Derived.Laws.EntriesVeiled
namespace Go.Proofs.YtfpalfpfijcpbaaGreatDoor
open Go.RowKit Go.Shelf
def seps : ByteArray := ⟨#[32, 10]⟩
/-- what a rune above ASCII takes of a text: bytes above ASCII -/
theorem decode_span (s : ByteArray) (pos : Nat) (h : pos < s.size) (ha : 128 ≤ (s[pos]'h).toNat) : pos + (Utf8.decode s pos).2 ≤ s.size ∧ ∀ j, j < (Utf8.decode s pos).2 → 128 ≤ (s.get! (pos + j)).toNat := by
  have hn : ¬ (s[pos]'h).toNat < 128 := by omega
  have h0 : 128 ≤ (s.get! (pos + 0)).toNat := by rw [get_at s pos h]; exact ha
  have one : pos + 1 ≤ s.size ∧ ∀ j, j < 1 → 128 ≤ (s.get! (pos + j)).toNat := ⟨by omega, fun j hj => by rw [show j = 0 by omega]; exact h0⟩
  unfold Utf8.decode
  simp only [get_at s pos h, hn, if_false]
  split
  · rename_i c1
    simp only [Bool.and_eq_true, beq_iff_eq, decide_eq_true_eq] at c1
    split
    · refine ⟨by omega, fun j hj => ?_⟩
      match j, hj with
      | 0, _ => exact h0
      | 1, _ => omega
    · exact one
  · split
    · rename_i c1
      simp only [Bool.and_eq_true, beq_iff_eq, decide_eq_true_eq] at c1
      split
      · refine ⟨by omega, fun j hj => ?_⟩
        match j, hj with
        | 0, _ => exact h0
        | 1, _ => omega
        | 2, _ => omega
      · exact one
    · split
      · rename_i c1
        simp only [Bool.and_eq_true, beq_iff_eq, decide_eq_true_eq] at c1
        split
        · refine ⟨by omega, fun j hj => ?_⟩
          match j, hj with
          | 0, _ => exact h0
          | 1, _ => omega
          | 2, _ => omega
          | 3, _ => omega
        · exact one
      · exact one
set_option maxHeartbeats 4000000 in
set_option maxRecDepth 100000 in
theorem indexRune_err (w : World) :
    Calls Tryz.prog 173 #[.string ⟨#[32, 10]⟩, .int .i32 65533] w fun e w' => e = .returned (.int .i64 (-1)) ∧ Below w.heap.size w w' := by
  have n0 : ∀ ty, (Instr.next (.pointer (some ⟨w.heap.size, 0, none⟩)) true ty).run Tryz.prog (w.iter ⟨#[32, 10]⟩ 0) = .ok (.tuple #[.bool true, .int .i64 0, .int .i32 32]) (w.iter ⟨#[32, 10]⟩ 1) := fun ty => run_next_ascii w ⟨#[32, 10]⟩ 0 ty (by decide) (by decide)
  have n1 : ∀ ty, (Instr.next (.pointer (some ⟨w.heap.size, 0, none⟩)) true ty).run Tryz.prog (w.iter ⟨#[32, 10]⟩ 1) = .ok (.tuple #[.bool true, .int .i64 1, .int .i32 10]) (w.iter ⟨#[32, 10]⟩ 2) := fun ty => run_next_ascii w ⟨#[32, 10]⟩ 1 ty (by decide) (by decide)
  have n2 := fun ty => run_next_end (P := Tryz.prog) w ⟨#[32, 10]⟩ 2 ty (by decide)
  go_enter Tryz.func173, Tryz.ntmps173
  go_wp2_with fail
  refine wp_loop_rounds 3 ?_
  rw [rounds_succ]
  go_wp2
  rw [rounds_succ]
  go_wp2
  rw [rounds_succ]
  go_wp2
  go_ret
  exact ⟨rfl, (Below.refl _ _).alloc (Nat.le_refl _) _⟩
set_option maxHeartbeats 4000000 in
set_option maxRecDepth 100000 in
set_option linter.unusedSimpArgs false in
theorem indexRune_val (r : Int) (h : 128 ≤ r) (h2 : r ≤ 2147483647) (hne : (r == 65533) = false) (hv : Lib.validRune r = true) (w : World) :
    Calls Tryz.prog 173 #[.string ⟨#[32, 10]⟩, .int .i32 r] w fun e w' => e = .returned (.int .i64 (-1)) ∧ Below w.heap.size w w' := by
  have C := hide (Tryz.utf8_ValidRune r w)
  rw [hv] at C
  have hvv : Utf8.valid r = true := by
    unfold Lib.validRune at hv
    unfold Utf8.valid
    simp at hv ⊢
    omega
  obtain ⟨e1, e2, e3⟩ := encode_facts r hvv h
  have hge : ¬ r < 128 := by omega
  by_cases e4 : (Utf8.encode r).size = 2
  · have e7 : 1 < (Utf8.encode r).size := by omega
    have hx : ∀ w', (Instr.index 9 (.string (Utf8.encode r)) (.int .i64 1)).run Tryz.prog w' = .ok (.int .u8 (((Utf8.encode r)[1]'e7).toNat : Int)) w' := fun w' => ix_str w' (Utf8.encode r) 1 e7
    have e5 := e3 (by omega)
    have e6 : 128 ≤ ((Utf8.encode r)[1]'e7).toNat := by simpa [e4] using e5
    generalize ((Utf8.encode r)[1]'e7).toNat = B at *
    have hB : ¬ ((10 : Int) = (B : Int)) := by omega
    have hB2 : ((10 : Int) == (B : Int)) = false := by simpa using hB
    have hB3 : ((((⟨#[32, 10]⟩ : ByteArray)[1]'(by decide)).toNat : Int) != (B : Int)) = true := by show ((10 : Int) != _) = true; simpa using hB
    have D : Hid (∀ w', Calls Tryz.prog 185 #[.string ⟨#[]⟩, .int .u8 (B : Int)] w' fun e w'' => e = .returned (.int .i64 (-1)) ∧ w'' = w') := fun w' => (Tryz.strings_IndexByte ⟨#[]⟩ (B : Int) w').mono fun e w'' ⟨h1, h2⟩ => ⟨by rw [h1]; rfl, h2⟩
    have e8 : ((Utf8.encode r).size : Int) = 2 := by omega
    clear e3 e5
    go_enter Tryz.func173, Tryz.ntmps173
    go_wp2_with fail
    refine Calls.mono C.out ?_
    rintro e w1 ⟨rfl, rfl⟩
    go_wp2_with fail
    go_step3
    go_wp2_with fail
    refine wp_loop_rounds 1 ?_
    rw [rounds_succ]
    go_wp2_with fail
    go_step3
    go_wp2_with fail
    go_quiet (fail)
    have BW := hide (below_drewN (Below.refl w1.heap.size w1) nq)
    generalize w1.drewN nq = w3 at *
    go_wp2_with fail
    refine wp_region_held_drew (S := fun _ => True) (by kernel_rfl) trivial (fun hHeld => ?_)
    refine wpAnyH_take (i := 0) (v := (.string ⟨#[32, 10]⟩)) rfl (by kernel_rfl) (by kernel_rfl) (by kernel_rfl) (fun _ _ _ h => h) (Or.inl ⟨by rfl, ?_⟩) (by assumption) ?_
    · intro w' hSw
      (try dsimp only at hSw)
      go_simp <;> first | exact i64_in (by omega) (by omega) | exact u32_in (by omega) (by omega) | exact u32_add _ _ | (rw [Int.tmod_eq_emod_of_nonneg (by omega)]; omega) | (rw [Int.tdiv_eq_ediv_of_nonneg (by omega)]; omega) | omega
    (try simp only [Act.put, List.setIfInBounds_toArray, List.set_cons_zero, List.set_cons_succ])
    refine wpAnyH_take (i := 1) (v := (.int .i64 1)) rfl (by kernel_rfl) (by kernel_rfl) (by kernel_rfl) (fun _ _ _ h => h) (Or.inl ⟨by rfl, ?_⟩) (by assumption) ?_
    · intro w' hSw
      (try dsimp only at hSw)
      go_simp <;> first | exact i64_in (by omega) (by omega) | exact u32_in (by omega) (by omega) | exact u32_add _ _ | (rw [Int.tmod_eq_emod_of_nonneg (by omega)]; omega) | (rw [Int.tdiv_eq_ediv_of_nonneg (by omega)]; omega) | omega
    (try simp only [Act.put, List.setIfInBounds_toArray, List.set_cons_zero, List.set_cons_succ])
    refine wpAnyH_take (i := 2) (v := (.int .i64 2)) rfl (by kernel_rfl) (by kernel_rfl) (by kernel_rfl) (fun _ _ _ h => h) (Or.inl ⟨by rfl, ?_⟩) (by assumption) ?_
    · intro w' hSw
      (try dsimp only at hSw)
      (go_simp; rfl)
    (try simp only [Act.put, List.setIfInBounds_toArray, List.set_cons_zero, List.set_cons_succ])
    refine wpAnyH_take (i := 3) (v := (.string ⟨#[]⟩)) rfl (by kernel_rfl) (by kernel_rfl) (by kernel_rfl) (fun _ _ _ h => h) (Or.inl ⟨by rfl, ?_⟩) (by assumption) ?_
    · intro w' hSw
      (try dsimp only at hSw)
      (rw [show (⟨#[]⟩ : ByteArray) = (⟨#[32, 10]⟩ : ByteArray).extract 2 2 from rfl]; go_simp)
    (try simp only [Act.put, List.setIfInBounds_toArray, List.set_cons_zero, List.set_cons_succ])
    refine wpAnyH_take (i := 4) (v := (.string (Utf8.encode r))) rfl (by kernel_rfl) (by kernel_rfl) (by kernel_rfl) (fun _ _ _ h => h) (Or.inl ⟨by rfl, ?_⟩) (by assumption) ?_
    · intro w' hSw
      (try dsimp only at hSw)
      go_simp <;> first | exact i64_in (by omega) (by omega) | exact u32_in (by omega) (by omega) | exact u32_add _ _ | (rw [Int.tmod_eq_emod_of_nonneg (by omega)]; omega) | (rw [Int.tdiv_eq_ediv_of_nonneg (by omega)]; omega) | omega
    (try simp only [Act.put, List.setIfInBounds_toArray, List.set_cons_zero, List.set_cons_succ])
    refine wpAnyH_take (i := 5) (v := (.int .i64 1)) rfl (by kernel_rfl) (by kernel_rfl) (by kernel_rfl) (fun _ _ _ h => h) (Or.inl ⟨by rfl, ?_⟩) (by assumption) ?_
    · intro w' hSw
      (try dsimp only at hSw)
      go_simp <;> first | exact i64_in (by omega) (by omega) | exact u32_in (by omega) (by omega) | exact u32_add _ _ | (rw [Int.tmod_eq_emod_of_nonneg (by omega)]; omega) | (rw [Int.tdiv_eq_ediv_of_nonneg (by omega)]; omega) | omega
    (try simp only [Act.put, List.setIfInBounds_toArray, List.set_cons_zero, List.set_cons_succ])
    refine wpAnyH_take (i := 6) (v := (.int .u8 (B : Int))) rfl (by kernel_rfl) (by kernel_rfl) (by kernel_rfl) (fun _ _ _ h => h) (Or.inl ⟨by rfl, ?_⟩) (by assumption) ?_
    · intro w' hSw
      (try dsimp only at hSw)
      go_simp <;> first | exact i64_in (by omega) (by omega) | exact u32_in (by omega) (by omega) | exact u32_add _ _ | (rw [Int.tmod_eq_emod_of_nonneg (by omega)]; omega) | (rw [Int.tdiv_eq_ediv_of_nonneg (by omega)]; omega) | omega
    (try simp only [Act.put, List.setIfInBounds_toArray, List.set_cons_zero, List.set_cons_succ])
    refine wpAnyH_ready (rs := [7]) (by kernel_rfl) (by simp) ?_
    refine AllReadyH.cons rfl (fun K hK => ?_) AllReadyH.nil
    go_simp
    refine Calls.mono (D.out _) ?_
    rintro e w2 ⟨rfl, rfl⟩
    refine hK.out _ _ (trivial) (fun hHeld => ?_)
    clear hK
    (try simp only [Act.put, List.setIfInBounds_toArray, List.set_cons_zero, List.set_cons_succ])
    refine wpAnyH_ready (rs := [8]) (by kernel_rfl) (by simp) ?_
    refine AllReadyH.cons rfl (fun K hK => ?_) AllReadyH.nil
    go_simp
    refine hK.out _ _ (trivial) (fun hHeld => ?_)
    clear hK
    (try simp only [Act.put, List.setIfInBounds_toArray, List.set_cons_zero, List.set_cons_succ])
    refine wpAnyH_done (by kernel_rfl) ?_ _
    go_wp2_with fail
    rw [Exit.noGoto_ret]
    go_wp2_with fail
    rw [Exit.noGoto_ret]
    go_ret
    exact ⟨rfl, BW.out.drew⟩
  · have e7 : 2 < (Utf8.encode r).size := by omega
    have e8 : ¬ ((Utf8.encode r).size : Int) - 1 < 2 := by omega
    clear e3
    go_enter Tryz.func173, Tryz.ntmps173
    go_wp2_with fail
    refine Calls.mono C.out ?_
    rintro e w1 ⟨rfl, rfl⟩
    go_wp2_with fail
    go_step3
    go_wp2_with fail
    refine wp_loop_rounds 1 ?_
    rw [rounds_succ]
    go_wp2_with fail
    rw [Exit.noGoto_ret]
    go_ret
    exact ⟨rfl, Below.refl _ _⟩
set_option maxHeartbeats 4000000 in
set_option maxRecDepth 100000 in
theorem indexRune_inv (r : Int) (h : 128 ≤ r) (hne : (r == 65533) = false) (hv : Lib.validRune r = false) (w : World) :
    Calls Tryz.prog 173 #[.string ⟨#[32, 10]⟩, .int .i32 r] w fun e w' => e = .returned (.int .i64 (-1)) ∧ Below w.heap.size w w' := by
  have C := hide (Tryz.utf8_ValidRune r w)
  rw [hv] at C
  have hge : ¬ r < 128 := by omega
  go_enter Tryz.func173, Tryz.ntmps173
  go_wp2_with fail
  refine Calls.mono C.out ?_
  rintro e w1 ⟨rfl, rfl⟩
  go_wp2_with fail
  go_ret
  exact ⟨rfl, Below.refl _ _⟩
/-- of the two separators: none is a rune above ASCII -/
theorem indexRune_hi (r : Int) (h : 128 ≤ r) (h2 : r ≤ 2147483647) (w : World) :
    Calls Tryz.prog 173 #[.string ⟨#[32, 10]⟩, .int .i32 r] w fun e w' => e = .returned (.int .i64 (-1)) ∧ Below w.heap.size w w' := by
  by_cases h1 : r = 65533
  · subst h1; exact indexRune_err w
  · cases hv : Lib.validRune r with
    | true => exact indexRune_val r h h2 (by simpa using h1) hv w
    | false => exact indexRune_inv r h (by simpa using h1) hv w
theorem get_bang (s : ByteArray) (k : Nat) (h : k < s.size) : s.get! k = s[k] := by
  simp [ByteArray.get!, getElem!_pos, h]
  rfl
theorem noAny_span {s : ByteArray} {i n : Nat} (h : Lib.NoAny s.data.toList [32, 10] i) (hn : ∀ j, j < n → 128 ≤ (s.get! (i + j)).toNat) (hs : i + n ≤ s.size) : Lib.NoAny s.data.toList [32, 10] (i + n) := fun j b hj hb => by
  rcases Nat.lt_or_ge j i with q | q
  · exact h j b q hb
  · have := hn (j - i) (by omega)
    rw [show i + (j - i) = j by omega, get_bang s j (by omega)] at this
    have e : s.data.toList[j]? = some s[j] := Lib.data_getElem? s j (by omega)
    rw [e] at hb
    injection hb with hb
    subst hb
    have h1 : s[j] ≠ 32 := fun e => by rw [e] at this; simp at this
    have h2 : s[j] ≠ 10 := fun e => by rw [e] at this; simp at this
    simp [h1, h2]
set_option maxHeartbeats 4000000 in
set_option maxRecDepth 100000 in
/-- strings.IndexAny of the two separators, of a short text, whatever its bytes -/
theorem indexAny_short (s : ByteArray) (w : World) (h8 : s.size ≤ 8) :
    Calls Tryz.prog 158 #[.string s, .string ⟨#[32, 10]⟩] w fun e w' => e = .returned (.int .i64 (Lib.indexAny s.data.toList [32, 10])) ∧ Below w.heap.size w w' := by
  have h8z : decide ((8 : Int) < (s.size : Int)) = false := decide_eq_false (by omega)
  have A := hide (fun w' => Tryz.strings_shouldUseASCIISet s.size w')
  go_enter Tryz.func158, Tryz.ntmps158
  go_wp2_with fail
  refine Calls.mono (A.out _) ?_
  rintro e w1 ⟨rfl, rfl⟩
  rw [h8z]
  go_wp2_with fail
  go_loopw [9, 10] (fun _ _ wr => ∃ pos, pos ≤ s.size ∧ Hid (wr.heap[w1.heap.size]? = some (.stringIter s pos) ∧ Below w1.heap.size w1 wr ∧ Lib.NoAny s.data.toList [32, 10] pos)) (fun _ _ wr => s.size - wr.iterPos w1.heap.size)
  case atStart => exact ⟨0, Nat.zero_le _, World.iter_heap _ _ _, (Below.refl _ _).alloc (Nat.le_refl _) _, Lib.NoAny.zero _ _⟩
  case round =>
    obtain ⟨pos, hp, H⟩ := hrel
    obtain ⟨H1, H2, H3⟩ := H.out
    have HP : Hid (wr.iterPos w1.heap.size = pos) := by show _ = _; simp [World.iterPos, H1]
    by_cases hlt : pos < s.size
    · by_cases ha : (s[pos]'hlt).toNat < 128
      · have hnx := fun ty => Lib.run_next_ascii_at (P := Tryz.prog) wr w1.heap.size s pos ty H1 hlt ha
        obtain ⟨wi, hwi⟩ : ∃ wi, wi = wr.iterAt w1.heap.size s (pos + 1) := ⟨_, rfl⟩
        rw [← hwi] at hnx
        have K1 : Hid (wi.heap[w1.heap.size]? = some (.stringIter s (pos + 1))) := by show _ = _; rw [hwi]; exact Lib.iterAt_heap wr _ s pos (pos + 1) H1
        have K2 := hide (show Below w1.heap.size w1 wi by rw [hwi]; exact Lib.below_iterAt H2 (Nat.le_refl _) s (pos + 1))
        have hxl : Hid (s.data.toList[pos]? = some s[pos]) := Lib.data_getElem? s pos hlt
        have C := hide (Tryz.strings_IndexRune_ascii ⟨#[32, 10]⟩ s[pos].toNat wi (by omega) (by omega))
        rw [show ((s[pos].toNat : Int)).toNat.toUInt8 = s[pos] by simp] at C
        have HC := hide (Lib.contains_iff_indexByte [32, 10] s[pos])
        have HH : Hid (∀ b : UInt8, s.data.toList[pos]? = some b → (([32, 10] : List UInt8).contains b = true → Lib.indexAny s.data.toList [32, 10] = pos) ∧ (([32, 10] : List UInt8).contains b = false → Lib.NoAny s.data.toList [32, 10] (pos + 1))) := fun b hb => ⟨fun hc => Lib.indexAny_hit H3 hb hc, fun hc => H3.succ hb hc⟩
        generalize s[pos] = c at *
        clear H H1 H2 H3 hwi
        by_cases hi : (0 : Int) ≤ Lib.indexByte [32, 10] c
        · have e1 := (HH.out c hxl.out).1 (by rw [HC.out]; exact decide_eq_true hi)
          have E1 := hide e1
          clear e1
          go_wp2_with fail
          refine Calls.mono C.out ?_
          rintro e w2 ⟨rfl, rfl⟩
          go_wp2_with fail
          go_ret
          exact ⟨congrArg (fun z => Ending.returned (.int .i64 z)) E1.out.symm, K2.out⟩
        · have E1 := hide ((HH.out c hxl.out).2 (by rw [HC.out]; exact decide_eq_false hi))
          go_wp2_with fail
          refine Calls.mono C.out ?_
          rintro e w2 ⟨rfl, rfl⟩
          go_wp2_with fail
          go_roundw
          case rel => exact ⟨pos + 1, by omega, K1.out, K2.out, E1.out⟩
          case measure => rw [HP.out]; simp [World.iterPos, K1.out]; omega
      · have hnx := fun ty => Lib.run_next_any_at (P := Tryz.prog) wr w1.heap.size s pos ty H1 hlt
        obtain ⟨d1, d2⟩ := decode_high s pos hlt (by omega)
        have d3 := decode_le s pos
        obtain ⟨d4, d5⟩ := decode_span s pos hlt (by omega)
        have E1 := hide (noAny_span H3 d5 d4)
        generalize (Utf8.decode s pos).1 = R at *
        generalize (Utf8.decode s pos).2 = N at *
        obtain ⟨wi, hwi⟩ : ∃ wi, wi = wr.iterAt w1.heap.size s (pos + N) := ⟨_, rfl⟩
        rw [← hwi] at hnx
        have K1 : Hid (wi.heap[w1.heap.size]? = some (.stringIter s (pos + N))) := by show _ = _; rw [hwi]; exact Lib.iterAt_heap wr _ s pos (pos + N) H1
        have K2 := hide (show Below w1.heap.size w1 wi by rw [hwi]; exact Lib.below_iterAt H2 (Nat.le_refl _) s (pos + N))
        have C := hide (indexRune_hi (R : Int) (by omega) (by omega) wi)
        have hz : w1.heap.size < wi.heap.size := (Array.getElem?_eq_some_iff.1 K1.out).1
        clear H H1 H2 H3 hwi d5
        go_wp2_with fail
        refine Calls.mono C.out ?_
        rintro e w2 ⟨rfl, b2⟩
        have K3 : Hid (w2.heap[w1.heap.size]? = some (.stringIter s (pos + N))) := by show _ = _; rw [b2.block _ hz]; exact K1.out
        have K4 := hide (K2.out.trans (b2.mono K2.out.size))
        clear b2 C
        go_wp2_with fail
        go_roundw
        case rel => exact ⟨pos + N, by omega, K3.out, K4.out, E1.out⟩
        case measure => rw [HP.out]; simp [World.iterPos, K3.out]; omega
    · obtain rfl : pos = s.size := by omega
      have hnx := fun ty => Lib.run_next_end_at (P := Tryz.prog) wr w1.heap.size s s.size ty H1 hlt
      have e1 := Lib.indexAny_none (s := s.data.toList) (chars := [32, 10]) (by rw [size_data]; exact H3)
      have E1 := hide e1
      have K2 := hide H2
      clear H H1 H2 H3 e1
      go_wp2_with fail
      go_ret
      exact ⟨congrArg (fun z => Ending.returned (.int .i64 z)) E1.out.symm, K2.out⟩
set_option maxHeartbeats 8000000 in
set_option maxRecDepth 100000 in
/-- strings.IndexAny of the two separators, of a long text, whatever its length -/
theorem indexAny_long (s : ByteArray) (w : World) (h8 : 8 < s.size) (hs : s.size < 9223372036854775808) :
    Calls Tryz.prog 158 #[.string s, .string ⟨#[32, 10]⟩] w fun e w' => e = .returned (.int .i64 (Lib.indexAny s.data.toList [32, 10])) ∧ Below w.heap.size w w' := by
  have h8z : decide ((8 : Int) < (s.size : Int)) = true := decide_eq_true (by omega)
  have A := hide (fun w' => Tryz.strings_shouldUseASCIISet s.size w')
  have M := hide (Tryz.strings_makeASCIISet (fun w => by kernel_rfl) ⟨#[32, 10]⟩ w (by decide) (by
    intro j b hb
    match j, hb with
    | 0, hb => simp at hb; subst hb; decide
    | 1, hb => simp at hb; subst hb; decide))
  have hsz : (Lib.setCells [32, 10]).size = 256 := Lib.setCells_size _
  have hone := hide (Lib.setCells_one [32, 10])
  have hat := hide (Lib.setCells_at [32, 10])
  rw [show (⟨#[32, 10]⟩ : ByteArray).data.toList = [32, 10] from rfl] at M
  have hi119 : (Tryz.prog.info? 186).map (·.size) = some 256 := by kernel_rfl
  obtain ⟨S, hS⟩ : ∃ S, S = Lib.setCells [32, 10] := ⟨_, rfl⟩
  rw [← hS] at M hsz hone hat
  obtain ⟨W1, hW1⟩ : ∃ W1, W1 = w.alloc (.cells S 186) := ⟨_, rfl⟩
  obtain ⟨W2, hW2⟩ : ∃ W2, W2 = W1.alloc (.cells S 186) := ⟨_, rfl⟩
  rw [← hW1] at M
  have hsc : (storeCells ⟨W1.heap.size, 0, none⟩ S.toList 0).run Tryz.prog (W1.alloc (.cells (Array.replicate 256 (.bool false)) 186)) = .ok () W2 := by
    rw [hW2]
    exact run_storeCells_new (P := Tryz.prog) W1 186 (Array.replicate 256 (.bool false)) S (by rw [hsz]; exact hi119) (by rw [hsz, Array.size_replicate]) hone.out
  have HC : Hid (∀ x : UInt8, W2.cell? ⟨W1.heap.size, x.toNat, none⟩ = some (.bool (([32, 10] : List UInt8).contains x))) := fun x => by
    rw [hW2, World.cell?_alloc_at _ _ _ _ (by simp), hat.out]
  have HB : Hid (Below w.heap.size w W2) := by
    show Below _ _ _
    rw [hW2, hW1]
    exact ((Below.refl _ _).alloc (Nat.le_refl _) _).alloc (by simp) _
  have HS := hide hsc
  have HZ := hide hsz
  clear hsc hone hat hi119 hW2 hW1 hsz hS
  go_enter Tryz.func158, Tryz.ntmps158
  go_wp2_with fail
  refine Calls.mono (A.out _) ?_
  rintro e w1 ⟨rfl, rfl⟩
  rw [h8z]
  go_wp2_with fail
  refine Calls.mono M.out ?_
  rintro e w1 ⟨rfl, rfl⟩
  go_wp2_with fail
  rw [show Tryz.zeroCells186 = Array.replicate 256 (.bool false) by kernel_rfl, HS.out]
  simp only [Result.andThen]
  rw [Oper.upon_skip]
  go_wp2_with fail
  clear M HS
  go_loopg [8] s.size (fun g s8 wx => ∃ i : Nat, i + g = s.size ∧ s8 = .int .i64 i ∧ wx = W2 ∧ Hid (Lib.NoAny s.data.toList [32, 10] i))
  case atStart => exact ⟨0, by omega, rfl, rfl, Lib.NoAny.zero _ _⟩
  case round =>
    obtain ⟨i, hig, rfl, rfl, HN⟩ := hrel
    cases gk with
    | zero =>
      obtain rfl : i = s.size := by omega
      have hiz : ¬ ((s.size : Int) < (s.size : Int)) := by omega
      have E1 := hide (Lib.indexAny_none (s := s.data.toList) (chars := [32, 10]) (by rw [size_data]; exact HN.out))
      go_wp2_with fail
      go_ret
      exact ⟨congrArg (fun z => Ending.returned (.int .i64 z)) E1.out.symm, HB.out⟩
    | succ g =>
      have hi : i < s.size := by omega
      have hiz : (i : Int) < (s.size : Int) := by omega
      obtain ⟨x, hx⟩ : ∃ x : UInt8, s[i]'hi = x := ⟨_, rfl⟩
      have Hx : Hid (s.data.toList[i]? = some x) := by show _ = _; rw [← hx]; exact Lib.data_getElem? s i hi
      cases hin : ([32, 10] : List UInt8).contains x
      · have E1 := hide (HN.out.succ Hx.out hin)
        have C := hide (Tryz.asciiSet_contains w1.heap.size x false wr (by rw [HC.out, hin]))
        go_wp2_with fail
        refine Calls.mono C.out ?_
        rintro e w2 ⟨rfl, rfl⟩
        go_wp2_with fail
        go_roundg g
        case measure => omega
        case rel => exact ⟨i + 1, by omega, by first | rfl | simp, rfl, E1.out⟩
      · have E1 := hide (Lib.indexAny_hit HN.out Hx.out hin)
        have C := hide (Tryz.asciiSet_contains w1.heap.size x true wr (by rw [HC.out, hin]))
        go_wp2_with fail
        refine Calls.mono C.out ?_
        rintro e w2 ⟨rfl, rfl⟩
        go_wp2_with fail
        go_ret
        exact ⟨congrArg (fun z => Ending.returned (.int .i64 z)) E1.out.symm, HB.out⟩
/-- strings.IndexAny of the two separators -/
theorem indexAny_any (s : ByteArray) (w : World) (hs : s.size < 9223372036854775808) :
    Calls Tryz.prog 158 #[.string s, .string ⟨#[32, 10]⟩] w fun e w' => e = .returned (.int .i64 (Lib.indexAny s.data.toList [32, 10])) ∧ Below w.heap.size w w' := by
  by_cases h8 : s.size ≤ 8
  · exact indexAny_short s w h8
  · exact indexAny_long s w (by omega) hs
end Go.Proofs.YtfpalfpfijcpbaaGreatDoor
namespace Go.Proofs
open Go.Shelf Go.RowKit
def Tryz.bs_ren : Go.Shelf.Ren := ⟨fun | 166 => 54 | 240 => 129 | 276 => 160 | n => n, fun | 9 => 9 | 3 => 3 | 4 => 4 | 20 => 20 | 0 => 0 | 72 => 103 | 70 => 100 | 37 => 101 | 75 => 105 | 80 => 112 | 164 => 164 | 5 => 5 | n => n, fun | n => n⟩
theorem Tryz.bs_lays : Go.Proofs.Lays.n166 Tryz.prog Tryz.bs_ren := {
  mixed := by kernel_rfl
  f166 := Tryz.func54.trans (congrArg some (by kernel_rfl))
  f240 := Tryz.func129.trans (congrArg some (by kernel_rfl))
  f276 := Tryz.func160.trans (congrArg some (by kernel_rfl))
  t0 := Tryz.underlying0
  a0 := Tryz.isAgg0
  z0 := Tryz.sizeOf0
  v0 := Tryz.zeroValue0
  t3 := Tryz.underlying3
  a3 := Tryz.isAgg3
  z3 := Tryz.sizeOf3
  v3 := Tryz.zeroValue3
  t4 := Tryz.underlying4
  a4 := Tryz.isAgg4
  z4 := Tryz.sizeOf4
  v4 := Tryz.zeroValue4
  t9 := Tryz.underlying9
  a9 := Tryz.isAgg9
  z9 := Tryz.sizeOf9
  v9 := Tryz.zeroValue9
  t20 := Tryz.underlying20
  a20 := Tryz.isAgg20
  z20 := Tryz.sizeOf20
  v20 := Tryz.zeroValue20
  t37 := Tryz.underlying101
  a37 := Tryz.isAgg101
  z37 := Tryz.sizeOf101
  v37 := Tryz.zeroValue101
  t70 := Tryz.underlying100
  a70 := Tryz.isAgg100
  z70 := Tryz.sizeOf100
  v70 := Tryz.zeroValue100
  t72 := Tryz.underlying103
  a72 := Tryz.isAgg103
  z72 := Tryz.sizeOf103
  v72 := Tryz.zeroValue103
  t75 := Tryz.underlying105
  a75 := Tryz.isAgg105
  z75 := Tryz.sizeOf105
  v75 := Tryz.zeroValue105
  t164 := Tryz.underlying164
  a164 := Tryz.isAgg164
  z164 := Tryz.sizeOf164
  v164 := Tryz.zeroValue164 }
theorem Tryz.bs_extra : Builder.Extra Tryz.prog Tryz.bs_ren := {
  sizeBuilder := by kernel_rfl
  liesBuilder := by kernel_rfl
  t5 := Tryz.underlying5
  a5 := Tryz.isAgg5
  z5 := Tryz.sizeOf5
  v5 := Tryz.zeroValue5
  infoByte := by kernel_rfl
  cellsByte := by kernel_rfl
  sizeByte := by kernel_rfl
  neB5 := by decide }
theorem Tryz.bWriteString (B b : Nat) (bs : List Value) (s : ByteArray) (w : World) (h : Lib.IsBuilderF 103 5 B b bs w) (hlen : bs.length + s.size ≤ 140737488355328) (hBw : B ≤ w.heap.size) :
    Calls Tryz.prog 54 #[.pointer (some ⟨b, 0, none⟩), .string s] w fun e w' => e = .returned (.tuple #[.int .i64 s.size, .nilIface]) ∧ (Lib.BuilderAtF 103 5 B b (.pointer (some ⟨b, 0, none⟩)) (bs ++ Lib.strCells s) w' ∧ Below B w w' ∧ Lib.OthersKept 5 (some b) w w') := Any.Builder_WriteString_k Tryz.bs_lays Tryz.bs_extra B b bs s w h hlen hBw
end Go.Proofs
namespace Go.Proofs.YtfpalfpfijcpbaaGreatDoor
open Go.RowKit Go.Shelf
/-- a row of a table: what stands ahead, the shape, the range, the closures, what stands behind -/
structure FD where
  wd : ByteArray
  sh : Int
  lo : Int
  hi : Int
  gf : Nat
  sf : Nat
  ca : Array Value
  en : ByteArray
def FD.cells (f : FD) : List Value := [.string f.wd, .int .i64 f.sh, .int .i64 f.lo, .int .i64 f.hi, .func (.func f.gf) #[] f.ca, .func (.func f.sf) #[] f.ca, .string f.en]
/-- a table in memory -/
def TabAt (b : Nat) (w : World) (ts : List FD) : Prop := ∀ i (h : i < ts.length), w.rangeAt b (i * 7) ts[i].cells
theorem rangeAt_cell {w : World} {b o : Nat} {cs : List Value} (h : w.rangeAt b o cs) (j : Nat) (v : Value) (hv : cs[j]? = some v) : w.cell? ⟨b, o + j, none⟩ = some v := h j v hv
set_option maxHeartbeats 2000000 in
set_option maxRecDepth 100000 in
/-- walk, over any table, with any closure -/
theorem walk_any (pf : Nat) (he : Enters Tryz.prog pf) (cp : Array Value) (b cap : Nat) (ts : List FD) (w : World) (I J : Nat → World → Prop) (hlen : ts.length ≤ 1000000) (h0 : I 0 w) (hT : ∀ i w', i ≤ ts.length → I i w' → TabAt b w' ts)
    (hI : ∀ i w' o, i ≤ ts.length → I i w' → I i (w'.alloc o))
    (hs : ∀ i (h : i < ts.length) w', I i w' → Calls Tryz.prog pf (#[.agg ts[i].cells.toArray] ++ cp) w' fun e w'' => (e = .returned (.bool true) ∧ I (i + 1) w'') ∨ (e = .returned (.bool false) ∧ J i w'')) :
    Calls Tryz.prog 95 #[.slice (some ⟨b, 0, none⟩) ts.length cap, .func (.func pf) #[] cp] w fun e w' => (e = .returned (.bool true) ∧ I ts.length w') ∨ (e = .returned (.bool false) ∧ ∃ i, i < ts.length ∧ J i w') := by
  unfold Enters at he
  have HT := hide hT
  have HI := hide hI
  have HS := hide hs
  clear hT hI hs
  go_enter Tryz.func95, Tryz.ntmps95
  go_wp2
  go_loopw [9] (fun v wr => ∃ k : Nat, k ≤ ts.length ∧ v = .int .i64 k ∧ Hid (I k wr)) (fun v _ => ts.length - (intOf v).toNat)
  case atStart => exact ⟨0, Nat.zero_le _, rfl, h0⟩
  case round =>
    obtain ⟨k, hk, rfl, hI⟩ := hrel
    by_cases hlt : k < ts.length
    · have hr := HT.out k wr hk hI.out k hlt
      have C := hide (HS.out k hlt (wr.alloc (.cells ts[k].cells.toArray 124)) (HI.out k wr _ hk hI.out))
      generalize hf : ts[k] = f at hr C
      clear hf
      have c0 : wr.cell? ⟨b, k * 7, none⟩ = _ := rangeAt_cell hr 0 _ rfl
      have c1 := rangeAt_cell hr 1 _ rfl
      have c2 := rangeAt_cell hr 2 _ rfl
      have c3 := rangeAt_cell hr 3 _ rfl
      have c4 := rangeAt_cell hr 4 _ rfl
      have c5 := rangeAt_cell hr 5 _ rfl
      have c6 := rangeAt_cell hr 6 _ rfl
      unfold FD.cells at C
      clear hr
      go_wp2_with fail
      refine Calls.mono C.out ?_
      rintro e w1 (⟨rfl, h1⟩ | ⟨rfl, h1⟩)
      · have H1 := hide h1
        clear h1
        go_wp2
        go_roundw
        case rel => exact ⟨k + 1, by omega, by go_num, H1⟩
        case measure => simp [intOf]; omega
      · have H1 := hide h1
        clear h1
        go_wp2
        go_ret
        exact .inr ⟨rfl, k, hlt, H1.out⟩
    · obtain rfl : k = ts.length := by omega
      go_wp2
      go_ret
      exact .inl ⟨rfl, hI.out⟩
end Go.Proofs.YtfpalfpfijcpbaaGreatDoor
