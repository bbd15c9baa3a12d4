import Derived.Test.YtfpalfpfijcpbaaGreatDoorGPjSpNotes
namespace Go.Proofs.YtfpalfpfijcpbaaGreatDoor
open Go.RowKit Go.Shelf
def mN (n1 n2 n3 n4 n5 n6 n7 : Int) : Nat → Int
  | 1 => n1
  | 2 => n2
  | 3 => n3
  | 4 => n4
  | 5 => n5
  | 6 => n6
  | 7 => n7
  | _ => 0
theorem alloc_cell (w : World) (cs : Array Value) (t : TypeId) (i : Nat) (v : Value) (h : cs[i]? = some v) : (w.alloc (.cells cs t)).cell? ⟨w.heap.size, i, none⟩ = some v := by
  have q := rangeAt_new w cs.toList t i v (by rw [Array.getElem?_toList]; exact h)
  rw [Nat.zero_add] at q
  exact q
theorem ptrE_ok {c p e s : Int} (h : ptrOk c p e s = true) : ptrE c p e s = 0 := by unfold ptrE; rw [if_pos h]
theorem noteE_ok {c p e s : Int} (h : noteOk c p e s = true) : noteE c p e s = 0 := by unfold noteE; rw [if_pos h]
theorem metaE_ok {st : ByteArray} {n : Nat → Int} (h : metaOk st n = true) : metaE st n = 0 := by unfold metaE; rw [if_pos h]
theorem metaS_len (st : ByteArray) (n : Nat → Int) (hv : ∀ i, I64 (n i)) : (metaS st n).size < 9223372036854775808 := by
  unfold metaS
  split
  · rename_i hok
    unfold paperS
    have h1 := wrL_len (metaFDs 0) (metaO st n) 40 (metaFD_small 0) (fun i => by
          unfold metaO
          split
          · exact (metaOk_st hok).2.1
          · unfold itS; rw [strOf_size]; exact Nat.le_trans (itoa_len _ (hv i).1 (hv i).2) (by omega)) 8 (Nat.le_refl _)
    have h2 : (metaL st n).length ≤ 8 * (40 + 2000) := h1
    have h3 : metaTitle.size = 15 := rfl
    rw [ByteArray.size_append, ByteArray.size_append, strOf_size, strOf_size, sealL_len, h3]
    have h4 : sumWd.size = 4 := rfl
    omega
  · decide
theorem note_one {c p e s : Int} (hok : noteOk c p e s = true) : notesAt (noteS c p e s) 1 = some ([(c, p, e, s)], (noteS c p e s).size) ∧ nsz (noteS c p e s) (noteS c p e s).size = 0 := by
  obtain ⟨f1, f2⟩ := note_fwd hok (tx := noteS c p e s) (a := 0) (Nat.zero_le _) (by rw [List.drop_zero]; exact pfx_of_take (by rw [← size_data, List.take_length]))
  have hp : (noteS c p e s).size ≠ 0 := by
    unfold noteS; rw [if_pos hok, ByteArray.size_append, strOf_size, strOf_size, sealL_len]; omega
  refine ⟨?_, ?_⟩
  · have := notes_step (tx := noteS c p e s) (k := 0) (l := []) (q := 0) rfl (by rw [f2]; exact hp)
    rw [f1, f2, List.nil_append] at this
    simpa only [Nat.zero_add] using this
  · have := nsz_le (tx := noteS c p e s) (q := (noteS c p e s).size) (Nat.le_refl _)
    omega
theorem parse_note {c p e s : Int} (hok : noteOk c p e s = true) (hc : I64 c) (hp : I64 p) (he : I64 e) (w : World) (hT4 : Tab4 0 w) :
    Calls Tryz.prog 18 #[.string (noteS c p e s)] w fun x w' => ∃ (g cap : Nat), x = .returned (.tuple #[.slice (some ⟨g, 0, none⟩) 1 cap, .int .i64 ((noteS c p e s).size : Int)]) ∧ g < w'.heap.size ∧ (w'.cell? ⟨g, 0, none⟩ = some (.int .i64 c) ∧ w'.cell? ⟨g, 1, none⟩ = some (.int .i64 p) ∧ w'.cell? ⟨g, 2, none⟩ = some (.int .i64 e) ∧ w'.cell? ⟨g, 3, none⟩ = some (.int .i64 s)) ∧ Below w.heap.size w w' := by
  refine Calls.mono (parseNotes_any _ w (Nat.le_trans (noteS_len c p e s hc hp he) (by omega)) hT4) ?_
  rintro x w' ⟨v, k, l, q, rfl, n1, z1, o1, b1⟩
  obtain ⟨m1, m2⟩ := note_one hok
  obtain ⟨rfl, rfl⟩ := notes_one n1 z1 m1 m2
  obtain ⟨a, g, cp, rfl, h1, h2, h3⟩ := own_notes o1
  obtain rfl := h1 (by simp)
  have h4 := h3 0 (by simp)
  exact ⟨g, cp, rfl, h2 (by simp), by simpa using h4, b1⟩
set_option maxHeartbeats 16000000 in
set_option maxRecDepth 100000 in
set_option linter.unusedSimpArgs false in
/-- the law PaperBack -/
theorem back_any (st : ByteArray) (n1 n2 n3 n4 n5 n6 n7 c p e s c2 p2 e2 s2 : Int) (hst : st.size ≤ 9223372036854775807) (hn : ∀ i, I64 (mN n1 n2 n3 n4 n5 n6 n7 i)) (hc : I64 c) (hp : I64 p) (he : I64 e) (hs : I64 s) (hc2 : I64 c2) (hp2 : I64 p2) (he2 : I64 e2) (w : World) (hT4 : Tab4 0 w) (hP : Pow w) :
    Calls Tryz.prog 3 #[.agg #[.string st, .int .i64 n1, .int .i64 n2, .int .i64 n3, .int .i64 n4, .int .i64 n5, .int .i64 n6, .int .i64 n7], .agg #[.int .i64 c, .int .i64 p, .int .i64 e, .int .i64 s], .agg #[.int .i64 c2, .int .i64 p2, .int .i64 e2, .int .i64 s2]] w fun x w' => x = .returned (.bool true) ∧ Below w.heap.size w w' := by
  obtain ⟨W0, hW0⟩ : ∃ W0, W0 = ((w.alloc (.cells #[.string st, .int .i64 n1, .int .i64 n2, .int .i64 n3, .int .i64 n4, .int .i64 n5, .int .i64 n6, .int .i64 n7] 23)).alloc (.cells #[.int .i64 c, .int .i64 p, .int .i64 e, .int .i64 s] 25)).alloc (.cells #[.int .i64 c2, .int .i64 p2, .int .i64 e2, .int .i64 s2] 27) := ⟨_, rfl⟩
  have b0 : Below w.heap.size w W0 := by rw [hW0]; exact (((Below.refl _ w).alloc (Nat.le_refl _) _).alloc (by simp) _).alloc (by simp; omega) _
  have s0 : W0.heap.size = w.heap.size + 3 := by rw [hW0]; simp
  have a1 : Below (w.heap.size + 1) (w.alloc (.cells #[.string st, .int .i64 n1, .int .i64 n2, .int .i64 n3, .int .i64 n4, .int .i64 n5, .int .i64 n6, .int .i64 n7] 23)) W0 := by
    rw [hW0]; exact ((Below.refl _ _).alloc (by simp) _).alloc (by simp) _
  have a2 : Below (w.heap.size + 1 + 1) ((w.alloc (.cells #[.string st, .int .i64 n1, .int .i64 n2, .int .i64 n3, .int .i64 n4, .int .i64 n5, .int .i64 n6, .int .i64 n7] 23)).alloc (.cells #[.int .i64 c, .int .i64 p, .int .i64 e, .int .i64 s] 25)) W0 := by
    rw [hW0]; exact (Below.refl _ _).alloc (by simp) _
  have z1 : (w.alloc (.cells #[.string st, .int .i64 n1, .int .i64 n2, .int .i64 n3, .int .i64 n4, .int .i64 n5, .int .i64 n6, .int .i64 n7] 23)).heap.size = w.heap.size + 1 := by simp
  have z2 : ((w.alloc (.cells #[.string st, .int .i64 n1, .int .i64 n2, .int .i64 n3, .int .i64 n4, .int .i64 n5, .int .i64 n6, .int .i64 n7] 23)).alloc (.cells #[.int .i64 c, .int .i64 p, .int .i64 e, .int .i64 s] 25)).heap.size = w.heap.size + 1 + 1 := by simp
  have KM : Hid (∀ w', Below W0.heap.size W0 w' → w'.cell? ⟨w.heap.size, 0, none⟩ = some (.string st) ∧ w'.cell? ⟨w.heap.size, 1, none⟩ = some (.int .i64 n1) ∧ w'.cell? ⟨w.heap.size, 2, none⟩ = some (.int .i64 n2) ∧ w'.cell? ⟨w.heap.size, 3, none⟩ = some (.int .i64 n3) ∧ w'.cell? ⟨w.heap.size, 4, none⟩ = some (.int .i64 n4) ∧ w'.cell? ⟨w.heap.size, 5, none⟩ = some (.int .i64 n5) ∧ w'.cell? ⟨w.heap.size, 6, none⟩ = some (.int .i64 n6) ∧ w'.cell? ⟨w.heap.size, 7, none⟩ = some (.int .i64 n7)) := fun w' hw => by
    rw [hw.cell (by show w.heap.size < _; omega), hw.cell (by show w.heap.size < _; omega), hw.cell (by show w.heap.size < _; omega), hw.cell (by show w.heap.size < _; omega), hw.cell (by show w.heap.size < _; omega), hw.cell (by show w.heap.size < _; omega), hw.cell (by show w.heap.size < _; omega), hw.cell (by show w.heap.size < _; omega), a1.cell (by show w.heap.size < _; omega), a1.cell (by show w.heap.size < _; omega), a1.cell (by show w.heap.size < _; omega), a1.cell (by show w.heap.size < _; omega), a1.cell (by show w.heap.size < _; omega), a1.cell (by show w.heap.size < _; omega), a1.cell (by show w.heap.size < _; omega), a1.cell (by show w.heap.size < _; omega)]; exact ⟨by simp, by simp, by simp, by simp, by simp, by simp, by simp, by simp⟩
  have KP : Hid (∀ w', Below W0.heap.size W0 w' → w'.cell? ⟨w.heap.size + 1, 0, none⟩ = some (.int .i64 c) ∧ w'.cell? ⟨w.heap.size + 1, 1, none⟩ = some (.int .i64 p) ∧ w'.cell? ⟨w.heap.size + 1, 2, none⟩ = some (.int .i64 e) ∧ w'.cell? ⟨w.heap.size + 1, 3, none⟩ = some (.int .i64 s)) := fun w' hw => by
    rw [hw.cell (by show w.heap.size + 1 < _; omega), hw.cell (by show w.heap.size + 1 < _; omega), hw.cell (by show w.heap.size + 1 < _; omega), hw.cell (by show w.heap.size + 1 < _; omega), a2.cell (by show w.heap.size + 1 < _; omega), a2.cell (by show w.heap.size + 1 < _; omega), a2.cell (by show w.heap.size + 1 < _; omega), a2.cell (by show w.heap.size + 1 < _; omega), ← z1]; exact ⟨by simp, by simp, by simp, by simp⟩
  have KN : Hid (∀ w', Below W0.heap.size W0 w' → w'.cell? ⟨w.heap.size + 1 + 1, 0, none⟩ = some (.int .i64 c2) ∧ w'.cell? ⟨w.heap.size + 1 + 1, 1, none⟩ = some (.int .i64 p2) ∧ w'.cell? ⟨w.heap.size + 1 + 1, 2, none⟩ = some (.int .i64 e2) ∧ w'.cell? ⟨w.heap.size + 1 + 1, 3, none⟩ = some (.int .i64 s2)) := fun w' hw => by
    rw [hw.cell (by show w.heap.size + 1 + 1 < _; omega), hw.cell (by show w.heap.size + 1 + 1 < _; omega), hw.cell (by show w.heap.size + 1 + 1 < _; omega), hw.cell (by show w.heap.size + 1 + 1 < _; omega), hW0, ← z2]; exact ⟨alloc_cell _ _ _ 0 _ rfl, alloc_cell _ _ _ 1 _ rfl, alloc_cell _ _ _ 2 _ rfl, alloc_cell _ _ _ 3 _ rfl⟩
  have FIN : Hid (∀ w', Below W0.heap.size W0 w' → Below w.heap.size w w') := fun w' hw => b0.trans (hw.mono b0.size)
  have HS : Hid (∀ w', Below W0.heap.size W0 w' → w.heap.size < w'.heap.size ∧ w.heap.size + 1 < w'.heap.size ∧ w.heap.size + 1 + 1 < w'.heap.size) := fun w' hw => by have := hw.size; omega
  have T4 : Hid (∀ w', Below W0.heap.size W0 w' → Tab4 0 w') := fun w' h => hT4.below (FIN.out _ h) hT4.lt
  have FI := hide (fun w' (h : Below W0.heap.size W0 w') => first_any w' (T4.out _ h) (hP.below (FIN.out _ h)))
  have GM := hide (fun w' => goodMeta_any st n1 n2 n3 n4 n5 n6 n7 w' hst)
  have GP := hide (fun w' => goodPointer_any c p e s w')
  have GN := hide (fun w' => goodNote_any c2 p2 e2 s2 w')
  have PM : Hid ((lettersB st && inR n1 1 999999 && inR n2 0 15 && inR n3 1 64 && inR n4 1 16 && inR n5 1 16 && inR n6 1 16 && inR n7 0 9007199254740992) = true → ∃ S : ByteArray, (∀ w', Below W0.heap.size W0 w' → Calls Tryz.prog 10 #[.agg #[.string st, .int .i64 n1, .int .i64 n2, .int .i64 n3, .int .i64 n4, .int .i64 n5, .int .i64 n6, .int .i64 n7]] w' fun x w'' => x = .returned (.tuple #[.string S, .int .i64 0]) ∧ Below w'.heap.size w' w'') ∧ (∀ w', Below W0.heap.size W0 w' → Calls Tryz.prog 11 #[.string S] w' fun x w'' => x = .returned (.tuple #[.agg #[.string st, .int .i64 n1, .int .i64 n2, .int .i64 n3, .int .i64 n4, .int .i64 n5, .int .i64 n6, .int .i64 n7], .int .i64 0]) ∧ Below w'.heap.size w' w'')) := fun h => by
    have hm : metaOk st (mN n1 n2 n3 n4 n5 n6 n7) = true := gm_meta h
    obtain ⟨f0, f1, f2⟩ := meta_fwd hm
    refine ⟨metaS st (mN n1 n2 n3 n4 n5 n6 n7), fun w' hw => ?_, fun w' hw => ?_⟩
    · have := printMeta_any st (mN n1 n2 n3 n4 n5 n6 n7) hst hn w' (hP.below (FIN.out _ hw)) (T4.out _ hw)
      rw [metaE_ok hm] at this
      exact this
    · have := parseMeta_any (metaS st (mN n1 n2 n3 n4 n5 n6 n7)) w' (metaS_len st _ hn) (T4.out _ hw)
      unfold metaCells at this
      rw [f0, f1, f2 1 (by omega) (by omega), f2 2 (by omega) (by omega), f2 3 (by omega) (by omega), f2 4 (by omega) (by omega), f2 5 (by omega) (by omega), f2 6 (by omega) (by omega), f2 7 (by omega) (by omega)] at this
      exact this
  have PP : Hid (ptrOk c p e s = true → ∃ S : ByteArray, (∀ w', Below W0.heap.size W0 w' → Calls Tryz.prog 14 #[.agg #[.int .i64 c, .int .i64 p, .int .i64 e, .int .i64 s]] w' fun x w'' => x = .returned (.tuple #[.string S, .int .i64 0]) ∧ Below w'.heap.size w' w'') ∧ (∀ w', Below W0.heap.size W0 w' → Calls Tryz.prog 15 #[.string S] w' fun x w'' => x = .returned (.tuple #[.agg #[.int .i64 c, .int .i64 p, .int .i64 e, .int .i64 s], .int .i64 0]) ∧ Below w'.heap.size w' w'')) := fun h => by
    obtain ⟨f0, f1, f2, f3, f4⟩ := ptr_fwd h
    refine ⟨ptrS c p e s, fun w' hw => ?_, fun w' hw => ?_⟩
    · have := printPointer_any c p e s hc hp he hs w' (hP.below (FIN.out _ hw)) (T4.out _ hw)
      rw [ptrE_ok h] at this
      exact this
    · have := parsePointer_any (ptrS c p e s) w' (ptrS_len c p e s hc hp he hs) (T4.out _ hw)
      rw [f0, f1, f2, f3, f4] at this
      exact this
  have PN : Hid (noteOk c2 p2 e2 s2 = true → ∃ S : ByteArray, S.size ≤ 100 ∧ (∀ w', Below W0.heap.size W0 w' → Calls Tryz.prog 17 #[.agg #[.int .i64 c2, .int .i64 p2, .int .i64 e2, .int .i64 s2]] w' fun x w'' => x = .returned (.tuple #[.string S, .int .i64 0]) ∧ Below w'.heap.size w' w'') ∧ (∀ w', Below W0.heap.size W0 w' → Calls Tryz.prog 18 #[.string S] w' fun x w'' => ∃ (g cap : Nat), x = .returned (.tuple #[.slice (some ⟨g, 0, none⟩) 1 cap, .int .i64 (S.size : Int)]) ∧ g < w''.heap.size ∧ (w''.cell? ⟨g, 0, none⟩ = some (.int .i64 c2) ∧ w''.cell? ⟨g, 1, none⟩ = some (.int .i64 p2) ∧ w''.cell? ⟨g, 2, none⟩ = some (.int .i64 e2) ∧ w''.cell? ⟨g, 3, none⟩ = some (.int .i64 s2)) ∧ Below w'.heap.size w' w'')) := fun h => by
    refine ⟨noteS c2 p2 e2 s2, noteS_len _ _ _ _ hc2 hp2 he2, fun w' hw => ?_, fun w' hw => parse_note h hc2 hp2 he2 w' (T4.out _ hw)⟩
    have := printNote_any c2 p2 e2 s2 hc2 hp2 he2 w' (hP.below (FIN.out _ hw)) (T4.out _ hw)
    rw [noteE_ok h] at this
    exact this
  generalize (lettersB st && inR n1 1 999999 && inR n2 0 15 && inR n3 1 64 && inR n4 1 16 && inR n5 1 16 && inR n6 1 16 && inR n7 0 9007199254740992) = gm at *
  generalize ptrOk c p e s = gp at *
  generalize noteOk c2 p2 e2 s2 = gn at *
  clear hT4 hP hn hc hp he hs hc2 hp2 he2 b0 hst a1 a2 z1 z2
  have B0 := hide (Below.refl W0.heap.size W0)
  go_enter Tryz.func3, Tryz.ntmps3
  go_wp2_with fail
  rw [← hW0]
  clear hW0 s0
  refine Calls.mono (GM.out W0) ?_
  rintro x w1 ⟨rfl, b1⟩
  have B1 := hide (B0.out.trans (b1.mono B0.out.size))
  clear b1
  cases gm with
  | false =>
    obtain ⟨d0, d1, d2, d3⟩ := KP.out w1 B1.out
    obtain ⟨t1, t2, t3⟩ := HS.out w1 B1.out
    go_wp2_with fail
    clear t1 t2 t3 d0 d1 d2 d3
    refine Calls.mono (GP.out w1) ?_
    rintro x w2 ⟨rfl, b1⟩
    have B2 := hide (B1.out.trans (b1.mono B1.out.size))
    clear b1
    cases gp with
    | false =>
      obtain ⟨d0, d1, d2, d3⟩ := KN.out w2 B2.out
      obtain ⟨t1, t2, t3⟩ := HS.out w2 B2.out
      go_wp2_with fail
      clear t1 t2 t3 d0 d1 d2 d3
      refine Calls.mono (GN.out w2) ?_
      rintro x w3 ⟨rfl, b1⟩
      have B3 := hide (B2.out.trans (b1.mono B2.out.size))
      clear b1
      cases gn with
      | false =>
        go_wp2_with fail
        refine Calls.mono (FI.out w3 B3.out) ?_
        rintro x w4 ⟨rfl, b1⟩
        have B4 := hide (B3.out.trans (b1.mono B3.out.size))
        clear b1
        go_wp2_with fail
        go_ret
        exact ⟨rfl, FIN.out _ B4.out⟩
      | true =>
        obtain ⟨S2, hz, pr2, pa2⟩ := PN.out rfl
        have PR2 := hide pr2
        have PA2 := hide pa2
        clear pr2 pa2
        obtain ⟨d0, d1, d2, d3⟩ := KN.out w3 B3.out
        obtain ⟨t1, t2, t3⟩ := HS.out w3 B3.out
        go_wp2_with fail
        clear t1 t2 t3 d0 d1 d2 d3
        refine Calls.mono (PR2.out w3 B3.out) ?_
        rintro x w5 ⟨rfl, b1⟩
        have B5 := hide (B3.out.trans (b1.mono B3.out.size))
        clear b1
        go_wp2_with fail
        refine Calls.mono (PA2.out w5 B5.out) ?_
        rintro x w6 ⟨g, cap, rfl, hg, ⟨z0, z1, z2, z3⟩, b1⟩
        have B6 := hide (B5.out.trans (b1.mono B5.out.size))
        clear b1 PR2 PA2
        obtain ⟨d0, d1, d2, d3⟩ := KN.out w6 B6.out
        obtain ⟨t1, t2, t3⟩ := HS.out w6 B6.out
        have HZ : Hid (∀ x : World, x = w6.drew → (x.cell? ⟨g, 0, none⟩ = some (.int .i64 c2) ∧ x.cell? ⟨g, 1, none⟩ = some (.int .i64 p2) ∧ x.cell? ⟨g, 2, none⟩ = some (.int .i64 e2) ∧ x.cell? ⟨g, 3, none⟩ = some (.int .i64 s2) ∧ x.cell? ⟨w.heap.size + 1 + 1, 0, none⟩ = some (.int .i64 c2) ∧ x.cell? ⟨w.heap.size + 1 + 1, 1, none⟩ = some (.int .i64 p2) ∧ x.cell? ⟨w.heap.size + 1 + 1, 2, none⟩ = some (.int .i64 e2) ∧ x.cell? ⟨w.heap.size + 1 + 1, 3, none⟩ = some (.int .i64 s2))) := fun x hx => by rw [hx]; exact ⟨z0, z1, z2, z3, d0, d1, d2, d3⟩
        have BD := hide B6.out.drew
        clear z0 z1 z2 z3 hg
        clear t1 t2 t3 d0 d1 d2 d3
        go_wp2_with fail
        refine wp_region_held_drew (S := fun x => x.cell? ⟨g, 0, none⟩ = some (.int .i64 c2) ∧ x.cell? ⟨g, 1, none⟩ = some (.int .i64 p2) ∧ x.cell? ⟨g, 2, none⟩ = some (.int .i64 e2) ∧ x.cell? ⟨g, 3, none⟩ = some (.int .i64 s2) ∧ x.cell? ⟨w.heap.size + 1 + 1, 0, none⟩ = some (.int .i64 c2) ∧ x.cell? ⟨w.heap.size + 1 + 1, 1, none⟩ = some (.int .i64 p2) ∧ x.cell? ⟨w.heap.size + 1 + 1, 2, none⟩ = some (.int .i64 e2) ∧ x.cell? ⟨w.heap.size + 1 + 1, 3, none⟩ = some (.int .i64 s2)) (by kernel_rfl) (HZ.out _ rfl) (fun hHeld => ?_)
        generalize w6.drew = wd at *
        refine wpAnyH_take (i := 0) (v := (.int .i64 0)) rfl (by kernel_rfl) (by kernel_rfl) (by kernel_rfl) (fun _ _ _ h => h) (Or.inl ⟨by rfl, ?_⟩) (by assumption) ?_
        · intro w' hSw
          (try dsimp only at hSw)
          go_simp <;> first | exact i64_in (by omega) (by omega) | exact u32_in (by omega) (by omega) | exact u32_add _ _ | (rw [Int.tmod_eq_emod_of_nonneg (by omega)]; omega) | (rw [Int.tdiv_eq_ediv_of_nonneg (by omega)]; omega) | omega
        (try simp only [Act.put, List.setIfInBounds_toArray, List.set_cons_zero, List.set_cons_succ])
        refine wpAnyH_ready (rs := [1]) (by kernel_rfl) (by simp) ?_
        refine AllReadyH.cons rfl (fun K hK => ?_) AllReadyH.nil
        go_simp
        refine Calls.mono (pnum_any _ _) ?_
        rintro x w' ⟨rfl, rfl⟩
        refine hK.out _ _ (HZ.out _ rfl) (fun hHeld => ?_)
        clear hK
        (try simp only [Act.put, List.setIfInBounds_toArray, List.set_cons_zero, List.set_cons_succ])
        refine wpAnyH_take (i := 2) (v := (.bool false)) rfl (by kernel_rfl) (by kernel_rfl) (by kernel_rfl) (fun _ _ _ h => h) (Or.inl ⟨by rfl, ?_⟩) (by assumption) ?_
        · intro w' hSw
          (try dsimp only at hSw)
          go_simp <;> first | exact i64_in (by omega) (by omega) | exact u32_in (by omega) (by omega) | exact u32_add _ _ | (rw [Int.tmod_eq_emod_of_nonneg (by omega)]; omega) | (rw [Int.tdiv_eq_ediv_of_nonneg (by omega)]; omega) | omega
        (try simp only [Act.put, List.setIfInBounds_toArray, List.set_cons_zero, List.set_cons_succ])
        refine wpAnyH_take (i := 3) (v := (.bool false)) rfl (by kernel_rfl) (by kernel_rfl) (by kernel_rfl) (fun _ _ _ h => h) (Or.inl ⟨by rfl, ?_⟩) (by assumption) ?_
        · intro w' hSw
          (try dsimp only at hSw)
          go_simp <;> first | exact i64_in (by omega) (by omega) | exact u32_in (by omega) (by omega) | exact u32_add _ _ | (rw [Int.tmod_eq_emod_of_nonneg (by omega)]; omega) | (rw [Int.tdiv_eq_ediv_of_nonneg (by omega)]; omega) | omega
        (try simp only [Act.put, List.setIfInBounds_toArray, List.set_cons_zero, List.set_cons_succ])
        refine wpAnyH_take (i := 4) (v := (.int .i64 (S2.size : Int))) rfl (by kernel_rfl) (by kernel_rfl) (by kernel_rfl) (fun _ _ _ h => h) (Or.inl ⟨by kernel_rfl, ?_⟩) (by assumption) ?_
        · intro w' hSw
          (try dsimp only at hSw)
          go_simp
        (try simp only [Act.put, List.setIfInBounds_toArray, List.set_cons_zero, List.set_cons_succ])
        refine wpAnyH_take (i := 5) (v := (.string S2)) rfl (by kernel_rfl) (by kernel_rfl) (by kernel_rfl) (fun _ _ _ h => h) (Or.inl ⟨by kernel_rfl, ?_⟩) (by assumption) ?_
        · intro w' hSw
          (try dsimp only at hSw)
          go_simp
        (try simp only [Act.put, List.setIfInBounds_toArray, List.set_cons_zero, List.set_cons_succ])
        refine wpAnyH_take (i := 6) (v := (.int .i64 (S2.size : Int))) rfl (by kernel_rfl) (by kernel_rfl) (by kernel_rfl) (fun _ _ _ h => h) (Or.inl ⟨by kernel_rfl, ?_⟩) (by assumption) ?_
        · intro w' hSw
          (try dsimp only at hSw)
          go_simp
        (try simp only [Act.put, List.setIfInBounds_toArray, List.set_cons_zero, List.set_cons_succ])
        refine wpAnyH_take (i := 7) (v := (.bool false)) rfl (by kernel_rfl) (by kernel_rfl) (by kernel_rfl) (fun _ _ _ h => h) (Or.inl ⟨by kernel_rfl, ?_⟩) (by assumption) ?_
        · intro w' hSw
          (try dsimp only at hSw)
          go_simp
        (try simp only [Act.put, List.setIfInBounds_toArray, List.set_cons_zero, List.set_cons_succ])
        refine wpAnyH_take (i := 8) (v := (.bool false)) rfl (by kernel_rfl) (by kernel_rfl) (by kernel_rfl) (fun _ _ _ h => h) (Or.inl ⟨by rfl, ?_⟩) (by assumption) ?_
        · intro w' hSw
          (try dsimp only at hSw)
          go_simp <;> first | exact i64_in (by omega) (by omega) | exact u32_in (by omega) (by omega) | exact u32_add _ _ | (rw [Int.tmod_eq_emod_of_nonneg (by omega)]; omega) | (rw [Int.tdiv_eq_ediv_of_nonneg (by omega)]; omega) | omega
        (try simp only [Act.put, List.setIfInBounds_toArray, List.set_cons_zero, List.set_cons_succ])
        refine wpAnyH_take (i := 9) (v := (.bool false)) rfl (by kernel_rfl) (by kernel_rfl) (by kernel_rfl) (fun _ _ _ h => h) (Or.inl ⟨by rfl, ?_⟩) (by assumption) ?_
        · intro w' hSw
          (try dsimp only at hSw)
          go_simp <;> first | exact i64_in (by omega) (by omega) | exact u32_in (by omega) (by omega) | exact u32_add _ _ | (rw [Int.tmod_eq_emod_of_nonneg (by omega)]; omega) | (rw [Int.tdiv_eq_ediv_of_nonneg (by omega)]; omega) | omega
        (try simp only [Act.put, List.setIfInBounds_toArray, List.set_cons_zero, List.set_cons_succ])
        refine wpAnyH_take (i := 10) (v := (.slice (some ⟨g, 0, none⟩) 1 cap)) rfl (by kernel_rfl) (by kernel_rfl) (by kernel_rfl) (fun _ _ _ h => h) (Or.inl ⟨by kernel_rfl, ?_⟩) (by assumption) ?_
        · intro w' hSw
          (try dsimp only at hSw)
          go_simp
        (try simp only [Act.put, List.setIfInBounds_toArray, List.set_cons_zero, List.set_cons_succ])
        refine wpAnyH_take (i := 11) (v := (.int .i64 1)) rfl (by kernel_rfl) (by kernel_rfl) (by kernel_rfl) (fun _ _ _ h => h) (Or.inl ⟨by kernel_rfl, ?_⟩) (by assumption) ?_
        · intro w' hSw
          (try dsimp only at hSw)
          go_simp
        (try simp only [Act.put, List.setIfInBounds_toArray, List.set_cons_zero, List.set_cons_succ])
        refine wpAnyH_take (i := 12) (v := (.bool false)) rfl (by kernel_rfl) (by kernel_rfl) (by kernel_rfl) (fun _ _ _ h => h) (Or.inl ⟨by kernel_rfl, ?_⟩) (by assumption) ?_
        · intro w' hSw
          (try dsimp only at hSw)
          go_simp
        (try simp only [Act.put, List.setIfInBounds_toArray, List.set_cons_zero, List.set_cons_succ])
        refine wpAnyH_take (i := 13) (v := (.bool false)) rfl (by kernel_rfl) (by kernel_rfl) (by kernel_rfl) (fun _ _ _ h => h) (Or.inl ⟨by rfl, ?_⟩) (by assumption) ?_
        · intro w' hSw
          (try dsimp only at hSw)
          go_simp <;> first | exact i64_in (by omega) (by omega) | exact u32_in (by omega) (by omega) | exact u32_add _ _ | (rw [Int.tmod_eq_emod_of_nonneg (by omega)]; omega) | (rw [Int.tdiv_eq_ediv_of_nonneg (by omega)]; omega) | omega
        (try simp only [Act.put, List.setIfInBounds_toArray, List.set_cons_zero, List.set_cons_succ])
        refine wpAnyH_take (i := 14) (v := (.bool false)) rfl (by kernel_rfl) (by kernel_rfl) (by kernel_rfl) (fun _ _ _ h => h) (Or.inl ⟨by rfl, ?_⟩) (by assumption) ?_
        · intro w' hSw
          (try dsimp only at hSw)
          go_simp <;> first | exact i64_in (by omega) (by omega) | exact u32_in (by omega) (by omega) | exact u32_add _ _ | (rw [Int.tmod_eq_emod_of_nonneg (by omega)]; omega) | (rw [Int.tdiv_eq_ediv_of_nonneg (by omega)]; omega) | omega
        (try simp only [Act.put, List.setIfInBounds_toArray, List.set_cons_zero, List.set_cons_succ])
        refine wpAnyH_take (i := 15) (v := (.slice (some ⟨g, 0, none⟩) 1 cap)) rfl (by kernel_rfl) (by kernel_rfl) (by kernel_rfl) (fun _ _ _ h => h) (Or.inl ⟨by kernel_rfl, ?_⟩) (by assumption) ?_
        · intro w' hSw
          (try dsimp only at hSw)
          go_simp
        (try simp only [Act.put, List.setIfInBounds_toArray, List.set_cons_zero, List.set_cons_succ])
        refine wpAnyH_take (i := 16) (v := (.pointer (some ⟨g, 0, none⟩))) rfl (by kernel_rfl) (by kernel_rfl) (by kernel_rfl) (fun _ _ _ h => h) (Or.inl ⟨by kernel_rfl, ?_⟩) (by assumption) ?_
        · intro w' hSw
          (try dsimp only at hSw)
          go_simp
        (try simp only [Act.put, List.setIfInBounds_toArray, List.set_cons_zero, List.set_cons_succ])
        refine wpAnyH_take (i := 17) (v := (.agg #[.int .i64 c2, .int .i64 p2, .int .i64 e2, .int .i64 s2])) rfl (by kernel_rfl) (by kernel_rfl) (by kernel_rfl) (fun _ _ _ h => h) (Or.inl ⟨by kernel_rfl, ?_⟩) (by assumption) ?_
        · intro w' hSw
          (try dsimp only at hSw)
          (obtain ⟨u0, u1, u2, u3, u4, u5, u6, u7⟩ := hSw; go_simp)
        (try simp only [Act.put, List.setIfInBounds_toArray, List.set_cons_zero, List.set_cons_succ])
        refine wpAnyH_take (i := 18) (v := (.agg #[.int .i64 c2, .int .i64 p2, .int .i64 e2, .int .i64 s2])) rfl (by kernel_rfl) (by kernel_rfl) (by kernel_rfl) (fun _ _ _ h => h) (Or.inl ⟨by kernel_rfl, ?_⟩) (by assumption) ?_
        · intro w' hSw
          (try dsimp only at hSw)
          (obtain ⟨u0, u1, u2, u3, u4, u5, u6, u7⟩ := hSw; go_simp)
        (try simp only [Act.put, List.setIfInBounds_toArray, List.set_cons_zero, List.set_cons_succ])
        refine wpAnyH_take (i := 19) (v := (.bool false)) rfl (by kernel_rfl) (by kernel_rfl) (by kernel_rfl) (fun _ _ _ h => h) (Or.inl ⟨by kernel_rfl, ?_⟩) (by assumption) ?_
        · intro w' hSw
          (try dsimp only at hSw)
          go_simp
        (try simp only [Act.put, List.setIfInBounds_toArray, List.set_cons_zero, List.set_cons_succ])
        refine wpAnyH_take (i := 20) (v := (.bool false)) rfl (by kernel_rfl) (by kernel_rfl) (by kernel_rfl) (fun _ _ _ h => h) (Or.inl ⟨by rfl, ?_⟩) (by assumption) ?_
        · intro w' hSw
          (try dsimp only at hSw)
          go_simp <;> first | exact i64_in (by omega) (by omega) | exact u32_in (by omega) (by omega) | exact u32_add _ _ | (rw [Int.tmod_eq_emod_of_nonneg (by omega)]; omega) | (rw [Int.tdiv_eq_ediv_of_nonneg (by omega)]; omega) | omega
        (try simp only [Act.put, List.setIfInBounds_toArray, List.set_cons_zero, List.set_cons_succ])
        refine wpAnyH_done (by kernel_rfl) ?_ _
        clear hHeld
        go_simp
        go_wp2_with fail
        refine Calls.mono (FI.out wd BD.out) ?_
        rintro x w7 ⟨rfl, b1⟩
        have B7 := hide (BD.out.trans (b1.mono BD.out.size))
        clear b1
        go_wp2_with fail
        go_ret
        exact ⟨rfl, FIN.out _ B7.out⟩
    | true =>
      obtain ⟨S1, pr1, pa1⟩ := PP.out rfl
      have PR1 := hide pr1
      have PA1 := hide pa1
      clear pr1 pa1
      obtain ⟨d0, d1, d2, d3⟩ := KP.out w2 B2.out
      obtain ⟨t1, t2, t3⟩ := HS.out w2 B2.out
      go_wp2_with fail
      clear t1 t2 t3 d0 d1 d2 d3
      refine Calls.mono (PR1.out w2 B2.out) ?_
      rintro x w8 ⟨rfl, b1⟩
      have B8 := hide (B2.out.trans (b1.mono B2.out.size))
      clear b1
      go_wp2_with fail
      refine Calls.mono (PA1.out w8 B8.out) ?_
      rintro x w9 ⟨rfl, b1⟩
      have B9 := hide (B8.out.trans (b1.mono B8.out.size))
      clear b1
      obtain ⟨d0, d1, d2, d3⟩ := KP.out w9 B9.out
      obtain ⟨t1, t2, t3⟩ := HS.out w9 B9.out
      obtain ⟨f0, f1, f2, f3⟩ := KN.out w9 B9.out
      clear PR1 PA1
      go_wp2_with (go_at_call 12; refine Calls.mono (pnum_any _ _) ?_; rintro e w' ⟨rfl, rfl⟩)
      obtain ⟨w10, hw5⟩ : ∃ x, x = w9.alloc (.cells #[.int .i64 c, .int .i64 p, .int .i64 e, .int .i64 s] 25) := ⟨_, rfl⟩
      have B10 : Hid (Below W0.heap.size W0 w10) := by rw [hw5]; exact B9.out.alloc B9.out.size _
      rw [← hw5]
      clear hw5 f0 f1 f2 f3
      clear t1 t2 t3 d0 d1 d2 d3
      refine Calls.mono (GN.out w10) ?_
      rintro x w11 ⟨rfl, b1⟩
      have B11 := hide (B10.out.trans (b1.mono B10.out.size))
      clear b1
      cases gn with
      | false =>
        go_wp2_with fail
        refine Calls.mono (FI.out w11 B11.out) ?_
        rintro x w12 ⟨rfl, b1⟩
        have B12 := hide (B11.out.trans (b1.mono B11.out.size))
        clear b1
        go_wp2_with fail
        go_ret
        exact ⟨rfl, FIN.out _ B12.out⟩
      | true =>
        obtain ⟨S2, hz, pr2, pa2⟩ := PN.out rfl
        have PR2 := hide pr2
        have PA2 := hide pa2
        clear pr2 pa2
        obtain ⟨d0, d1, d2, d3⟩ := KN.out w11 B11.out
        obtain ⟨t1, t2, t3⟩ := HS.out w11 B11.out
        go_wp2_with fail
        clear t1 t2 t3 d0 d1 d2 d3
        refine Calls.mono (PR2.out w11 B11.out) ?_
        rintro x w13 ⟨rfl, b1⟩
        have B13 := hide (B11.out.trans (b1.mono B11.out.size))
        clear b1
        go_wp2_with fail
        refine Calls.mono (PA2.out w13 B13.out) ?_
        rintro x w14 ⟨g, cap, rfl, hg, ⟨z0, z1, z2, z3⟩, b1⟩
        have B14 := hide (B13.out.trans (b1.mono B13.out.size))
        clear b1 PR2 PA2
        obtain ⟨d0, d1, d2, d3⟩ := KN.out w14 B14.out
        obtain ⟨t1, t2, t3⟩ := HS.out w14 B14.out
        have HZ : Hid (∀ x : World, x = w14.drew → (x.cell? ⟨g, 0, none⟩ = some (.int .i64 c2) ∧ x.cell? ⟨g, 1, none⟩ = some (.int .i64 p2) ∧ x.cell? ⟨g, 2, none⟩ = some (.int .i64 e2) ∧ x.cell? ⟨g, 3, none⟩ = some (.int .i64 s2) ∧ x.cell? ⟨w.heap.size + 1 + 1, 0, none⟩ = some (.int .i64 c2) ∧ x.cell? ⟨w.heap.size + 1 + 1, 1, none⟩ = some (.int .i64 p2) ∧ x.cell? ⟨w.heap.size + 1 + 1, 2, none⟩ = some (.int .i64 e2) ∧ x.cell? ⟨w.heap.size + 1 + 1, 3, none⟩ = some (.int .i64 s2))) := fun x hx => by rw [hx]; exact ⟨z0, z1, z2, z3, d0, d1, d2, d3⟩
        have BD := hide B14.out.drew
        clear z0 z1 z2 z3 hg
        clear t1 t2 t3 d0 d1 d2 d3
        go_wp2_with fail
        refine wp_region_held_drew (S := fun x => x.cell? ⟨g, 0, none⟩ = some (.int .i64 c2) ∧ x.cell? ⟨g, 1, none⟩ = some (.int .i64 p2) ∧ x.cell? ⟨g, 2, none⟩ = some (.int .i64 e2) ∧ x.cell? ⟨g, 3, none⟩ = some (.int .i64 s2) ∧ x.cell? ⟨w.heap.size + 1 + 1, 0, none⟩ = some (.int .i64 c2) ∧ x.cell? ⟨w.heap.size + 1 + 1, 1, none⟩ = some (.int .i64 p2) ∧ x.cell? ⟨w.heap.size + 1 + 1, 2, none⟩ = some (.int .i64 e2) ∧ x.cell? ⟨w.heap.size + 1 + 1, 3, none⟩ = some (.int .i64 s2)) (by kernel_rfl) (HZ.out _ rfl) (fun hHeld => ?_)
        generalize w14.drew = wd at *
        refine wpAnyH_take (i := 0) (v := (.int .i64 0)) rfl (by kernel_rfl) (by kernel_rfl) (by kernel_rfl) (fun _ _ _ h => h) (Or.inl ⟨by rfl, ?_⟩) (by assumption) ?_
        · intro w' hSw
          (try dsimp only at hSw)
          go_simp <;> first | exact i64_in (by omega) (by omega) | exact u32_in (by omega) (by omega) | exact u32_add _ _ | (rw [Int.tmod_eq_emod_of_nonneg (by omega)]; omega) | (rw [Int.tdiv_eq_ediv_of_nonneg (by omega)]; omega) | omega
        (try simp only [Act.put, List.setIfInBounds_toArray, List.set_cons_zero, List.set_cons_succ])
        refine wpAnyH_ready (rs := [1]) (by kernel_rfl) (by simp) ?_
        refine AllReadyH.cons rfl (fun K hK => ?_) AllReadyH.nil
        go_simp
        refine Calls.mono (pnum_any _ _) ?_
        rintro x w' ⟨rfl, rfl⟩
        refine hK.out _ _ (HZ.out _ rfl) (fun hHeld => ?_)
        clear hK
        (try simp only [Act.put, List.setIfInBounds_toArray, List.set_cons_zero, List.set_cons_succ])
        refine wpAnyH_take (i := 2) (v := (.bool false)) rfl (by kernel_rfl) (by kernel_rfl) (by kernel_rfl) (fun _ _ _ h => h) (Or.inl ⟨by rfl, ?_⟩) (by assumption) ?_
        · intro w' hSw
          (try dsimp only at hSw)
          go_simp <;> first | exact i64_in (by omega) (by omega) | exact u32_in (by omega) (by omega) | exact u32_add _ _ | (rw [Int.tmod_eq_emod_of_nonneg (by omega)]; omega) | (rw [Int.tdiv_eq_ediv_of_nonneg (by omega)]; omega) | omega
        (try simp only [Act.put, List.setIfInBounds_toArray, List.set_cons_zero, List.set_cons_succ])
        refine wpAnyH_take (i := 3) (v := (.bool false)) rfl (by kernel_rfl) (by kernel_rfl) (by kernel_rfl) (fun _ _ _ h => h) (Or.inl ⟨by rfl, ?_⟩) (by assumption) ?_
        · intro w' hSw
          (try dsimp only at hSw)
          go_simp <;> first | exact i64_in (by omega) (by omega) | exact u32_in (by omega) (by omega) | exact u32_add _ _ | (rw [Int.tmod_eq_emod_of_nonneg (by omega)]; omega) | (rw [Int.tdiv_eq_ediv_of_nonneg (by omega)]; omega) | omega
        (try simp only [Act.put, List.setIfInBounds_toArray, List.set_cons_zero, List.set_cons_succ])
        refine wpAnyH_take (i := 4) (v := (.int .i64 (S2.size : Int))) rfl (by kernel_rfl) (by kernel_rfl) (by kernel_rfl) (fun _ _ _ h => h) (Or.inl ⟨by kernel_rfl, ?_⟩) (by assumption) ?_
        · intro w' hSw
          (try dsimp only at hSw)
          go_simp
        (try simp only [Act.put, List.setIfInBounds_toArray, List.set_cons_zero, List.set_cons_succ])
        refine wpAnyH_take (i := 5) (v := (.string S2)) rfl (by kernel_rfl) (by kernel_rfl) (by kernel_rfl) (fun _ _ _ h => h) (Or.inl ⟨by kernel_rfl, ?_⟩) (by assumption) ?_
        · intro w' hSw
          (try dsimp only at hSw)
          go_simp
        (try simp only [Act.put, List.setIfInBounds_toArray, List.set_cons_zero, List.set_cons_succ])
        refine wpAnyH_take (i := 6) (v := (.int .i64 (S2.size : Int))) rfl (by kernel_rfl) (by kernel_rfl) (by kernel_rfl) (fun _ _ _ h => h) (Or.inl ⟨by kernel_rfl, ?_⟩) (by assumption) ?_
        · intro w' hSw
          (try dsimp only at hSw)
          go_simp
        (try simp only [Act.put, List.setIfInBounds_toArray, List.set_cons_zero, List.set_cons_succ])
        refine wpAnyH_take (i := 7) (v := (.bool false)) rfl (by kernel_rfl) (by kernel_rfl) (by kernel_rfl) (fun _ _ _ h => h) (Or.inl ⟨by kernel_rfl, ?_⟩) (by assumption) ?_
        · intro w' hSw
          (try dsimp only at hSw)
          go_simp
        (try simp only [Act.put, List.setIfInBounds_toArray, List.set_cons_zero, List.set_cons_succ])
        refine wpAnyH_take (i := 8) (v := (.bool false)) rfl (by kernel_rfl) (by kernel_rfl) (by kernel_rfl) (fun _ _ _ h => h) (Or.inl ⟨by rfl, ?_⟩) (by assumption) ?_
        · intro w' hSw
          (try dsimp only at hSw)
          go_simp <;> first | exact i64_in (by omega) (by omega) | exact u32_in (by omega) (by omega) | exact u32_add _ _ | (rw [Int.tmod_eq_emod_of_nonneg (by omega)]; omega) | (rw [Int.tdiv_eq_ediv_of_nonneg (by omega)]; omega) | omega
        (try simp only [Act.put, List.setIfInBounds_toArray, List.set_cons_zero, List.set_cons_succ])
        refine wpAnyH_take (i := 9) (v := (.bool false)) rfl (by kernel_rfl) (by kernel_rfl) (by kernel_rfl) (fun _ _ _ h => h) (Or.inl ⟨by rfl, ?_⟩) (by assumption) ?_
        · intro w' hSw
          (try dsimp only at hSw)
          go_simp <;> first | exact i64_in (by omega) (by omega) | exact u32_in (by omega) (by omega) | exact u32_add _ _ | (rw [Int.tmod_eq_emod_of_nonneg (by omega)]; omega) | (rw [Int.tdiv_eq_ediv_of_nonneg (by omega)]; omega) | omega
        (try simp only [Act.put, List.setIfInBounds_toArray, List.set_cons_zero, List.set_cons_succ])
        refine wpAnyH_take (i := 10) (v := (.slice (some ⟨g, 0, none⟩) 1 cap)) rfl (by kernel_rfl) (by kernel_rfl) (by kernel_rfl) (fun _ _ _ h => h) (Or.inl ⟨by kernel_rfl, ?_⟩) (by assumption) ?_
        · intro w' hSw
          (try dsimp only at hSw)
          go_simp
        (try simp only [Act.put, List.setIfInBounds_toArray, List.set_cons_zero, List.set_cons_succ])
        refine wpAnyH_take (i := 11) (v := (.int .i64 1)) rfl (by kernel_rfl) (by kernel_rfl) (by kernel_rfl) (fun _ _ _ h => h) (Or.inl ⟨by kernel_rfl, ?_⟩) (by assumption) ?_
        · intro w' hSw
          (try dsimp only at hSw)
          go_simp
        (try simp only [Act.put, List.setIfInBounds_toArray, List.set_cons_zero, List.set_cons_succ])
        refine wpAnyH_take (i := 12) (v := (.bool false)) rfl (by kernel_rfl) (by kernel_rfl) (by kernel_rfl) (fun _ _ _ h => h) (Or.inl ⟨by kernel_rfl, ?_⟩) (by assumption) ?_
        · intro w' hSw
          (try dsimp only at hSw)
          go_simp
        (try simp only [Act.put, List.setIfInBounds_toArray, List.set_cons_zero, List.set_cons_succ])
        refine wpAnyH_take (i := 13) (v := (.bool false)) rfl (by kernel_rfl) (by kernel_rfl) (by kernel_rfl) (fun _ _ _ h => h) (Or.inl ⟨by rfl, ?_⟩) (by assumption) ?_
        · intro w' hSw
          (try dsimp only at hSw)
          go_simp <;> first | exact i64_in (by omega) (by omega) | exact u32_in (by omega) (by omega) | exact u32_add _ _ | (rw [Int.tmod_eq_emod_of_nonneg (by omega)]; omega) | (rw [Int.tdiv_eq_ediv_of_nonneg (by omega)]; omega) | omega
        (try simp only [Act.put, List.setIfInBounds_toArray, List.set_cons_zero, List.set_cons_succ])
        refine wpAnyH_take (i := 14) (v := (.bool false)) rfl (by kernel_rfl) (by kernel_rfl) (by kernel_rfl) (fun _ _ _ h => h) (Or.inl ⟨by rfl, ?_⟩) (by assumption) ?_
        · intro w' hSw
          (try dsimp only at hSw)
          go_simp <;> first | exact i64_in (by omega) (by omega) | exact u32_in (by omega) (by omega) | exact u32_add _ _ | (rw [Int.tmod_eq_emod_of_nonneg (by omega)]; omega) | (rw [Int.tdiv_eq_ediv_of_nonneg (by omega)]; omega) | omega
        (try simp only [Act.put, List.setIfInBounds_toArray, List.set_cons_zero, List.set_cons_succ])
        refine wpAnyH_take (i := 15) (v := (.slice (some ⟨g, 0, none⟩) 1 cap)) rfl (by kernel_rfl) (by kernel_rfl) (by kernel_rfl) (fun _ _ _ h => h) (Or.inl ⟨by kernel_rfl, ?_⟩) (by assumption) ?_
        · intro w' hSw
          (try dsimp only at hSw)
          go_simp
        (try simp only [Act.put, List.setIfInBounds_toArray, List.set_cons_zero, List.set_cons_succ])
        refine wpAnyH_take (i := 16) (v := (.pointer (some ⟨g, 0, none⟩))) rfl (by kernel_rfl) (by kernel_rfl) (by kernel_rfl) (fun _ _ _ h => h) (Or.inl ⟨by kernel_rfl, ?_⟩) (by assumption) ?_
        · intro w' hSw
          (try dsimp only at hSw)
          go_simp
        (try simp only [Act.put, List.setIfInBounds_toArray, List.set_cons_zero, List.set_cons_succ])
        refine wpAnyH_take (i := 17) (v := (.agg #[.int .i64 c2, .int .i64 p2, .int .i64 e2, .int .i64 s2])) rfl (by kernel_rfl) (by kernel_rfl) (by kernel_rfl) (fun _ _ _ h => h) (Or.inl ⟨by kernel_rfl, ?_⟩) (by assumption) ?_
        · intro w' hSw
          (try dsimp only at hSw)
          (obtain ⟨u0, u1, u2, u3, u4, u5, u6, u7⟩ := hSw; go_simp)
        (try simp only [Act.put, List.setIfInBounds_toArray, List.set_cons_zero, List.set_cons_succ])
        refine wpAnyH_take (i := 18) (v := (.agg #[.int .i64 c2, .int .i64 p2, .int .i64 e2, .int .i64 s2])) rfl (by kernel_rfl) (by kernel_rfl) (by kernel_rfl) (fun _ _ _ h => h) (Or.inl ⟨by kernel_rfl, ?_⟩) (by assumption) ?_
        · intro w' hSw
          (try dsimp only at hSw)
          (obtain ⟨u0, u1, u2, u3, u4, u5, u6, u7⟩ := hSw; go_simp)
        (try simp only [Act.put, List.setIfInBounds_toArray, List.set_cons_zero, List.set_cons_succ])
        refine wpAnyH_take (i := 19) (v := (.bool false)) rfl (by kernel_rfl) (by kernel_rfl) (by kernel_rfl) (fun _ _ _ h => h) (Or.inl ⟨by kernel_rfl, ?_⟩) (by assumption) ?_
        · intro w' hSw
          (try dsimp only at hSw)
          go_simp
        (try simp only [Act.put, List.setIfInBounds_toArray, List.set_cons_zero, List.set_cons_succ])
        refine wpAnyH_take (i := 20) (v := (.bool false)) rfl (by kernel_rfl) (by kernel_rfl) (by kernel_rfl) (fun _ _ _ h => h) (Or.inl ⟨by rfl, ?_⟩) (by assumption) ?_
        · intro w' hSw
          (try dsimp only at hSw)
          go_simp <;> first | exact i64_in (by omega) (by omega) | exact u32_in (by omega) (by omega) | exact u32_add _ _ | (rw [Int.tmod_eq_emod_of_nonneg (by omega)]; omega) | (rw [Int.tdiv_eq_ediv_of_nonneg (by omega)]; omega) | omega
        (try simp only [Act.put, List.setIfInBounds_toArray, List.set_cons_zero, List.set_cons_succ])
        refine wpAnyH_done (by kernel_rfl) ?_ _
        clear hHeld
        go_simp
        go_wp2_with fail
        refine Calls.mono (FI.out wd BD.out) ?_
        rintro x w15 ⟨rfl, b1⟩
        have B15 := hide (BD.out.trans (b1.mono BD.out.size))
        clear b1
        go_wp2_with fail
        go_ret
        exact ⟨rfl, FIN.out _ B15.out⟩
  | true =>
    obtain ⟨S0, pr0, pa0⟩ := PM.out rfl
    have PR0 := hide pr0
    have PA0 := hide pa0
    clear pr0 pa0
    obtain ⟨d0, d1, d2, d3, d4, d5, d6, d7⟩ := KM.out w1 B1.out
    obtain ⟨t1, t2, t3⟩ := HS.out w1 B1.out
    go_wp2_with fail
    clear t1 t2 t3 d0 d1 d2 d3 d4 d5 d6 d7
    refine Calls.mono (PR0.out w1 B1.out) ?_
    rintro x w16 ⟨rfl, b1⟩
    have B16 := hide (B1.out.trans (b1.mono B1.out.size))
    clear b1
    go_wp2_with fail
    refine Calls.mono (PA0.out w16 B16.out) ?_
    rintro x w17 ⟨rfl, b1⟩
    have B17 := hide (B16.out.trans (b1.mono B16.out.size))
    clear b1
    obtain ⟨d0, d1, d2, d3, d4, d5, d6, d7⟩ := KM.out w17 B17.out
    obtain ⟨t1, t2, t3⟩ := HS.out w17 B17.out
    obtain ⟨f0, f1, f2, f3⟩ := KP.out w17 B17.out
    clear PR0 PA0
    go_wp2_with (go_at_call 12; refine Calls.mono (pnum_any _ _) ?_; rintro e w' ⟨rfl, rfl⟩)
    obtain ⟨w18, hw5⟩ : ∃ x, x = w17.alloc (.cells #[.string st, .int .i64 n1, .int .i64 n2, .int .i64 n3, .int .i64 n4, .int .i64 n5, .int .i64 n6, .int .i64 n7] 23) := ⟨_, rfl⟩
    have B18 : Hid (Below W0.heap.size W0 w18) := by rw [hw5]; exact B17.out.alloc B17.out.size _
    rw [← hw5]
    clear hw5 f0 f1 f2 f3
    clear t1 t2 t3 d0 d1 d2 d3 d4 d5 d6 d7
    refine Calls.mono (GP.out w18) ?_
    rintro x w19 ⟨rfl, b1⟩
    have B19 := hide (B18.out.trans (b1.mono B18.out.size))
    clear b1
    cases gp with
    | false =>
      obtain ⟨d0, d1, d2, d3⟩ := KN.out w19 B19.out
      obtain ⟨t1, t2, t3⟩ := HS.out w19 B19.out
      go_wp2_with fail
      clear t1 t2 t3 d0 d1 d2 d3
      refine Calls.mono (GN.out w19) ?_
      rintro x w20 ⟨rfl, b1⟩
      have B20 := hide (B19.out.trans (b1.mono B19.out.size))
      clear b1
      cases gn with
      | false =>
        go_wp2_with fail
        refine Calls.mono (FI.out w20 B20.out) ?_
        rintro x w21 ⟨rfl, b1⟩
        have B21 := hide (B20.out.trans (b1.mono B20.out.size))
        clear b1
        go_wp2_with fail
        go_ret
        exact ⟨rfl, FIN.out _ B21.out⟩
      | true =>
        obtain ⟨S2, hz, pr2, pa2⟩ := PN.out rfl
        have PR2 := hide pr2
        have PA2 := hide pa2
        clear pr2 pa2
        obtain ⟨d0, d1, d2, d3⟩ := KN.out w20 B20.out
        obtain ⟨t1, t2, t3⟩ := HS.out w20 B20.out
        go_wp2_with fail
        clear t1 t2 t3 d0 d1 d2 d3
        refine Calls.mono (PR2.out w20 B20.out) ?_
        rintro x w22 ⟨rfl, b1⟩
        have B22 := hide (B20.out.trans (b1.mono B20.out.size))
        clear b1
        go_wp2_with fail
        refine Calls.mono (PA2.out w22 B22.out) ?_
        rintro x w23 ⟨g, cap, rfl, hg, ⟨z0, z1, z2, z3⟩, b1⟩
        have B23 := hide (B22.out.trans (b1.mono B22.out.size))
        clear b1 PR2 PA2
        obtain ⟨d0, d1, d2, d3⟩ := KN.out w23 B23.out
        obtain ⟨t1, t2, t3⟩ := HS.out w23 B23.out
        have HZ : Hid (∀ x : World, x = w23.drew → (x.cell? ⟨g, 0, none⟩ = some (.int .i64 c2) ∧ x.cell? ⟨g, 1, none⟩ = some (.int .i64 p2) ∧ x.cell? ⟨g, 2, none⟩ = some (.int .i64 e2) ∧ x.cell? ⟨g, 3, none⟩ = some (.int .i64 s2) ∧ x.cell? ⟨w.heap.size + 1 + 1, 0, none⟩ = some (.int .i64 c2) ∧ x.cell? ⟨w.heap.size + 1 + 1, 1, none⟩ = some (.int .i64 p2) ∧ x.cell? ⟨w.heap.size + 1 + 1, 2, none⟩ = some (.int .i64 e2) ∧ x.cell? ⟨w.heap.size + 1 + 1, 3, none⟩ = some (.int .i64 s2))) := fun x hx => by rw [hx]; exact ⟨z0, z1, z2, z3, d0, d1, d2, d3⟩
        have BD := hide B23.out.drew
        clear z0 z1 z2 z3 hg
        clear t1 t2 t3 d0 d1 d2 d3
        go_wp2_with fail
        refine wp_region_held_drew (S := fun x => x.cell? ⟨g, 0, none⟩ = some (.int .i64 c2) ∧ x.cell? ⟨g, 1, none⟩ = some (.int .i64 p2) ∧ x.cell? ⟨g, 2, none⟩ = some (.int .i64 e2) ∧ x.cell? ⟨g, 3, none⟩ = some (.int .i64 s2) ∧ x.cell? ⟨w.heap.size + 1 + 1, 0, none⟩ = some (.int .i64 c2) ∧ x.cell? ⟨w.heap.size + 1 + 1, 1, none⟩ = some (.int .i64 p2) ∧ x.cell? ⟨w.heap.size + 1 + 1, 2, none⟩ = some (.int .i64 e2) ∧ x.cell? ⟨w.heap.size + 1 + 1, 3, none⟩ = some (.int .i64 s2)) (by kernel_rfl) (HZ.out _ rfl) (fun hHeld => ?_)
        generalize w23.drew = wd at *
        refine wpAnyH_take (i := 0) (v := (.int .i64 0)) rfl (by kernel_rfl) (by kernel_rfl) (by kernel_rfl) (fun _ _ _ h => h) (Or.inl ⟨by rfl, ?_⟩) (by assumption) ?_
        · intro w' hSw
          (try dsimp only at hSw)
          go_simp <;> first | exact i64_in (by omega) (by omega) | exact u32_in (by omega) (by omega) | exact u32_add _ _ | (rw [Int.tmod_eq_emod_of_nonneg (by omega)]; omega) | (rw [Int.tdiv_eq_ediv_of_nonneg (by omega)]; omega) | omega
        (try simp only [Act.put, List.setIfInBounds_toArray, List.set_cons_zero, List.set_cons_succ])
        refine wpAnyH_ready (rs := [1]) (by kernel_rfl) (by simp) ?_
        refine AllReadyH.cons rfl (fun K hK => ?_) AllReadyH.nil
        go_simp
        refine Calls.mono (pnum_any _ _) ?_
        rintro x w' ⟨rfl, rfl⟩
        refine hK.out _ _ (HZ.out _ rfl) (fun hHeld => ?_)
        clear hK
        (try simp only [Act.put, List.setIfInBounds_toArray, List.set_cons_zero, List.set_cons_succ])
        refine wpAnyH_take (i := 2) (v := (.bool false)) rfl (by kernel_rfl) (by kernel_rfl) (by kernel_rfl) (fun _ _ _ h => h) (Or.inl ⟨by rfl, ?_⟩) (by assumption) ?_
        · intro w' hSw
          (try dsimp only at hSw)
          go_simp <;> first | exact i64_in (by omega) (by omega) | exact u32_in (by omega) (by omega) | exact u32_add _ _ | (rw [Int.tmod_eq_emod_of_nonneg (by omega)]; omega) | (rw [Int.tdiv_eq_ediv_of_nonneg (by omega)]; omega) | omega
        (try simp only [Act.put, List.setIfInBounds_toArray, List.set_cons_zero, List.set_cons_succ])
        refine wpAnyH_take (i := 3) (v := (.bool false)) rfl (by kernel_rfl) (by kernel_rfl) (by kernel_rfl) (fun _ _ _ h => h) (Or.inl ⟨by rfl, ?_⟩) (by assumption) ?_
        · intro w' hSw
          (try dsimp only at hSw)
          go_simp <;> first | exact i64_in (by omega) (by omega) | exact u32_in (by omega) (by omega) | exact u32_add _ _ | (rw [Int.tmod_eq_emod_of_nonneg (by omega)]; omega) | (rw [Int.tdiv_eq_ediv_of_nonneg (by omega)]; omega) | omega
        (try simp only [Act.put, List.setIfInBounds_toArray, List.set_cons_zero, List.set_cons_succ])
        refine wpAnyH_take (i := 4) (v := (.int .i64 (S2.size : Int))) rfl (by kernel_rfl) (by kernel_rfl) (by kernel_rfl) (fun _ _ _ h => h) (Or.inl ⟨by kernel_rfl, ?_⟩) (by assumption) ?_
        · intro w' hSw
          (try dsimp only at hSw)
          go_simp
        (try simp only [Act.put, List.setIfInBounds_toArray, List.set_cons_zero, List.set_cons_succ])
        refine wpAnyH_take (i := 5) (v := (.string S2)) rfl (by kernel_rfl) (by kernel_rfl) (by kernel_rfl) (fun _ _ _ h => h) (Or.inl ⟨by kernel_rfl, ?_⟩) (by assumption) ?_
        · intro w' hSw
          (try dsimp only at hSw)
          go_simp
        (try simp only [Act.put, List.setIfInBounds_toArray, List.set_cons_zero, List.set_cons_succ])
        refine wpAnyH_take (i := 6) (v := (.int .i64 (S2.size : Int))) rfl (by kernel_rfl) (by kernel_rfl) (by kernel_rfl) (fun _ _ _ h => h) (Or.inl ⟨by kernel_rfl, ?_⟩) (by assumption) ?_
        · intro w' hSw
          (try dsimp only at hSw)
          go_simp
        (try simp only [Act.put, List.setIfInBounds_toArray, List.set_cons_zero, List.set_cons_succ])
        refine wpAnyH_take (i := 7) (v := (.bool false)) rfl (by kernel_rfl) (by kernel_rfl) (by kernel_rfl) (fun _ _ _ h => h) (Or.inl ⟨by kernel_rfl, ?_⟩) (by assumption) ?_
        · intro w' hSw
          (try dsimp only at hSw)
          go_simp
        (try simp only [Act.put, List.setIfInBounds_toArray, List.set_cons_zero, List.set_cons_succ])
        refine wpAnyH_take (i := 8) (v := (.bool false)) rfl (by kernel_rfl) (by kernel_rfl) (by kernel_rfl) (fun _ _ _ h => h) (Or.inl ⟨by rfl, ?_⟩) (by assumption) ?_
        · intro w' hSw
          (try dsimp only at hSw)
          go_simp <;> first | exact i64_in (by omega) (by omega) | exact u32_in (by omega) (by omega) | exact u32_add _ _ | (rw [Int.tmod_eq_emod_of_nonneg (by omega)]; omega) | (rw [Int.tdiv_eq_ediv_of_nonneg (by omega)]; omega) | omega
        (try simp only [Act.put, List.setIfInBounds_toArray, List.set_cons_zero, List.set_cons_succ])
        refine wpAnyH_take (i := 9) (v := (.bool false)) rfl (by kernel_rfl) (by kernel_rfl) (by kernel_rfl) (fun _ _ _ h => h) (Or.inl ⟨by rfl, ?_⟩) (by assumption) ?_
        · intro w' hSw
          (try dsimp only at hSw)
          go_simp <;> first | exact i64_in (by omega) (by omega) | exact u32_in (by omega) (by omega) | exact u32_add _ _ | (rw [Int.tmod_eq_emod_of_nonneg (by omega)]; omega) | (rw [Int.tdiv_eq_ediv_of_nonneg (by omega)]; omega) | omega
        (try simp only [Act.put, List.setIfInBounds_toArray, List.set_cons_zero, List.set_cons_succ])
        refine wpAnyH_take (i := 10) (v := (.slice (some ⟨g, 0, none⟩) 1 cap)) rfl (by kernel_rfl) (by kernel_rfl) (by kernel_rfl) (fun _ _ _ h => h) (Or.inl ⟨by kernel_rfl, ?_⟩) (by assumption) ?_
        · intro w' hSw
          (try dsimp only at hSw)
          go_simp
        (try simp only [Act.put, List.setIfInBounds_toArray, List.set_cons_zero, List.set_cons_succ])
        refine wpAnyH_take (i := 11) (v := (.int .i64 1)) rfl (by kernel_rfl) (by kernel_rfl) (by kernel_rfl) (fun _ _ _ h => h) (Or.inl ⟨by kernel_rfl, ?_⟩) (by assumption) ?_
        · intro w' hSw
          (try dsimp only at hSw)
          go_simp
        (try simp only [Act.put, List.setIfInBounds_toArray, List.set_cons_zero, List.set_cons_succ])
        refine wpAnyH_take (i := 12) (v := (.bool false)) rfl (by kernel_rfl) (by kernel_rfl) (by kernel_rfl) (fun _ _ _ h => h) (Or.inl ⟨by kernel_rfl, ?_⟩) (by assumption) ?_
        · intro w' hSw
          (try dsimp only at hSw)
          go_simp
        (try simp only [Act.put, List.setIfInBounds_toArray, List.set_cons_zero, List.set_cons_succ])
        refine wpAnyH_take (i := 13) (v := (.bool false)) rfl (by kernel_rfl) (by kernel_rfl) (by kernel_rfl) (fun _ _ _ h => h) (Or.inl ⟨by rfl, ?_⟩) (by assumption) ?_
        · intro w' hSw
          (try dsimp only at hSw)
          go_simp <;> first | exact i64_in (by omega) (by omega) | exact u32_in (by omega) (by omega) | exact u32_add _ _ | (rw [Int.tmod_eq_emod_of_nonneg (by omega)]; omega) | (rw [Int.tdiv_eq_ediv_of_nonneg (by omega)]; omega) | omega
        (try simp only [Act.put, List.setIfInBounds_toArray, List.set_cons_zero, List.set_cons_succ])
        refine wpAnyH_take (i := 14) (v := (.bool false)) rfl (by kernel_rfl) (by kernel_rfl) (by kernel_rfl) (fun _ _ _ h => h) (Or.inl ⟨by rfl, ?_⟩) (by assumption) ?_
        · intro w' hSw
          (try dsimp only at hSw)
          go_simp <;> first | exact i64_in (by omega) (by omega) | exact u32_in (by omega) (by omega) | exact u32_add _ _ | (rw [Int.tmod_eq_emod_of_nonneg (by omega)]; omega) | (rw [Int.tdiv_eq_ediv_of_nonneg (by omega)]; omega) | omega
        (try simp only [Act.put, List.setIfInBounds_toArray, List.set_cons_zero, List.set_cons_succ])
        refine wpAnyH_take (i := 15) (v := (.slice (some ⟨g, 0, none⟩) 1 cap)) rfl (by kernel_rfl) (by kernel_rfl) (by kernel_rfl) (fun _ _ _ h => h) (Or.inl ⟨by kernel_rfl, ?_⟩) (by assumption) ?_
        · intro w' hSw
          (try dsimp only at hSw)
          go_simp
        (try simp only [Act.put, List.setIfInBounds_toArray, List.set_cons_zero, List.set_cons_succ])
        refine wpAnyH_take (i := 16) (v := (.pointer (some ⟨g, 0, none⟩))) rfl (by kernel_rfl) (by kernel_rfl) (by kernel_rfl) (fun _ _ _ h => h) (Or.inl ⟨by kernel_rfl, ?_⟩) (by assumption) ?_
        · intro w' hSw
          (try dsimp only at hSw)
          go_simp
        (try simp only [Act.put, List.setIfInBounds_toArray, List.set_cons_zero, List.set_cons_succ])
        refine wpAnyH_take (i := 17) (v := (.agg #[.int .i64 c2, .int .i64 p2, .int .i64 e2, .int .i64 s2])) rfl (by kernel_rfl) (by kernel_rfl) (by kernel_rfl) (fun _ _ _ h => h) (Or.inl ⟨by kernel_rfl, ?_⟩) (by assumption) ?_
        · intro w' hSw
          (try dsimp only at hSw)
          (obtain ⟨u0, u1, u2, u3, u4, u5, u6, u7⟩ := hSw; go_simp)
        (try simp only [Act.put, List.setIfInBounds_toArray, List.set_cons_zero, List.set_cons_succ])
        refine wpAnyH_take (i := 18) (v := (.agg #[.int .i64 c2, .int .i64 p2, .int .i64 e2, .int .i64 s2])) rfl (by kernel_rfl) (by kernel_rfl) (by kernel_rfl) (fun _ _ _ h => h) (Or.inl ⟨by kernel_rfl, ?_⟩) (by assumption) ?_
        · intro w' hSw
          (try dsimp only at hSw)
          (obtain ⟨u0, u1, u2, u3, u4, u5, u6, u7⟩ := hSw; go_simp)
        (try simp only [Act.put, List.setIfInBounds_toArray, List.set_cons_zero, List.set_cons_succ])
        refine wpAnyH_take (i := 19) (v := (.bool false)) rfl (by kernel_rfl) (by kernel_rfl) (by kernel_rfl) (fun _ _ _ h => h) (Or.inl ⟨by kernel_rfl, ?_⟩) (by assumption) ?_
        · intro w' hSw
          (try dsimp only at hSw)
          go_simp
        (try simp only [Act.put, List.setIfInBounds_toArray, List.set_cons_zero, List.set_cons_succ])
        refine wpAnyH_take (i := 20) (v := (.bool false)) rfl (by kernel_rfl) (by kernel_rfl) (by kernel_rfl) (fun _ _ _ h => h) (Or.inl ⟨by rfl, ?_⟩) (by assumption) ?_
        · intro w' hSw
          (try dsimp only at hSw)
          go_simp <;> first | exact i64_in (by omega) (by omega) | exact u32_in (by omega) (by omega) | exact u32_add _ _ | (rw [Int.tmod_eq_emod_of_nonneg (by omega)]; omega) | (rw [Int.tdiv_eq_ediv_of_nonneg (by omega)]; omega) | omega
        (try simp only [Act.put, List.setIfInBounds_toArray, List.set_cons_zero, List.set_cons_succ])
        refine wpAnyH_done (by kernel_rfl) ?_ _
        clear hHeld
        go_simp
        go_wp2_with fail
        refine Calls.mono (FI.out wd BD.out) ?_
        rintro x w24 ⟨rfl, b1⟩
        have B24 := hide (BD.out.trans (b1.mono BD.out.size))
        clear b1
        go_wp2_with fail
        go_ret
        exact ⟨rfl, FIN.out _ B24.out⟩
    | true =>
      obtain ⟨S1, pr1, pa1⟩ := PP.out rfl
      have PR1 := hide pr1
      have PA1 := hide pa1
      clear pr1 pa1
      obtain ⟨d0, d1, d2, d3⟩ := KP.out w19 B19.out
      obtain ⟨t1, t2, t3⟩ := HS.out w19 B19.out
      go_wp2_with fail
      clear t1 t2 t3 d0 d1 d2 d3
      refine Calls.mono (PR1.out w19 B19.out) ?_
      rintro x w25 ⟨rfl, b1⟩
      have B25 := hide (B19.out.trans (b1.mono B19.out.size))
      clear b1
      go_wp2_with fail
      refine Calls.mono (PA1.out w25 B25.out) ?_
      rintro x w26 ⟨rfl, b1⟩
      have B26 := hide (B25.out.trans (b1.mono B25.out.size))
      clear b1
      obtain ⟨d0, d1, d2, d3⟩ := KP.out w26 B26.out
      obtain ⟨t1, t2, t3⟩ := HS.out w26 B26.out
      obtain ⟨f0, f1, f2, f3⟩ := KN.out w26 B26.out
      clear PR1 PA1
      go_wp2_with (go_at_call 12; refine Calls.mono (pnum_any _ _) ?_; rintro e w' ⟨rfl, rfl⟩)
      obtain ⟨w27, hw5⟩ : ∃ x, x = w26.alloc (.cells #[.int .i64 c, .int .i64 p, .int .i64 e, .int .i64 s] 25) := ⟨_, rfl⟩
      have B27 : Hid (Below W0.heap.size W0 w27) := by rw [hw5]; exact B26.out.alloc B26.out.size _
      rw [← hw5]
      clear hw5 f0 f1 f2 f3
      clear t1 t2 t3 d0 d1 d2 d3
      refine Calls.mono (GN.out w27) ?_
      rintro x w28 ⟨rfl, b1⟩
      have B28 := hide (B27.out.trans (b1.mono B27.out.size))
      clear b1
      cases gn with
      | false =>
        go_wp2_with fail
        refine Calls.mono (FI.out w28 B28.out) ?_
        rintro x w29 ⟨rfl, b1⟩
        have B29 := hide (B28.out.trans (b1.mono B28.out.size))
        clear b1
        go_wp2_with fail
        go_ret
        exact ⟨rfl, FIN.out _ B29.out⟩
      | true =>
        obtain ⟨S2, hz, pr2, pa2⟩ := PN.out rfl
        have PR2 := hide pr2
        have PA2 := hide pa2
        clear pr2 pa2
        obtain ⟨d0, d1, d2, d3⟩ := KN.out w28 B28.out
        obtain ⟨t1, t2, t3⟩ := HS.out w28 B28.out
        go_wp2_with fail
        clear t1 t2 t3 d0 d1 d2 d3
        refine Calls.mono (PR2.out w28 B28.out) ?_
        rintro x w30 ⟨rfl, b1⟩
        have B30 := hide (B28.out.trans (b1.mono B28.out.size))
        clear b1
        go_wp2_with fail
        refine Calls.mono (PA2.out w30 B30.out) ?_
        rintro x w31 ⟨g, cap, rfl, hg, ⟨z0, z1, z2, z3⟩, b1⟩
        have B31 := hide (B30.out.trans (b1.mono B30.out.size))
        clear b1 PR2 PA2
        obtain ⟨d0, d1, d2, d3⟩ := KN.out w31 B31.out
        obtain ⟨t1, t2, t3⟩ := HS.out w31 B31.out
        have HZ : Hid (∀ x : World, x = w31.drew → (x.cell? ⟨g, 0, none⟩ = some (.int .i64 c2) ∧ x.cell? ⟨g, 1, none⟩ = some (.int .i64 p2) ∧ x.cell? ⟨g, 2, none⟩ = some (.int .i64 e2) ∧ x.cell? ⟨g, 3, none⟩ = some (.int .i64 s2) ∧ x.cell? ⟨w.heap.size + 1 + 1, 0, none⟩ = some (.int .i64 c2) ∧ x.cell? ⟨w.heap.size + 1 + 1, 1, none⟩ = some (.int .i64 p2) ∧ x.cell? ⟨w.heap.size + 1 + 1, 2, none⟩ = some (.int .i64 e2) ∧ x.cell? ⟨w.heap.size + 1 + 1, 3, none⟩ = some (.int .i64 s2))) := fun x hx => by rw [hx]; exact ⟨z0, z1, z2, z3, d0, d1, d2, d3⟩
        have BD := hide B31.out.drew
        clear z0 z1 z2 z3 hg
        clear t1 t2 t3 d0 d1 d2 d3
        go_wp2_with fail
        refine wp_region_held_drew (S := fun x => x.cell? ⟨g, 0, none⟩ = some (.int .i64 c2) ∧ x.cell? ⟨g, 1, none⟩ = some (.int .i64 p2) ∧ x.cell? ⟨g, 2, none⟩ = some (.int .i64 e2) ∧ x.cell? ⟨g, 3, none⟩ = some (.int .i64 s2) ∧ x.cell? ⟨w.heap.size + 1 + 1, 0, none⟩ = some (.int .i64 c2) ∧ x.cell? ⟨w.heap.size + 1 + 1, 1, none⟩ = some (.int .i64 p2) ∧ x.cell? ⟨w.heap.size + 1 + 1, 2, none⟩ = some (.int .i64 e2) ∧ x.cell? ⟨w.heap.size + 1 + 1, 3, none⟩ = some (.int .i64 s2)) (by kernel_rfl) (HZ.out _ rfl) (fun hHeld => ?_)
        generalize w31.drew = wd at *
        refine wpAnyH_take (i := 0) (v := (.int .i64 0)) rfl (by kernel_rfl) (by kernel_rfl) (by kernel_rfl) (fun _ _ _ h => h) (Or.inl ⟨by rfl, ?_⟩) (by assumption) ?_
        · intro w' hSw
          (try dsimp only at hSw)
          go_simp <;> first | exact i64_in (by omega) (by omega) | exact u32_in (by omega) (by omega) | exact u32_add _ _ | (rw [Int.tmod_eq_emod_of_nonneg (by omega)]; omega) | (rw [Int.tdiv_eq_ediv_of_nonneg (by omega)]; omega) | omega
        (try simp only [Act.put, List.setIfInBounds_toArray, List.set_cons_zero, List.set_cons_succ])
        refine wpAnyH_ready (rs := [1]) (by kernel_rfl) (by simp) ?_
        refine AllReadyH.cons rfl (fun K hK => ?_) AllReadyH.nil
        go_simp
        refine Calls.mono (pnum_any _ _) ?_
        rintro x w' ⟨rfl, rfl⟩
        refine hK.out _ _ (HZ.out _ rfl) (fun hHeld => ?_)
        clear hK
        (try simp only [Act.put, List.setIfInBounds_toArray, List.set_cons_zero, List.set_cons_succ])
        refine wpAnyH_take (i := 2) (v := (.bool false)) rfl (by kernel_rfl) (by kernel_rfl) (by kernel_rfl) (fun _ _ _ h => h) (Or.inl ⟨by rfl, ?_⟩) (by assumption) ?_
        · intro w' hSw
          (try dsimp only at hSw)
          go_simp <;> first | exact i64_in (by omega) (by omega) | exact u32_in (by omega) (by omega) | exact u32_add _ _ | (rw [Int.tmod_eq_emod_of_nonneg (by omega)]; omega) | (rw [Int.tdiv_eq_ediv_of_nonneg (by omega)]; omega) | omega
        (try simp only [Act.put, List.setIfInBounds_toArray, List.set_cons_zero, List.set_cons_succ])
        refine wpAnyH_take (i := 3) (v := (.bool false)) rfl (by kernel_rfl) (by kernel_rfl) (by kernel_rfl) (fun _ _ _ h => h) (Or.inl ⟨by rfl, ?_⟩) (by assumption) ?_
        · intro w' hSw
          (try dsimp only at hSw)
          go_simp <;> first | exact i64_in (by omega) (by omega) | exact u32_in (by omega) (by omega) | exact u32_add _ _ | (rw [Int.tmod_eq_emod_of_nonneg (by omega)]; omega) | (rw [Int.tdiv_eq_ediv_of_nonneg (by omega)]; omega) | omega
        (try simp only [Act.put, List.setIfInBounds_toArray, List.set_cons_zero, List.set_cons_succ])
        refine wpAnyH_take (i := 4) (v := (.int .i64 (S2.size : Int))) rfl (by kernel_rfl) (by kernel_rfl) (by kernel_rfl) (fun _ _ _ h => h) (Or.inl ⟨by kernel_rfl, ?_⟩) (by assumption) ?_
        · intro w' hSw
          (try dsimp only at hSw)
          go_simp
        (try simp only [Act.put, List.setIfInBounds_toArray, List.set_cons_zero, List.set_cons_succ])
        refine wpAnyH_take (i := 5) (v := (.string S2)) rfl (by kernel_rfl) (by kernel_rfl) (by kernel_rfl) (fun _ _ _ h => h) (Or.inl ⟨by kernel_rfl, ?_⟩) (by assumption) ?_
        · intro w' hSw
          (try dsimp only at hSw)
          go_simp
        (try simp only [Act.put, List.setIfInBounds_toArray, List.set_cons_zero, List.set_cons_succ])
        refine wpAnyH_take (i := 6) (v := (.int .i64 (S2.size : Int))) rfl (by kernel_rfl) (by kernel_rfl) (by kernel_rfl) (fun _ _ _ h => h) (Or.inl ⟨by kernel_rfl, ?_⟩) (by assumption) ?_
        · intro w' hSw
          (try dsimp only at hSw)
          go_simp
        (try simp only [Act.put, List.setIfInBounds_toArray, List.set_cons_zero, List.set_cons_succ])
        refine wpAnyH_take (i := 7) (v := (.bool false)) rfl (by kernel_rfl) (by kernel_rfl) (by kernel_rfl) (fun _ _ _ h => h) (Or.inl ⟨by kernel_rfl, ?_⟩) (by assumption) ?_
        · intro w' hSw
          (try dsimp only at hSw)
          go_simp
        (try simp only [Act.put, List.setIfInBounds_toArray, List.set_cons_zero, List.set_cons_succ])
        refine wpAnyH_take (i := 8) (v := (.bool false)) rfl (by kernel_rfl) (by kernel_rfl) (by kernel_rfl) (fun _ _ _ h => h) (Or.inl ⟨by rfl, ?_⟩) (by assumption) ?_
        · intro w' hSw
          (try dsimp only at hSw)
          go_simp <;> first | exact i64_in (by omega) (by omega) | exact u32_in (by omega) (by omega) | exact u32_add _ _ | (rw [Int.tmod_eq_emod_of_nonneg (by omega)]; omega) | (rw [Int.tdiv_eq_ediv_of_nonneg (by omega)]; omega) | omega
        (try simp only [Act.put, List.setIfInBounds_toArray, List.set_cons_zero, List.set_cons_succ])
        refine wpAnyH_take (i := 9) (v := (.bool false)) rfl (by kernel_rfl) (by kernel_rfl) (by kernel_rfl) (fun _ _ _ h => h) (Or.inl ⟨by rfl, ?_⟩) (by assumption) ?_
        · intro w' hSw
          (try dsimp only at hSw)
          go_simp <;> first | exact i64_in (by omega) (by omega) | exact u32_in (by omega) (by omega) | exact u32_add _ _ | (rw [Int.tmod_eq_emod_of_nonneg (by omega)]; omega) | (rw [Int.tdiv_eq_ediv_of_nonneg (by omega)]; omega) | omega
        (try simp only [Act.put, List.setIfInBounds_toArray, List.set_cons_zero, List.set_cons_succ])
        refine wpAnyH_take (i := 10) (v := (.slice (some ⟨g, 0, none⟩) 1 cap)) rfl (by kernel_rfl) (by kernel_rfl) (by kernel_rfl) (fun _ _ _ h => h) (Or.inl ⟨by kernel_rfl, ?_⟩) (by assumption) ?_
        · intro w' hSw
          (try dsimp only at hSw)
          go_simp
        (try simp only [Act.put, List.setIfInBounds_toArray, List.set_cons_zero, List.set_cons_succ])
        refine wpAnyH_take (i := 11) (v := (.int .i64 1)) rfl (by kernel_rfl) (by kernel_rfl) (by kernel_rfl) (fun _ _ _ h => h) (Or.inl ⟨by kernel_rfl, ?_⟩) (by assumption) ?_
        · intro w' hSw
          (try dsimp only at hSw)
          go_simp
        (try simp only [Act.put, List.setIfInBounds_toArray, List.set_cons_zero, List.set_cons_succ])
        refine wpAnyH_take (i := 12) (v := (.bool false)) rfl (by kernel_rfl) (by kernel_rfl) (by kernel_rfl) (fun _ _ _ h => h) (Or.inl ⟨by kernel_rfl, ?_⟩) (by assumption) ?_
        · intro w' hSw
          (try dsimp only at hSw)
          go_simp
        (try simp only [Act.put, List.setIfInBounds_toArray, List.set_cons_zero, List.set_cons_succ])
        refine wpAnyH_take (i := 13) (v := (.bool false)) rfl (by kernel_rfl) (by kernel_rfl) (by kernel_rfl) (fun _ _ _ h => h) (Or.inl ⟨by rfl, ?_⟩) (by assumption) ?_
        · intro w' hSw
          (try dsimp only at hSw)
          go_simp <;> first | exact i64_in (by omega) (by omega) | exact u32_in (by omega) (by omega) | exact u32_add _ _ | (rw [Int.tmod_eq_emod_of_nonneg (by omega)]; omega) | (rw [Int.tdiv_eq_ediv_of_nonneg (by omega)]; omega) | omega
        (try simp only [Act.put, List.setIfInBounds_toArray, List.set_cons_zero, List.set_cons_succ])
        refine wpAnyH_take (i := 14) (v := (.bool false)) rfl (by kernel_rfl) (by kernel_rfl) (by kernel_rfl) (fun _ _ _ h => h) (Or.inl ⟨by rfl, ?_⟩) (by assumption) ?_
        · intro w' hSw
          (try dsimp only at hSw)
          go_simp <;> first | exact i64_in (by omega) (by omega) | exact u32_in (by omega) (by omega) | exact u32_add _ _ | (rw [Int.tmod_eq_emod_of_nonneg (by omega)]; omega) | (rw [Int.tdiv_eq_ediv_of_nonneg (by omega)]; omega) | omega
        (try simp only [Act.put, List.setIfInBounds_toArray, List.set_cons_zero, List.set_cons_succ])
        refine wpAnyH_take (i := 15) (v := (.slice (some ⟨g, 0, none⟩) 1 cap)) rfl (by kernel_rfl) (by kernel_rfl) (by kernel_rfl) (fun _ _ _ h => h) (Or.inl ⟨by kernel_rfl, ?_⟩) (by assumption) ?_
        · intro w' hSw
          (try dsimp only at hSw)
          go_simp
        (try simp only [Act.put, List.setIfInBounds_toArray, List.set_cons_zero, List.set_cons_succ])
        refine wpAnyH_take (i := 16) (v := (.pointer (some ⟨g, 0, none⟩))) rfl (by kernel_rfl) (by kernel_rfl) (by kernel_rfl) (fun _ _ _ h => h) (Or.inl ⟨by kernel_rfl, ?_⟩) (by assumption) ?_
        · intro w' hSw
          (try dsimp only at hSw)
          go_simp
        (try simp only [Act.put, List.setIfInBounds_toArray, List.set_cons_zero, List.set_cons_succ])
        refine wpAnyH_take (i := 17) (v := (.agg #[.int .i64 c2, .int .i64 p2, .int .i64 e2, .int .i64 s2])) rfl (by kernel_rfl) (by kernel_rfl) (by kernel_rfl) (fun _ _ _ h => h) (Or.inl ⟨by kernel_rfl, ?_⟩) (by assumption) ?_
        · intro w' hSw
          (try dsimp only at hSw)
          (obtain ⟨u0, u1, u2, u3, u4, u5, u6, u7⟩ := hSw; go_simp)
        (try simp only [Act.put, List.setIfInBounds_toArray, List.set_cons_zero, List.set_cons_succ])
        refine wpAnyH_take (i := 18) (v := (.agg #[.int .i64 c2, .int .i64 p2, .int .i64 e2, .int .i64 s2])) rfl (by kernel_rfl) (by kernel_rfl) (by kernel_rfl) (fun _ _ _ h => h) (Or.inl ⟨by kernel_rfl, ?_⟩) (by assumption) ?_
        · intro w' hSw
          (try dsimp only at hSw)
          (obtain ⟨u0, u1, u2, u3, u4, u5, u6, u7⟩ := hSw; go_simp)
        (try simp only [Act.put, List.setIfInBounds_toArray, List.set_cons_zero, List.set_cons_succ])
        refine wpAnyH_take (i := 19) (v := (.bool false)) rfl (by kernel_rfl) (by kernel_rfl) (by kernel_rfl) (fun _ _ _ h => h) (Or.inl ⟨by kernel_rfl, ?_⟩) (by assumption) ?_
        · intro w' hSw
          (try dsimp only at hSw)
          go_simp
        (try simp only [Act.put, List.setIfInBounds_toArray, List.set_cons_zero, List.set_cons_succ])
        refine wpAnyH_take (i := 20) (v := (.bool false)) rfl (by kernel_rfl) (by kernel_rfl) (by kernel_rfl) (fun _ _ _ h => h) (Or.inl ⟨by rfl, ?_⟩) (by assumption) ?_
        · intro w' hSw
          (try dsimp only at hSw)
          go_simp <;> first | exact i64_in (by omega) (by omega) | exact u32_in (by omega) (by omega) | exact u32_add _ _ | (rw [Int.tmod_eq_emod_of_nonneg (by omega)]; omega) | (rw [Int.tdiv_eq_ediv_of_nonneg (by omega)]; omega) | omega
        (try simp only [Act.put, List.setIfInBounds_toArray, List.set_cons_zero, List.set_cons_succ])
        refine wpAnyH_done (by kernel_rfl) ?_ _
        clear hHeld
        go_simp
        go_wp2_with fail
        refine Calls.mono (FI.out wd BD.out) ?_
        rintro x w32 ⟨rfl, b1⟩
        have B32 := hide (BD.out.trans (b1.mono BD.out.size))
        clear b1
        go_wp2_with fail
        go_ret
        exact ⟨rfl, FIN.out _ B32.out⟩
end Go.Proofs.YtfpalfpfijcpbaaGreatDoor
