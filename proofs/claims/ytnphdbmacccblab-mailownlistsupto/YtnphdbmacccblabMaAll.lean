import Derived.Test.YtnphdbmacccblabMaSend
import Derived.Laws.CopyRow
namespace Go.Proofs.Ytnphdbmacccblab
open Go.RowKit
theorem run_copy_rowK {P : Program} (w : World) (dT sT ty elem : TypeId) (k g o dLen dCap : Nat) (a : Addr) (sLen sCap : Nat) (cur : Array Value) (t : TypeId) (cs : List Value)
    (hu : P.underlying dT = some (.slice elem)) (hs : (P.info? elem).map (·.size) = some k)
    (hg : w.heap[g]? = some (.cells cur t (0, 0))) (hn : cs.length = Nat.min sLen dLen * k)
    (hsrc : ∀ j v, cs[j]? = some v → w.cell? (a.add j) = some v) (hfit : o + cs.length ≤ cur.size) (h1 : ∀ v ∈ cs, v.oneCell' = true) :
    (Builtin.copy_ #[dT, sT] ty #[.slice (some ⟨g, o, none⟩) dLen dCap, .slice (some a) sLen sCap]).run P w =
      .ok (goInt (Nat.min sLen dLen)) (w.setRow g (cur.toList.take o ++ cs ++ cur.toList.drop (o + cs.length)).toArray) := by
  have hl := run_loadCells_list (P := P) w a cs hsrc
  have hst := run_storeCells_at P g o t cs 0 cur w hg (by simpa using hfit) h1
  cases hq : P.info? elem with
  | none => simp [hq] at hs
  | some i =>
    have hi : i.size = k := by simpa [hq] using hs
    simp [Builtin.copy_, run_underlying hu, Builtin.lenOf, Builtin.firstCells, sizeOf, typeInfo, hq, hi, ← hn, hl, hst]
/-- a list of letters of one's own, with no room to spare -/
def LsAt (w : World) (G : Nat) (L : List Lt) : Prop := w.heap[G]? = some (.cells (ltc L).toArray 53)
theorem MlX.cells {w : World} {S : Nat → Prop} {R M : Nat} {ad : Addr} {cap : Nat} {lim : Int} {s : Nat} {L : List Lt} {n : Nat} {C : Int → Int → Bool} (h : MlX w S R M (.slice (some ad) L.length cap) lim s L n C) : ∀ j u, (ltc L)[j]? = some u → w.cell? (ad.add j) = some u := by
  intro j u hj
  rcases h.row.2 with ⟨e, _⟩ | ⟨g, cap', cur, e, _⟩
  · simp at e
  · simp only [Value.slice.injEq, Option.some.injEq] at e
    obtain ⟨rfl, _, rfl⟩ := e
    rw [Addr.add_mid, Nat.zero_add]
    have hlt : j < L.length * 4 := by
      have := (List.getElem?_eq_some_iff.1 hj).1
      rwa [ltc_len] at this
    exact (h.row.cellAt j (by omega)).trans hj
set_option maxHeartbeats 4000000 in
set_option maxRecDepth 100000 in
set_option linter.unusedSimpArgs false in
set_option linter.unusedVariables false in
theorem all_any {w : World} {S : Nat → Prop} {R M : Nat} {v : Value} {lim : Int} {s : Nat} {L : List Lt} {n : Nat} {C : Int → Int → Bool} (h : MlX w S R M v lim s L n C) (hL : L.length ≤ 1048576) :
    Calls Try.prog 16 #[.pointer (some ⟨R, 2, none⟩)] w fun e w' => e = .returned (.slice (some ⟨w.heap.size, 0, none⟩) L.length L.length) ∧ LsAt w' w.heap.size L ∧ Below w.heap.size w w' := by
  obtain ⟨i0, hi0, hz0, hz1, hz2⟩ := info_parts4 infoLt
  obtain ⟨Z, hZ⟩ : ∃ Z, Z = madeCells (Value.agg #[.int .i64 0, .int .i64 0, .int .i64 0, .string ⟨#[]⟩]).cells (((L.length : Nat) : Int).toNat * i0.size) := ⟨_, rfl⟩
  have hZs : Z.size = L.length * 4 := by rw [hZ, size_madeCells, hz1]; simp
  have hmk : (Instr.makeSlice 36 (.int .i64 (L.length : Int)) (.int .i64 (L.length : Int))).run Try.prog w = .ok (.slice (some ⟨w.heap.size, 0, none⟩) L.length L.length) (w.alloc (.cells Z 53)) := by
    have h := run_make (P := Try.prog) w 36 53 i0 _ Try.underlying36 hi0 hz0 .i64 .i64 (L.length : Int) (L.length : Int) (by omega) (by omega) (by rw [hz2]; omega) (by omega)
    rw [← hZ] at h
    simpa using h
  clear hZ
  have HX := hide (h.alloc (.cells Z 53))
  have hB := heap_last w (.cells Z 53)
  have B0 : Below w.heap.size w (w.alloc (.cells Z 53)) := (Below.refl _ w).alloc (Nat.le_refl _) _
  obtain ⟨ba, cap, rfl⟩ := own_sl h.row
  have c2 := h.c2
  have d2 := HX.out.c2
  have hcp : ∀ ty, ∃ w', (Builtin.copy_ #[36, 36] ty #[.slice (some ⟨w.heap.size, 0, none⟩) L.length L.length, .slice ba L.length cap]).run Try.prog (w.alloc (.cells Z 53)) = .ok (goInt L.length) w' ∧ LsAt w' w.heap.size L ∧ Below w.heap.size w w' := by
    intro ty
    cases ba with
    | none =>
      have h0 : L = [] := by
        rcases h.row.2 with ⟨e, e2⟩ | ⟨g, cap', cur, e, _⟩
        · exact List.length_eq_zero_iff.1 e2
        · simp at e
      subst h0
      have hc0 : cap = 0 := by
        rcases h.row.2 with ⟨e, e2⟩ | ⟨g, cap', cur, e, _⟩
        · simp at e; exact e
        · simp at e
      subst hc0
      refine ⟨_, run_copy_nil (P := Try.prog) _ _ _ ty _ _ _ _ Try.underlying36 (by rw [hi0]; rfl), ?_, B0⟩
      unfold LsAt
      rw [hB]
      have : Z = #[] := Array.eq_empty_of_size_eq_zero (by simpa using hZs)
      rw [this]
      rfl
    | some ad =>
      have hrun := run_copy_rowK (P := Try.prog) (w.alloc (.cells Z 53)) 36 36 ty 53 4 w.heap.size 0 L.length L.length ad L.length cap Z 53 (ltc L) Try.underlying36 info_lt hB (by rw [ltc_len]; simp) HX.out.cells (by rw [ltc_len, hZs]; omega) (ltc_one L)
      rw [show Nat.min L.length L.length = L.length from Nat.min_self _] at hrun
      refine ⟨_, hrun, ?_, ?_⟩
      · unfold LsAt
        rw [setRow_heap _ _ Z _ 53 (0, 0) hB, List.take_zero, List.nil_append, List.drop_of_length_le (by rw [Array.length_toList, ltc_len, hZs]; omega), List.append_nil]
      · exact B0.trans ⟨rfl, rfl, rfl, by simp [World.setRow], fun k hk => setRow_other _ _ k _ (by omega)⟩
  clear h hB B0 HX
  go_enter Try.func16, Try.ntmps16
  obtain ⟨w2, hr, hl, hb⟩ := hcp 3
  clear hcp hZs
  go_wp2_with fail
  go_ret
  exact ⟨rfl, hl, hb⟩
set_option maxHeartbeats 4000000 in
set_option maxRecDepth 100000 in
set_option linter.unusedSimpArgs false in
set_option linter.unusedVariables false in
theorem flying_nil (w : World) : Calls Try.prog 7 #[.pointer none] w fun e w' => e = .returned (.slice none 0 0) ∧ w = w' := by
  have NO := hide (none_nil w)
  go_enter Try.func7, Try.ntmps7
  go_wp2_with (first | (go_at_call 15; refine Calls.mono NO.out ?_; rintro e w1 ⟨rfl, rfl⟩))
  go_ret
  exact ⟨rfl, rfl⟩
set_option maxHeartbeats 4000000 in
set_option maxRecDepth 100000 in
set_option linter.unusedSimpArgs false in
set_option linter.unusedVariables false in
theorem flying_any {w : World} {S : Nat → Prop} {R M : Nat} {v : Value} {lim : Int} {s : Nat} {L : List Lt} {n : Nat} {C : Int → Int → Bool} (h : MlX w S R M v lim s L n C) (hl : 1 ≤ lim) (hL : L.length ≤ 1048576) :
    Calls Try.prog 7 #[.pointer (some ⟨R, 0, none⟩)] w fun e w' => e = .returned (.slice (some ⟨w.heap.size, 0, none⟩) L.length L.length) ∧ LsAt w' w.heap.size L ∧ Below w.heap.size w w' := by
  have NO := hide (none_any h hl)
  have AL := hide (all_any h hL)
  clear h
  go_enter Try.func7, Try.ntmps7
  go_wp2_with (first | (go_at_call 15; refine Calls.mono NO.out ?_; rintro e w1 ⟨rfl, rfl⟩) | (go_at_call 16; refine Calls.mono AL.out ?_; rintro e w2 ⟨rfl, hA, hB⟩))
  go_ret
  exact ⟨rfl, hA, hB⟩
set_option maxHeartbeats 4000000 in
set_option maxRecDepth 100000 in
set_option linter.unusedSimpArgs false in
set_option linter.unusedVariables false in
theorem mcount_nil (w : World) : Calls Try.prog 30 #[.pointer none] w fun e w' => e = .returned (.int .i64 0) ∧ w = w' := by
  have NO := hide (none_nil w)
  go_enter Try.func30, Try.ntmps30
  go_wp2_with (first | (go_at_call 15; refine Calls.mono NO.out ?_; rintro e w1 ⟨rfl, rfl⟩))
  go_ret
  exact ⟨rfl, rfl⟩
set_option maxHeartbeats 4000000 in
set_option maxRecDepth 100000 in
set_option linter.unusedSimpArgs false in
set_option linter.unusedVariables false in
theorem mcount_any {w : World} {S : Nat → Prop} {R M : Nat} {v : Value} {lim : Int} {s : Nat} {L : List Lt} {n : Nat} {C : Int → Int → Bool} (h : MlX w S R M v lim s L n C) (hl : 1 ≤ lim) :
    Calls Try.prog 30 #[.pointer (some ⟨R, 0, none⟩)] w fun e w' => e = .returned (.int .i64 (L.length : Int)) ∧ w = w' := by
  have NO := hide (none_any h hl)
  have AL := hide (count_any h)
  clear h
  go_enter Try.func30, Try.ntmps30
  go_wp2_with (first | (go_at_call 15; refine Calls.mono NO.out ?_; rintro e w1 ⟨rfl, rfl⟩) | (go_at_call 50; refine Calls.mono AL.out ?_; rintro e w2 ⟨rfl, rfl⟩))
  go_ret
  exact ⟨rfl, rfl⟩
set_option maxHeartbeats 4000000 in
set_option maxRecDepth 100000 in
set_option linter.unusedSimpArgs false in
set_option linter.unusedVariables false in
theorem msent_nil (w : World) : Calls Try.prog 32 #[.pointer none] w fun e w' => e = .returned (.int .i64 0) ∧ w = w' := by
  have NO := hide (none_nil w)
  go_enter Try.func32, Try.ntmps32
  go_wp2_with (first | (go_at_call 15; refine Calls.mono NO.out ?_; rintro e w1 ⟨rfl, rfl⟩))
  go_ret
  exact ⟨rfl, rfl⟩
set_option maxHeartbeats 4000000 in
set_option maxRecDepth 100000 in
set_option linter.unusedSimpArgs false in
set_option linter.unusedVariables false in
theorem msent_any {w : World} {S : Nat → Prop} {R M : Nat} {v : Value} {lim : Int} {s : Nat} {L : List Lt} {n : Nat} {C : Int → Int → Bool} (h : MlX w S R M v lim s L n C) (hl : 1 ≤ lim) :
    Calls Try.prog 32 #[.pointer (some ⟨R, 0, none⟩)] w fun e w' => e = .returned (.int .i64 (s : Int)) ∧ w = w' := by
  have NO := hide (none_any h hl)
  have c1 := h.c1
  clear h
  go_enter Try.func32, Try.ntmps32
  go_wp2_with (first | (go_at_call 15; refine Calls.mono NO.out ?_; rintro e w1 ⟨rfl, rfl⟩))
  go_ret
  exact ⟨rfl, rfl⟩
def limOk (lim : Int) : Prop := 1 ≤ lim ∧ lim ≤ 1024
set_option maxHeartbeats 4000000 in
set_option maxRecDepth 100000 in
set_option linter.unusedSimpArgs false in
set_option linter.unusedVariables false in
theorem new_bad (lim : Int) (w : World) (hl : ¬ limOk lim) : Calls Try.prog 34 #[.int .i64 lim] w fun e w' => e = .returned (.tuple #[.pointer none, .int .i64 1]) ∧ w = w' := by
  unfold limOk at hl
  by_cases h1 : lim < 1
  · clear hl
    go_enter Try.func34, Try.ntmps34
    go_wp2_with fail
    go_ret2
    exact ⟨rfl, rfl⟩
  · have h2 : 1024 < lim := by omega
    clear hl
    go_enter Try.func34, Try.ntmps34
    go_wp2_with fail
    go_ret2
    exact ⟨rfl, rfl⟩
set_option maxHeartbeats 4000000 in
set_option maxRecDepth 100000 in
set_option linter.unusedSimpArgs false in
set_option linter.unusedVariables false in
theorem new_any (lim : Int) (w : World) (hl : limOk lim) : Calls Try.prog 34 #[.int .i64 lim] w fun e w' => e = .returned (.tuple #[.pointer (some ⟨w.heap.size + 1, 0, none⟩), .int .i64 0]) ∧ ∃ S M v, MlX w' S (w.heap.size + 1) M v lim 0 [] 0 (fun _ _ => false) ∧ Below w.heap.size w w' ∧ (∀ k, S k → w.heap.size ≤ k) := by
  obtain ⟨h1, h2⟩ := hl
  have n1 : ¬ lim < 1 := by omega
  have n2 : ¬ 1024 < lim := by omega
  have hmm := @run_makeMap Try.prog
  go_enter Try.func34, Try.ntmps34
  go_wp2_with fail
  go_ret2
  have b1 : Below w.heap.size w (w.alloc (.map #[] 0)) := (Below.refl _ w).alloc (Nat.le_refl _) _
  have b2 := (Below.refl (w.alloc (.map #[] 0)).heap.size (w.alloc (.map #[] 0))).alloc (Nat.le_refl _) (.cells #[.int .i64 lim, .int .i64 0, .slice none 0 0, .map (some w.heap.size)] 51)
  have hl := heap_last (w.alloc (.map #[] 0)) (.cells #[.int .i64 lim, .int .i64 0, .slice none 0 0, .map (some w.heap.size)] 51)
  simp only [World.size_alloc] at hl
  refine ⟨rfl, fun k => k = w.heap.size ∨ k = w.heap.size + 1, ⟨w.heap.size, .slice none 0 0, hl, ⟨rfl, .inl ⟨rfl, rfl⟩⟩, (LkAt.made w).same (b2.block _ (LkAt.made w).lt), Or.inr rfl, Or.inl rfl, fun k e => by simp [Value.ownBlock] at e, ?_⟩, b1.trans (b2.mono b1.size), ?_⟩
  · rintro k (e | e) <;> subst e <;> simp only [World.size_alloc] <;> omega
  · rintro k (e | e) <;> subst e <;> omega
end Go.Proofs.Ytnphdbmacccblab
