import Derived.Test.YtpleakkhbfhdkaaGCaMes2
import Derived.Shelf.Abstract
namespace Go.Proofs.Ytpleakkhbfhdkaa.Cn
open Go.RowKit
set_option maxHeartbeats 8000000 in
set_option maxRecDepth 100000 in
set_option linter.unusedSimpArgs false in
set_option linter.unusedVariables false in
theorem note_any {w : World} {P A : Nat} {ty : TypeId} {u : Ru} {r : Rd} (h : RdAt w P A ty u r) (m : Mg) (i : Nat) (hi : m.fr = (i : Int)) (hin : i < u.n) (h16 : u.n ≤ 16) :
    Calls Try.prog 94 #[.pointer (some ⟨P, 0, none⟩), .agg (mgV m)] w fun e w' => e = .returned (.tuple #[]) ∧ RdAt w' P A ty u { r with al := r.al.set i (true, m.ver) } ∧ Kp w w' (fun k => k = A) := by
  obtain ⟨B, hB⟩ : ∃ B, B = w.heap.size := ⟨_, rfl⟩
  obtain ⟨W0, hW0⟩ : ∃ W0, W0 = w.alloc (.cells (mgV m) 44) := ⟨_, rfl⟩
  have b0 : Hid (Below w.heap.size w W0) := by rw [hW0]; exact (Below.refl _ w).alloc (Nat.le_refl _) _
  have m0 : Hid (MgAt W0 B m) := by rw [hW0, hB]; exact MgAt.new w m
  have HB := hide hB
  have r0 : Hid (RdAt W0 P A ty u r) := h.below b0.out
  have hil : i < r.al.length := by rw [h.len]; exact hin
  obtain ⟨a0, a1⟩ := r0.out.ans i hil
  have f0 : W0.frozen? ⟨A, i * 2, none⟩ = false := fz_row r0.out.an _
  have f1 : W0.frozen? ⟨A, i * 2 + 1, none⟩ = false := fz_row r0.out.an _
  obtain ⟨n, hn⟩ : ∃ n, n = u.n := ⟨_, rfl⟩
  rw [← hn] at hin h16
  have HN := hide hn
  have F : Hid (∀ X : World, (X.heap[P]? = W0.heap[P]? ∧ X.heap[B]? = W0.heap[B]?) → X.cell? ⟨P, 7, none⟩ = some (.slice (some ⟨A, 0, none⟩) n n) ∧ X.cell? ⟨B, 1, none⟩ = some (.int .i64 (i : Int)) ∧ X.cell? ⟨B, 6, none⟩ = some (.int .i64 m.ver)) := fun X hX => by
    have x7 := r0.out.cells.2.2.2.2.2.2.2.1
    have y1 := m0.out.cells.2.1
    have y6 := m0.out.cells.2.2.2.2.2.2.1
    rw [hi] at y1
    rw [← HN.out] at x7
    unfold World.cell? at *
    rw [hX.1, hX.2]
    exact ⟨x7, y1, y6⟩
  have hii : (i : Int) < (n : Int) := by omega
  have hneA : Hid (A ≠ P ∧ A ≠ B) := ⟨fun e => h.ne e.symm, by have := blk_lt h.an; omega⟩
  obtain ⟨W1, hW1⟩ : ∃ W1, W1 = (W0.setCell ⟨A, i * 2, none⟩ (.bool true)).setCell ⟨A, i * 2 + 1, none⟩ (.int .i64 m.ver) := ⟨_, rfl⟩
  have K1 : Hid (Kp w W1 (fun k => k = A)) := by rw [hW1]; exact ((Kp.of_below b0.out (fun k => k = A)).set (Or.inl rfl) _ _).set (Or.inl rfl) _ _
  have R1 : Hid (RdAt W1 P A ty u { r with al := r.al.set i (true, m.ver) }) := by
    rw [hW1]
    refine ⟨?_, ?_, by simpa using r0.out.len, r0.out.ne⟩
    · rw [Below.heap_setCell _ _ _ _ (fun e => hneA.out.1 e.symm), Below.heap_setCell _ _ _ _ (fun e => hneA.out.1 e.symm)]
      exact r0.out.ob
    · have e := set_row (set_row r0.out.an (i * 2) (.bool true)) (i * 2 + 1) (.int .i64 m.ver)
      rw [List.setIfInBounds_toArray, List.setIfInBounds_toArray, anc_set _ i hil] at e
      exact e
  have Hil := hide hil
  replace hW1 := hide hW1
  generalize r.al[i].1 = c1 at *
  generalize r.al[i].2 = c2 at *
  clear h hi hn hil
  go_enter Try.func94, Try.ntmps94
  go_upto_region 1 with fail
  rw [← hW0, ← HB.out]
  clear hW0 hB
  refine wp_region_held_drew (S := fun X => X.heap[P]? = W0.heap[P]? ∧ X.heap[B]? = W0.heap[B]?) (by kernel_rfl) ⟨rfl, rfl⟩ (fun hHeld => ?_)
  refine wpAnyH_take (i := 0) (v := (.pointer (some ⟨P, 0, none⟩))) rfl (by kernel_rfl) (by kernel_rfl) (by kernel_rfl) (fun _ _ _ h => h) (Or.inl ⟨by kernel_rfl, ?_⟩) (by assumption) ?_
  · intro w' hSw
    (try dsimp only at hSw)
    go_simp
  (try simp only [Act.put, List.getElem_toArray, List.getElem_cons_zero, List.getElem_cons_succ, List.setIfInBounds_toArray, List.set_cons_zero, List.set_cons_succ])
  refine wpAnyH_take (i := 1) (v := (.pointer (some ⟨P, 0, none⟩))) rfl (by kernel_rfl) (by kernel_rfl) (by kernel_rfl) (fun _ _ _ h => h) (Or.inl ⟨by kernel_rfl, ?_⟩) (by assumption) ?_
  · intro w' hSw
    (try dsimp only at hSw)
    go_simp
  (try simp only [Act.put, List.getElem_toArray, List.getElem_cons_zero, List.getElem_cons_succ, List.setIfInBounds_toArray, List.set_cons_zero, List.set_cons_succ])
  refine wpAnyH_take (i := 2) (v := (.pointer (some ⟨P, 7, none⟩))) rfl (by kernel_rfl) (by kernel_rfl) (by kernel_rfl) (fun _ _ _ h => h) (Or.inl ⟨by kernel_rfl, ?_⟩) (by assumption) ?_
  · intro w' hSw
    (try dsimp only at hSw)
    go_simp
  (try simp only [Act.put, List.getElem_toArray, List.getElem_cons_zero, List.getElem_cons_succ, List.setIfInBounds_toArray, List.set_cons_zero, List.set_cons_succ])
  refine wpAnyH_take (i := 3) (v := (.slice (some ⟨A, 0, none⟩) n n)) rfl (by kernel_rfl) (by kernel_rfl) (by kernel_rfl) (fun _ _ _ h => h) (Or.inl ⟨by kernel_rfl, ?_⟩) (by assumption) ?_
  · intro w' hSw
    (try dsimp only at hSw)
    (have z := (F.out _ hSw).1; go_simp)
  (try simp only [Act.put, List.getElem_toArray, List.getElem_cons_zero, List.getElem_cons_succ, List.setIfInBounds_toArray, List.set_cons_zero, List.set_cons_succ])
  refine wpAnyH_take (i := 4) (v := (.pointer (some ⟨B, 1, none⟩))) rfl (by kernel_rfl) (by kernel_rfl) (by kernel_rfl) (fun _ _ _ h => h) (Or.inl ⟨by kernel_rfl, ?_⟩) (by assumption) ?_
  · intro w' hSw
    (try dsimp only at hSw)
    go_simp
  (try simp only [Act.put, List.getElem_toArray, List.getElem_cons_zero, List.getElem_cons_succ, List.setIfInBounds_toArray, List.set_cons_zero, List.set_cons_succ])
  refine wpAnyH_take (i := 5) (v := (.int .i64 (i : Int))) rfl (by kernel_rfl) (by kernel_rfl) (by kernel_rfl) (fun _ _ _ h => h) (Or.inl ⟨by kernel_rfl, ?_⟩) (by assumption) ?_
  · intro w' hSw
    (try dsimp only at hSw)
    (have z := (F.out _ hSw).2.1; go_simp)
  (try simp only [Act.put, List.getElem_toArray, List.getElem_cons_zero, List.getElem_cons_succ, List.setIfInBounds_toArray, List.set_cons_zero, List.set_cons_succ])
  refine wpAnyH_take (i := 6) (v := (.pointer (some ⟨B, 6, none⟩))) rfl (by kernel_rfl) (by kernel_rfl) (by kernel_rfl) (fun _ _ _ h => h) (Or.inl ⟨by kernel_rfl, ?_⟩) (by assumption) ?_
  · intro w' hSw
    (try dsimp only at hSw)
    go_simp
  (try simp only [Act.put, List.getElem_toArray, List.getElem_cons_zero, List.getElem_cons_succ, List.setIfInBounds_toArray, List.set_cons_zero, List.set_cons_succ])
  refine wpAnyH_take (i := 7) (v := (.int .i64 m.ver)) rfl (by kernel_rfl) (by kernel_rfl) (by kernel_rfl) (fun _ _ _ h => h) (Or.inl ⟨by kernel_rfl, ?_⟩) (by assumption) ?_
  · intro w' hSw
    (try dsimp only at hSw)
    (have z := (F.out _ hSw).2.2; go_simp)
  (try simp only [Act.put, List.getElem_toArray, List.getElem_cons_zero, List.getElem_cons_succ, List.setIfInBounds_toArray, List.set_cons_zero, List.set_cons_succ])
  refine wpAnyH_take (i := 8) (v := (.agg #[.bool true, .int .i64 m.ver])) rfl (by kernel_rfl) (by kernel_rfl) (by kernel_rfl) (fun _ _ _ h => h) (Or.inl ⟨by kernel_rfl, ?_⟩) (by assumption) ?_
  · intro w' hSw
    (try dsimp only at hSw)
    (exact exec_bl 134 #[(0, .const (.bool true)), (1, .tmp 11)] rfl _ (by kernel_rfl))
  (try simp only [Act.put, List.getElem_toArray, List.getElem_cons_zero, List.getElem_cons_succ, List.setIfInBounds_toArray, List.set_cons_zero, List.set_cons_succ])
  refine wpAnyH_take (i := 9) (v := (.pointer (some ⟨A, i * 2, none⟩))) rfl (by kernel_rfl) (by kernel_rfl) (by kernel_rfl) (fun _ _ _ h => h) (Or.inl ⟨by kernel_rfl, ?_⟩) (by assumption) ?_
  · intro w' hSw
    (try dsimp only at hSw)
    go_simp
  (try simp only [Act.put, List.getElem_toArray, List.getElem_cons_zero, List.getElem_cons_succ, List.setIfInBounds_toArray, List.set_cons_zero, List.set_cons_succ])
  refine wpAnyH_ready (rs := [10]) (by kernel_rfl) (by simp) ?_
  refine AllReadyH.cons rfl (fun K hK => ?_) AllReadyH.nil
  go_simp
  rw [← hW1.out]
  have SP : Hid (W1.drew.heap[P]? = W0.heap[P]? ∧ W1.drew.heap[B]? = W0.heap[B]?) := by
    show W1.heap[P]? = W0.heap[P]? ∧ W1.heap[B]? = W0.heap[B]?
    rw [hW1.out, Below.heap_setCell _ _ _ _ (fun e => hneA.out.1 e.symm), Below.heap_setCell _ _ _ _ (fun e => hneA.out.1 e.symm), Below.heap_setCell _ _ _ _ (fun e => hneA.out.2 e.symm), Below.heap_setCell _ _ _ _ (fun e => hneA.out.2 e.symm)]
    exact ⟨rfl, rfl⟩
  clear hW1 a0 a1 f0 f1 hHeld
  refine hK.out _ _ (SP.out) (fun hHeld => ?_)
  clear hK
  (try simp only [Act.put, List.setIfInBounds_toArray, List.set_cons_zero, List.set_cons_succ])
  refine wpAnyH_done (by kernel_rfl) ?_ _
  go_wp2_with fail
  refine bodyPost_end (results_none rfl _ _ _) rfl ?_
  exact ⟨rfl, R1.out.keep (Kp.refl _ non).drew (fun f => f) (fun f => f), K1.out.drew⟩
theorem own_lt2 {X : World} {base e sz n g : Nat} {v : Value} {xs : List Value} (h : X.ownsRow base e sz v n xs) (hg : v.ownBlock = some g) : g < X.heap.size := by
  rcases h.2 with ⟨rfl, _⟩ | ⟨g', cap, cur, rfl, hb, hg', hr⟩
  · simp [Value.ownBlock] at hg
  · simp [Value.ownBlock] at hg
    subst hg
    exact blk_lt hg'
theorem row_type {X : World} {base sz n b : Nat} {e t : TypeId} {v : Value} {xs : List Value} {A : Array Value} (h : X.ownsRow base e sz v n xs) (hb : X.heap[b]? = some (.cells A t)) (ht : e ≠ t) (k : Nat) (hk : v.ownBlock = some k) (hkb : k = b) : False := by
  rcases h.2 with ⟨rfl, _⟩ | ⟨g', cap, cur, rfl, _, hg', hr⟩
  · simp [Value.ownBlock] at hk
  · simp [Value.ownBlock] at hk
    subst hk
    subst hkb
    have := hg'.symm.trans hb
    simp only [Option.some.injEq, Obj.cells.injEq] at this
    exact ht this.2.1
/-- a report -/
structure Rp where
  job : Int
  kind : Int
  ver : Int
  out : Int
  hs : List Int
  ms : List Int
def rpA (p : Rp) (hv mv : Value) : Array Value := #[.int .i64 p.job, .int .i64 p.kind, .int .i64 p.ver, .int .i64 p.out, hv, mv]
def rp0 : Rp := ⟨0, 0, 0, 0, [], []⟩
def repO (r : Rd) (o : Int) : Rp := ⟨r.num, r.kind, r.ver, o, r.al.map (·.2), miss r.al⟩
theorem rp_info : (Try.prog.info? 39).map (·.size) = some 6 := by kernel_rfl
theorem sl_one {v : Value} (h : ∃ a n c, v = .slice a n c) : v.oneCell' = true := by obtain ⟨a, n, c, rfl⟩ := h; rfl
theorem rp_one (p : Rp) {hv mv : Value} (h1 : ∃ a n c, hv = .slice a n c) (h2 : ∃ a n c, mv = .slice a n c) : (rpA p hv mv).all (·.oneCell') = true := by
  obtain ⟨_, _, _, rfl⟩ := h1
  obtain ⟨_, _, _, rfl⟩ := h2
  simp [rpA, Value.oneCell']
theorem rp_built (p : Rp) {hv mv : Value} (h1 : ∃ a n c, hv = .slice a n c) (h2 : ∃ a n c, mv = .slice a n c) : Try.prog.built 39 [(0, .int .i64 p.job), (1, .int .i64 p.kind), (2, .int .i64 p.ver), (3, .int .i64 p.out), (4, hv), (5, mv)] = some (rpA p hv mv) := by
  obtain ⟨_, _, _, rfl⟩ := h1
  obtain ⟨_, _, _, rfl⟩ := h2
  kernel_rfl
/-- what is held so far -/
def hlN (al : List (Bool × Int)) (i : Nat) : List Int := (al.take i).map (·.2) ++ List.replicate (al.length - i) 0
theorem hlN_len (al : List (Bool × Int)) (i : Nat) (h : i ≤ al.length) : (hlN al i).length = al.length := by simp [hlN]; omega
theorem hlN_set (al : List (Bool × Int)) (i : Nat) (h : i < al.length) : (hlN al i).set i al[i].2 = hlN al (i + 1) := by
  unfold hlN
  rw [List.set_append_right _ _ (by simp; omega), List.length_map, List.length_take, Nat.min_eq_left (by omega), Nat.sub_self, show al.length - i = (al.length - (i + 1)) + 1 by omega, List.replicate_succ, List.set_cons_zero, List.take_succ_eq_append_getElem h, List.map_append]
  simp
theorem ints_set (L : List Int) (i : Nat) (x : Int) : (ints L).set i (.int .i64 x) = ints (L.set i x) := by simp [ints, List.map_set]
theorem made_int (n : Nat) : madeCells (Value.int .i64 0).cells (n * 1) = (ints (List.replicate n 0)).toArray := by
  have := toList_madeCells_one (.int .i64 0) n
  rw [Nat.mul_one]
  apply Array.ext'
  rw [show (Value.int .i64 0).cells = #[.int .i64 0] from rfl, this]
  simp [ints]
set_option maxHeartbeats 8000000 in
set_option maxRecDepth 100000 in
set_option linter.unusedSimpArgs false in
set_option linter.unusedVariables false in
theorem report_any {w : World} {P A : Nat} {ty : TypeId} {u : Ru} {r : Rd} (h : RdAt w P A ty u r) (h1 : 1 ≤ u.n) (h16 : u.n ≤ 16) (o : Int) :
    Calls Try.prog 96 #[.pointer (some ⟨P, 0, none⟩), .int .i64 o] w fun e w' => ∃ hv mv, e = .returned (.agg (rpA (repO r o) hv mv)) ∧ w'.ownsRow w.heap.size 3 1 hv (repO r o).hs.length (ints (repO r o).hs) ∧ w'.ownsRow w.heap.size 3 1 mv (repO r o).ms.length (ints (repO r o).ms) ∧ (∀ k, hv.ownBlock = some k → mv.ownBlock ≠ some k) ∧ Below w.heap.size w w' := by
  obtain ⟨i0, hi0, hz0, hz1, hz2⟩ := mg_parts int_infos
  obtain ⟨n, hn⟩ : ∃ n, n = u.n := ⟨_, rfl⟩
  rw [← hn] at h1 h16
  obtain ⟨B, hB⟩ : ∃ B, B = w.heap.size := ⟨_, rfl⟩
  obtain ⟨W0, hW0⟩ : ∃ W0, W0 = w.alloc (.cells #[.int .i64 0, .int .i64 0, .int .i64 0, .int .i64 0, .slice none 0 0, .slice none 0 0] 39) := ⟨_, rfl⟩
  have b0 : Below w.heap.size w W0 := by rw [hW0]; exact (Below.refl _ w).alloc (Nat.le_refl _) _
  have m0 : W0.heap[B]? = some (.cells #[.int .i64 0, .int .i64 0, .int .i64 0, .int .i64 0, .slice none 0 0, .slice none 0 0] 39) := by rw [hW0, hB]; exact heap_last w _
  have s0 : W0.heap.size = B + 1 := by rw [hW0, hB]; simp
  obtain ⟨W1, hW1⟩ : ∃ W1, W1 = W0.alloc (.cells (ints (List.replicate n 0)).toArray 3) := ⟨_, rfl⟩
  have hmk : (Instr.makeSlice 37 (.int .i64 (n : Int)) (.int .i64 (n : Int))).run Try.prog W0 = .ok (.slice (some ⟨W0.heap.size, 0, none⟩) n n) W1 := by
    have h := run_make (P := Try.prog) W0 37 3 i0 _ Try.underlying37 hi0 hz0 .i64 .i64 (n : Int) (n : Int) (by omega) (by omega) (by rw [hz2]; omega) (by omega)
    rw [hz1, Int.toNat_natCast, made_int, ← hW1] at h
    exact h
  have b1 : Below W0.heap.size W0 W1 := by rw [hW1]; exact (Below.refl _ W0).alloc (Nat.le_refl _) _
  have hD : W1.heap[W0.heap.size]? = some (.cells (ints (hlN r.al 0)).toArray 3) := by
    rw [hW1, heap_last]
    simp [hlN, h.len, hn]
  have r1 := (h.below b0).below b1
  have x7 : W0.cell? ⟨P, 7, none⟩ = some (.slice (some ⟨A, 0, none⟩) n n) := by rw [hn]; exact (h.below b0).cells.2.2.2.2.2.2.2.1
  have y7 : W1.cell? ⟨P, 7, none⟩ = some (.slice (some ⟨A, 0, none⟩) n n) := by rw [hn]; exact r1.cells.2.2.2.2.2.2.2.1
  obtain ⟨H, hH⟩ : ∃ H, H = W0.heap.size := ⟨_, rfl⟩
  rw [← hH] at hmk hD
  have HH : Hid (H = B + 1) := by rw [hH, s0]; rfl
  have HD := hide hD
  have R1 := hide r1
  have M1 := hide ((b1.block _ (blk_lt m0)).trans m0)
  have K1 : Hid (Kp w W1 non) := (Kp.of_below b0 non).trans (Kp.of_below b1 non) (fun _ f => f.elim)
  have HB := hide hB
  have HN := hide hn
  have hP : Hid (P < B ∧ A < B) := ⟨by rw [hB]; exact blk_lt h.ob, by rw [hB]; exact blk_lt h.an⟩
  have HL : Hid (r.al.length = n) := h.len.trans hn.symm
  rw [← hB]
  clear h b0 b1 m0 s0 hW1 hD r1 hn hH hz0 hz1 hz2 hi0
  go_enter Try.func96, Try.ntmps96
  go_upto_region 1 with fail
  rw [← hW0, ← HB.out]
  clear hW0
  go_wp2_with fail
  clear x7 y7 hmk
  go_loopw [19] (fun vi wr => ∃ (i : Nat), i ≤ n ∧ vi = .int .i64 (i : Int) ∧ Hid (wr.heap[H]? = some (.cells (ints (hlN r.al i)).toArray 3)) ∧ Hid (Kp W1 wr (fun k => k = H))) (fun vi _ => n - (intOf vi).toNat)
  case atStart => exact ⟨0, Nat.zero_le _, rfl, HD.out, Kp.refl _ _⟩
  case round =>
    obtain ⟨i, hi, rfl, HR, HK⟩ := hrel
    have R2 : Hid (RdAt wr P A ty u r) := R1.out.keep HK.out (by have := HH.out; have := hP.out; omega) (by have := HH.out; have := hP.out; omega)
    by_cases hin : i < n
    case pos =>
      have hii : (i : Int) < (n : Int) := by omega
      have hil : i < r.al.length := by rw [HL.out]; exact hin
      obtain ⟨a0, a1⟩ := R2.out.ans i hil
      have HS := hide (hlN_set r.al i hil)
      generalize r.al[i].2 = c2 at *
      generalize r.al[i].1 = c1 at *
      obtain ⟨W3, hW3⟩ : ∃ W3, W3 = wr.alloc (.cells #[.bool c1, .int .i64 c2] 134) := ⟨_, rfl⟩
      have k3 : Kp wr W3 non := by rw [hW3]; exact (Kp.refl _ _).alloc _
      have h3 := getL k3 HR.out (fun f => f)
      have y1 : W3.cell? ⟨wr.heap.size, 1, none⟩ = some (.int .i64 c2) := by rw [hW3, cell_row (heap_last _ _)]; rfl
      have hl3 : i < (ints (hlN r.al i)).toArray.size := by simp [ints, hlN_len r.al i (by omega)]; omega
      obtain ⟨v3, hv3⟩ : ∃ v3, W3.cell? ⟨H, i, none⟩ = some v3 := ⟨_, (cell_row h3 i).trans (Array.getElem?_eq_getElem hl3)⟩
      have z3 : W3.frozen? ⟨H, i, none⟩ = false := fz_row h3 i
      have H3 := hide h3
      have K3 : Hid (Kp W1 W3 (fun k => k = H)) := HK.out.trans k3 (fun _ f => f.elim)
      clear h3 k3 hl3 hil
      go_upto_region 5 with fail
      rw [← hW3]
      clear hW3 a0 a1
      go_wp2_with fail
      refine ⟨⟨i + 1, by omega, rfl, ?_, ?_⟩, by simp [intOf]; omega⟩
      · have e := set_row H3.out i (.int .i64 c2)
        rw [List.setIfInBounds_toArray, ints_set, HS.out] at e
        exact e
      · exact K3.out.set (Or.inl rfl) _ _
    case neg =>
      obtain rfl : i = n := by omega
      have e0 : hlN r.al i = (repO r o).hs := by unfold hlN repO; rw [← HL.out]; simp
      rw [e0] at HR
      have M2 : Hid (wr.heap[B]? = some (.cells #[.int .i64 0, .int .i64 0, .int .i64 0, .int .i64 0, .slice none 0 0, .slice none 0 0] 39)) := getL HK.out M1.out (by have := HH.out; omega)
      have K2 : Hid (Kp w wr non) := K1.out.trans HK.out (fun k hk => Or.inr (by have := HH.out; have := HB.out; omega))
      have O2 : Hid (wr.ownsRow B 3 1 (.slice (some ⟨H, 0, none⟩) i i) (repO r o).hs.length (ints (repO r o).hs)) := by
        have e1 : (repO r o).hs.length = i := by unfold repO; simp [HL.out]
        rw [e1]
        exact ⟨by rw [ints_len, e1, Nat.mul_one], .inr ⟨H, i, _, rfl, by have := HH.out; omega, HR.out, Nat.le_refl _, by unfold maxLen; omega, by simp [ints_len, e1], by rw [List.take_of_length_le (by simp [ints_len, e1])]⟩⟩
      have MI := hide (missing_any (R2.out.keep (Kp.refl wr non).drew (fun f => f) (fun f => f)) (by rw [← HN.out]; exact h16))
      have F : Hid (∀ X : World, X.heap[P]? = wr.heap[P]? → X.cell? ⟨P, 4, none⟩ = some (.int .i64 r.num) ∧ X.cell? ⟨P, 5, none⟩ = some (.int .i64 r.kind) ∧ X.cell? ⟨P, 6, none⟩ = some (.int .i64 r.ver)) := fun X hX => by
        obtain ⟨_, _, _, _, x4, x5, x6, _⟩ := R2.out.cells
        unfold World.cell? at *
        rw [hX]
        exact ⟨x4, x5, x6⟩
      have hne : P ≠ B := by have := hP.out; omega
      clear HR e0 hB
      go_upto_region 7 with fail
      refine wp_region_held_drew (S := fun X => X.heap[P]? = wr.heap[P]?) (by kernel_rfl) rfl (fun hHeld => ?_)
      refine wpAnyH_take (i := 0) (v := (.pointer (some ⟨P, 0, none⟩))) rfl (by kernel_rfl) (by kernel_rfl) (by kernel_rfl) (fun _ _ _ h => h) (Or.inl ⟨by kernel_rfl, ?_⟩) (by assumption) ?_
      · intro w' hSw
        (try dsimp only at hSw)
        go_simp
      (try simp only [Act.put, List.getElem_toArray, List.getElem_cons_zero, List.getElem_cons_succ, List.setIfInBounds_toArray, List.set_cons_zero, List.set_cons_succ])
      refine wpAnyH_take (i := 1) (v := (.pointer (some ⟨P, 0, none⟩))) rfl (by kernel_rfl) (by kernel_rfl) (by kernel_rfl) (fun _ _ _ h => h) (Or.inl ⟨by kernel_rfl, ?_⟩) (by assumption) ?_
      · intro w' hSw
        (try dsimp only at hSw)
        go_simp
      (try simp only [Act.put, List.getElem_toArray, List.getElem_cons_zero, List.getElem_cons_succ, List.setIfInBounds_toArray, List.set_cons_zero, List.set_cons_succ])
      refine wpAnyH_take (i := 2) (v := (.pointer (some ⟨P, 4, none⟩))) rfl (by kernel_rfl) (by kernel_rfl) (by kernel_rfl) (fun _ _ _ h => h) (Or.inl ⟨by kernel_rfl, ?_⟩) (by assumption) ?_
      · intro w' hSw
        (try dsimp only at hSw)
        go_simp
      (try simp only [Act.put, List.getElem_toArray, List.getElem_cons_zero, List.getElem_cons_succ, List.setIfInBounds_toArray, List.set_cons_zero, List.set_cons_succ])
      refine wpAnyH_take (i := 3) (v := (.pointer (some ⟨P, 4, none⟩))) rfl (by kernel_rfl) (by kernel_rfl) (by kernel_rfl) (fun _ _ _ h => h) (Or.inl ⟨by kernel_rfl, ?_⟩) (by assumption) ?_
      · intro w' hSw
        (try dsimp only at hSw)
        go_simp
      (try simp only [Act.put, List.getElem_toArray, List.getElem_cons_zero, List.getElem_cons_succ, List.setIfInBounds_toArray, List.set_cons_zero, List.set_cons_succ])
      refine wpAnyH_take (i := 4) (v := (.int .i64 r.num)) rfl (by kernel_rfl) (by kernel_rfl) (by kernel_rfl) (fun _ _ _ h => h) (Or.inl ⟨by kernel_rfl, ?_⟩) (by assumption) ?_
      · intro w' hSw
        (try dsimp only at hSw)
        (have z := (F.out _ hSw).1; go_simp)
      (try simp only [Act.put, List.getElem_toArray, List.getElem_cons_zero, List.getElem_cons_succ, List.setIfInBounds_toArray, List.set_cons_zero, List.set_cons_succ])
      refine wpAnyH_take (i := 5) (v := (.pointer (some ⟨P, 0, none⟩))) rfl (by kernel_rfl) (by kernel_rfl) (by kernel_rfl) (fun _ _ _ h => h) (Or.inl ⟨by kernel_rfl, ?_⟩) (by assumption) ?_
      · intro w' hSw
        (try dsimp only at hSw)
        go_simp
      (try simp only [Act.put, List.getElem_toArray, List.getElem_cons_zero, List.getElem_cons_succ, List.setIfInBounds_toArray, List.set_cons_zero, List.set_cons_succ])
      refine wpAnyH_take (i := 6) (v := (.pointer (some ⟨P, 0, none⟩))) rfl (by kernel_rfl) (by kernel_rfl) (by kernel_rfl) (fun _ _ _ h => h) (Or.inl ⟨by kernel_rfl, ?_⟩) (by assumption) ?_
      · intro w' hSw
        (try dsimp only at hSw)
        go_simp
      (try simp only [Act.put, List.getElem_toArray, List.getElem_cons_zero, List.getElem_cons_succ, List.setIfInBounds_toArray, List.set_cons_zero, List.set_cons_succ])
      refine wpAnyH_take (i := 7) (v := (.pointer (some ⟨P, 4, none⟩))) rfl (by kernel_rfl) (by kernel_rfl) (by kernel_rfl) (fun _ _ _ h => h) (Or.inl ⟨by kernel_rfl, ?_⟩) (by assumption) ?_
      · intro w' hSw
        (try dsimp only at hSw)
        go_simp
      (try simp only [Act.put, List.getElem_toArray, List.getElem_cons_zero, List.getElem_cons_succ, List.setIfInBounds_toArray, List.set_cons_zero, List.set_cons_succ])
      refine wpAnyH_take (i := 8) (v := (.pointer (some ⟨P, 5, none⟩))) rfl (by kernel_rfl) (by kernel_rfl) (by kernel_rfl) (fun _ _ _ h => h) (Or.inl ⟨by kernel_rfl, ?_⟩) (by assumption) ?_
      · intro w' hSw
        (try dsimp only at hSw)
        go_simp
      (try simp only [Act.put, List.getElem_toArray, List.getElem_cons_zero, List.getElem_cons_succ, List.setIfInBounds_toArray, List.set_cons_zero, List.set_cons_succ])
      refine wpAnyH_take (i := 9) (v := (.int .i64 r.kind)) rfl (by kernel_rfl) (by kernel_rfl) (by kernel_rfl) (fun _ _ _ h => h) (Or.inl ⟨by kernel_rfl, ?_⟩) (by assumption) ?_
      · intro w' hSw
        (try dsimp only at hSw)
        (have z := (F.out _ hSw).2.1; go_simp)
      (try simp only [Act.put, List.getElem_toArray, List.getElem_cons_zero, List.getElem_cons_succ, List.setIfInBounds_toArray, List.set_cons_zero, List.set_cons_succ])
      refine wpAnyH_take (i := 10) (v := (.pointer (some ⟨P, 0, none⟩))) rfl (by kernel_rfl) (by kernel_rfl) (by kernel_rfl) (fun _ _ _ h => h) (Or.inl ⟨by kernel_rfl, ?_⟩) (by assumption) ?_
      · intro w' hSw
        (try dsimp only at hSw)
        go_simp
      (try simp only [Act.put, List.getElem_toArray, List.getElem_cons_zero, List.getElem_cons_succ, List.setIfInBounds_toArray, List.set_cons_zero, List.set_cons_succ])
      refine wpAnyH_take (i := 11) (v := (.pointer (some ⟨P, 0, none⟩))) rfl (by kernel_rfl) (by kernel_rfl) (by kernel_rfl) (fun _ _ _ h => h) (Or.inl ⟨by kernel_rfl, ?_⟩) (by assumption) ?_
      · intro w' hSw
        (try dsimp only at hSw)
        go_simp
      (try simp only [Act.put, List.getElem_toArray, List.getElem_cons_zero, List.getElem_cons_succ, List.setIfInBounds_toArray, List.set_cons_zero, List.set_cons_succ])
      refine wpAnyH_take (i := 12) (v := (.pointer (some ⟨P, 4, none⟩))) rfl (by kernel_rfl) (by kernel_rfl) (by kernel_rfl) (fun _ _ _ h => h) (Or.inl ⟨by kernel_rfl, ?_⟩) (by assumption) ?_
      · intro w' hSw
        (try dsimp only at hSw)
        go_simp
      (try simp only [Act.put, List.getElem_toArray, List.getElem_cons_zero, List.getElem_cons_succ, List.setIfInBounds_toArray, List.set_cons_zero, List.set_cons_succ])
      refine wpAnyH_take (i := 13) (v := (.pointer (some ⟨P, 6, none⟩))) rfl (by kernel_rfl) (by kernel_rfl) (by kernel_rfl) (fun _ _ _ h => h) (Or.inl ⟨by kernel_rfl, ?_⟩) (by assumption) ?_
      · intro w' hSw
        (try dsimp only at hSw)
        go_simp
      (try simp only [Act.put, List.getElem_toArray, List.getElem_cons_zero, List.getElem_cons_succ, List.setIfInBounds_toArray, List.set_cons_zero, List.set_cons_succ])
      refine wpAnyH_take (i := 14) (v := (.int .i64 r.ver)) rfl (by kernel_rfl) (by kernel_rfl) (by kernel_rfl) (fun _ _ _ h => h) (Or.inl ⟨by kernel_rfl, ?_⟩) (by assumption) ?_
      · intro w' hSw
        (try dsimp only at hSw)
        (have z := (F.out _ hSw).2.2; go_simp)
      (try simp only [Act.put, List.getElem_toArray, List.getElem_cons_zero, List.getElem_cons_succ, List.setIfInBounds_toArray, List.set_cons_zero, List.set_cons_succ])
      refine wpAnyH_take (i := 15) (v := (.int .i64 o)) rfl (by kernel_rfl) (by kernel_rfl) (by kernel_rfl) (fun _ _ _ h => h) (Or.inl ⟨by kernel_rfl, ?_⟩) (by assumption) ?_
      · intro w' hSw
        (try dsimp only at hSw)
        go_simp
      (try simp only [Act.put, List.getElem_toArray, List.getElem_cons_zero, List.getElem_cons_succ, List.setIfInBounds_toArray, List.set_cons_zero, List.set_cons_succ])
      refine wpAnyH_take (i := 16) (v := (.slice (some ⟨H, 0, none⟩) i i)) rfl (by kernel_rfl) (by kernel_rfl) (by kernel_rfl) (fun _ _ _ h => h) (Or.inl ⟨by kernel_rfl, ?_⟩) (by assumption) ?_
      · intro w' hSw
        (try dsimp only at hSw)
        go_simp
      (try simp only [Act.put, List.getElem_toArray, List.getElem_cons_zero, List.getElem_cons_succ, List.setIfInBounds_toArray, List.set_cons_zero, List.set_cons_succ])
      refine wpAnyH_take (i := 17) (v := (.pointer (some ⟨P, 0, none⟩))) rfl (by kernel_rfl) (by kernel_rfl) (by kernel_rfl) (fun _ _ _ h => h) (Or.inl ⟨by kernel_rfl, ?_⟩) (by assumption) ?_
      · intro w' hSw
        (try dsimp only at hSw)
        go_simp
      (try simp only [Act.put, List.getElem_toArray, List.getElem_cons_zero, List.getElem_cons_succ, List.setIfInBounds_toArray, List.set_cons_zero, List.set_cons_succ])
      refine wpAnyH_ready (rs := [18]) (by kernel_rfl) (by simp) ?_
      refine AllReadyH.cons rfl (fun K hK => ?_) AllReadyH.nil
      go_simp
      refine Calls.mono MI.out ?_
      rintro e W5 ⟨mv, rfl, om, hb⟩
      have b5 : Below wr.heap.size wr W5 := (show Below wr.heap.size wr wr.drew from ⟨rfl, rfl, rfl, Nat.le_refl _, fun _ _ => rfl⟩).trans hb
      have hHl : H < wr.heap.size := by
        have := own_lt2 O2.out (g := H) rfl
        exact this
      have om' : W5.ownsRow wr.heap.size 3 1 mv (miss r.al).length (ints (miss r.al)) := om
      obtain ⟨ma, mc, rfl⟩ := own_sl om
      have AP : Hid (∀ k, (Value.slice (some ⟨H, 0, none⟩) i i).ownBlock = some k → (Value.slice ma (miss r.al).length mc).ownBlock ≠ some k) := fun k h1 h2 => by
        have := own_ge om' h2
        simp [Value.ownBlock] at h1
        omega
      have O5 := hide (own_below O2.out b5)
      have N5 : Hid (W5.ownsRow B 3 1 (.slice ma (miss r.al).length mc) (miss r.al).length (ints (miss r.al))) := own_mono om' (by have := HB.out; have := K2.out.size; omega)
      have M5 : Hid (W5.heap[B]? = some (.cells #[.int .i64 0, .int .i64 0, .int .i64 0, .int .i64 0, .slice none 0 0, .slice none 0 0] 39)) := (b5.block _ (blk_lt M2.out)).trans M2.out
      have K5 : Hid (Kp w W5 non) := K2.out.trans (Kp.of_below b5 non) (fun _ f => f.elim)
      have S5 : Hid (W5.heap[P]? = wr.heap[P]?) := b5.block _ (blk_lt R2.out.ob)
      clear om om' hb b5 MI hHeld
      have HML : Hid (∃ q, (miss r.al).length = q) := ⟨_, rfl⟩
      obtain ⟨ml, hml⟩ := HML.out
      rw [hml] at AP N5
      replace hml := hide hml
      rw [hml.out]
      refine hK.out _ _ (S5.out) (fun hHeld => ?_)
      clear hK
      (try simp only [Act.put, List.setIfInBounds_toArray, List.set_cons_zero, List.set_cons_succ])
      refine wpAnyH_take (i := 19) (v := (.agg (rpA (repO r o) (.slice (some ⟨H, 0, none⟩) i i) (.slice ma ml mc)))) rfl (by kernel_rfl) (by kernel_rfl) (by kernel_rfl) (fun _ _ _ h => h) (Or.inl ⟨by kernel_rfl, ?_⟩) (by assumption) ?_
      · intro w' hSw
        (try dsimp only at hSw)
        (exact exec_bl 39 #[(0, .tmp 34), (1, .tmp 39), (2, .tmp 44), (3, .tmp 45), (4, .tmp 46), (5, .tmp 48)] rfl _ (by kernel_rfl))
      (try simp only [Act.put, List.getElem_toArray, List.getElem_cons_zero, List.getElem_cons_succ, List.setIfInBounds_toArray, List.set_cons_zero, List.set_cons_succ])
      refine wpAnyH_ready (rs := [20]) (by kernel_rfl) (by simp) ?_
      refine AllReadyH.cons rfl (fun K hK => ?_) AllReadyH.nil
      refine wp_store_row 39 (.tmp 4) (.tmp 49) rfl B (rpA (repO r o) (.slice (some ⟨H, 0, none⟩) i i) (.slice ma ml mc)) rfl rfl 39 _ M5.out rp_info rfl (by simp [rpA, Value.oneCell']) ?_
      refine hK.out _ _ (((setRow_other _ _ _ _ hne).trans S5.out)) (fun hHeld => ?_)
      clear hK
      (try simp only [Act.put, List.setIfInBounds_toArray, List.set_cons_zero, List.set_cons_succ])
      refine wpAnyH_done (by kernel_rfl) ?_ _
      go_wp2_with fail
      have kr : Kp W5 (W5.setRow B (rpA (repO r o) (.slice (some ⟨H, 0, none⟩) i i) (.slice ma ml mc))) (fun k => k = B) := (Kp.refl W5 (fun k => k = B)).row (Or.inl rfl) _
      refine bodyPost_ret (v := .agg (rpA (repO r o) (.slice (some ⟨H, 0, none⟩) i i) (.slice ma ml mc))) (res_row1 Try.results96 _ _ _ B rfl _ (setRow_heap _ _ _ _ _ _ M5.out) Try.underlying39 rp_info) rfl ⟨_, _, rfl, ?_, ?_, AP.out, ?_⟩
      · exact own_kp O5.out kr (fun k hk e => by simp [Value.ownBlock] at hk; have := HH.out; omega)
      · rw [show (repO r o).ms.length = ml from hml.out]
        exact own_kp N5.out kr (fun k hk e => row_type N5.out M5.out (by decide) k hk e)
      · have := (K5.out.row (b := B) (Or.inr (by rw [HB.out]; exact Nat.le_refl _)) (rpA (repO r o) (.slice (some ⟨H, 0, none⟩) i i) (.slice ma ml mc))).below
        rwa [← HB.out] at this
end Go.Proofs.Ytpleakkhbfhdkaa.Cn
namespace Go.Proofs.Ytpleakkhbfhdkaa.Cn
open Go.RowKit
/-- a controller -/
structure Ct where
  ru : Ru
  num : Int
  ph : Option (Ph × Rd)
  last : Rp
def phV (ph : Option (Ph × Rd)) (P : Nat) : Value :=
  match ph with
  | none => .nilIface
  | some x => .iface x.1.pt (.pointer (some ⟨P, 0, none⟩))
def ctA (c : Ct) (pv hv mv : Value) : Array Value := #[.int .i64 (c.ru.n : Int), .int .i64 c.ru.rs, .int .i64 c.ru.lm, .int .i64 c.ru.pt, .int .i64 c.num, pv, .int .i64 c.last.job, .int .i64 c.last.kind, .int .i64 c.last.ver, .int .i64 c.last.out, hv, mv]
structure CtX (w : World) (S : Nat → Prop) (C P A : Nat) (hv mv : Value) (c : Ct) : Prop where
  ob : w.heap[C]? = some (.cells (ctA c (phV c.ph P) hv mv) 79)
  rd : ∀ p r, c.ph = some (p, r) → RdAt w P A p.ty c.ru r
  hs : w.ownsRow 0 3 1 hv c.last.hs.length (ints c.last.hs)
  ms : w.ownsRow 0 3 1 mv c.last.ms.length (ints c.last.ms)
  sC : S C
  sP : c.ph ≠ none → S P ∧ S A
  sH : ∀ k, hv.ownBlock = some k → S k
  sM : ∀ k, mv.ownBlock = some k → S k
  lt : ∀ k, S k → k < w.heap.size
def CtAt (w : World) (S : Nat → Prop) (C : Nat) (c : Ct) : Prop := ∃ P A hv mv, CtX w S C P A hv mv c
theorem CtX.cells {w : World} {S : Nat → Prop} {C P A : Nat} {hv mv : Value} {c : Ct} (h : CtX w S C P A hv mv c) : w.cell? ⟨C, 0, none⟩ = some (.int .i64 (c.ru.n : Int)) ∧ w.cell? ⟨C, 1, none⟩ = some (.int .i64 c.ru.rs) ∧ w.cell? ⟨C, 2, none⟩ = some (.int .i64 c.ru.lm) ∧ w.cell? ⟨C, 3, none⟩ = some (.int .i64 c.ru.pt) ∧ w.cell? ⟨C, 4, none⟩ = some (.int .i64 c.num) ∧ w.cell? ⟨C, 5, none⟩ = some (phV c.ph P) ∧ w.cell? ⟨C, 6, none⟩ = some (.int .i64 c.last.job) := by
  simp only [cell_row h.ob]
  exact ⟨rfl, rfl, rfl, rfl, rfl, rfl, rfl⟩
theorem CtX.kp {w w' : World} {S T : Nat → Prop} {C P A : Nat} {hv mv : Value} {c : Ct} (h : CtX w S C P A hv mv c) (hk : Kp w w' T) (hT : ∀ k, T k → ¬ S k) : CtX w' S C P A hv mv c := by
  have q : ∀ k, S k → ¬ T k := fun k hs ht => hT k ht hs
  refine ⟨getL hk h.ob (q _ h.sC), fun p r e => ?_, own_kp h.hs hk (fun k hk' => q _ (h.sH k hk')), own_kp h.ms hk (fun k hk' => q _ (h.sM k hk')), h.sC, h.sP, h.sH, h.sM, fun k hs => Nat.lt_of_lt_of_le (h.lt k hs) hk.size⟩
  have s := h.sP (by rw [e]; simp)
  exact (h.rd p r e).keep hk (q _ s.1) (q _ s.2)
theorem CtAt.kp {w w' : World} {S T : Nat → Prop} {C : Nat} {c : Ct} (h : CtAt w S C c) (hk : Kp w w' T) (hT : ∀ k, T k → ¬ S k) : CtAt w' S C c := by
  obtain ⟨P, A, hv, mv, h⟩ := h
  exact ⟨P, A, hv, mv, h.kp hk hT⟩
theorem CtAt.below {w w' : World} {S : Nat → Prop} {C : Nat} {c : Ct} (h : CtAt w S C c) (hb : Below w.heap.size w w') : CtAt w' S C c := h.kp (Kp.of_below hb non) (fun _ f => f.elim)
/-- what becomes of a controller in a call that answers messages -/
def Did (w w' : World) (S : Nat → Prop) (C : Nat) (c' : Ct) (v : Value) (L : List Mg) : Prop :=
  ∃ S', CtAt w' S' C c' ∧ (∀ k, S' k → S k ∨ w.heap.size ≤ k) ∧ Kp w w' S ∧ w'.ownsRow w.heap.size 44 11 v L.length (mgs L) ∧ ∀ k, v.ownBlock = some k → ¬ S' k
/-- the phase that is sent -/
def entP (c : Ct) (p : Ph) (r : Rd) : Ct := { c with ph := some (p, { r with sd := r.sd + 1 }) }
def entL (p : Ph) (r : Rd) : List Mg := toAll (mesP p r) r.num (miss r.al)
theorem CtX.setR {w w' : World} {S : Nat → Prop} {C P A : Nat} {hv mv : Value} {c : Ct} {p : Ph} {r r' : Rd} (h : CtX w S C P A hv mv c) (hp : c.ph = some (p, r)) (hr : RdAt w' P A p.ty c.ru r') (hk : Kp w w' (fun k => k = P ∨ k = A)) : CtX w' S C P A hv mv { c with ph := some (p, r') } := by
  have rd := h.rd p r hp
  have hC1 : C ≠ P := fun e => by
    have := h.ob.symm.trans (e ▸ rd.ob)
    simp only [Option.some.injEq, Obj.cells.injEq] at this
    cases p <;> simp [Ph.ty] at this
  have hC2 : C ≠ A := fun e => by
    have := h.ob.symm.trans (e ▸ rd.an)
    simp only [Option.some.injEq, Obj.cells.injEq] at this
    simp at this
  have ho := getL hk h.ob (by rintro (e | e); exact hC1 e; exact hC2 e)
  refine ⟨?_, fun p' r'' e => ?_, own_kp h.hs hk (fun k hk' e => ?_), own_kp h.ms hk (fun k hk' e => ?_), h.sC, fun _ => h.sP (by rw [hp]; simp), h.sH, h.sM, fun k hs => Nat.lt_of_lt_of_le (h.lt k hs) hk.size⟩
  · rw [ho]
    simp only [ctA, phV, hp]
  · simp only [Option.some.injEq, Prod.mk.injEq] at e
    obtain ⟨rfl, rfl⟩ := e
    exact hr
  · rcases e with e | e
    · exact row_type h.hs rd.ob (by cases p <;> simp [Ph.ty]) k hk' e
    · exact row_type h.hs rd.an (by decide) k hk' e
  · rcases e with e | e
    · exact row_type h.ms rd.ob (by cases p <;> simp [Ph.ty]) k hk' e
    · exact row_type h.ms rd.an (by decide) k hk' e
def f_message : Ph → Nat
  | .fetch => 105
  | .swap => 111
  | .back => 92
  | .look => 115
theorem mth_message (p : Ph) (P : Nat) (w : World) : (method 281 p.pt (.pointer (some ⟨P, 0, none⟩)) "granary/control.message").run Try.prog w = .ok (f_message p, .pointer (some ⟨P, 0, none⟩)) w := by cases p <;> kernel_rfl
def f_counts : Ph → Nat
  | .fetch => 104
  | .swap => 110
  | .back => 91
  | .look => 114
theorem mth_counts (p : Ph) (P : Nat) (w : World) : (method 281 p.pt (.pointer (some ⟨P, 0, none⟩)) "granary/control.counts").run Try.prog w = .ok (f_counts p, .pointer (some ⟨P, 0, none⟩)) w := by cases p <;> kernel_rfl
def f_complete : Ph → Nat
  | .fetch => 103
  | .swap => 109
  | .back => 90
  | .look => 113
theorem mth_complete (p : Ph) (P : Nat) (w : World) : (method 281 p.pt (.pointer (some ⟨P, 0, none⟩)) "granary/control.complete").run Try.prog w = .ok (f_complete p, .pointer (some ⟨P, 0, none⟩)) w := by cases p <;> kernel_rfl
def f_tick : Ph → Nat
  | .fetch => 108
  | .swap => 112
  | .back => 100
  | .look => 119
theorem mth_tick (p : Ph) (P : Nat) (w : World) : (method 281 p.pt (.pointer (some ⟨P, 0, none⟩)) "granary/control.tick").run Try.prog w = .ok (f_tick p, .pointer (some ⟨P, 0, none⟩)) w := by cases p <;> kernel_rfl
def f_refused : Ph → Nat
  | .fetch => 106
  | .swap => 106
  | .back => 95
  | .look => 116
theorem mth_refused (p : Ph) (P : Nat) (w : World) : (method 281 p.pt (.pointer (some ⟨P, 0, none⟩)) "granary/control.refused").run Try.prog w = .ok (f_refused p, .pointer (some ⟨P, 0, none⟩)) w := by cases p <;> kernel_rfl
def f_stopped : Ph → Nat
  | .fetch => 107
  | .swap => 107
  | .back => 99
  | .look => 118
theorem mth_stopped (p : Ph) (P : Nat) (w : World) : (method 281 p.pt (.pointer (some ⟨P, 0, none⟩)) "granary/control.stopped").run Try.prog w = .ok (f_stopped p, .pointer (some ⟨P, 0, none⟩)) w := by cases p <;> kernel_rfl
def f_revived : Ph → Nat
  | .fetch => 97
  | .swap => 97
  | .back => 97
  | .look => 117
theorem mth_revived (p : Ph) (P : Nat) (w : World) : (method 281 p.pt (.pointer (some ⟨P, 0, none⟩)) "granary/control.revived").run Try.prog w = .ok (f_revived p, .pointer (some ⟨P, 0, none⟩)) w := by cases p <;> kernel_rfl
theorem mth_note (p : Ph) (P : Nat) (w : World) : (method 281 p.pt (.pointer (some ⟨P, 0, none⟩)) "granary/control.note").run Try.prog w = .ok (94, .pointer (some ⟨P, 0, none⟩)) w := by cases p <;> kernel_rfl
theorem mth_missing (p : Ph) (P : Nat) (w : World) : (method 281 p.pt (.pointer (some ⟨P, 0, none⟩)) "granary/control.missing").run Try.prog w = .ok (93, .pointer (some ⟨P, 0, none⟩)) w := by cases p <;> kernel_rfl
theorem mth_sending (p : Ph) (P : Nat) (w : World) : (method 281 p.pt (.pointer (some ⟨P, 0, none⟩)) "granary/control.sending").run Try.prog w = .ok (98, .pointer (some ⟨P, 0, none⟩)) w := by cases p <;> kernel_rfl
theorem mth_anew (p : Ph) (P : Nat) (w : World) : (method 281 p.pt (.pointer (some ⟨P, 0, none⟩)) "granary/control.anew").run Try.prog w = .ok (89, .pointer (some ⟨P, 0, none⟩)) w := by cases p <;> kernel_rfl
theorem mth_report (p : Ph) (P : Nat) (w : World) : (method 281 p.pt (.pointer (some ⟨P, 0, none⟩)) "granary/control.report").run Try.prog w = .ok (96, .pointer (some ⟨P, 0, none⟩)) w := by cases p <;> kernel_rfl
theorem ent_message (p : Ph) : ∀ (args : Array Value) (w : World), (callFunc (f_message p) args).run Try.prog w = .ok (.enter (f_message p) args) w := by
  cases p
  · exact enters_of Try.func105 (by kernel_rfl) rfl
  · exact enters_of Try.func111 (by kernel_rfl) rfl
  · exact enters_of Try.func92 (by kernel_rfl) rfl
  · exact enters_of Try.func115 (by kernel_rfl) rfl
theorem ent_counts (p : Ph) : ∀ (args : Array Value) (w : World), (callFunc (f_counts p) args).run Try.prog w = .ok (.enter (f_counts p) args) w := by
  cases p
  · exact enters_of Try.func104 (by kernel_rfl) rfl
  · exact enters_of Try.func110 (by kernel_rfl) rfl
  · exact enters_of Try.func91 (by kernel_rfl) rfl
  · exact enters_of Try.func114 (by kernel_rfl) rfl
theorem ent_complete (p : Ph) : ∀ (args : Array Value) (w : World), (callFunc (f_complete p) args).run Try.prog w = .ok (.enter (f_complete p) args) w := by
  cases p
  · exact enters_of Try.func103 (by kernel_rfl) rfl
  · exact enters_of Try.func109 (by kernel_rfl) rfl
  · exact enters_of Try.func90 (by kernel_rfl) rfl
  · exact enters_of Try.func113 (by kernel_rfl) rfl
theorem ent_tick (p : Ph) : ∀ (args : Array Value) (w : World), (callFunc (f_tick p) args).run Try.prog w = .ok (.enter (f_tick p) args) w := by
  cases p
  · exact enters_of Try.func108 (by kernel_rfl) rfl
  · exact enters_of Try.func112 (by kernel_rfl) rfl
  · exact enters_of Try.func100 (by kernel_rfl) rfl
  · exact enters_of Try.func119 (by kernel_rfl) rfl
theorem ent_refused (p : Ph) : ∀ (args : Array Value) (w : World), (callFunc (f_refused p) args).run Try.prog w = .ok (.enter (f_refused p) args) w := by
  cases p
  · exact enters_of Try.func106 (by kernel_rfl) rfl
  · exact enters_of Try.func106 (by kernel_rfl) rfl
  · exact enters_of Try.func95 (by kernel_rfl) rfl
  · exact enters_of Try.func116 (by kernel_rfl) rfl
theorem ent_stopped (p : Ph) : ∀ (args : Array Value) (w : World), (callFunc (f_stopped p) args).run Try.prog w = .ok (.enter (f_stopped p) args) w := by
  cases p
  · exact enters_of Try.func107 (by kernel_rfl) rfl
  · exact enters_of Try.func107 (by kernel_rfl) rfl
  · exact enters_of Try.func99 (by kernel_rfl) rfl
  · exact enters_of Try.func118 (by kernel_rfl) rfl
theorem ent_revived (p : Ph) : ∀ (args : Array Value) (w : World), (callFunc (f_revived p) args).run Try.prog w = .ok (.enter (f_revived p) args) w := by
  cases p
  · exact enters_of Try.func97 (by kernel_rfl) rfl
  · exact enters_of Try.func97 (by kernel_rfl) rfl
  · exact enters_of Try.func97 (by kernel_rfl) rfl
  · exact enters_of Try.func117 (by kernel_rfl) rfl
theorem message_ph (p : Ph) {w : World} {P A : Nat} {ty : TypeId} {u : Ru} {r : Rd} (h : RdAt w P A ty u r) :
    Calls Try.prog (f_message p) #[.pointer (some ⟨P, 0, none⟩)] w fun e w' => e = .returned (.agg (mgV (mesP p r))) ∧ Below w.heap.size w w' := by
  cases p
  · exact message_fetch h
  · exact message_swap h
  · exact message_back h
  · exact message_look h
theorem counts_ph (p : Ph) {w : World} {P A : Nat} {ty : TypeId} {u : Ru} {r : Rd} (h : RdAt w P A ty u r) (h16 : u.n ≤ 16) (m : Mg) :
    Calls Try.prog (f_counts p) #[.pointer (some ⟨P, 0, none⟩), .agg (mgV m)] w fun e w' => e = .returned (.bool (cntP p u r m)) ∧ Below w.heap.size w w' := by
  cases p
  · exact counts_fetch h h16 m
  · exact counts_swap h h16 m
  · exact counts_back h h16 m
  · exact counts_look h h16 m
def tickV (p : Ph) (u : Ru) (r : Rd) : Int :=
  match p with
  | .fetch => ftkV u r
  | .swap => paceV u r 3
  | .back => paceV u r 6
  | .look => paceV u r 6
theorem tick_ph (p : Ph) {w : World} {P A : Nat} {ty : TypeId} {u : Ru} {r : Rd} (h : RdAt w P A ty u r) (h0 : 0 ≤ r.tk) (h1 : r.tk ≤ 1000000000000000) (hs : 1 ≤ u.rs) (hs1 : u.rs ≤ 1000000000000000) :
    Calls Try.prog (f_tick p) #[.pointer (some ⟨P, 0, none⟩)] w fun e w' => e = .returned (.int .i64 (tickV p u r)) ∧ RdAt w' P A ty u { r with tk := r.tk + 1 } ∧ Kp w w' (fun k => k = P) := by
  cases p
  · exact tick_fetch h h0 h1 hs hs1
  · exact tick_swap h h0 h1 hs hs1
  · exact tick_back h h0 h1 hs hs1
  · exact tick_look h h0 h1 hs hs1
def comV : Ph → Int
  | .fetch => 2
  | .swap => 4
  | .back => 5
  | .look => 4
def refV : Ph → Int
  | .fetch => 3
  | .swap => 3
  | .back => 0
  | .look => 0
def stpV : Ph → Int
  | .fetch => 3
  | .swap => 3
  | .back => 0
  | .look => 6
set_option maxRecDepth 100000 in
theorem complete_ph (p : Ph) (P : Nat) (w : World) : Calls Try.prog (f_complete p) #[.pointer (some ⟨P, 0, none⟩)] w fun e w' => e = .returned (.int .i64 (comV p)) ∧ w = w' := by
  cases p
  · go_enter Try.func103, Try.ntmps103
    go_wp2_with fail
    go_ret
    exact ⟨rfl, rfl⟩
  · go_enter Try.func109, Try.ntmps109
    go_wp2_with fail
    go_ret
    exact ⟨rfl, rfl⟩
  · go_enter Try.func90, Try.ntmps90
    go_wp2_with fail
    go_ret
    exact ⟨rfl, rfl⟩
  · go_enter Try.func113, Try.ntmps113
    go_wp2_with fail
    go_ret
    exact ⟨rfl, rfl⟩
set_option maxRecDepth 100000 in
theorem refused_ph (p : Ph) (P : Nat) (w : World) : Calls Try.prog (f_refused p) #[.pointer (some ⟨P, 0, none⟩)] w fun e w' => e = .returned (.int .i64 (refV p)) ∧ w = w' := by
  cases p
  · go_enter Try.func106, Try.ntmps106
    go_wp2_with fail
    go_ret
    exact ⟨rfl, rfl⟩
  · go_enter Try.func106, Try.ntmps106
    go_wp2_with fail
    go_ret
    exact ⟨rfl, rfl⟩
  · go_enter Try.func95, Try.ntmps95
    go_wp2_with fail
    go_ret
    exact ⟨rfl, rfl⟩
  · go_enter Try.func116, Try.ntmps116
    go_wp2_with fail
    go_ret
    exact ⟨rfl, rfl⟩
set_option maxRecDepth 100000 in
theorem stopped_ph (p : Ph) (P : Nat) (w : World) : Calls Try.prog (f_stopped p) #[.pointer (some ⟨P, 0, none⟩)] w fun e w' => e = .returned (.int .i64 (stpV p)) ∧ w = w' := by
  cases p
  · go_enter Try.func107, Try.ntmps107
    go_wp2_with fail
    go_ret
    exact ⟨rfl, rfl⟩
  · go_enter Try.func107, Try.ntmps107
    go_wp2_with fail
    go_ret
    exact ⟨rfl, rfl⟩
  · go_enter Try.func99, Try.ntmps99
    go_wp2_with fail
    go_ret
    exact ⟨rfl, rfl⟩
  · go_enter Try.func118, Try.ntmps118
    go_wp2_with fail
    go_ret
    exact ⟨rfl, rfl⟩
end Go.Proofs.Ytpleakkhbfhdkaa.Cn
