import Derived.Test.YtndfhpfhgdamgaaGreatDoorGGmTake
namespace Go.Proofs.YtndfhpfhgdamgaaGreatDoor
open Go.RowKit
set_option maxHeartbeats 8000000 in
set_option linter.unusedSimpArgs false in
set_option maxRecDepth 100000 in
theorem mixed_any (s : ByteArray) (q : Q) (w : World) (hs : s.size = 64) (hq : Q4 q) (hw : 3 ≤ w.heap.size) (hS : TabS 0 w) (hT : TabT 1 w) :
    Calls Tryz.prog 82 #[qV q, .string s] w fun e w' => e = .returned (qV (mixN q s.data.toList)) ∧ Below w.heap.size w w' := by
  have C : Hid (∀ w, Calls Tryz.prog 93 #[.string s] w fun e w' => e = .returned (.agg (wordsArr s.data.toList 16).toArray) ∧ Below w.heap.size w w') := fun w => split_any s w hs
  obtain ⟨a, b, c, d⟩ := q
  obtain ⟨ha, hb, hc, hd⟩ := hq
  simp only at ha hb hc hd
  have HF : Hid (mixN (a, b, c, d) s.data.toList = addQ (a, b, c, d) (rounds (fun j => le4 s.data.toList (4 * j)) (a, b, c, d) 64)) := rfl
  have hM : ∀ j, j < 16 → (wordsArr s.data.toList 16)[j]? = some (.int .u32 (le4 s.data.toList (4 * j) : Int)) := fun j hj => by
    rw [wordsArr_get _ _ _ hj, if_pos hj]
  have hMl : ∀ j, le4 s.data.toList (4 * j) < 4294967296 := fun j => le4_lt _ _
  have hlen : (wordsArr s.data.toList 16).length = 16 := wordsArr_len _ _
  have hone : (wordsArr s.data.toList 16).toArray.all (·.oneCell') = true := all_oneCell_toArray (fun v hv => by
        unfold wordsArr at hv
        obtain ⟨j, _, rfl⟩ := List.mem_map.1 hv
        split <;> rfl)
  generalize wordsArr s.data.toList 16 = WA at *
  generalize hMf : (fun j => le4 s.data.toList (4 * j)) = M at *
  have HM : Hid (∀ j, j < 16 → WA[j]? = some (.int .u32 (M j : Int))) := fun j hj => by rw [hM j hj, ← hMf]
  have HML : Hid (∀ j, M j < 4294967296) := fun j => by rw [← hMf]; exact hMl j
  clear hM hMl hMf
  show Calls Tryz.prog _ #[.agg #[.int .u32 (a : Int), .int .u32 (b : Int), .int .u32 (c : Int), .int .u32 (d : Int)], .string s] w _
  have HS := hide hS
  have HT := hide hT
  clear hS hT
  go_enter Tryz.func82, Tryz.ntmps82
  go_wp2_with fail
  refine Calls.mono (C.out _) ?_
  rintro e w1 ⟨rfl, hb1⟩
  have hs1 : w.heap.size + 2 ≤ w1.heap.size := by have := hb1.size; simp at this; omega
  have g0 : w1.rangeAt w.heap.size 0 [.int .u32 (a : Int), .int .u32 (b : Int), .int .u32 (c : Int), .int .u32 (d : Int)] := fun j v hv => by
    rw [hb1.cell (p := ⟨w.heap.size, 0 + j, none⟩) (by show w.heap.size < _; simp; omega), cell_of_row _ _ (0 + j) _ _ _ (heap_new1 w _ _)]
    simpa using hv
  have g1 : w1.heap[w.heap.size + 1]? = some (.cells #[.int .u32 0, .int .u32 0, .int .u32 0, .int .u32 0] 127 (0, 0)) := by
    rw [hb1.block (w.heap.size + 1) (by simp)]
    exact heap_new2 w _ _
  have g2 : Below w.heap.size w w1 := (((Below.refl _ w).alloc (Nat.le_refl _) _).alloc (by simp) _).trans (hb1.mono (by simp; omega))
  clear hb1
  have F : ∀ cs : Array Value, cs.size = 16 → (w1.alloc (.cells cs 171)).there w1.heap.size 0 WA.toArray.size ∧
      ((w1.alloc (.cells cs 171)).setCells w1.heap.size 0 WA).rangeAt w.heap.size 0 [.int .u32 (a : Int), .int .u32 (b : Int), .int .u32 (c : Int), .int .u32 (d : Int)] ∧
      ((w1.alloc (.cells cs 171)).setCells w1.heap.size 0 WA).there (w.heap.size + 1) 0 4 ∧
      ((w1.alloc (.cells cs 171)).setCells w1.heap.size 0 WA).rangeAt w1.heap.size 0 WA ∧
      Below w.heap.size w ((w1.alloc (.cells cs 171)).setCells w1.heap.size 0 WA) := by
    intro cs hcs
    have t0 : (w1.alloc (.cells cs 171)).heap[w1.heap.size]? = some (.cells cs 171 (0, 0)) := by
      show (w1.heap.push _)[w1.heap.size]? = _
      rw [Array.getElem?_push, if_pos rfl]
    have t1 : (w1.alloc (.cells cs 171)).there w1.heap.size 0 WA.length := there_of_block t0 0 (by omega)
    have t2 : (w1.alloc (.cells cs 171)).there (w.heap.size + 1) 0 4 := World.there_alloc (there_of_block g1 0 (by simp)) _
    refine ⟨by simpa using t1, ?_, World.there_setCells t2 _ _ _, World.rangeAt_setCells_same _ _ _ _ t1, ?_⟩
    · exact World.rangeAt_setCells_apart (World.rangeAt_alloc g0 _) _ _ _ (Or.inl (by omega))
    · exact below_setCells (g2.alloc g2.size _) (by omega) _
  go_wp2_with (refine wpList_store_mid rfl 171 _ _ rfl w1.heap.size 0 WA.toArray rfl rfl (F _ rfl).1 (by rw [List.size_toArray, hlen]; kernel_rfl) hone ?_)
  obtain ⟨_, R0, RT, RM, RB⟩ := F _ (show (#[Value.int .u32 0, .int .u32 0, .int .u32 0, .int .u32 0, .int .u32 0, .int .u32 0, .int .u32 0, .int .u32 0, .int .u32 0, .int .u32 0, .int .u32 0, .int .u32 0, .int .u32 0, .int .u32 0, .int .u32 0, .int .u32 0] : Array Value).size = 16 from rfl)
  (try simp only [Act.put, List.setIfInBounds_toArray, List.set_cons_zero, List.set_cons_succ])
  generalize ((w1.alloc (.cells #[Value.int .u32 0, .int .u32 0, .int .u32 0, .int .u32 0, .int .u32 0, .int .u32 0, .int .u32 0, .int .u32 0, .int .u32 0, .int .u32 0, .int .u32 0, .int .u32 0, .int .u32 0, .int .u32 0, .int .u32 0, .int .u32 0] 171)).setCells w1.heap.size 0 WA) = W2 at *
  clear F g0 g1 g2 hone
  generalize hm1 : w1.heap.size = m1 at *
  have c0 := R0 0 _ rfl
  have c1 := R0 1 _ rfl
  have c2 := R0 2 _ rfl
  have c3 := R0 3 _ rfl
  simp only [Nat.zero_add] at c0 c1 c2 c3
  go_wp2_with fail
  go_region_held3 (fun w' => w'.cell? ⟨w.heap.size, 0, none⟩ = some (.int .u32 (a : Int)) ∧ w'.cell? ⟨w.heap.size, 1, none⟩ = some (.int .u32 (b : Int)) ∧ w'.cell? ⟨w.heap.size, 2, none⟩ = some (.int .u32 (c : Int)) ∧ w'.cell? ⟨w.heap.size, 3, none⟩ = some (.int .u32 (d : Int))) (go_keep) (fail)
  go_wp2
  go_loopw [6, 7, 8, 9, 24] (fun va vb vc vd i wr => ∃ k : Nat, k ≤ 64 ∧ i = .int .i64 k ∧ va = .int .u32 ((rounds M (a, b, c, d) k).1 : Int) ∧ vb = .int .u32 ((rounds M (a, b, c, d) k).2.1 : Int) ∧ vc = .int .u32 ((rounds M (a, b, c, d) k).2.2.1 : Int) ∧ vd = .int .u32 ((rounds M (a, b, c, d) k).2.2.2 : Int) ∧
      wr.rangeAt w.heap.size 0 [.int .u32 (a : Int), .int .u32 (b : Int), .int .u32 (c : Int), .int .u32 (d : Int)] ∧ wr.there (w.heap.size + 1) 0 4 ∧ wr.rangeAt m1 0 WA ∧ Below w.heap.size w wr)
    (fun _ _ _ _ i _ => 64 - (intOf i).toNat)
  case atStart => exact ⟨0, by omega, rfl, rfl, rfl, rfl, rfl, by simpa using R0, by simpa using RT, by simpa using RM, RB.drew⟩
  case round =>
    clear c0 c1 c2 c3
    obtain ⟨k, hk, rfl, rfl, rfl, rfl, rfl, R0', RT', RM', RB'⟩ := hrel
    have hlt4 := rounds_lt M (a, b, c, d) ⟨ha, hb, hc, hd⟩ k
    have HSUC : Hid (rounds M (a, b, c, d) (k + 1) = rnd M k (rounds M (a, b, c, d) k)) := rfl
    by_cases hlt : k < 64
    · generalize rounds M (a, b, c, d) k = q at *
      obtain ⟨A, B, C', D⟩ := q
      obtain ⟨hA, hB, hC, hD⟩ := hlt4
      simp only at hA hB hC hD
      have cS : wr.cell? ⟨0, k, none⟩ = some (.int .u32 (sin k : Int)) := (RB'.cell (p := ⟨0, k, none⟩) (by show 0 < _; omega)).trans (HS.out k hlt)
      have hS4 := sin_lt k hlt
      have cT : wr.cell? ⟨1, 4 * (k / 16) + k % 4, none⟩ = some (.int .i64 (trn (4 * (k / 16) + k % 4) : Int)) := (RB'.cell (p := ⟨1, 4 * (k / 16) + k % 4, none⟩) (by show 1 < _; omega)).trans (HT.out _ (by omega))
      have hT4 := trn_lt (4 * (k / 16) + k % 4) (by omega)
      generalize hts : sin k = sk at *
      generalize htt : trn (4 * (k / 16) + k % 4) = tk at *
      have HST : Hid (sin k = sk ∧ trn (4 * (k / 16) + k % 4) = tk) := ⟨hts, htt⟩
      clear hts htt
      have nB := bnot32 B hB
      have nD := bnot32 D hD
      have hnB : 4294967295 ^^^ B < 4294967296 := xor32_lt (by omega) hB
      have hnD : 4294967295 ^^^ D < 4294967296 := xor32_lt (by omega) hD
      generalize hnb : 4294967295 ^^^ B = NB at *
      generalize hnd : 4294967295 ^^^ D = ND at *
      have HN := hide (And.intro hnb hnd)
      clear hnb hnd
      rcases (show k / 16 = 0 ∨ k / 16 = 1 ∨ k / 16 = 2 ∨ k / 16 = 3 by omega) with hq | hq | hq | hq
      · have z : (k : Int) / 16 = 0 := by omega
        have x1 := band32 B C' hB hC
        have l1 : B &&& C' < 4294967296 := Nat.and_lt_two_pow (n := 32) _ hC
        have x2 := band32 NB D hnB hD
        have l2 : NB &&& D < 4294967296 := Nat.and_lt_two_pow (n := 32) _ hD
        have HFk : Hid (fN k B C' D = (B &&& C') ||| (NB &&& D)) := by show fN k B C' D = _; unfold fN; rw [if_pos hq, HN.out.1]
        generalize B &&& C' = X1 at *
        generalize NB &&& D = X2 at *
        have x3 := bor32 X1 X2 l1 l2
        have l3 : X1 ||| X2 < 4294967296 := Nat.or_lt_two_pow (n := 32) l1 l2
        generalize X1 ||| X2 = f at *
        have Hg : Hid (gN k = k) := by show gN k = _; unfold gN; rw [if_pos hq]
        obtain ⟨gg, hgg⟩ : ∃ gg, gg = (k) % 16 := ⟨_, rfl⟩
        obtain ⟨kr, hkr⟩ : ∃ kr, kr = k % 4 := ⟨_, rfl⟩
        have hg0 : (0 : Int) ≤ (gg : Int) := by omega
        have hg1 : (gg : Int) < 16 := by omega
        have hr0 : (0 : Int) ≤ (kr : Int) := by omega
        have hr1 : (kr : Int) < 4 := by omega
        have cM : wr.cell? ⟨m1, gg, none⟩ = some (.int .u32 (M gg : Int)) := by
          have := RM' gg _ (HM.out _ (by omega))
          rwa [Nat.zero_add] at this
        have hM4 := HML.out gg
        have HRN := rnd_eq M k A B C' D
        rw [HFk.out, Hg.out, HST.out.1, HST.out.2, ← hgg] at HRN
        rw [show 4 * (k / 16) + k % 4 = kr by omega] at cT
        obtain ⟨y1, hy1⟩ : ∃ y1, y1 = (A + f) % 4294967296 := ⟨_, rfl⟩
        obtain ⟨y2, hy2⟩ : ∃ y2, y2 = (y1 + sk) % 4294967296 := ⟨_, rfl⟩
        obtain ⟨y3, hy3⟩ : ∃ y3, y3 = (y2 + M gg) % 4294967296 := ⟨_, rfl⟩
        have hy3l : y3 < 4294967296 := by rw [hy3]; exact Nat.mod_lt _ (by omega)
        obtain ⟨y4, hy4⟩ : ∃ y4, y4 = (B + rotN y3 tk) % 4294967296 := ⟨_, rfl⟩
        rw [← hy1, ← hy2, ← hy3, ← hy4] at HRN
        have HRN' := hide HRN
        have HY1 := hide hy1
        have HY2 := hide hy2
        have HY3 := hide hy3
        have HY4 := hide hy4
        have HGG := hide hgg
        have HKR := hide hkr
        have CR : Hid (∀ w', Calls Tryz.prog 94 #[.int .u32 (y3 : Int), .int .i64 (tk : Int)] w' fun e w'' => e = .returned (.int .u32 (rotN y3 tk : Int)) ∧ w' = w'') := fun w' => rot_any y3 tk hy3l hT4.1 hT4.2 w'
        clear hy1 hy2 hy3 hy4 HRN hgg hkr
        generalize rotN y3 tk = rt at *
        generalize M gg = mg at *
        have gi0 : (0 : Int) ≤ (k : Int) := by omega
        go_wp2_with fail
        refine wp_region_held_drew (S := fun w' => w'.cell? ⟨0, k, none⟩ = some (.int .u32 (sk : Int)) ∧ w'.cell? ⟨1, kr, none⟩ = some (.int .i64 (tk : Int)) ∧ w'.cell? ⟨m1, gg, none⟩ = some (.int .u32 (mg : Int))) (by kernel_rfl) ⟨cS, cT, cM⟩ (fun hHeld => ?_)
        refine wpAnyH_take (i := 0) (v := (.int .u32 (B : Int))) rfl (by kernel_rfl) (by kernel_rfl) (by kernel_rfl) (fun _ _ _ h => h) (Or.inl ⟨by rfl, ?_⟩) (by assumption) ?_
        · intro w' hSw
          (try dsimp only at hSw)
          go_simp <;> first | exact i64_in (by omega) (by omega) | exact u32_in (by omega) (by omega) | exact u32_add _ _ | (rw [Int.tmod_eq_emod_of_nonneg (by omega)]; omega) | (rw [Int.tdiv_eq_ediv_of_nonneg (by omega)]; omega) | omega
        (try simp only [Act.put, List.setIfInBounds_toArray, List.set_cons_zero, List.set_cons_succ])
        refine wpAnyH_take (i := 1) (v := (.int .u32 (A : Int))) rfl (by kernel_rfl) (by kernel_rfl) (by kernel_rfl) (fun _ _ _ h => h) (Or.inl ⟨by rfl, ?_⟩) (by assumption) ?_
        · intro w' hSw
          (try dsimp only at hSw)
          go_simp <;> first | exact i64_in (by omega) (by omega) | exact u32_in (by omega) (by omega) | exact u32_add _ _ | (rw [Int.tmod_eq_emod_of_nonneg (by omega)]; omega) | (rw [Int.tdiv_eq_ediv_of_nonneg (by omega)]; omega) | omega
        (try simp only [Act.put, List.setIfInBounds_toArray, List.set_cons_zero, List.set_cons_succ])
        refine wpAnyH_take (i := 2) (v := (.int .u32 (f : Int))) rfl (by kernel_rfl) (by kernel_rfl) (by kernel_rfl) (fun _ _ _ h => h) (Or.inl ⟨by rfl, ?_⟩) (by assumption) ?_
        · intro w' hSw
          (try dsimp only at hSw)
          go_simp <;> first | exact i64_in (by omega) (by omega) | exact u32_in (by omega) (by omega) | exact u32_add _ _ | (rw [Int.tmod_eq_emod_of_nonneg (by omega)]; omega) | (rw [Int.tdiv_eq_ediv_of_nonneg (by omega)]; omega) | omega
        (try simp only [Act.put, List.setIfInBounds_toArray, List.set_cons_zero, List.set_cons_succ])
        refine wpAnyH_take (i := 3) (v := (.int .u32 (y1 : Int))) rfl (by kernel_rfl) (by kernel_rfl) (by kernel_rfl) (fun _ _ _ h => h) (Or.inl ⟨by rfl, ?_⟩) (by assumption) ?_
        · intro w' hSw
          (try dsimp only at hSw)
          (go_simp; rw [u32_add, HY1.out])
        (try simp only [Act.put, List.setIfInBounds_toArray, List.set_cons_zero, List.set_cons_succ])
        refine wpAnyH_take (i := 4) (v := (.int .i64 (k : Int))) rfl (by kernel_rfl) (by kernel_rfl) (by kernel_rfl) (fun _ _ _ h => h) (Or.inl ⟨by rfl, ?_⟩) (by assumption) ?_
        · intro w' hSw
          (try dsimp only at hSw)
          go_simp <;> first | exact i64_in (by omega) (by omega) | exact u32_in (by omega) (by omega) | exact u32_add _ _ | (rw [Int.tmod_eq_emod_of_nonneg (by omega)]; omega) | (rw [Int.tdiv_eq_ediv_of_nonneg (by omega)]; omega) | omega
        (try simp only [Act.put, List.setIfInBounds_toArray, List.set_cons_zero, List.set_cons_succ])
        refine wpAnyH_take (i := 5) (v := (.pointer (some ⟨0, k, none⟩))) rfl (by kernel_rfl) (by kernel_rfl) (by kernel_rfl) (fun _ _ _ h => h) (Or.inl ⟨by rfl, ?_⟩) (by assumption) ?_
        · intro w' hSw
          (try dsimp only at hSw)
          go_simp <;> first | exact i64_in (by omega) (by omega) | exact u32_in (by omega) (by omega) | exact u32_add _ _ | (rw [Int.tmod_eq_emod_of_nonneg (by omega)]; omega) | (rw [Int.tdiv_eq_ediv_of_nonneg (by omega)]; omega) | omega
        (try simp only [Act.put, List.setIfInBounds_toArray, List.set_cons_zero, List.set_cons_succ])
        refine wpAnyH_take (i := 6) (v := (.int .u32 (sk : Int))) rfl (by kernel_rfl) (by kernel_rfl) (by kernel_rfl) (fun _ _ _ h => h) (Or.inl ⟨by rfl, ?_⟩) (by assumption) ?_
        · intro w' hSw
          (try dsimp only at hSw)
          (obtain ⟨hS1, hS2, hS3⟩ := hSw; go_simp)
        (try simp only [Act.put, List.setIfInBounds_toArray, List.set_cons_zero, List.set_cons_succ])
        refine wpAnyH_take (i := 7) (v := (.int .u32 (y2 : Int))) rfl (by kernel_rfl) (by kernel_rfl) (by kernel_rfl) (fun _ _ _ h => h) (Or.inl ⟨by rfl, ?_⟩) (by assumption) ?_
        · intro w' hSw
          (try dsimp only at hSw)
          (go_simp; rw [u32_add, HY2.out])
        (try simp only [Act.put, List.setIfInBounds_toArray, List.set_cons_zero, List.set_cons_succ])
        refine wpAnyH_take (i := 8) (v := (.int .i64 ((k : Int)))) rfl (by kernel_rfl) (by kernel_rfl) (by kernel_rfl) (fun _ _ _ h => h) (Or.inl ⟨by rfl, ?_⟩) (by assumption) ?_
        · intro w' hSw
          (try dsimp only at hSw)
          go_simp <;> first | exact i64_in (by omega) (by omega) | exact u32_in (by omega) (by omega) | exact u32_add _ _ | (rw [Int.tmod_eq_emod_of_nonneg (by omega)]; omega) | (rw [Int.tdiv_eq_ediv_of_nonneg (by omega)]; omega) | omega
        (try simp only [Act.put, List.setIfInBounds_toArray, List.set_cons_zero, List.set_cons_succ])
        refine wpAnyH_take (i := 9) (v := (.int .i64 (gg : Int))) rfl (by kernel_rfl) (by kernel_rfl) (by kernel_rfl) (fun _ _ _ h => h) (Or.inl ⟨by rfl, ?_⟩) (by assumption) ?_
        · intro w' hSw
          (try dsimp only at hSw)
          (go_simp; rw [Int.tmod_eq_emod_of_nonneg gi0]; have := HGG.out; omega)
        (try simp only [Act.put, List.setIfInBounds_toArray, List.set_cons_zero, List.set_cons_succ])
        refine wpAnyH_take (i := 10) (v := (.pointer (some ⟨m1, gg, none⟩))) rfl (by kernel_rfl) (by kernel_rfl) (by kernel_rfl) (fun _ _ _ h => h) (Or.inl ⟨by rfl, ?_⟩) (by assumption) ?_
        · intro w' hSw
          (try dsimp only at hSw)
          go_simp <;> first | exact i64_in (by omega) (by omega) | exact u32_in (by omega) (by omega) | exact u32_add _ _ | (rw [Int.tmod_eq_emod_of_nonneg (by omega)]; omega) | (rw [Int.tdiv_eq_ediv_of_nonneg (by omega)]; omega) | omega
        (try simp only [Act.put, List.setIfInBounds_toArray, List.set_cons_zero, List.set_cons_succ])
        refine wpAnyH_take (i := 11) (v := (.int .u32 (mg : Int))) rfl (by kernel_rfl) (by kernel_rfl) (by kernel_rfl) (fun _ _ _ h => h) (Or.inl ⟨by rfl, ?_⟩) (by assumption) ?_
        · intro w' hSw
          (try dsimp only at hSw)
          (obtain ⟨hS1, hS2, hS3⟩ := hSw; go_simp)
        (try simp only [Act.put, List.setIfInBounds_toArray, List.set_cons_zero, List.set_cons_succ])
        refine wpAnyH_take (i := 12) (v := (.int .u32 (y3 : Int))) rfl (by kernel_rfl) (by kernel_rfl) (by kernel_rfl) (fun _ _ _ h => h) (Or.inl ⟨by rfl, ?_⟩) (by assumption) ?_
        · intro w' hSw
          (try dsimp only at hSw)
          (go_simp; rw [u32_add, HY3.out])
        (try simp only [Act.put, List.setIfInBounds_toArray, List.set_cons_zero, List.set_cons_succ])
        refine wpAnyH_take (i := 13) (v := (.int .i64 (k : Int))) rfl (by kernel_rfl) (by kernel_rfl) (by kernel_rfl) (fun _ _ _ h => h) (Or.inl ⟨by rfl, ?_⟩) (by assumption) ?_
        · intro w' hSw
          (try dsimp only at hSw)
          go_simp <;> first | exact i64_in (by omega) (by omega) | exact u32_in (by omega) (by omega) | exact u32_add _ _ | (rw [Int.tmod_eq_emod_of_nonneg (by omega)]; omega) | (rw [Int.tdiv_eq_ediv_of_nonneg (by omega)]; omega) | omega
        (try simp only [Act.put, List.setIfInBounds_toArray, List.set_cons_zero, List.set_cons_succ])
        refine wpAnyH_take (i := 14) (v := (.int .i64 0)) rfl (by kernel_rfl) (by kernel_rfl) (by kernel_rfl) (fun _ _ _ h => h) (Or.inl ⟨by rfl, ?_⟩) (by assumption) ?_
        · intro w' hSw
          (try dsimp only at hSw)
          (go_simp; rfl)
        (try simp only [Act.put, List.setIfInBounds_toArray, List.set_cons_zero, List.set_cons_succ])
        refine wpAnyH_take (i := 15) (v := (.int .i64 (k : Int))) rfl (by kernel_rfl) (by kernel_rfl) (by kernel_rfl) (fun _ _ _ h => h) (Or.inl ⟨by rfl, ?_⟩) (by assumption) ?_
        · intro w' hSw
          (try dsimp only at hSw)
          go_simp <;> first | exact i64_in (by omega) (by omega) | exact u32_in (by omega) (by omega) | exact u32_add _ _ | (rw [Int.tmod_eq_emod_of_nonneg (by omega)]; omega) | (rw [Int.tdiv_eq_ediv_of_nonneg (by omega)]; omega) | omega
        (try simp only [Act.put, List.setIfInBounds_toArray, List.set_cons_zero, List.set_cons_succ])
        refine wpAnyH_take (i := 16) (v := (.int .i64 (kr : Int))) rfl (by kernel_rfl) (by kernel_rfl) (by kernel_rfl) (fun _ _ _ h => h) (Or.inl ⟨by rfl, ?_⟩) (by assumption) ?_
        · intro w' hSw
          (try dsimp only at hSw)
          (go_simp; rw [Int.tmod_eq_emod_of_nonneg (by omega)]; have := HKR.out; omega)
        (try simp only [Act.put, List.setIfInBounds_toArray, List.set_cons_zero, List.set_cons_succ])
        refine wpAnyH_take (i := 17) (v := (.pointer (some ⟨1, 0, none⟩))) rfl (by kernel_rfl) (by kernel_rfl) (by kernel_rfl) (fun _ _ _ h => h) (Or.inl ⟨by rfl, ?_⟩) (by assumption) ?_
        · intro w' hSw
          (try dsimp only at hSw)
          go_simp <;> first | exact i64_in (by omega) (by omega) | exact u32_in (by omega) (by omega) | exact u32_add _ _ | (rw [Int.tmod_eq_emod_of_nonneg (by omega)]; omega) | (rw [Int.tdiv_eq_ediv_of_nonneg (by omega)]; omega) | omega
        (try simp only [Act.put, List.setIfInBounds_toArray, List.set_cons_zero, List.set_cons_succ])
        refine wpAnyH_take (i := 18) (v := (.pointer (some ⟨1, kr, none⟩))) rfl (by kernel_rfl) (by kernel_rfl) (by kernel_rfl) (fun _ _ _ h => h) (Or.inl ⟨by rfl, ?_⟩) (by assumption) ?_
        · intro w' hSw
          (try dsimp only at hSw)
          go_simp <;> first | exact i64_in (by omega) (by omega) | exact u32_in (by omega) (by omega) | exact u32_add _ _ | (rw [Int.tmod_eq_emod_of_nonneg (by omega)]; omega) | (rw [Int.tdiv_eq_ediv_of_nonneg (by omega)]; omega) | omega
        (try simp only [Act.put, List.setIfInBounds_toArray, List.set_cons_zero, List.set_cons_succ])
        refine wpAnyH_take (i := 19) (v := (.int .i64 (tk : Int))) rfl (by kernel_rfl) (by kernel_rfl) (by kernel_rfl) (fun _ _ _ h => h) (Or.inl ⟨by rfl, ?_⟩) (by assumption) ?_
        · intro w' hSw
          (try dsimp only at hSw)
          (obtain ⟨hS1, hS2, hS3⟩ := hSw; go_simp)
        (try simp only [Act.put, List.setIfInBounds_toArray, List.set_cons_zero, List.set_cons_succ])
        refine wpAnyH_ready (rs := [20]) (by kernel_rfl) (by simp) ?_
        refine AllReadyH.cons rfl (fun K hK => ?_) AllReadyH.nil
        go_simp
        refine Calls.mono (CR.out _) ?_
        rintro e w9 ⟨rfl, rfl⟩
        refine hK.out _ _ hHeld (fun hHeld => ?_)
        clear hK K
        refine wpAnyH_take (i := 21) (v := (.int .u32 (y4 : Int))) rfl (by kernel_rfl) (by kernel_rfl) (by kernel_rfl) (fun _ _ _ h => h) (Or.inl ⟨by rfl, ?_⟩) (by assumption) ?_
        · intro w' hSw
          (try dsimp only at hSw)
          (go_simp; rw [u32_add, HY4.out])
        (try simp only [Act.put, List.setIfInBounds_toArray, List.set_cons_zero, List.set_cons_succ])
        refine wpAnyH_take (i := 22) (v := (.int .u32 (y4 : Int))) rfl (by kernel_rfl) (by kernel_rfl) (by kernel_rfl) (fun _ _ _ h => h) (Or.inl ⟨by rfl, ?_⟩) (by assumption) ?_
        · intro w' hSw
          (try dsimp only at hSw)
          go_simp <;> first | exact i64_in (by omega) (by omega) | exact u32_in (by omega) (by omega) | exact u32_add _ _ | (rw [Int.tmod_eq_emod_of_nonneg (by omega)]; omega) | (rw [Int.tdiv_eq_ediv_of_nonneg (by omega)]; omega) | omega
        (try simp only [Act.put, List.setIfInBounds_toArray, List.set_cons_zero, List.set_cons_succ])
        refine wpAnyH_done (by kernel_rfl) ?_ _
        go_wp2
        go_roundw
        case rel => exact ⟨k + 1, by omega, by go_num, by rw [HSUC.out, HRN'.out], by rw [HSUC.out, HRN'.out], by rw [HSUC.out, HRN'.out], by rw [HSUC.out, HRN'.out], by simpa using R0', by simpa using RT', by simpa using RM', RB'.drew⟩
        case measure => simp [intOf]; omega
      · have z : (k : Int) / 16 = 1 := by omega
        have x1 := band32 D B hD hB
        have l1 : D &&& B < 4294967296 := Nat.and_lt_two_pow (n := 32) _ hB
        have x2 := band32 ND C' hnD hC
        have l2 : ND &&& C' < 4294967296 := Nat.and_lt_two_pow (n := 32) _ hC
        have HFk : Hid (fN k B C' D = (D &&& B) ||| (ND &&& C')) := by show fN k B C' D = _; unfold fN; rw [if_neg (by omega), if_pos hq, HN.out.2]
        generalize D &&& B = X1 at *
        generalize ND &&& C' = X2 at *
        have x3 := bor32 X1 X2 l1 l2
        have l3 : X1 ||| X2 < 4294967296 := Nat.or_lt_two_pow (n := 32) l1 l2
        generalize X1 ||| X2 = f at *
        have Hg : Hid (gN k = 5 * k + 1) := by show gN k = _; unfold gN; rw [if_neg (by omega), if_pos hq]
        obtain ⟨gg, hgg⟩ : ∃ gg, gg = (5 * k + 1) % 16 := ⟨_, rfl⟩
        obtain ⟨kr, hkr⟩ : ∃ kr, kr = k % 4 := ⟨_, rfl⟩
        have hg0 : (0 : Int) ≤ (gg : Int) := by omega
        have hg1 : (gg : Int) < 16 := by omega
        have hr0 : (0 : Int) ≤ (kr : Int) := by omega
        have hr1 : (kr : Int) < 4 := by omega
        have cM : wr.cell? ⟨m1, gg, none⟩ = some (.int .u32 (M gg : Int)) := by
          have := RM' gg _ (HM.out _ (by omega))
          rwa [Nat.zero_add] at this
        have hM4 := HML.out gg
        have HRN := rnd_eq M k A B C' D
        rw [HFk.out, Hg.out, HST.out.1, HST.out.2, ← hgg] at HRN
        rw [show 4 * (k / 16) + k % 4 = 4 + kr by omega] at cT
        obtain ⟨y1, hy1⟩ : ∃ y1, y1 = (A + f) % 4294967296 := ⟨_, rfl⟩
        obtain ⟨y2, hy2⟩ : ∃ y2, y2 = (y1 + sk) % 4294967296 := ⟨_, rfl⟩
        obtain ⟨y3, hy3⟩ : ∃ y3, y3 = (y2 + M gg) % 4294967296 := ⟨_, rfl⟩
        have hy3l : y3 < 4294967296 := by rw [hy3]; exact Nat.mod_lt _ (by omega)
        obtain ⟨y4, hy4⟩ : ∃ y4, y4 = (B + rotN y3 tk) % 4294967296 := ⟨_, rfl⟩
        rw [← hy1, ← hy2, ← hy3, ← hy4] at HRN
        have HRN' := hide HRN
        have HY1 := hide hy1
        have HY2 := hide hy2
        have HY3 := hide hy3
        have HY4 := hide hy4
        have HGG := hide hgg
        have HKR := hide hkr
        have CR : Hid (∀ w', Calls Tryz.prog 94 #[.int .u32 (y3 : Int), .int .i64 (tk : Int)] w' fun e w'' => e = .returned (.int .u32 (rotN y3 tk : Int)) ∧ w' = w'') := fun w' => rot_any y3 tk hy3l hT4.1 hT4.2 w'
        clear hy1 hy2 hy3 hy4 HRN hgg hkr
        generalize rotN y3 tk = rt at *
        generalize M gg = mg at *
        have gi0 : (0 : Int) ≤ (5 * (k : Int) + 1) := by omega
        go_wp2_with fail
        refine wp_region_held_drew (S := fun w' => w'.cell? ⟨0, k, none⟩ = some (.int .u32 (sk : Int)) ∧ w'.cell? ⟨1, 4 + kr, none⟩ = some (.int .i64 (tk : Int)) ∧ w'.cell? ⟨m1, gg, none⟩ = some (.int .u32 (mg : Int))) (by kernel_rfl) ⟨cS, cT, cM⟩ (fun hHeld => ?_)
        refine wpAnyH_take (i := 0) (v := (.int .u32 (B : Int))) rfl (by kernel_rfl) (by kernel_rfl) (by kernel_rfl) (fun _ _ _ h => h) (Or.inl ⟨by rfl, ?_⟩) (by assumption) ?_
        · intro w' hSw
          (try dsimp only at hSw)
          go_simp <;> first | exact i64_in (by omega) (by omega) | exact u32_in (by omega) (by omega) | exact u32_add _ _ | (rw [Int.tmod_eq_emod_of_nonneg (by omega)]; omega) | (rw [Int.tdiv_eq_ediv_of_nonneg (by omega)]; omega) | omega
        (try simp only [Act.put, List.setIfInBounds_toArray, List.set_cons_zero, List.set_cons_succ])
        refine wpAnyH_take (i := 1) (v := (.int .u32 (A : Int))) rfl (by kernel_rfl) (by kernel_rfl) (by kernel_rfl) (fun _ _ _ h => h) (Or.inl ⟨by rfl, ?_⟩) (by assumption) ?_
        · intro w' hSw
          (try dsimp only at hSw)
          go_simp <;> first | exact i64_in (by omega) (by omega) | exact u32_in (by omega) (by omega) | exact u32_add _ _ | (rw [Int.tmod_eq_emod_of_nonneg (by omega)]; omega) | (rw [Int.tdiv_eq_ediv_of_nonneg (by omega)]; omega) | omega
        (try simp only [Act.put, List.setIfInBounds_toArray, List.set_cons_zero, List.set_cons_succ])
        refine wpAnyH_take (i := 2) (v := (.int .u32 (f : Int))) rfl (by kernel_rfl) (by kernel_rfl) (by kernel_rfl) (fun _ _ _ h => h) (Or.inl ⟨by rfl, ?_⟩) (by assumption) ?_
        · intro w' hSw
          (try dsimp only at hSw)
          go_simp <;> first | exact i64_in (by omega) (by omega) | exact u32_in (by omega) (by omega) | exact u32_add _ _ | (rw [Int.tmod_eq_emod_of_nonneg (by omega)]; omega) | (rw [Int.tdiv_eq_ediv_of_nonneg (by omega)]; omega) | omega
        (try simp only [Act.put, List.setIfInBounds_toArray, List.set_cons_zero, List.set_cons_succ])
        refine wpAnyH_take (i := 3) (v := (.int .u32 (y1 : Int))) rfl (by kernel_rfl) (by kernel_rfl) (by kernel_rfl) (fun _ _ _ h => h) (Or.inl ⟨by rfl, ?_⟩) (by assumption) ?_
        · intro w' hSw
          (try dsimp only at hSw)
          (go_simp; rw [u32_add, HY1.out])
        (try simp only [Act.put, List.setIfInBounds_toArray, List.set_cons_zero, List.set_cons_succ])
        refine wpAnyH_take (i := 4) (v := (.int .i64 (k : Int))) rfl (by kernel_rfl) (by kernel_rfl) (by kernel_rfl) (fun _ _ _ h => h) (Or.inl ⟨by rfl, ?_⟩) (by assumption) ?_
        · intro w' hSw
          (try dsimp only at hSw)
          go_simp <;> first | exact i64_in (by omega) (by omega) | exact u32_in (by omega) (by omega) | exact u32_add _ _ | (rw [Int.tmod_eq_emod_of_nonneg (by omega)]; omega) | (rw [Int.tdiv_eq_ediv_of_nonneg (by omega)]; omega) | omega
        (try simp only [Act.put, List.setIfInBounds_toArray, List.set_cons_zero, List.set_cons_succ])
        refine wpAnyH_take (i := 5) (v := (.pointer (some ⟨0, k, none⟩))) rfl (by kernel_rfl) (by kernel_rfl) (by kernel_rfl) (fun _ _ _ h => h) (Or.inl ⟨by rfl, ?_⟩) (by assumption) ?_
        · intro w' hSw
          (try dsimp only at hSw)
          go_simp <;> first | exact i64_in (by omega) (by omega) | exact u32_in (by omega) (by omega) | exact u32_add _ _ | (rw [Int.tmod_eq_emod_of_nonneg (by omega)]; omega) | (rw [Int.tdiv_eq_ediv_of_nonneg (by omega)]; omega) | omega
        (try simp only [Act.put, List.setIfInBounds_toArray, List.set_cons_zero, List.set_cons_succ])
        refine wpAnyH_take (i := 6) (v := (.int .u32 (sk : Int))) rfl (by kernel_rfl) (by kernel_rfl) (by kernel_rfl) (fun _ _ _ h => h) (Or.inl ⟨by rfl, ?_⟩) (by assumption) ?_
        · intro w' hSw
          (try dsimp only at hSw)
          (obtain ⟨hS1, hS2, hS3⟩ := hSw; go_simp)
        (try simp only [Act.put, List.setIfInBounds_toArray, List.set_cons_zero, List.set_cons_succ])
        refine wpAnyH_take (i := 7) (v := (.int .u32 (y2 : Int))) rfl (by kernel_rfl) (by kernel_rfl) (by kernel_rfl) (fun _ _ _ h => h) (Or.inl ⟨by rfl, ?_⟩) (by assumption) ?_
        · intro w' hSw
          (try dsimp only at hSw)
          (go_simp; rw [u32_add, HY2.out])
        (try simp only [Act.put, List.setIfInBounds_toArray, List.set_cons_zero, List.set_cons_succ])
        refine wpAnyH_take (i := 8) (v := (.int .i64 ((5 * (k : Int) + 1)))) rfl (by kernel_rfl) (by kernel_rfl) (by kernel_rfl) (fun _ _ _ h => h) (Or.inl ⟨by rfl, ?_⟩) (by assumption) ?_
        · intro w' hSw
          (try dsimp only at hSw)
          go_simp <;> first | exact i64_in (by omega) (by omega) | exact u32_in (by omega) (by omega) | exact u32_add _ _ | (rw [Int.tmod_eq_emod_of_nonneg (by omega)]; omega) | (rw [Int.tdiv_eq_ediv_of_nonneg (by omega)]; omega) | omega
        (try simp only [Act.put, List.setIfInBounds_toArray, List.set_cons_zero, List.set_cons_succ])
        refine wpAnyH_take (i := 9) (v := (.int .i64 (gg : Int))) rfl (by kernel_rfl) (by kernel_rfl) (by kernel_rfl) (fun _ _ _ h => h) (Or.inl ⟨by rfl, ?_⟩) (by assumption) ?_
        · intro w' hSw
          (try dsimp only at hSw)
          (go_simp; rw [Int.tmod_eq_emod_of_nonneg gi0]; have := HGG.out; omega)
        (try simp only [Act.put, List.setIfInBounds_toArray, List.set_cons_zero, List.set_cons_succ])
        refine wpAnyH_take (i := 10) (v := (.pointer (some ⟨m1, gg, none⟩))) rfl (by kernel_rfl) (by kernel_rfl) (by kernel_rfl) (fun _ _ _ h => h) (Or.inl ⟨by rfl, ?_⟩) (by assumption) ?_
        · intro w' hSw
          (try dsimp only at hSw)
          go_simp <;> first | exact i64_in (by omega) (by omega) | exact u32_in (by omega) (by omega) | exact u32_add _ _ | (rw [Int.tmod_eq_emod_of_nonneg (by omega)]; omega) | (rw [Int.tdiv_eq_ediv_of_nonneg (by omega)]; omega) | omega
        (try simp only [Act.put, List.setIfInBounds_toArray, List.set_cons_zero, List.set_cons_succ])
        refine wpAnyH_take (i := 11) (v := (.int .u32 (mg : Int))) rfl (by kernel_rfl) (by kernel_rfl) (by kernel_rfl) (fun _ _ _ h => h) (Or.inl ⟨by rfl, ?_⟩) (by assumption) ?_
        · intro w' hSw
          (try dsimp only at hSw)
          (obtain ⟨hS1, hS2, hS3⟩ := hSw; go_simp)
        (try simp only [Act.put, List.setIfInBounds_toArray, List.set_cons_zero, List.set_cons_succ])
        refine wpAnyH_take (i := 12) (v := (.int .u32 (y3 : Int))) rfl (by kernel_rfl) (by kernel_rfl) (by kernel_rfl) (fun _ _ _ h => h) (Or.inl ⟨by rfl, ?_⟩) (by assumption) ?_
        · intro w' hSw
          (try dsimp only at hSw)
          (go_simp; rw [u32_add, HY3.out])
        (try simp only [Act.put, List.setIfInBounds_toArray, List.set_cons_zero, List.set_cons_succ])
        refine wpAnyH_take (i := 13) (v := (.int .i64 (k : Int))) rfl (by kernel_rfl) (by kernel_rfl) (by kernel_rfl) (fun _ _ _ h => h) (Or.inl ⟨by rfl, ?_⟩) (by assumption) ?_
        · intro w' hSw
          (try dsimp only at hSw)
          go_simp <;> first | exact i64_in (by omega) (by omega) | exact u32_in (by omega) (by omega) | exact u32_add _ _ | (rw [Int.tmod_eq_emod_of_nonneg (by omega)]; omega) | (rw [Int.tdiv_eq_ediv_of_nonneg (by omega)]; omega) | omega
        (try simp only [Act.put, List.setIfInBounds_toArray, List.set_cons_zero, List.set_cons_succ])
        refine wpAnyH_take (i := 14) (v := (.int .i64 1)) rfl (by kernel_rfl) (by kernel_rfl) (by kernel_rfl) (fun _ _ _ h => h) (Or.inl ⟨by rfl, ?_⟩) (by assumption) ?_
        · intro w' hSw
          (try dsimp only at hSw)
          (go_simp; rfl)
        (try simp only [Act.put, List.setIfInBounds_toArray, List.set_cons_zero, List.set_cons_succ])
        refine wpAnyH_take (i := 15) (v := (.int .i64 (k : Int))) rfl (by kernel_rfl) (by kernel_rfl) (by kernel_rfl) (fun _ _ _ h => h) (Or.inl ⟨by rfl, ?_⟩) (by assumption) ?_
        · intro w' hSw
          (try dsimp only at hSw)
          go_simp <;> first | exact i64_in (by omega) (by omega) | exact u32_in (by omega) (by omega) | exact u32_add _ _ | (rw [Int.tmod_eq_emod_of_nonneg (by omega)]; omega) | (rw [Int.tdiv_eq_ediv_of_nonneg (by omega)]; omega) | omega
        (try simp only [Act.put, List.setIfInBounds_toArray, List.set_cons_zero, List.set_cons_succ])
        refine wpAnyH_take (i := 16) (v := (.int .i64 (kr : Int))) rfl (by kernel_rfl) (by kernel_rfl) (by kernel_rfl) (fun _ _ _ h => h) (Or.inl ⟨by rfl, ?_⟩) (by assumption) ?_
        · intro w' hSw
          (try dsimp only at hSw)
          (go_simp; rw [Int.tmod_eq_emod_of_nonneg (by omega)]; have := HKR.out; omega)
        (try simp only [Act.put, List.setIfInBounds_toArray, List.set_cons_zero, List.set_cons_succ])
        refine wpAnyH_take (i := 17) (v := (.pointer (some ⟨1, 4, none⟩))) rfl (by kernel_rfl) (by kernel_rfl) (by kernel_rfl) (fun _ _ _ h => h) (Or.inl ⟨by rfl, ?_⟩) (by assumption) ?_
        · intro w' hSw
          (try dsimp only at hSw)
          go_simp <;> first | exact i64_in (by omega) (by omega) | exact u32_in (by omega) (by omega) | exact u32_add _ _ | (rw [Int.tmod_eq_emod_of_nonneg (by omega)]; omega) | (rw [Int.tdiv_eq_ediv_of_nonneg (by omega)]; omega) | omega
        (try simp only [Act.put, List.setIfInBounds_toArray, List.set_cons_zero, List.set_cons_succ])
        refine wpAnyH_take (i := 18) (v := (.pointer (some ⟨1, 4 + kr, none⟩))) rfl (by kernel_rfl) (by kernel_rfl) (by kernel_rfl) (fun _ _ _ h => h) (Or.inl ⟨by rfl, ?_⟩) (by assumption) ?_
        · intro w' hSw
          (try dsimp only at hSw)
          go_simp <;> first | exact i64_in (by omega) (by omega) | exact u32_in (by omega) (by omega) | exact u32_add _ _ | (rw [Int.tmod_eq_emod_of_nonneg (by omega)]; omega) | (rw [Int.tdiv_eq_ediv_of_nonneg (by omega)]; omega) | omega
        (try simp only [Act.put, List.setIfInBounds_toArray, List.set_cons_zero, List.set_cons_succ])
        refine wpAnyH_take (i := 19) (v := (.int .i64 (tk : Int))) rfl (by kernel_rfl) (by kernel_rfl) (by kernel_rfl) (fun _ _ _ h => h) (Or.inl ⟨by rfl, ?_⟩) (by assumption) ?_
        · intro w' hSw
          (try dsimp only at hSw)
          (obtain ⟨hS1, hS2, hS3⟩ := hSw; go_simp)
        (try simp only [Act.put, List.setIfInBounds_toArray, List.set_cons_zero, List.set_cons_succ])
        refine wpAnyH_ready (rs := [20]) (by kernel_rfl) (by simp) ?_
        refine AllReadyH.cons rfl (fun K hK => ?_) AllReadyH.nil
        go_simp
        refine Calls.mono (CR.out _) ?_
        rintro e w9 ⟨rfl, rfl⟩
        refine hK.out _ _ hHeld (fun hHeld => ?_)
        clear hK K
        refine wpAnyH_take (i := 21) (v := (.int .u32 (y4 : Int))) rfl (by kernel_rfl) (by kernel_rfl) (by kernel_rfl) (fun _ _ _ h => h) (Or.inl ⟨by rfl, ?_⟩) (by assumption) ?_
        · intro w' hSw
          (try dsimp only at hSw)
          (go_simp; rw [u32_add, HY4.out])
        (try simp only [Act.put, List.setIfInBounds_toArray, List.set_cons_zero, List.set_cons_succ])
        refine wpAnyH_take (i := 22) (v := (.int .u32 (y4 : Int))) rfl (by kernel_rfl) (by kernel_rfl) (by kernel_rfl) (fun _ _ _ h => h) (Or.inl ⟨by rfl, ?_⟩) (by assumption) ?_
        · intro w' hSw
          (try dsimp only at hSw)
          go_simp <;> first | exact i64_in (by omega) (by omega) | exact u32_in (by omega) (by omega) | exact u32_add _ _ | (rw [Int.tmod_eq_emod_of_nonneg (by omega)]; omega) | (rw [Int.tdiv_eq_ediv_of_nonneg (by omega)]; omega) | omega
        (try simp only [Act.put, List.setIfInBounds_toArray, List.set_cons_zero, List.set_cons_succ])
        refine wpAnyH_done (by kernel_rfl) ?_ _
        go_wp2
        go_roundw
        case rel => exact ⟨k + 1, by omega, by go_num, by rw [HSUC.out, HRN'.out], by rw [HSUC.out, HRN'.out], by rw [HSUC.out, HRN'.out], by rw [HSUC.out, HRN'.out], by simpa using R0', by simpa using RT', by simpa using RM', RB'.drew⟩
        case measure => simp [intOf]; omega
      · have z : (k : Int) / 16 = 2 := by omega
        have x1 := bxor32 B C' hB hC
        have l1 : B ^^^ C' < 4294967296 := xor32_lt hB hC
        have HFk : Hid (fN k B C' D = (B ^^^ C') ^^^ D) := by show fN k B C' D = _; unfold fN; rw [if_neg (by omega), if_neg (by omega), if_pos hq]
        generalize B ^^^ C' = X1 at *
        have x3 := bxor32 X1 D l1 hD
        have l3 : X1 ^^^ D < 4294967296 := xor32_lt l1 hD
        generalize X1 ^^^ D = f at *
        have Hg : Hid (gN k = 3 * k + 5) := by show gN k = _; unfold gN; rw [if_neg (by omega), if_neg (by omega), if_pos hq]
        obtain ⟨gg, hgg⟩ : ∃ gg, gg = (3 * k + 5) % 16 := ⟨_, rfl⟩
        obtain ⟨kr, hkr⟩ : ∃ kr, kr = k % 4 := ⟨_, rfl⟩
        have hg0 : (0 : Int) ≤ (gg : Int) := by omega
        have hg1 : (gg : Int) < 16 := by omega
        have hr0 : (0 : Int) ≤ (kr : Int) := by omega
        have hr1 : (kr : Int) < 4 := by omega
        have cM : wr.cell? ⟨m1, gg, none⟩ = some (.int .u32 (M gg : Int)) := by
          have := RM' gg _ (HM.out _ (by omega))
          rwa [Nat.zero_add] at this
        have hM4 := HML.out gg
        have HRN := rnd_eq M k A B C' D
        rw [HFk.out, Hg.out, HST.out.1, HST.out.2, ← hgg] at HRN
        rw [show 4 * (k / 16) + k % 4 = 8 + kr by omega] at cT
        obtain ⟨y1, hy1⟩ : ∃ y1, y1 = (A + f) % 4294967296 := ⟨_, rfl⟩
        obtain ⟨y2, hy2⟩ : ∃ y2, y2 = (y1 + sk) % 4294967296 := ⟨_, rfl⟩
        obtain ⟨y3, hy3⟩ : ∃ y3, y3 = (y2 + M gg) % 4294967296 := ⟨_, rfl⟩
        have hy3l : y3 < 4294967296 := by rw [hy3]; exact Nat.mod_lt _ (by omega)
        obtain ⟨y4, hy4⟩ : ∃ y4, y4 = (B + rotN y3 tk) % 4294967296 := ⟨_, rfl⟩
        rw [← hy1, ← hy2, ← hy3, ← hy4] at HRN
        have HRN' := hide HRN
        have HY1 := hide hy1
        have HY2 := hide hy2
        have HY3 := hide hy3
        have HY4 := hide hy4
        have HGG := hide hgg
        have HKR := hide hkr
        have CR : Hid (∀ w', Calls Tryz.prog 94 #[.int .u32 (y3 : Int), .int .i64 (tk : Int)] w' fun e w'' => e = .returned (.int .u32 (rotN y3 tk : Int)) ∧ w' = w'') := fun w' => rot_any y3 tk hy3l hT4.1 hT4.2 w'
        clear hy1 hy2 hy3 hy4 HRN hgg hkr
        generalize rotN y3 tk = rt at *
        generalize M gg = mg at *
        have gi0 : (0 : Int) ≤ (3 * (k : Int) + 5) := by omega
        go_wp2_with fail
        refine wp_region_held_drew (S := fun w' => w'.cell? ⟨0, k, none⟩ = some (.int .u32 (sk : Int)) ∧ w'.cell? ⟨1, 8 + kr, none⟩ = some (.int .i64 (tk : Int)) ∧ w'.cell? ⟨m1, gg, none⟩ = some (.int .u32 (mg : Int))) (by kernel_rfl) ⟨cS, cT, cM⟩ (fun hHeld => ?_)
        refine wpAnyH_take (i := 0) (v := (.int .u32 (B : Int))) rfl (by kernel_rfl) (by kernel_rfl) (by kernel_rfl) (fun _ _ _ h => h) (Or.inl ⟨by rfl, ?_⟩) (by assumption) ?_
        · intro w' hSw
          (try dsimp only at hSw)
          go_simp <;> first | exact i64_in (by omega) (by omega) | exact u32_in (by omega) (by omega) | exact u32_add _ _ | (rw [Int.tmod_eq_emod_of_nonneg (by omega)]; omega) | (rw [Int.tdiv_eq_ediv_of_nonneg (by omega)]; omega) | omega
        (try simp only [Act.put, List.setIfInBounds_toArray, List.set_cons_zero, List.set_cons_succ])
        refine wpAnyH_take (i := 1) (v := (.int .u32 (A : Int))) rfl (by kernel_rfl) (by kernel_rfl) (by kernel_rfl) (fun _ _ _ h => h) (Or.inl ⟨by rfl, ?_⟩) (by assumption) ?_
        · intro w' hSw
          (try dsimp only at hSw)
          go_simp <;> first | exact i64_in (by omega) (by omega) | exact u32_in (by omega) (by omega) | exact u32_add _ _ | (rw [Int.tmod_eq_emod_of_nonneg (by omega)]; omega) | (rw [Int.tdiv_eq_ediv_of_nonneg (by omega)]; omega) | omega
        (try simp only [Act.put, List.setIfInBounds_toArray, List.set_cons_zero, List.set_cons_succ])
        refine wpAnyH_take (i := 2) (v := (.int .u32 (f : Int))) rfl (by kernel_rfl) (by kernel_rfl) (by kernel_rfl) (fun _ _ _ h => h) (Or.inl ⟨by rfl, ?_⟩) (by assumption) ?_
        · intro w' hSw
          (try dsimp only at hSw)
          go_simp <;> first | exact i64_in (by omega) (by omega) | exact u32_in (by omega) (by omega) | exact u32_add _ _ | (rw [Int.tmod_eq_emod_of_nonneg (by omega)]; omega) | (rw [Int.tdiv_eq_ediv_of_nonneg (by omega)]; omega) | omega
        (try simp only [Act.put, List.setIfInBounds_toArray, List.set_cons_zero, List.set_cons_succ])
        refine wpAnyH_take (i := 3) (v := (.int .u32 (y1 : Int))) rfl (by kernel_rfl) (by kernel_rfl) (by kernel_rfl) (fun _ _ _ h => h) (Or.inl ⟨by rfl, ?_⟩) (by assumption) ?_
        · intro w' hSw
          (try dsimp only at hSw)
          (go_simp; rw [u32_add, HY1.out])
        (try simp only [Act.put, List.setIfInBounds_toArray, List.set_cons_zero, List.set_cons_succ])
        refine wpAnyH_take (i := 4) (v := (.int .i64 (k : Int))) rfl (by kernel_rfl) (by kernel_rfl) (by kernel_rfl) (fun _ _ _ h => h) (Or.inl ⟨by rfl, ?_⟩) (by assumption) ?_
        · intro w' hSw
          (try dsimp only at hSw)
          go_simp <;> first | exact i64_in (by omega) (by omega) | exact u32_in (by omega) (by omega) | exact u32_add _ _ | (rw [Int.tmod_eq_emod_of_nonneg (by omega)]; omega) | (rw [Int.tdiv_eq_ediv_of_nonneg (by omega)]; omega) | omega
        (try simp only [Act.put, List.setIfInBounds_toArray, List.set_cons_zero, List.set_cons_succ])
        refine wpAnyH_take (i := 5) (v := (.pointer (some ⟨0, k, none⟩))) rfl (by kernel_rfl) (by kernel_rfl) (by kernel_rfl) (fun _ _ _ h => h) (Or.inl ⟨by rfl, ?_⟩) (by assumption) ?_
        · intro w' hSw
          (try dsimp only at hSw)
          go_simp <;> first | exact i64_in (by omega) (by omega) | exact u32_in (by omega) (by omega) | exact u32_add _ _ | (rw [Int.tmod_eq_emod_of_nonneg (by omega)]; omega) | (rw [Int.tdiv_eq_ediv_of_nonneg (by omega)]; omega) | omega
        (try simp only [Act.put, List.setIfInBounds_toArray, List.set_cons_zero, List.set_cons_succ])
        refine wpAnyH_take (i := 6) (v := (.int .u32 (sk : Int))) rfl (by kernel_rfl) (by kernel_rfl) (by kernel_rfl) (fun _ _ _ h => h) (Or.inl ⟨by rfl, ?_⟩) (by assumption) ?_
        · intro w' hSw
          (try dsimp only at hSw)
          (obtain ⟨hS1, hS2, hS3⟩ := hSw; go_simp)
        (try simp only [Act.put, List.setIfInBounds_toArray, List.set_cons_zero, List.set_cons_succ])
        refine wpAnyH_take (i := 7) (v := (.int .u32 (y2 : Int))) rfl (by kernel_rfl) (by kernel_rfl) (by kernel_rfl) (fun _ _ _ h => h) (Or.inl ⟨by rfl, ?_⟩) (by assumption) ?_
        · intro w' hSw
          (try dsimp only at hSw)
          (go_simp; rw [u32_add, HY2.out])
        (try simp only [Act.put, List.setIfInBounds_toArray, List.set_cons_zero, List.set_cons_succ])
        refine wpAnyH_take (i := 8) (v := (.int .i64 ((3 * (k : Int) + 5)))) rfl (by kernel_rfl) (by kernel_rfl) (by kernel_rfl) (fun _ _ _ h => h) (Or.inl ⟨by rfl, ?_⟩) (by assumption) ?_
        · intro w' hSw
          (try dsimp only at hSw)
          go_simp <;> first | exact i64_in (by omega) (by omega) | exact u32_in (by omega) (by omega) | exact u32_add _ _ | (rw [Int.tmod_eq_emod_of_nonneg (by omega)]; omega) | (rw [Int.tdiv_eq_ediv_of_nonneg (by omega)]; omega) | omega
        (try simp only [Act.put, List.setIfInBounds_toArray, List.set_cons_zero, List.set_cons_succ])
        refine wpAnyH_take (i := 9) (v := (.int .i64 (gg : Int))) rfl (by kernel_rfl) (by kernel_rfl) (by kernel_rfl) (fun _ _ _ h => h) (Or.inl ⟨by rfl, ?_⟩) (by assumption) ?_
        · intro w' hSw
          (try dsimp only at hSw)
          (go_simp; rw [Int.tmod_eq_emod_of_nonneg gi0]; have := HGG.out; omega)
        (try simp only [Act.put, List.setIfInBounds_toArray, List.set_cons_zero, List.set_cons_succ])
        refine wpAnyH_take (i := 10) (v := (.pointer (some ⟨m1, gg, none⟩))) rfl (by kernel_rfl) (by kernel_rfl) (by kernel_rfl) (fun _ _ _ h => h) (Or.inl ⟨by rfl, ?_⟩) (by assumption) ?_
        · intro w' hSw
          (try dsimp only at hSw)
          go_simp <;> first | exact i64_in (by omega) (by omega) | exact u32_in (by omega) (by omega) | exact u32_add _ _ | (rw [Int.tmod_eq_emod_of_nonneg (by omega)]; omega) | (rw [Int.tdiv_eq_ediv_of_nonneg (by omega)]; omega) | omega
        (try simp only [Act.put, List.setIfInBounds_toArray, List.set_cons_zero, List.set_cons_succ])
        refine wpAnyH_take (i := 11) (v := (.int .u32 (mg : Int))) rfl (by kernel_rfl) (by kernel_rfl) (by kernel_rfl) (fun _ _ _ h => h) (Or.inl ⟨by rfl, ?_⟩) (by assumption) ?_
        · intro w' hSw
          (try dsimp only at hSw)
          (obtain ⟨hS1, hS2, hS3⟩ := hSw; go_simp)
        (try simp only [Act.put, List.setIfInBounds_toArray, List.set_cons_zero, List.set_cons_succ])
        refine wpAnyH_take (i := 12) (v := (.int .u32 (y3 : Int))) rfl (by kernel_rfl) (by kernel_rfl) (by kernel_rfl) (fun _ _ _ h => h) (Or.inl ⟨by rfl, ?_⟩) (by assumption) ?_
        · intro w' hSw
          (try dsimp only at hSw)
          (go_simp; rw [u32_add, HY3.out])
        (try simp only [Act.put, List.setIfInBounds_toArray, List.set_cons_zero, List.set_cons_succ])
        refine wpAnyH_take (i := 13) (v := (.int .i64 (k : Int))) rfl (by kernel_rfl) (by kernel_rfl) (by kernel_rfl) (fun _ _ _ h => h) (Or.inl ⟨by rfl, ?_⟩) (by assumption) ?_
        · intro w' hSw
          (try dsimp only at hSw)
          go_simp <;> first | exact i64_in (by omega) (by omega) | exact u32_in (by omega) (by omega) | exact u32_add _ _ | (rw [Int.tmod_eq_emod_of_nonneg (by omega)]; omega) | (rw [Int.tdiv_eq_ediv_of_nonneg (by omega)]; omega) | omega
        (try simp only [Act.put, List.setIfInBounds_toArray, List.set_cons_zero, List.set_cons_succ])
        refine wpAnyH_take (i := 14) (v := (.int .i64 2)) rfl (by kernel_rfl) (by kernel_rfl) (by kernel_rfl) (fun _ _ _ h => h) (Or.inl ⟨by rfl, ?_⟩) (by assumption) ?_
        · intro w' hSw
          (try dsimp only at hSw)
          (go_simp; rfl)
        (try simp only [Act.put, List.setIfInBounds_toArray, List.set_cons_zero, List.set_cons_succ])
        refine wpAnyH_take (i := 15) (v := (.int .i64 (k : Int))) rfl (by kernel_rfl) (by kernel_rfl) (by kernel_rfl) (fun _ _ _ h => h) (Or.inl ⟨by rfl, ?_⟩) (by assumption) ?_
        · intro w' hSw
          (try dsimp only at hSw)
          go_simp <;> first | exact i64_in (by omega) (by omega) | exact u32_in (by omega) (by omega) | exact u32_add _ _ | (rw [Int.tmod_eq_emod_of_nonneg (by omega)]; omega) | (rw [Int.tdiv_eq_ediv_of_nonneg (by omega)]; omega) | omega
        (try simp only [Act.put, List.setIfInBounds_toArray, List.set_cons_zero, List.set_cons_succ])
        refine wpAnyH_take (i := 16) (v := (.int .i64 (kr : Int))) rfl (by kernel_rfl) (by kernel_rfl) (by kernel_rfl) (fun _ _ _ h => h) (Or.inl ⟨by rfl, ?_⟩) (by assumption) ?_
        · intro w' hSw
          (try dsimp only at hSw)
          (go_simp; rw [Int.tmod_eq_emod_of_nonneg (by omega)]; have := HKR.out; omega)
        (try simp only [Act.put, List.setIfInBounds_toArray, List.set_cons_zero, List.set_cons_succ])
        refine wpAnyH_take (i := 17) (v := (.pointer (some ⟨1, 8, none⟩))) rfl (by kernel_rfl) (by kernel_rfl) (by kernel_rfl) (fun _ _ _ h => h) (Or.inl ⟨by rfl, ?_⟩) (by assumption) ?_
        · intro w' hSw
          (try dsimp only at hSw)
          go_simp <;> first | exact i64_in (by omega) (by omega) | exact u32_in (by omega) (by omega) | exact u32_add _ _ | (rw [Int.tmod_eq_emod_of_nonneg (by omega)]; omega) | (rw [Int.tdiv_eq_ediv_of_nonneg (by omega)]; omega) | omega
        (try simp only [Act.put, List.setIfInBounds_toArray, List.set_cons_zero, List.set_cons_succ])
        refine wpAnyH_take (i := 18) (v := (.pointer (some ⟨1, 8 + kr, none⟩))) rfl (by kernel_rfl) (by kernel_rfl) (by kernel_rfl) (fun _ _ _ h => h) (Or.inl ⟨by rfl, ?_⟩) (by assumption) ?_
        · intro w' hSw
          (try dsimp only at hSw)
          go_simp <;> first | exact i64_in (by omega) (by omega) | exact u32_in (by omega) (by omega) | exact u32_add _ _ | (rw [Int.tmod_eq_emod_of_nonneg (by omega)]; omega) | (rw [Int.tdiv_eq_ediv_of_nonneg (by omega)]; omega) | omega
        (try simp only [Act.put, List.setIfInBounds_toArray, List.set_cons_zero, List.set_cons_succ])
        refine wpAnyH_take (i := 19) (v := (.int .i64 (tk : Int))) rfl (by kernel_rfl) (by kernel_rfl) (by kernel_rfl) (fun _ _ _ h => h) (Or.inl ⟨by rfl, ?_⟩) (by assumption) ?_
        · intro w' hSw
          (try dsimp only at hSw)
          (obtain ⟨hS1, hS2, hS3⟩ := hSw; go_simp)
        (try simp only [Act.put, List.setIfInBounds_toArray, List.set_cons_zero, List.set_cons_succ])
        refine wpAnyH_ready (rs := [20]) (by kernel_rfl) (by simp) ?_
        refine AllReadyH.cons rfl (fun K hK => ?_) AllReadyH.nil
        go_simp
        refine Calls.mono (CR.out _) ?_
        rintro e w9 ⟨rfl, rfl⟩
        refine hK.out _ _ hHeld (fun hHeld => ?_)
        clear hK K
        refine wpAnyH_take (i := 21) (v := (.int .u32 (y4 : Int))) rfl (by kernel_rfl) (by kernel_rfl) (by kernel_rfl) (fun _ _ _ h => h) (Or.inl ⟨by rfl, ?_⟩) (by assumption) ?_
        · intro w' hSw
          (try dsimp only at hSw)
          (go_simp; rw [u32_add, HY4.out])
        (try simp only [Act.put, List.setIfInBounds_toArray, List.set_cons_zero, List.set_cons_succ])
        refine wpAnyH_take (i := 22) (v := (.int .u32 (y4 : Int))) rfl (by kernel_rfl) (by kernel_rfl) (by kernel_rfl) (fun _ _ _ h => h) (Or.inl ⟨by rfl, ?_⟩) (by assumption) ?_
        · intro w' hSw
          (try dsimp only at hSw)
          go_simp <;> first | exact i64_in (by omega) (by omega) | exact u32_in (by omega) (by omega) | exact u32_add _ _ | (rw [Int.tmod_eq_emod_of_nonneg (by omega)]; omega) | (rw [Int.tdiv_eq_ediv_of_nonneg (by omega)]; omega) | omega
        (try simp only [Act.put, List.setIfInBounds_toArray, List.set_cons_zero, List.set_cons_succ])
        refine wpAnyH_done (by kernel_rfl) ?_ _
        go_wp2
        go_roundw
        case rel => exact ⟨k + 1, by omega, by go_num, by rw [HSUC.out, HRN'.out], by rw [HSUC.out, HRN'.out], by rw [HSUC.out, HRN'.out], by rw [HSUC.out, HRN'.out], by simpa using R0', by simpa using RT', by simpa using RM', RB'.drew⟩
        case measure => simp [intOf]; omega
      · have z : (k : Int) / 16 = 3 := by omega
        have x1 := bor32 B ND hB hnD
        have l1 : B ||| ND < 4294967296 := Nat.or_lt_two_pow (n := 32) hB hnD
        have HFk : Hid (fN k B C' D = C' ^^^ (B ||| ND)) := by show fN k B C' D = _; unfold fN; rw [if_neg (by omega), if_neg (by omega), if_neg (by omega), HN.out.2]
        generalize B ||| ND = X1 at *
        have x3 := bxor32 C' X1 hC l1
        have l3 : C' ^^^ X1 < 4294967296 := xor32_lt hC l1
        generalize C' ^^^ X1 = f at *
        have Hg : Hid (gN k = 7 * k) := by show gN k = _; unfold gN; rw [if_neg (by omega), if_neg (by omega), if_neg (by omega)]
        obtain ⟨gg, hgg⟩ : ∃ gg, gg = (7 * k) % 16 := ⟨_, rfl⟩
        obtain ⟨kr, hkr⟩ : ∃ kr, kr = k % 4 := ⟨_, rfl⟩
        have hg0 : (0 : Int) ≤ (gg : Int) := by omega
        have hg1 : (gg : Int) < 16 := by omega
        have hr0 : (0 : Int) ≤ (kr : Int) := by omega
        have hr1 : (kr : Int) < 4 := by omega
        have cM : wr.cell? ⟨m1, gg, none⟩ = some (.int .u32 (M gg : Int)) := by
          have := RM' gg _ (HM.out _ (by omega))
          rwa [Nat.zero_add] at this
        have hM4 := HML.out gg
        have HRN := rnd_eq M k A B C' D
        rw [HFk.out, Hg.out, HST.out.1, HST.out.2, ← hgg] at HRN
        rw [show 4 * (k / 16) + k % 4 = 12 + kr by omega] at cT
        obtain ⟨y1, hy1⟩ : ∃ y1, y1 = (A + f) % 4294967296 := ⟨_, rfl⟩
        obtain ⟨y2, hy2⟩ : ∃ y2, y2 = (y1 + sk) % 4294967296 := ⟨_, rfl⟩
        obtain ⟨y3, hy3⟩ : ∃ y3, y3 = (y2 + M gg) % 4294967296 := ⟨_, rfl⟩
        have hy3l : y3 < 4294967296 := by rw [hy3]; exact Nat.mod_lt _ (by omega)
        obtain ⟨y4, hy4⟩ : ∃ y4, y4 = (B + rotN y3 tk) % 4294967296 := ⟨_, rfl⟩
        rw [← hy1, ← hy2, ← hy3, ← hy4] at HRN
        have HRN' := hide HRN
        have HY1 := hide hy1
        have HY2 := hide hy2
        have HY3 := hide hy3
        have HY4 := hide hy4
        have HGG := hide hgg
        have HKR := hide hkr
        have CR : Hid (∀ w', Calls Tryz.prog 94 #[.int .u32 (y3 : Int), .int .i64 (tk : Int)] w' fun e w'' => e = .returned (.int .u32 (rotN y3 tk : Int)) ∧ w' = w'') := fun w' => rot_any y3 tk hy3l hT4.1 hT4.2 w'
        clear hy1 hy2 hy3 hy4 HRN hgg hkr
        generalize rotN y3 tk = rt at *
        generalize M gg = mg at *
        have gi0 : (0 : Int) ≤ (7 * (k : Int)) := by omega
        go_wp2_with fail
        refine wp_region_held_drew (S := fun w' => w'.cell? ⟨0, k, none⟩ = some (.int .u32 (sk : Int)) ∧ w'.cell? ⟨1, 12 + kr, none⟩ = some (.int .i64 (tk : Int)) ∧ w'.cell? ⟨m1, gg, none⟩ = some (.int .u32 (mg : Int))) (by kernel_rfl) ⟨cS, cT, cM⟩ (fun hHeld => ?_)
        refine wpAnyH_take (i := 0) (v := (.int .u32 (B : Int))) rfl (by kernel_rfl) (by kernel_rfl) (by kernel_rfl) (fun _ _ _ h => h) (Or.inl ⟨by rfl, ?_⟩) (by assumption) ?_
        · intro w' hSw
          (try dsimp only at hSw)
          go_simp <;> first | exact i64_in (by omega) (by omega) | exact u32_in (by omega) (by omega) | exact u32_add _ _ | (rw [Int.tmod_eq_emod_of_nonneg (by omega)]; omega) | (rw [Int.tdiv_eq_ediv_of_nonneg (by omega)]; omega) | omega
        (try simp only [Act.put, List.setIfInBounds_toArray, List.set_cons_zero, List.set_cons_succ])
        refine wpAnyH_take (i := 1) (v := (.int .u32 (A : Int))) rfl (by kernel_rfl) (by kernel_rfl) (by kernel_rfl) (fun _ _ _ h => h) (Or.inl ⟨by rfl, ?_⟩) (by assumption) ?_
        · intro w' hSw
          (try dsimp only at hSw)
          go_simp <;> first | exact i64_in (by omega) (by omega) | exact u32_in (by omega) (by omega) | exact u32_add _ _ | (rw [Int.tmod_eq_emod_of_nonneg (by omega)]; omega) | (rw [Int.tdiv_eq_ediv_of_nonneg (by omega)]; omega) | omega
        (try simp only [Act.put, List.setIfInBounds_toArray, List.set_cons_zero, List.set_cons_succ])
        refine wpAnyH_take (i := 2) (v := (.int .u32 (f : Int))) rfl (by kernel_rfl) (by kernel_rfl) (by kernel_rfl) (fun _ _ _ h => h) (Or.inl ⟨by rfl, ?_⟩) (by assumption) ?_
        · intro w' hSw
          (try dsimp only at hSw)
          go_simp <;> first | exact i64_in (by omega) (by omega) | exact u32_in (by omega) (by omega) | exact u32_add _ _ | (rw [Int.tmod_eq_emod_of_nonneg (by omega)]; omega) | (rw [Int.tdiv_eq_ediv_of_nonneg (by omega)]; omega) | omega
        (try simp only [Act.put, List.setIfInBounds_toArray, List.set_cons_zero, List.set_cons_succ])
        refine wpAnyH_take (i := 3) (v := (.int .u32 (y1 : Int))) rfl (by kernel_rfl) (by kernel_rfl) (by kernel_rfl) (fun _ _ _ h => h) (Or.inl ⟨by rfl, ?_⟩) (by assumption) ?_
        · intro w' hSw
          (try dsimp only at hSw)
          (go_simp; rw [u32_add, HY1.out])
        (try simp only [Act.put, List.setIfInBounds_toArray, List.set_cons_zero, List.set_cons_succ])
        refine wpAnyH_take (i := 4) (v := (.int .i64 (k : Int))) rfl (by kernel_rfl) (by kernel_rfl) (by kernel_rfl) (fun _ _ _ h => h) (Or.inl ⟨by rfl, ?_⟩) (by assumption) ?_
        · intro w' hSw
          (try dsimp only at hSw)
          go_simp <;> first | exact i64_in (by omega) (by omega) | exact u32_in (by omega) (by omega) | exact u32_add _ _ | (rw [Int.tmod_eq_emod_of_nonneg (by omega)]; omega) | (rw [Int.tdiv_eq_ediv_of_nonneg (by omega)]; omega) | omega
        (try simp only [Act.put, List.setIfInBounds_toArray, List.set_cons_zero, List.set_cons_succ])
        refine wpAnyH_take (i := 5) (v := (.pointer (some ⟨0, k, none⟩))) rfl (by kernel_rfl) (by kernel_rfl) (by kernel_rfl) (fun _ _ _ h => h) (Or.inl ⟨by rfl, ?_⟩) (by assumption) ?_
        · intro w' hSw
          (try dsimp only at hSw)
          go_simp <;> first | exact i64_in (by omega) (by omega) | exact u32_in (by omega) (by omega) | exact u32_add _ _ | (rw [Int.tmod_eq_emod_of_nonneg (by omega)]; omega) | (rw [Int.tdiv_eq_ediv_of_nonneg (by omega)]; omega) | omega
        (try simp only [Act.put, List.setIfInBounds_toArray, List.set_cons_zero, List.set_cons_succ])
        refine wpAnyH_take (i := 6) (v := (.int .u32 (sk : Int))) rfl (by kernel_rfl) (by kernel_rfl) (by kernel_rfl) (fun _ _ _ h => h) (Or.inl ⟨by rfl, ?_⟩) (by assumption) ?_
        · intro w' hSw
          (try dsimp only at hSw)
          (obtain ⟨hS1, hS2, hS3⟩ := hSw; go_simp)
        (try simp only [Act.put, List.setIfInBounds_toArray, List.set_cons_zero, List.set_cons_succ])
        refine wpAnyH_take (i := 7) (v := (.int .u32 (y2 : Int))) rfl (by kernel_rfl) (by kernel_rfl) (by kernel_rfl) (fun _ _ _ h => h) (Or.inl ⟨by rfl, ?_⟩) (by assumption) ?_
        · intro w' hSw
          (try dsimp only at hSw)
          (go_simp; rw [u32_add, HY2.out])
        (try simp only [Act.put, List.setIfInBounds_toArray, List.set_cons_zero, List.set_cons_succ])
        refine wpAnyH_take (i := 8) (v := (.int .i64 ((7 * (k : Int))))) rfl (by kernel_rfl) (by kernel_rfl) (by kernel_rfl) (fun _ _ _ h => h) (Or.inl ⟨by rfl, ?_⟩) (by assumption) ?_
        · intro w' hSw
          (try dsimp only at hSw)
          go_simp <;> first | exact i64_in (by omega) (by omega) | exact u32_in (by omega) (by omega) | exact u32_add _ _ | (rw [Int.tmod_eq_emod_of_nonneg (by omega)]; omega) | (rw [Int.tdiv_eq_ediv_of_nonneg (by omega)]; omega) | omega
        (try simp only [Act.put, List.setIfInBounds_toArray, List.set_cons_zero, List.set_cons_succ])
        refine wpAnyH_take (i := 9) (v := (.int .i64 (gg : Int))) rfl (by kernel_rfl) (by kernel_rfl) (by kernel_rfl) (fun _ _ _ h => h) (Or.inl ⟨by rfl, ?_⟩) (by assumption) ?_
        · intro w' hSw
          (try dsimp only at hSw)
          (go_simp; rw [Int.tmod_eq_emod_of_nonneg gi0]; have := HGG.out; omega)
        (try simp only [Act.put, List.setIfInBounds_toArray, List.set_cons_zero, List.set_cons_succ])
        refine wpAnyH_take (i := 10) (v := (.pointer (some ⟨m1, gg, none⟩))) rfl (by kernel_rfl) (by kernel_rfl) (by kernel_rfl) (fun _ _ _ h => h) (Or.inl ⟨by rfl, ?_⟩) (by assumption) ?_
        · intro w' hSw
          (try dsimp only at hSw)
          go_simp <;> first | exact i64_in (by omega) (by omega) | exact u32_in (by omega) (by omega) | exact u32_add _ _ | (rw [Int.tmod_eq_emod_of_nonneg (by omega)]; omega) | (rw [Int.tdiv_eq_ediv_of_nonneg (by omega)]; omega) | omega
        (try simp only [Act.put, List.setIfInBounds_toArray, List.set_cons_zero, List.set_cons_succ])
        refine wpAnyH_take (i := 11) (v := (.int .u32 (mg : Int))) rfl (by kernel_rfl) (by kernel_rfl) (by kernel_rfl) (fun _ _ _ h => h) (Or.inl ⟨by rfl, ?_⟩) (by assumption) ?_
        · intro w' hSw
          (try dsimp only at hSw)
          (obtain ⟨hS1, hS2, hS3⟩ := hSw; go_simp)
        (try simp only [Act.put, List.setIfInBounds_toArray, List.set_cons_zero, List.set_cons_succ])
        refine wpAnyH_take (i := 12) (v := (.int .u32 (y3 : Int))) rfl (by kernel_rfl) (by kernel_rfl) (by kernel_rfl) (fun _ _ _ h => h) (Or.inl ⟨by rfl, ?_⟩) (by assumption) ?_
        · intro w' hSw
          (try dsimp only at hSw)
          (go_simp; rw [u32_add, HY3.out])
        (try simp only [Act.put, List.setIfInBounds_toArray, List.set_cons_zero, List.set_cons_succ])
        refine wpAnyH_take (i := 13) (v := (.int .i64 (k : Int))) rfl (by kernel_rfl) (by kernel_rfl) (by kernel_rfl) (fun _ _ _ h => h) (Or.inl ⟨by rfl, ?_⟩) (by assumption) ?_
        · intro w' hSw
          (try dsimp only at hSw)
          go_simp <;> first | exact i64_in (by omega) (by omega) | exact u32_in (by omega) (by omega) | exact u32_add _ _ | (rw [Int.tmod_eq_emod_of_nonneg (by omega)]; omega) | (rw [Int.tdiv_eq_ediv_of_nonneg (by omega)]; omega) | omega
        (try simp only [Act.put, List.setIfInBounds_toArray, List.set_cons_zero, List.set_cons_succ])
        refine wpAnyH_take (i := 14) (v := (.int .i64 3)) rfl (by kernel_rfl) (by kernel_rfl) (by kernel_rfl) (fun _ _ _ h => h) (Or.inl ⟨by rfl, ?_⟩) (by assumption) ?_
        · intro w' hSw
          (try dsimp only at hSw)
          (go_simp; rfl)
        (try simp only [Act.put, List.setIfInBounds_toArray, List.set_cons_zero, List.set_cons_succ])
        refine wpAnyH_take (i := 15) (v := (.int .i64 (k : Int))) rfl (by kernel_rfl) (by kernel_rfl) (by kernel_rfl) (fun _ _ _ h => h) (Or.inl ⟨by rfl, ?_⟩) (by assumption) ?_
        · intro w' hSw
          (try dsimp only at hSw)
          go_simp <;> first | exact i64_in (by omega) (by omega) | exact u32_in (by omega) (by omega) | exact u32_add _ _ | (rw [Int.tmod_eq_emod_of_nonneg (by omega)]; omega) | (rw [Int.tdiv_eq_ediv_of_nonneg (by omega)]; omega) | omega
        (try simp only [Act.put, List.setIfInBounds_toArray, List.set_cons_zero, List.set_cons_succ])
        refine wpAnyH_take (i := 16) (v := (.int .i64 (kr : Int))) rfl (by kernel_rfl) (by kernel_rfl) (by kernel_rfl) (fun _ _ _ h => h) (Or.inl ⟨by rfl, ?_⟩) (by assumption) ?_
        · intro w' hSw
          (try dsimp only at hSw)
          (go_simp; rw [Int.tmod_eq_emod_of_nonneg (by omega)]; have := HKR.out; omega)
        (try simp only [Act.put, List.setIfInBounds_toArray, List.set_cons_zero, List.set_cons_succ])
        refine wpAnyH_take (i := 17) (v := (.pointer (some ⟨1, 12, none⟩))) rfl (by kernel_rfl) (by kernel_rfl) (by kernel_rfl) (fun _ _ _ h => h) (Or.inl ⟨by rfl, ?_⟩) (by assumption) ?_
        · intro w' hSw
          (try dsimp only at hSw)
          go_simp <;> first | exact i64_in (by omega) (by omega) | exact u32_in (by omega) (by omega) | exact u32_add _ _ | (rw [Int.tmod_eq_emod_of_nonneg (by omega)]; omega) | (rw [Int.tdiv_eq_ediv_of_nonneg (by omega)]; omega) | omega
        (try simp only [Act.put, List.setIfInBounds_toArray, List.set_cons_zero, List.set_cons_succ])
        refine wpAnyH_take (i := 18) (v := (.pointer (some ⟨1, 12 + kr, none⟩))) rfl (by kernel_rfl) (by kernel_rfl) (by kernel_rfl) (fun _ _ _ h => h) (Or.inl ⟨by rfl, ?_⟩) (by assumption) ?_
        · intro w' hSw
          (try dsimp only at hSw)
          go_simp <;> first | exact i64_in (by omega) (by omega) | exact u32_in (by omega) (by omega) | exact u32_add _ _ | (rw [Int.tmod_eq_emod_of_nonneg (by omega)]; omega) | (rw [Int.tdiv_eq_ediv_of_nonneg (by omega)]; omega) | omega
        (try simp only [Act.put, List.setIfInBounds_toArray, List.set_cons_zero, List.set_cons_succ])
        refine wpAnyH_take (i := 19) (v := (.int .i64 (tk : Int))) rfl (by kernel_rfl) (by kernel_rfl) (by kernel_rfl) (fun _ _ _ h => h) (Or.inl ⟨by rfl, ?_⟩) (by assumption) ?_
        · intro w' hSw
          (try dsimp only at hSw)
          (obtain ⟨hS1, hS2, hS3⟩ := hSw; go_simp)
        (try simp only [Act.put, List.setIfInBounds_toArray, List.set_cons_zero, List.set_cons_succ])
        refine wpAnyH_ready (rs := [20]) (by kernel_rfl) (by simp) ?_
        refine AllReadyH.cons rfl (fun K hK => ?_) AllReadyH.nil
        go_simp
        refine Calls.mono (CR.out _) ?_
        rintro e w9 ⟨rfl, rfl⟩
        refine hK.out _ _ hHeld (fun hHeld => ?_)
        clear hK K
        refine wpAnyH_take (i := 21) (v := (.int .u32 (y4 : Int))) rfl (by kernel_rfl) (by kernel_rfl) (by kernel_rfl) (fun _ _ _ h => h) (Or.inl ⟨by rfl, ?_⟩) (by assumption) ?_
        · intro w' hSw
          (try dsimp only at hSw)
          (go_simp; rw [u32_add, HY4.out])
        (try simp only [Act.put, List.setIfInBounds_toArray, List.set_cons_zero, List.set_cons_succ])
        refine wpAnyH_take (i := 22) (v := (.int .u32 (y4 : Int))) rfl (by kernel_rfl) (by kernel_rfl) (by kernel_rfl) (fun _ _ _ h => h) (Or.inl ⟨by rfl, ?_⟩) (by assumption) ?_
        · intro w' hSw
          (try dsimp only at hSw)
          go_simp <;> first | exact i64_in (by omega) (by omega) | exact u32_in (by omega) (by omega) | exact u32_add _ _ | (rw [Int.tmod_eq_emod_of_nonneg (by omega)]; omega) | (rw [Int.tdiv_eq_ediv_of_nonneg (by omega)]; omega) | omega
        (try simp only [Act.put, List.setIfInBounds_toArray, List.set_cons_zero, List.set_cons_succ])
        refine wpAnyH_done (by kernel_rfl) ?_ _
        go_wp2
        go_roundw
        case rel => exact ⟨k + 1, by omega, by go_num, by rw [HSUC.out, HRN'.out], by rw [HSUC.out, HRN'.out], by rw [HSUC.out, HRN'.out], by rw [HSUC.out, HRN'.out], by simpa using R0', by simpa using RT', by simpa using RM', RB'.drew⟩
        case measure => simp [intOf]; omega
    · obtain rfl : k = 64 := by omega
      have c0 := R0' 0 _ rfl
      have c1 := R0' 1 _ rfl
      have c2 := R0' 2 _ rfl
      have c3 := R0' 3 _ rfl
      simp only [Nat.zero_add] at c0 c1 c2 c3
      have HE : Hid (mixN (a, b, c, d) s.data.toList = addQ (a, b, c, d) (rounds M (a, b, c, d) 64)) := HF.out
      generalize rounds M (a, b, c, d) 64 = q at *
      obtain ⟨A, B, C', D⟩ := q
      obtain ⟨hA, hB, hC, hD⟩ := hlt4
      simp only at hA hB hC hD
      have eq4 : [Value.int .u32 (((a : Int) + A) % 4294967296), .int .u32 (((b : Int) + B) % 4294967296), .int .u32 (((c : Int) + C') % 4294967296), .int .u32 (((d : Int) + D) % 4294967296)] = qL (addQ (a, b, c, d) (A, B, C', D)) := by
        unfold qL addQ
        simp only [Int.natCast_emod, Int.natCast_add]
        rfl
      have EQ4 := hide eq4
      clear eq4
      obtain ⟨L4, hL4⟩ : ∃ L4 : List Value, L4 = [Value.int .u32 (((a : Int) + A) % 4294967296), .int .u32 (((b : Int) + B) % 4294967296), .int .u32 (((c : Int) + C') % 4294967296), .int .u32 (((d : Int) + D) % 4294967296)] := ⟨_, rfl⟩
      have HL4 := hide hL4
      have hl4 : L4.length = 4 := by rw [hL4]; rfl
      have ho4 : L4.toArray.all (·.oneCell') = true := all_oneCell_toArray (fun v hv => by rw [hL4] at hv; simp at hv; rcases hv with rfl | rfl | rfl | rfl <;> rfl)
      have ha4 : #[Value.int .u32 (((a : Int) + A) % 4294967296), .int .u32 (((b : Int) + B) % 4294967296), .int .u32 (((c : Int) + C') % 4294967296), .int .u32 (((d : Int) + D) % 4294967296)] = L4.toArray := by rw [hL4]
      have HA4 := hide ha4
      clear hL4 ha4
      have RT4 : wr.there (w.heap.size + 1) 0 L4.toArray.size := by show wr.there (w.heap.size + 1) 0 L4.length; rw [hl4]; exact RT'
      have RR : (wr.setCells (w.heap.size + 1) 0 L4).rangeAt (w.heap.size + 1) 0 L4 := World.rangeAt_setCells_same _ _ _ _ (by rw [hl4]; exact RT')
      have RN : Below w.heap.size w (wr.setCells (w.heap.size + 1) 0 L4) := below_setCells RB' (by omega) _
      go_wp2_with (refine wpList_store_mid rfl 127 _ _ rfl (w.heap.size + 1) 0 L4.toArray rfl (by rw [← HA4.out]; rfl) RT4 (by rw [List.size_toArray, hl4]; kernel_rfl) ho4 ?_)
      refine bodyPost_ret (v := .agg L4.toArray) ?_ rfl ⟨?_, RN⟩
      · have hlv := run_loadVar_mid (P := Tryz.prog) _ (w.heap.size + 1) 0 127 L4 _ RR Tryz.underlying127 rfl (by rw [hl4]; kernel_rfl)
        simp [results, Tryz.results82, asAddr, hlv, Act.put]
      · rw [HE.out, HL4.out, EQ4.out]
        rfl
end Go.Proofs.YtndfhpfhgdamgaaGreatDoor
