import Derived.Test.YtioiphonajinmaaDoorGDrSmall
namespace Go.Proofs.YtioiphonajinmaaDoor
open Go.RowKit
/-- the tables of the document's own -/
structure RTabs (w : World) : Prop where
  sines : TabRS 4 w
  turns : TabT 5 w
  powers : TabRP 8 w
  room : 4 < w.heap.size ∧ 5 < w.heap.size ∧ 8 < w.heap.size
theorem RTabs.below {w w' : World} {B : Nat} (h : RTabs w) (hb : Below B w w') (hB : B = w.heap.size) : RTabs w' := by
  subst hB
  exact ⟨h.sines.below hb h.room.1, h.turns.below hb h.room.2.1, h.powers.below hb h.room.2.2, Nat.lt_of_lt_of_le h.room.1 hb.size, Nat.lt_of_lt_of_le h.room.2.1 hb.size, Nat.lt_of_lt_of_le h.room.2.2 hb.size⟩
theorem le4_in (l : List UInt8) (a j : Nat) (hj : j < 16) : le4 ((l.drop a).take 64) (4 * j) = le4 l (a + 4 * j) := by
  have e : ∀ i, i < 64 → ((l.drop a).take 64).getD i 0 = l.getD (a + i) 0 := fun i hi => by
    rw [List.getD_eq_getElem?_getD, List.getD_eq_getElem?_getD, List.getElem?_take_of_lt hi, List.getElem?_drop]
  unfold le4
  rw [e (4 * j) (by omega), e (4 * j + 1) (by omega), e (4 * j + 2) (by omega), e (4 * j + 3) (by omega)]
  rfl
theorem zero_row : Tryd.zeroCells177 = (List.replicate 68 (Value.int .i64 0)).toArray := by kernel_rfl
theorem fN_lt32 (i b c d : Nat) (hb : b < 4294967296) (hc : c < 4294967296) (hd : d < 4294967296) : fN i b c d < 4294967296 := by
  unfold fN
  split
  · exact Nat.or_lt_two_pow (n := 32) (Nat.and_lt_two_pow _ hc) (Nat.and_lt_two_pow _ hd)
  · split
    · exact Nat.or_lt_two_pow (n := 32) (Nat.and_lt_two_pow _ hb) (Nat.and_lt_two_pow _ hc)
    · split
      · exact Nat.xor_lt_two_pow (n := 32) (Nat.xor_lt_two_pow (n := 32) hb hc) hd
      · exact Nat.xor_lt_two_pow (n := 32) hc (Nat.or_lt_two_pow (n := 32) hb (Nat.xor_lt_two_pow (n := 32) (by decide) hd))
theorem heapR3_0 (w : World) (o o' o'' : Obj) : (((w.alloc o).alloc o').alloc o'').heap[w.heap.size]? = some o := by
  show (((w.heap.push o).push o').push o'')[w.heap.size]? = some o
  rw [Array.getElem?_push, if_neg (by simp; omega), Array.getElem?_push, if_neg (by simp), Array.getElem?_push, if_pos rfl]
theorem heapR3_1 (w : World) (o o' o'' : Obj) : (((w.alloc o).alloc o').alloc o'').heap[w.heap.size + 1]? = some o' := by
  show (((w.heap.push o).push o').push o'')[w.heap.size + 1]? = some o'
  rw [Array.getElem?_push, if_neg (by simp), Array.getElem?_push, if_pos (by simp)]
theorem heapR3_2 (w : World) (o o' o'' : Obj) : (((w.alloc o).alloc o').alloc o'').heap[w.heap.size + 1 + 1]? = some o'' := by
  show (((w.heap.push o).push o').push o'')[w.heap.size + 1 + 1]? = some o''
  rw [Array.getElem?_push, if_pos (by simp)]
/-- the row holds what k rounds made -/
structure RowIs (R : Nat) (w : World) (k : Nat) (q : Q) : Prop where
  blk : ∃ cs : Array Value, cs.size = 68 ∧ w.heap[R]? = some (.cells cs 177 (0, 0))
  a : w.cell? ⟨R, k, none⟩ = some (.int .i64 (q.1 : Int))
  d : w.cell? ⟨R, k + 1, none⟩ = some (.int .i64 (q.2.2.2 : Int))
  c : w.cell? ⟨R, k + 2, none⟩ = some (.int .i64 (q.2.2.1 : Int))
  b : w.cell? ⟨R, k + 3, none⟩ = some (.int .i64 (q.2.1 : Int))
theorem RowIs.below {R : Nat} {w w' : World} {k : Nat} {q : Q} (h : RowIs R w k q) (hb : Below w.heap.size w w') : RowIs R w' k q := by
  obtain ⟨cs, hcs, hbk⟩ := h.blk
  have hl : R < w.heap.size := by
    rcases Nat.lt_or_ge R w.heap.size with h' | h'
    · exact h'
    · rw [Array.getElem?_eq_none h'] at hbk; simp at hbk
  exact ⟨⟨cs, hcs, (hb.block R hl).trans hbk⟩, (hb.cell (p := ⟨R, k, none⟩) hl).trans h.a, (hb.cell (p := ⟨R, k + 1, none⟩) hl).trans h.d, (hb.cell (p := ⟨R, k + 2, none⟩) hl).trans h.c, (hb.cell (p := ⟨R, k + 3, none⟩) hl).trans h.b⟩
theorem RowIs.next {R : Nat} {w : World} {k : Nat} {a b c d b' : Nat} (h : RowIs R w k (a, b, c, d)) (hk : k < 64) : RowIs R (w.setCell ⟨R, k + 4, none⟩ (.int .i64 (b' : Int))) (k + 1) (d, b', b, c) := by
  obtain ⟨cs, hcs, hbk⟩ := h.blk
  have hn := Joins.block_setCell (i := k + 4) hbk (.int .i64 (b' : Int))
  have hc := fun j => cell_of_row w R j _ _ _ hbk
  have hc' := fun j => cell_of_row _ R j _ _ _ hn
  have keep : ∀ j, j ≠ k + 4 → (w.setCell ⟨R, k + 4, none⟩ (.int .i64 (b' : Int))).cell? ⟨R, j, none⟩ = w.cell? ⟨R, j, none⟩ := fun j hj => by
    rw [hc', hc, Array.getElem?_setIfInBounds_ne (by omega)]
  refine ⟨⟨_, by simp [hcs], hn⟩, ?_, ?_, ?_, ?_⟩
  · rw [keep _ (by omega)]; exact h.d
  · rw [show k + 1 + 1 = k + 2 by omega, keep _ (by omega)]; exact h.c
  · rw [show k + 1 + 2 = k + 3 by omega, keep _ (by omega)]; exact h.b
  · rw [show k + 1 + 3 = k + 4 by omega, hc', Array.getElem?_setIfInBounds_self]
    rw [if_pos (by omega)]
theorem RowIs.free {R : Nat} {w : World} {k : Nat} {q : Q} (h : RowIs R w k q) (hk : k < 64) : (∃ x, w.cell? ⟨R, k + 4, none⟩ = some x) ∧ w.frozen? ⟨R, k + 4, none⟩ = false := by
  obtain ⟨cs, hcs, hbk⟩ := h.blk
  refine ⟨⟨cs[k + 4]'(by omega), ?_⟩, by simp [World.frozen?, hbk]⟩
  rw [cell_of_row w R (k + 4) _ _ _ hbk, Array.getElem?_eq_getElem (by omega)]
set_option maxHeartbeats 2000000 in
set_option maxRecDepth 100000 in
set_option linter.unusedSimpArgs false in
/-- one step of the document's block -/
theorem rblock_any (q : Q) (hq : Q4 q) (s : ByteArray) (at' : Nat) (ha : at' + 64 ≤ s.size) (hs : s.size ≤ 1099511627776) (w : World) (hT : RTabs w) :
    Calls Tryd.prog 86 #[qR q, .string s, .int .i64 (at' : Int)] w fun e w' => e = .returned (qR (mixN q ((s.data.toList.drop at').take 64))) ∧ Below w.heap.size w w' := by
  obtain ⟨M, hM⟩ : ∃ M : Nat → Nat, M = fun j => le4 ((s.data.toList.drop at').take 64) (4 * j) := ⟨_, rfl⟩
  have hMix : mixN q ((s.data.toList.drop at').take 64) = addQ q (rounds M q 64) := by rw [hM]; rfl
  have hMv : ∀ j, j < 16 → M j = le4 s.data.toList (at' + 4 * j) := fun j hj => by rw [hM]; exact le4_in _ _ _ hj
  clear hM
  rw [hMix]
  clear hMix
  obtain ⟨a, b, c, d⟩ := q
  have HT := hide hT
  have HQ := hide hq
  have HMV := hide hMv
  clear hT hq hMv
  unfold qR
  go_enter Tryd.func86, Tryd.ntmps86
  go_wp2_with fail
  go_loopw [8] (fun i wr => ∃ k : Nat, k ≤ 64 ∧ i = .int .i64 k ∧ RowIs (w.heap.size + 1 + 1) wr k (rounds M (a, b, c, d) k) ∧ wr.heap[w.heap.size]? = some (.cells #[.int .i64 (a : Int), .int .i64 (b : Int), .int .i64 (c : Int), .int .i64 (d : Int)] 134 (0, 0)) ∧ (∃ rs : Array Value, rs.size = 4 ∧ wr.heap[w.heap.size + 1]? = some (.cells rs 134 (0, 0))) ∧ Below w.heap.size w wr) (fun i _ => 64 - (intOf i).toNat)
  case atStart =>
    refine ⟨0, by omega, rfl, ?_, heapR3_0 _ _ _ _, ⟨_, rfl, heapR3_1 _ _ _ _⟩, (((Below.refl _ w).alloc (Nat.le_refl _) _).alloc (by simp) _).alloc (by simp; omega) _⟩
    rw [zero_row]
    have hb := heapR3_2 w (.cells #[.int .i64 (a : Int), .int .i64 (b : Int), .int .i64 (c : Int), .int .i64 (d : Int)] 134) (.cells #[.int .i64 0, .int .i64 0, .int .i64 0, .int .i64 0] 134) (.cells (((((List.replicate 68 (Value.int .i64 0)).toArray.setIfInBounds 0 (.int .i64 (a : Int))).setIfInBounds 1 (.int .i64 (d : Int))).setIfInBounds 2 (.int .i64 (c : Int))).setIfInBounds 3 (.int .i64 (b : Int))) 177)
    refine ⟨⟨_, by simp, hb⟩, ?_, ?_, ?_, ?_⟩
    · rw [cell_of_row _ _ 0 _ _ _ hb]; simp; rfl
    · rw [cell_of_row _ _ (0 + 1) _ _ _ hb]; simp; rfl
    · rw [cell_of_row _ _ (0 + 2) _ _ _ hb]; simp; rfl
    · rw [cell_of_row _ _ (0 + 3) _ _ _ hb]; simp; rfl
  case round =>
    obtain ⟨k, hk, rfl, hrow, hfour, ⟨rs, hrs, hres⟩, hnx⟩ := hrel
    by_cases hlt : k < 64
    · have hQk := rounds_lt M (a, b, c, d) HQ.out k
      have HNX : Hid (rounds M (a, b, c, d) (k + 1) = rnd M k (rounds M (a, b, c, d) k)) := rfl
      have HROW := hide hrow
      clear hrow
      generalize rounds M (a, b, c, d) k = qk at *
      obtain ⟨A, B, C, D⟩ := qk
      obtain ⟨lA, lB, lC, lD⟩ := hQk
      dsimp only at lA lB lC lD
      have lF := fN_lt32 k B C D lB lC lD
      have CM := hide (fun w' => rmixed_any k B C D hlt lB lC lD ((k : Int) / 16) rfl w')
      have CW := hide (which_any k hlt)
      obtain ⟨gg, hgg⟩ : ∃ gg, gg = gN k % 16 := ⟨_, rfl⟩
      have hg16 : gg < 16 := by rw [hgg]; exact Nat.mod_lt _ (by omega)
      obtain ⟨mv, hmv⟩ : ∃ mv, mv = M gg := ⟨_, rfl⟩
      have lM : mv < 4294967296 := by rw [hmv, HMV.out gg hg16]; exact le4_lt _ _
      have CF : Hid (∀ w' : World, Calls Tryd.prog 111 #[.string s, .int .i64 ((at' : Int) + 4 * (gg : Int))] w' fun e w'' => e = .returned (.int .i64 (mv : Int)) ∧ Below w'.heap.size w' w'') := fun w' => by
        have := rfour_any s (at' + 4 * gg) w' (by omega) hs
        rw [← HMV.out gg hg16, ← hmv, Int.natCast_add, Int.natCast_mul] at this
        exact this
      have lS := sin_lt k hlt
      obtain ⟨tt, htt⟩ : ∃ tt, tt = 4 * (k / 16) + k % 4 := ⟨_, rfl⟩
      have ht16 : tt < 16 := by omega
      have lT := trn_lt tt ht16
      have HB' : Hid (rnd M k (A, B, C, D) = (D, (B + rotN ((A + fN k B C D + sin k + mv) % 4294967296) (trn tt)) % 4294967296, B, C)) := by
        show rnd M k (A, B, C, D) = _
        rw [hmv, hgg, htt]; rfl
      rw [← hgg] at CW
      have HTT : Hid ((tt : Int) = 4 * ((k : Int) / 16) + (k : Int) % 4) := by show _ = _; omega
      clear hgg hmv htt
      generalize fN k B C D = F at *
      obtain ⟨X, hX⟩ : ∃ X, X = (A + F + sin k + mv) % 4294967296 := ⟨_, rfl⟩
      have lX : X < 4294967296 := by rw [hX]; exact Nat.mod_lt _ (by omega)
      rw [← hX] at HB'
      have HX : Hid ((X : Int) = ((A : Int) + (F : Int) + (sin k : Int) + (mv : Int)) % 4294967296) := by show _ = _; omega
      clear hX
      have CT : Hid (∀ w' : World, RTabs w' → Calls Tryd.prog 112 #[.int .i64 (X : Int), .int .i64 (trn tt : Int)] w' fun e w'' => e = .returned (.int .i64 (rotN X (trn tt) : Int)) ∧ Below w'.heap.size w' w'') := fun w' h => turn_any X (trn tt) lX lT.1 lT.2 w' h.powers
      have lR := rot_lt X (trn tt) lX
      generalize rotN X (trn tt) = RT at *
      obtain ⟨B', hB'⟩ : ∃ B', B' = (B + RT) % 4294967296 := ⟨_, rfl⟩
      rw [← hB'] at HB'
      have HBB : Hid ((B' : Int) = ((B : Int) + (RT : Int)) % 4294967296) := by show _ = _; omega
      clear hB'
      have hcs := fun w' (hb : Below wr.heap.size wr w') => (HROW.out.below hb)
      have hts := fun w' (hb : Below wr.heap.size wr w') => HT.out.below (hnx.trans (hb.mono hnx.size)) rfl
      have HCS := hide hcs
      have HTS := hide hts
      clear hcs hts
      obtain ⟨k1, hk1⟩ : ∃ k1, k1 = k + 1 := ⟨_, rfl⟩
      obtain ⟨k2, hk2⟩ : ∃ k2, k2 = k + 2 := ⟨_, rfl⟩
      obtain ⟨k3, hk3⟩ : ∃ k3, k3 = k + 3 := ⟨_, rfl⟩
      have HK1 : Hid ((k1 : Int) = (k : Int) + 1 ∧ k1 = k + 1) := ⟨by omega, hk1⟩
      have HK2 : Hid ((k2 : Int) = (k : Int) + 2 ∧ k2 = k + 2) := ⟨by omega, hk2⟩
      have HK3 : Hid ((k3 : Int) = (k : Int) + 3 ∧ k3 = k + 3) := ⟨by omega, hk3⟩
      have j0 : (0 : Int) ≤ (k : Int) := by omega
      have j1 : (0 : Int) ≤ (k1 : Int) := by omega
      have j2 : (0 : Int) ≤ (k2 : Int) := by omega
      have j3 : (0 : Int) ≤ (k3 : Int) := by omega
      have m0 : (k : Int) < 68 := by omega
      have m1 : (k1 : Int) < 68 := by omega
      have m2 : (k2 : Int) < 68 := by omega
      have m3 : (k3 : Int) < 68 := by omega
      clear hk1 hk2 hk3
      have hS0 : ∀ w', Below wr.heap.size wr w' → (w'.cell? ⟨w.heap.size + 1 + 1, k1, none⟩ = some (.int .i64 (D : Int)) ∧ w'.cell? ⟨w.heap.size + 1 + 1, k2, none⟩ = some (.int .i64 (C : Int)) ∧ w'.cell? ⟨w.heap.size + 1 + 1, k3, none⟩ = some (.int .i64 (B : Int))) := fun w' hb => by
        have h := HCS.out w' hb
        rw [HK1.out.2, HK2.out.2, HK3.out.2]
        exact ⟨h.d, h.c, h.b⟩
      have HS0 := hide hS0
      clear hS0
      go_wp2_with fail
      refine wp_region_held_drew (S := fun w' => w'.cell? ⟨w.heap.size + 1 + 1, k1, none⟩ = some (.int .i64 (D : Int)) ∧ w'.cell? ⟨w.heap.size + 1 + 1, k2, none⟩ = some (.int .i64 (C : Int)) ∧ w'.cell? ⟨w.heap.size + 1 + 1, k3, none⟩ = some (.int .i64 (B : Int))) (by kernel_rfl) (HS0.out _ (Below.refl _ _).drew) (fun hHeld => ?_)
      refine wpAnyH_take (i := 0) (v := (.int .i64 (k : Int))) rfl (by kernel_rfl) (by kernel_rfl) (by kernel_rfl) (fun _ _ _ h => h) (Or.inl ⟨by rfl, ?_⟩) (by assumption) ?_
      · intro w' hSw
        (try dsimp only at hSw)
        go_simp <;> first | exact i64_in (by omega) (by omega) | exact u32_in (by omega) (by omega) | exact u32_add _ _ | (rw [Int.tmod_eq_emod_of_nonneg (by omega)]; omega) | (rw [Int.tdiv_eq_ediv_of_nonneg (by omega)]; omega) | omega
      (try simp only [Act.put, List.setIfInBounds_toArray, List.set_cons_zero, List.set_cons_succ])
      refine wpAnyH_take (i := 1) (v := (.int .i64 ((k : Int) / 16))) rfl (by kernel_rfl) (by kernel_rfl) (by kernel_rfl) (fun _ _ _ h => h) (Or.inl ⟨by rfl, ?_⟩) (by assumption) ?_
      · intro w' hSw
        (try dsimp only at hSw)
        (go_simp; rw [i64_inI (by omega) (by omega)])
      (try simp only [Act.put, List.setIfInBounds_toArray, List.set_cons_zero, List.set_cons_succ])
      refine wpAnyH_take (i := 2) (v := (.int .i64 (k : Int))) rfl (by kernel_rfl) (by kernel_rfl) (by kernel_rfl) (fun _ _ _ h => h) (Or.inl ⟨by rfl, ?_⟩) (by assumption) ?_
      · intro w' hSw
        (try dsimp only at hSw)
        go_simp <;> first | exact i64_in (by omega) (by omega) | exact u32_in (by omega) (by omega) | exact u32_add _ _ | (rw [Int.tmod_eq_emod_of_nonneg (by omega)]; omega) | (rw [Int.tdiv_eq_ediv_of_nonneg (by omega)]; omega) | omega
      (try simp only [Act.put, List.setIfInBounds_toArray, List.set_cons_zero, List.set_cons_succ])
      refine wpAnyH_take (i := 3) (v := (.int .i64 (k3 : Int))) rfl (by kernel_rfl) (by kernel_rfl) (by kernel_rfl) (fun _ _ _ h => h) (Or.inl ⟨by rfl, ?_⟩) (by assumption) ?_
      · intro w' hSw
        (try dsimp only at hSw)
        (go_simp; rw [i64_inI (by omega) (by omega)]; have := HK3.out.1; omega)
      (try simp only [Act.put, List.setIfInBounds_toArray, List.set_cons_zero, List.set_cons_succ])
      refine wpAnyH_take (i := 4) (v := (.pointer (some ⟨w.heap.size + 1 + 1, k3, none⟩))) rfl (by kernel_rfl) (by kernel_rfl) (by kernel_rfl) (fun _ _ _ h => h) (Or.inl ⟨by rfl, ?_⟩) (by assumption) ?_
      · intro w' hSw
        (try dsimp only at hSw)
        go_simp <;> first | exact i64_in (by omega) (by omega) | exact u32_in (by omega) (by omega) | exact u32_add _ _ | (rw [Int.tmod_eq_emod_of_nonneg (by omega)]; omega) | (rw [Int.tdiv_eq_ediv_of_nonneg (by omega)]; omega) | omega
      (try simp only [Act.put, List.setIfInBounds_toArray, List.set_cons_zero, List.set_cons_succ])
      refine wpAnyH_take (i := 5) (v := (.int .i64 (B : Int))) rfl (by kernel_rfl) (by kernel_rfl) (by kernel_rfl) (fun _ _ _ h => h) (Or.inl ⟨by rfl, ?_⟩) (by assumption) ?_
      · intro w' hSw
        (try dsimp only at hSw)
        (obtain ⟨hS1, hS2, hS3⟩ := hSw; go_simp)
      (try simp only [Act.put, List.setIfInBounds_toArray, List.set_cons_zero, List.set_cons_succ])
      refine wpAnyH_take (i := 6) (v := (.int .i64 (k : Int))) rfl (by kernel_rfl) (by kernel_rfl) (by kernel_rfl) (fun _ _ _ h => h) (Or.inl ⟨by rfl, ?_⟩) (by assumption) ?_
      · intro w' hSw
        (try dsimp only at hSw)
        go_simp <;> first | exact i64_in (by omega) (by omega) | exact u32_in (by omega) (by omega) | exact u32_add _ _ | (rw [Int.tmod_eq_emod_of_nonneg (by omega)]; omega) | (rw [Int.tdiv_eq_ediv_of_nonneg (by omega)]; omega) | omega
      (try simp only [Act.put, List.setIfInBounds_toArray, List.set_cons_zero, List.set_cons_succ])
      refine wpAnyH_take (i := 7) (v := (.int .i64 (k2 : Int))) rfl (by kernel_rfl) (by kernel_rfl) (by kernel_rfl) (fun _ _ _ h => h) (Or.inl ⟨by rfl, ?_⟩) (by assumption) ?_
      · intro w' hSw
        (try dsimp only at hSw)
        (go_simp; rw [i64_inI (by omega) (by omega)]; have := HK2.out.1; omega)
      (try simp only [Act.put, List.setIfInBounds_toArray, List.set_cons_zero, List.set_cons_succ])
      refine wpAnyH_take (i := 8) (v := (.pointer (some ⟨w.heap.size + 1 + 1, k2, none⟩))) rfl (by kernel_rfl) (by kernel_rfl) (by kernel_rfl) (fun _ _ _ h => h) (Or.inl ⟨by rfl, ?_⟩) (by assumption) ?_
      · intro w' hSw
        (try dsimp only at hSw)
        go_simp <;> first | exact i64_in (by omega) (by omega) | exact u32_in (by omega) (by omega) | exact u32_add _ _ | (rw [Int.tmod_eq_emod_of_nonneg (by omega)]; omega) | (rw [Int.tdiv_eq_ediv_of_nonneg (by omega)]; omega) | omega
      (try simp only [Act.put, List.setIfInBounds_toArray, List.set_cons_zero, List.set_cons_succ])
      refine wpAnyH_take (i := 9) (v := (.int .i64 (C : Int))) rfl (by kernel_rfl) (by kernel_rfl) (by kernel_rfl) (fun _ _ _ h => h) (Or.inl ⟨by rfl, ?_⟩) (by assumption) ?_
      · intro w' hSw
        (try dsimp only at hSw)
        (obtain ⟨hS1, hS2, hS3⟩ := hSw; go_simp)
      (try simp only [Act.put, List.setIfInBounds_toArray, List.set_cons_zero, List.set_cons_succ])
      refine wpAnyH_take (i := 10) (v := (.int .i64 (k : Int))) rfl (by kernel_rfl) (by kernel_rfl) (by kernel_rfl) (fun _ _ _ h => h) (Or.inl ⟨by rfl, ?_⟩) (by assumption) ?_
      · intro w' hSw
        (try dsimp only at hSw)
        go_simp <;> first | exact i64_in (by omega) (by omega) | exact u32_in (by omega) (by omega) | exact u32_add _ _ | (rw [Int.tmod_eq_emod_of_nonneg (by omega)]; omega) | (rw [Int.tdiv_eq_ediv_of_nonneg (by omega)]; omega) | omega
      (try simp only [Act.put, List.setIfInBounds_toArray, List.set_cons_zero, List.set_cons_succ])
      refine wpAnyH_take (i := 11) (v := (.int .i64 (k1 : Int))) rfl (by kernel_rfl) (by kernel_rfl) (by kernel_rfl) (fun _ _ _ h => h) (Or.inl ⟨by rfl, ?_⟩) (by assumption) ?_
      · intro w' hSw
        (try dsimp only at hSw)
        (go_simp; rw [i64_inI (by omega) (by omega)]; have := HK1.out.1; omega)
      (try simp only [Act.put, List.setIfInBounds_toArray, List.set_cons_zero, List.set_cons_succ])
      refine wpAnyH_take (i := 12) (v := (.pointer (some ⟨w.heap.size + 1 + 1, k1, none⟩))) rfl (by kernel_rfl) (by kernel_rfl) (by kernel_rfl) (fun _ _ _ h => h) (Or.inl ⟨by rfl, ?_⟩) (by assumption) ?_
      · intro w' hSw
        (try dsimp only at hSw)
        go_simp <;> first | exact i64_in (by omega) (by omega) | exact u32_in (by omega) (by omega) | exact u32_add _ _ | (rw [Int.tmod_eq_emod_of_nonneg (by omega)]; omega) | (rw [Int.tdiv_eq_ediv_of_nonneg (by omega)]; omega) | omega
      (try simp only [Act.put, List.setIfInBounds_toArray, List.set_cons_zero, List.set_cons_succ])
      refine wpAnyH_take (i := 13) (v := (.int .i64 (D : Int))) rfl (by kernel_rfl) (by kernel_rfl) (by kernel_rfl) (fun _ _ _ h => h) (Or.inl ⟨by rfl, ?_⟩) (by assumption) ?_
      · intro w' hSw
        (try dsimp only at hSw)
        (obtain ⟨hS1, hS2, hS3⟩ := hSw; go_simp)
      (try simp only [Act.put, List.setIfInBounds_toArray, List.set_cons_zero, List.set_cons_succ])
      refine wpAnyH_ready (rs := [14]) (by kernel_rfl) (by simp) ?_
      refine AllReadyH.cons rfl (fun K hK => ?_) AllReadyH.nil
      go_simp
      refine Calls.mono (CM.out _) ?_
      rintro e w1 ⟨rfl, rfl⟩
      refine hK.out _ _ hHeld (fun hHeld => ?_)
      clear hK K
      (try simp only [Act.put, List.setIfInBounds_toArray, List.set_cons_zero, List.set_cons_succ])
      refine wpAnyH_ready (rs := [15]) (by kernel_rfl) (by simp) ?_
      refine AllReadyH.cons rfl (fun K hK => ?_) AllReadyH.nil
      go_simp
      refine hK.out _ _ hHeld (fun hHeld => ?_)
      clear hK K
      (try simp only [Act.put, List.setIfInBounds_toArray, List.set_cons_zero, List.set_cons_succ])
      refine wpAnyH_done (by kernel_rfl) ?_ _
      clear hHeld
      go_wp2_with fail
      refine Calls.mono (CW.out _) ?_
      rintro e w1 ⟨rfl, rfl⟩
      go_wp2_with fail
      refine Calls.mono (CF.out _) ?_
      rintro e w2 ⟨rfl, hb2⟩
      have B2 := (Below.refl wr.heap.size wr).drew.trans hb2
      have S1 := HCS.out w2 B2
      have S2 := HTS.out w2 B2
      have hS12 : ∀ w', Below w2.heap.size w2 w' → (w'.cell? ⟨w.heap.size + 1 + 1, k, none⟩ = some (.int .i64 (A : Int)) ∧ w'.cell? ⟨4, k, none⟩ = some (.int .i64 (sin k : Int)) ∧ w'.cell? ⟨5, tt, none⟩ = some (.int .i64 (trn tt : Int))) := fun w' hb =>
        ⟨(S1.below hb).a, (S2.below hb rfl).sines k hlt, (S2.below hb rfl).turns tt ht16⟩
      have HS12 := hide hS12
      have HS1 := hide S1
      have HS2 := hide S2
      have HB2 := hide B2
      clear hS12 S1 S2 B2 hb2
      have g0 : (0 : Int) ≤ (tt : Int) := by omega
      have g1 : (tt : Int) < 16 := by omega
      have n0 : (k : Int) < 64 := by omega
      generalize sin k = SK at *
      generalize trn tt = TT at *
      go_wp2_with fail
      refine wp_region_held_drew (S := fun w' => w'.cell? ⟨w.heap.size + 1 + 1, k, none⟩ = some (.int .i64 (A : Int)) ∧ w'.cell? ⟨4, k, none⟩ = some (.int .i64 (SK : Int)) ∧ w'.cell? ⟨5, tt, none⟩ = some (.int .i64 (TT : Int))) (by kernel_rfl) (HS12.out _ (Below.refl _ _).drew) (fun hHeld => ?_)
      refine wpAnyH_take (i := 0) (v := (.int .i64 (k : Int))) rfl (by kernel_rfl) (by kernel_rfl) (by kernel_rfl) (fun _ _ _ h => h) (Or.inl ⟨by rfl, ?_⟩) (by assumption) ?_
      · intro w' hSw
        (try dsimp only at hSw)
        go_simp <;> first | exact i64_in (by omega) (by omega) | exact u32_in (by omega) (by omega) | exact u32_add _ _ | (rw [Int.tmod_eq_emod_of_nonneg (by omega)]; omega) | (rw [Int.tdiv_eq_ediv_of_nonneg (by omega)]; omega) | omega
      (try simp only [Act.put, List.setIfInBounds_toArray, List.set_cons_zero, List.set_cons_succ])
      refine wpAnyH_take (i := 1) (v := (.pointer (some ⟨w.heap.size + 1 + 1, k, none⟩))) rfl (by kernel_rfl) (by kernel_rfl) (by kernel_rfl) (fun _ _ _ h => h) (Or.inl ⟨by rfl, ?_⟩) (by assumption) ?_
      · intro w' hSw
        (try dsimp only at hSw)
        go_simp <;> first | exact i64_in (by omega) (by omega) | exact u32_in (by omega) (by omega) | exact u32_add _ _ | (rw [Int.tmod_eq_emod_of_nonneg (by omega)]; omega) | (rw [Int.tdiv_eq_ediv_of_nonneg (by omega)]; omega) | omega
      (try simp only [Act.put, List.setIfInBounds_toArray, List.set_cons_zero, List.set_cons_succ])
      refine wpAnyH_take (i := 2) (v := (.int .i64 (A : Int))) rfl (by kernel_rfl) (by kernel_rfl) (by kernel_rfl) (fun _ _ _ h => h) (Or.inl ⟨by rfl, ?_⟩) (by assumption) ?_
      · intro w' hSw
        (try dsimp only at hSw)
        (obtain ⟨hS1, hS2, hS3⟩ := hSw; go_simp)
      (try simp only [Act.put, List.setIfInBounds_toArray, List.set_cons_zero, List.set_cons_succ])
      refine wpAnyH_take (i := 3) (v := (.int .i64 (F : Int))) rfl (by kernel_rfl) (by kernel_rfl) (by kernel_rfl) (fun _ _ _ h => h) (Or.inl ⟨by rfl, ?_⟩) (by assumption) ?_
      · intro w' hSw
        (try dsimp only at hSw)
        go_simp <;> first | exact i64_in (by omega) (by omega) | exact u32_in (by omega) (by omega) | exact u32_add _ _ | (rw [Int.tmod_eq_emod_of_nonneg (by omega)]; omega) | (rw [Int.tdiv_eq_ediv_of_nonneg (by omega)]; omega) | omega
      (try simp only [Act.put, List.setIfInBounds_toArray, List.set_cons_zero, List.set_cons_succ])
      refine wpAnyH_take (i := 4) (v := (.int .i64 ((A : Int) + (F : Int)))) rfl (by kernel_rfl) (by kernel_rfl) (by kernel_rfl) (fun _ _ _ h => h) (Or.inl ⟨by rfl, ?_⟩) (by assumption) ?_
      · intro w' hSw
        (try dsimp only at hSw)
        (go_simp; rw [i64_inI (by omega) (by omega)])
      (try simp only [Act.put, List.setIfInBounds_toArray, List.set_cons_zero, List.set_cons_succ])
      refine wpAnyH_take (i := 5) (v := (.int .i64 (k : Int))) rfl (by kernel_rfl) (by kernel_rfl) (by kernel_rfl) (fun _ _ _ h => h) (Or.inl ⟨by rfl, ?_⟩) (by assumption) ?_
      · intro w' hSw
        (try dsimp only at hSw)
        go_simp <;> first | exact i64_in (by omega) (by omega) | exact u32_in (by omega) (by omega) | exact u32_add _ _ | (rw [Int.tmod_eq_emod_of_nonneg (by omega)]; omega) | (rw [Int.tdiv_eq_ediv_of_nonneg (by omega)]; omega) | omega
      (try simp only [Act.put, List.setIfInBounds_toArray, List.set_cons_zero, List.set_cons_succ])
      refine wpAnyH_take (i := 6) (v := (.pointer (some ⟨4, k, none⟩))) rfl (by kernel_rfl) (by kernel_rfl) (by kernel_rfl) (fun _ _ _ h => h) (Or.inl ⟨by rfl, ?_⟩) (by assumption) ?_
      · intro w' hSw
        (try dsimp only at hSw)
        go_simp <;> first | exact i64_in (by omega) (by omega) | exact u32_in (by omega) (by omega) | exact u32_add _ _ | (rw [Int.tmod_eq_emod_of_nonneg (by omega)]; omega) | (rw [Int.tdiv_eq_ediv_of_nonneg (by omega)]; omega) | omega
      (try simp only [Act.put, List.setIfInBounds_toArray, List.set_cons_zero, List.set_cons_succ])
      refine wpAnyH_take (i := 7) (v := (.int .i64 (SK : Int))) rfl (by kernel_rfl) (by kernel_rfl) (by kernel_rfl) (fun _ _ _ h => h) (Or.inl ⟨by rfl, ?_⟩) (by assumption) ?_
      · intro w' hSw
        (try dsimp only at hSw)
        (obtain ⟨hS1, hS2, hS3⟩ := hSw; go_simp)
      (try simp only [Act.put, List.setIfInBounds_toArray, List.set_cons_zero, List.set_cons_succ])
      refine wpAnyH_take (i := 8) (v := (.int .i64 ((A : Int) + (F : Int) + (SK : Int)))) rfl (by kernel_rfl) (by kernel_rfl) (by kernel_rfl) (fun _ _ _ h => h) (Or.inl ⟨by rfl, ?_⟩) (by assumption) ?_
      · intro w' hSw
        (try dsimp only at hSw)
        (go_simp; rw [i64_inI (by omega) (by omega)])
      (try simp only [Act.put, List.setIfInBounds_toArray, List.set_cons_zero, List.set_cons_succ])
      refine wpAnyH_take (i := 9) (v := (.int .i64 (mv : Int))) rfl (by kernel_rfl) (by kernel_rfl) (by kernel_rfl) (fun _ _ _ h => h) (Or.inl ⟨by rfl, ?_⟩) (by assumption) ?_
      · intro w' hSw
        (try dsimp only at hSw)
        go_simp <;> first | exact i64_in (by omega) (by omega) | exact u32_in (by omega) (by omega) | exact u32_add _ _ | (rw [Int.tmod_eq_emod_of_nonneg (by omega)]; omega) | (rw [Int.tdiv_eq_ediv_of_nonneg (by omega)]; omega) | omega
      (try simp only [Act.put, List.setIfInBounds_toArray, List.set_cons_zero, List.set_cons_succ])
      refine wpAnyH_take (i := 10) (v := (.int .i64 ((A : Int) + (F : Int) + (SK : Int) + (mv : Int)))) rfl (by kernel_rfl) (by kernel_rfl) (by kernel_rfl) (fun _ _ _ h => h) (Or.inl ⟨by rfl, ?_⟩) (by assumption) ?_
      · intro w' hSw
        (try dsimp only at hSw)
        (go_simp; rw [i64_inI (by omega) (by omega)])
      (try simp only [Act.put, List.setIfInBounds_toArray, List.set_cons_zero, List.set_cons_succ])
      refine wpAnyH_take (i := 11) (v := (.int .i64 (X : Int))) rfl (by kernel_rfl) (by kernel_rfl) (by kernel_rfl) (fun _ _ _ h => h) (Or.inl ⟨by rfl, ?_⟩) (by assumption) ?_
      · intro w' hSw
        (try dsimp only at hSw)
        (go_simp; first | (rw [Int.tmod_eq_emod_of_nonneg (by omega), HX.out]) | (rw [HX.out]))
      (try simp only [Act.put, List.setIfInBounds_toArray, List.set_cons_zero, List.set_cons_succ])
      refine wpAnyH_take (i := 12) (v := (.int .i64 (k : Int))) rfl (by kernel_rfl) (by kernel_rfl) (by kernel_rfl) (fun _ _ _ h => h) (Or.inl ⟨by rfl, ?_⟩) (by assumption) ?_
      · intro w' hSw
        (try dsimp only at hSw)
        go_simp <;> first | exact i64_in (by omega) (by omega) | exact u32_in (by omega) (by omega) | exact u32_add _ _ | (rw [Int.tmod_eq_emod_of_nonneg (by omega)]; omega) | (rw [Int.tdiv_eq_ediv_of_nonneg (by omega)]; omega) | omega
      (try simp only [Act.put, List.setIfInBounds_toArray, List.set_cons_zero, List.set_cons_succ])
      refine wpAnyH_take (i := 13) (v := (.int .i64 ((k : Int) / 16))) rfl (by kernel_rfl) (by kernel_rfl) (by kernel_rfl) (fun _ _ _ h => h) (Or.inl ⟨by rfl, ?_⟩) (by assumption) ?_
      · intro w' hSw
        (try dsimp only at hSw)
        (go_simp; rw [i64_inI (by omega) (by omega)])
      (try simp only [Act.put, List.setIfInBounds_toArray, List.set_cons_zero, List.set_cons_succ])
      refine wpAnyH_take (i := 14) (v := (.int .i64 (4 * ((k : Int) / 16)))) rfl (by kernel_rfl) (by kernel_rfl) (by kernel_rfl) (fun _ _ _ h => h) (Or.inl ⟨by rfl, ?_⟩) (by assumption) ?_
      · intro w' hSw
        (try dsimp only at hSw)
        (go_simp; rw [i64_inI (by omega) (by omega)])
      (try simp only [Act.put, List.setIfInBounds_toArray, List.set_cons_zero, List.set_cons_succ])
      refine wpAnyH_take (i := 15) (v := (.int .i64 (k : Int))) rfl (by kernel_rfl) (by kernel_rfl) (by kernel_rfl) (fun _ _ _ h => h) (Or.inl ⟨by rfl, ?_⟩) (by assumption) ?_
      · intro w' hSw
        (try dsimp only at hSw)
        go_simp <;> first | exact i64_in (by omega) (by omega) | exact u32_in (by omega) (by omega) | exact u32_add _ _ | (rw [Int.tmod_eq_emod_of_nonneg (by omega)]; omega) | (rw [Int.tdiv_eq_ediv_of_nonneg (by omega)]; omega) | omega
      (try simp only [Act.put, List.setIfInBounds_toArray, List.set_cons_zero, List.set_cons_succ])
      refine wpAnyH_take (i := 16) (v := (.int .i64 ((k : Int) % 4))) rfl (by kernel_rfl) (by kernel_rfl) (by kernel_rfl) (fun _ _ _ h => h) (Or.inl ⟨by rfl, ?_⟩) (by assumption) ?_
      · intro w' hSw
        (try dsimp only at hSw)
        (go_simp; first | done | (rw [Int.tmod_eq_emod_of_nonneg (by omega)]))
      (try simp only [Act.put, List.setIfInBounds_toArray, List.set_cons_zero, List.set_cons_succ])
      refine wpAnyH_take (i := 17) (v := (.int .i64 (tt : Int))) rfl (by kernel_rfl) (by kernel_rfl) (by kernel_rfl) (fun _ _ _ h => h) (Or.inl ⟨by rfl, ?_⟩) (by assumption) ?_
      · intro w' hSw
        (try dsimp only at hSw)
        (go_simp; rw [i64_inI (by omega) (by omega), HTT.out])
      (try simp only [Act.put, List.setIfInBounds_toArray, List.set_cons_zero, List.set_cons_succ])
      refine wpAnyH_take (i := 18) (v := (.pointer (some ⟨5, tt, none⟩))) rfl (by kernel_rfl) (by kernel_rfl) (by kernel_rfl) (fun _ _ _ h => h) (Or.inl ⟨by rfl, ?_⟩) (by assumption) ?_
      · intro w' hSw
        (try dsimp only at hSw)
        go_simp <;> first | exact i64_in (by omega) (by omega) | exact u32_in (by omega) (by omega) | exact u32_add _ _ | (rw [Int.tmod_eq_emod_of_nonneg (by omega)]; omega) | (rw [Int.tdiv_eq_ediv_of_nonneg (by omega)]; omega) | omega
      (try simp only [Act.put, List.setIfInBounds_toArray, List.set_cons_zero, List.set_cons_succ])
      refine wpAnyH_take (i := 19) (v := (.int .i64 (TT : Int))) rfl (by kernel_rfl) (by kernel_rfl) (by kernel_rfl) (fun _ _ _ h => h) (Or.inl ⟨by rfl, ?_⟩) (by assumption) ?_
      · intro w' hSw
        (try dsimp only at hSw)
        (obtain ⟨hS1, hS2, hS3⟩ := hSw; go_simp)
      (try simp only [Act.put, List.setIfInBounds_toArray, List.set_cons_zero, List.set_cons_succ])
      refine wpAnyH_ready (rs := [20]) (by kernel_rfl) (by simp) ?_
      refine AllReadyH.cons rfl (fun K hK => ?_) AllReadyH.nil
      go_simp
      refine Calls.mono (CT.out _ (HS2.out.below (Below.refl _ w2).drew rfl)) ?_
      rintro e w3 ⟨rfl, hb3⟩
      have B3 := (Below.refl w2.heap.size w2).drew.trans hb3
      refine hK.out _ _ (HS12.out _ B3) (fun hHeld => ?_)
      clear hK K
      (try simp only [Act.put, List.setIfInBounds_toArray, List.set_cons_zero, List.set_cons_succ])
      refine wpAnyH_ready (rs := [21]) (by kernel_rfl) (by simp) ?_
      refine AllReadyH.cons rfl (fun K hK => ?_) AllReadyH.nil
      go_simp
      refine hK.out _ _ hHeld (fun hHeld => ?_)
      clear hK K
      (try simp only [Act.put, List.setIfInBounds_toArray, List.set_cons_zero, List.set_cons_succ])
      refine wpAnyH_done (by kernel_rfl) ?_ _
      clear hHeld
      have R3 := HS1.out.below B3
      have B4 : Below wr.heap.size wr w3 := HB2.out.trans (B3.mono HB2.out.size)
      have RN := R3.next (b' := B') hlt
      obtain ⟨⟨x4, c4⟩, f4⟩ := R3.free hlt
      have c3 := R3.b
      dsimp only at c3
      have hl : ∀ j, wr.heap[j]? ≠ none → j < wr.heap.size := fun j hj => by
        rcases Nat.lt_or_ge j wr.heap.size with h | h
        · exact h
        · exact absurd (Array.getElem?_eq_none h) hj
      have F4 := (B4.block w.heap.size (hl _ (by rw [hfour]; simp))).trans hfour
      have R4 := (B4.block (w.heap.size + 1) (hl _ (by rw [hres]; simp))).trans hres
      have N4 := hnx.trans (B4.mono hnx.size)
      have F5 := (Below.heap_setCell w3 ⟨w.heap.size + 1 + 1, k + 4, none⟩ (.int .i64 (B' : Int)) w.heap.size (by show w.heap.size ≠ w.heap.size + 1 + 1; omega)).trans F4
      have R5 := (Below.heap_setCell w3 ⟨w.heap.size + 1 + 1, k + 4, none⟩ (.int .i64 (B' : Int)) (w.heap.size + 1) (by show w.heap.size + 1 ≠ w.heap.size + 1 + 1; omega)).trans R4
      have N5 := N4.setCell (p := ⟨w.heap.size + 1 + 1, k + 4, none⟩) (by show w.heap.size ≤ w.heap.size + 1 + 1; omega) (.int .i64 (B' : Int))
      have HRN := hide RN
      have HF5 := hide F5
      have HR5 := hide R5
      have HN5 := hide N5
      clear RN F5 R5 N5 F4 R4 N4 R3 hl hfour hres
      have hbb : ((B : Int) + (RT : Int)) % 4294967296 = (B' : Int) := HBB.out.symm
      go_wp2
      go_roundw
      case rel =>
        refine ⟨k + 1, by omega, by go_num, ?_, HF5.out, ⟨rs, hrs, HR5.out⟩, HN5.out⟩
        rw [HNX.out, HB'.out]
        exact HRN.out
      case measure => simp [intOf]; omega
    · obtain rfl : k = 64 := by omega
      have hQk := rounds_lt M (a, b, c, d) HQ.out 64
      have hq0 := HQ.out
      obtain ⟨qk, hR⟩ : ∃ qk, qk = rounds M (a, b, c, d) 64 := ⟨_, rfl⟩
      rw [← hR] at hQk hrow
      have HR := hide hR
      clear hR
      obtain ⟨A, B, C, D⟩ := qk
      obtain ⟨lA, lB, lC, lD⟩ := hQk
      obtain ⟨la, lb, lc, ld⟩ := hq0
      dsimp only at lA lB lC lD la lb lc ld
      have c64 : wr.cell? ⟨w.heap.size + 1 + 1, 64, none⟩ = some (.int .i64 (A : Int)) := hrow.a
      have c65 : wr.cell? ⟨w.heap.size + 1 + 1, 65, none⟩ = some (.int .i64 (D : Int)) := hrow.d
      have c66 : wr.cell? ⟨w.heap.size + 1 + 1, 66, none⟩ = some (.int .i64 (C : Int)) := hrow.c
      have c67 : wr.cell? ⟨w.heap.size + 1 + 1, 67, none⟩ = some (.int .i64 (B : Int)) := hrow.b
      have e0 : wr.cell? ⟨w.heap.size, 0, none⟩ = some (.int .i64 (a : Int)) := cell_of_row _ _ 0 _ _ _ hfour
      have e1 : wr.cell? ⟨w.heap.size, 1, none⟩ = some (.int .i64 (b : Int)) := cell_of_row _ _ 1 _ _ _ hfour
      have e2 : wr.cell? ⟨w.heap.size, 2, none⟩ = some (.int .i64 (c : Int)) := cell_of_row _ _ 2 _ _ _ hfour
      have e3 : wr.cell? ⟨w.heap.size, 3, none⟩ = some (.int .i64 (d : Int)) := cell_of_row _ _ 3 _ _ _ hfour
      obtain ⟨p, hp⟩ : ∃ p, p = addQ (a, b, c, d) (A, B, C, D) := ⟨_, rfl⟩
      have h1 : ((a : Int) + (A : Int)) % 4294967296 = (p.1 : Int) := by rw [hp]; show _ = (((a + A) % 4294967296 : Nat) : Int); omega
      have h2 : ((b : Int) + (B : Int)) % 4294967296 = (p.2.1 : Int) := by rw [hp]; show _ = (((b + B) % 4294967296 : Nat) : Int); omega
      have h3 : ((c : Int) + (C : Int)) % 4294967296 = (p.2.2.1 : Int) := by rw [hp]; show _ = (((c + C) % 4294967296 : Nat) : Int); omega
      have h4 : ((d : Int) + (D : Int)) % 4294967296 = (p.2.2.2 : Int) := by rw [hp]; show _ = (((d + D) % 4294967296 : Nat) : Int); omega
      have HP := hide hp
      clear hp
      obtain ⟨pa, pb, pc, pd⟩ := p
      dsimp only at h1 h2 h3 h4
      have hth : wr.there (w.heap.size + 1) 0 (rL (pa, pb, pc, pd)).toArray.size := fun j hj => by
        have hj4 : j < 4 := by simpa [rL] using hj
        refine ⟨?_, by simp [World.frozen?, hres]⟩
        rw [cell_of_row wr _ (0 + j) _ _ _ hres, Array.getElem?_eq_getElem (by omega)]
        rfl
      have hth' : (wr.setCells (w.heap.size + 1) 0 (rL (pa, pb, pc, pd))).rangeAt (w.heap.size + 1) 0 (rL (pa, pb, pc, pd)) := World.rangeAt_setCells_same _ _ _ _ (by simpa using hth)
      have hn' : Below w.heap.size w (wr.setCells (w.heap.size + 1) 0 (rL (pa, pb, pc, pd))) := below_setCells hnx (by omega) _
      have HTH := hide hth
      have HTH' := hide hth'
      have HNX := hide hn'
      have r : ∀ j, (hj : j < 4) → wr.cell? ⟨w.heap.size + 1, j, none⟩ = some (rs[j]'(by omega)) := fun j hj => by
        rw [cell_of_row wr _ j _ _ _ hres, Array.getElem?_eq_getElem (by omega)]
      have f : ∀ j, wr.frozen? ⟨w.heap.size + 1, j, none⟩ = false := fun j => by simp [World.frozen?, hres]
      have r0 := r 0 (by omega)
      have r1 := r 1 (by omega)
      have r2 := r 2 (by omega)
      have r3 := r 3 (by omega)
      have f0 := f 0
      have f1 := f 1
      have f2 := f 2
      have f3 := f 3
      generalize rs[0]'(by omega) = x0 at r0
      generalize rs[1]'(by omega) = x1 at r1
      generalize rs[2]'(by omega) = x2 at r2
      generalize rs[3]'(by omega) = x3 at r3
      clear hth hth' hn' hrow hfour r f hres
      go_wp2
      refine bodyPost_ret (v := .agg (rL (pa, pb, pc, pd)).toArray) ?_ rfl ⟨by rw [← HR.out, ← HP.out]; rfl, HNX.out⟩
      have hlv := run_loadVar_mid (P := Tryd.prog) _ (w.heap.size + 1) 0 134 (rL (pa, pb, pc, pd)) _ HTH'.out Tryd.underlying134 rfl (by kernel_rfl)
      simp [results, Tryd.results86, asAddr, Act.put]
      exact hlv
end Go.Proofs.YtioiphonajinmaaDoor
